/- The law FnTokens returns true at every argument and leaves it as it was. The listed package-level variables of the library (tables; strconv has two errors) begin as their text lays them: the card ties that. -/
import Derived.Test.YtnadephjbglcfaaGreatDoorTokDraw3
import Derived.Test.YtnadephjbglcfaaGreatDoorTokImpl
import Derived.WalkKit
import Derived.ProofKit
import Derived.OpenShut
import Derived.ShutString
import Derived.ChangeOld
import Derived.Below
import Derived.Lib.SmallJoins
import Derived.Test.YtnadephjbglcfaaGreatDoorTokLaid
import Derived.Test.YtnadephjbglcfaaGreatDoorTie
import Derived.Test.YtnadephjbglcfaaGreatDoorCards
import Derived.Deep.DeepHandedRow
import Derived.Deep.DeepWitnessRowRef
import Derived.JoinedCond
import Derived.SevenTiedAt


namespace Go.Proofs.YtnadephjbglcfaaGreatDoor
open Go.RowKit
set_option maxRecDepth 100000
set_option linter.unusedSimpArgs false
set_option linter.unusedVariables false
namespace lawTokens
set_option maxHeartbeats 4000000 in
set_option maxRecDepth 100000 in
theorem walk (a : Option Addr) (len cap : Nat) (w : World) (hl : len ≤ maxLen) (hcode : CodeAt w a len w.heap.size) (hlib : TabV w ∧ ErrV w) :
    Calls Tryz.prog 3 #[.slice a len cap] w fun x w' => x = .returned (.bool true) ∧ Below w.heap.size w w' := by
  unfold maxLen at hl
  by_cases hbig : (4096 : Int) < len
  · go_enter Tryz.func3, Tryz.ntmps3
    go_wp2_with fail
    refine (big1 a len cap _).mono ?_; rw [decide_eq_true hbig]; rintro x w1 ⟨rfl, rfl⟩
    go_wp2_with fail
    go_ret
    exact ⟨rfl, Below.refl _ _⟩
  have hl' : len ≤ 4096 := by omega
  have HCODE := hide hcode; have HL := hide hlib
  clear hcode hlib
  go_enter Tryz.func3, Tryz.ntmps3
  go_wp2_with fail
  refine (big1 a len cap _).mono ?_; rw [decide_eq_false (by omega)]; rintro x w0 ⟨rfl, rfl⟩
  have HBW := hide (Below.refl w0.heap.size w0)
  go_wp2_with fail
  refine (drawToken a len cap _ hl' HCODE.out).mono ?_; rintro e w1 ⟨nm, key, un, rfl, hnm, hkey, hu0, hu1, hb⟩
  replace HBW := hide (bchain HBW.out hb)
  clear hb
  have hts := tok_size nm un key
  have iT := fun w' (hb : Below w0.heap.size w0 w') => implToken nm un key w' (by unfold maxLen; omega) (by unfold maxLen; omega) (HL.out.1.new hb)
  have sT := fun w => specToken nm un key w (by unfold maxLen; omega) (by unfold maxLen; omega)
  obtain ⟨t, ht⟩ : ∃ t, tokV nm un key = t := ⟨_, rfl⟩
  rw [ht] at iT sT hts
  have HT := hide ht
  clear ht
  go_wp2_with fail
  refine (iT _ HBW.out).mono ?_; rintro e w2 ⟨rfl, hb⟩; replace HBW := hide (bchain HBW.out hb); clear hb
  go_wp2_with fail
  refine (drawReadToken a len cap _ hl' (HCODE.out.behind HBW.out)).mono ?_; rintro e w3 ⟨s, rfl, hs, hb⟩
  replace HBW := hide (bchain HBW.out hb)
  clear hb
  have iR := fun w' (hb : Below w0.heap.size w0 w') => implReadToken s w' (by omega) (HL.out.1.new hb) (HL.out.2.new hb)
  have sR := fun w => specReadToken s w (by omega)
  obtain ⟨⟨rn, ru, rb⟩, hr⟩ : ∃ x, readV s = x := ⟨_, rfl⟩
  rw [hr] at iR sR
  dsimp only at iR sR
  clear hr
  go_wp2_with fail
  refine (iR _ HBW.out).mono ?_; rintro e w4 ⟨rfl, hb⟩; replace HBW := hide (bchain HBW.out hb); clear hb
  go_wp2_with fail
  refine (drawSigned a len cap _ hl' (HCODE.out.behind HBW.out)).mono ?_; rintro e w5 ⟨sa, sk, sn, rfl, hsa, hsk, hn0, hn1, hb⟩
  replace HBW := hide (bchain HBW.out hb)
  clear hb
  have iS := fun w' (hb : Below w0.heap.size w0 w') => implSigned sa sk sn w' (by omega) (by unfold maxLen; omega) (HL.out.1.new hb) (HL.out.2.new hb)
  have sS := fun w => specSigned sa sk sn w (by omega) (by unfold maxLen; omega)
  obtain ⟨A, hA⟩ : ∃ x, signV sa sk sn = x := ⟨_, rfl⟩
  rw [hA] at iS sS
  have HA := hide hA
  clear hA
  go_wp2_with fail
  refine (drawMac a len cap _ hl' (HCODE.out.behind HBW.out)).mono ?_
  rintro e w6 ⟨mx, my, rfl, hmx, hmy, hb⟩
  replace HBW := hide (bchain HBW.out hb)
  clear hb HCODE
  have iM := fun w => implMac mx my w (by unfold maxLen; omega) (by unfold maxLen; omega)
  have sM := fun w => specMac mx my w (by unfold maxLen; omega) (by unfold maxLen; omega)
  obtain ⟨mm, hmm⟩ : ∃ x, macV mx my = x := ⟨_, rfl⟩
  rw [hmm] at iM sM
  clear hmm
  have hnn : ∀ b : Bool, (b != b) = false := fun b => by cases b <;> rfl
  go_wp2_with fail
  refine (sR _).mono ?_; rintro e w7 ⟨rfl, hb⟩; replace HBW := hide (bchain HBW.out hb); clear hb
  go_wp2_with fail
  refine (sT _).mono ?_; rintro e w8 ⟨rfl, hb⟩; replace HBW := hide (bchain HBW.out hb); clear hb
  go_wp2_with fail
  refine (iS _ HBW.out).mono ?_; rintro e w9 ⟨rfl, hb⟩; replace HBW := hide (bchain HBW.out hb); clear hb
  go_wp2_with fail
  refine (sS _).mono ?_; rintro e w10 ⟨rfl, hb⟩; replace HBW := hide (bchain HBW.out hb); clear hb
  go_wp2_with fail
  refine (iM _).mono ?_; rintro e w11 ⟨rfl, hb⟩; replace HBW := hide (bchain HBW.out hb); clear hb
  go_wp2_with fail
  refine (sM _).mono ?_; rintro e w12 ⟨rfl, hb⟩; replace HBW := hide (bchain HBW.out hb); clear hb
  clear sR sT sS iM sM iR iT
  go_wp2_with fail
  refine (iS _ HBW.out).mono ?_; rintro e w13 ⟨rfl, hb⟩; replace HBW := hide (bchain HBW.out hb); clear hb
  clear iS
  go_upto_if 108 with fail
  go_cut [19, 20, 21] (fun _ _ _ wc => Hid (Below w0.heap.size w0 wc))
  case first =>
    cases A
    · go_wp2_with fail
      go_meet
      case rel => exact HBW
    · obtain ⟨q1, q2, q3⟩ := sign_is HA.out
      have iR := fun w' (hb : Below w0.heap.size w0 w') => implReadToken sa w' (by omega) (HL.out.1.new hb) (HL.out.2.new hb)
      obtain ⟨⟨rn2, ru2, rb2⟩, hr⟩ : ∃ x, readV sa = x := ⟨_, rfl⟩
      rw [hr] at iR q1 q2 q3
      dsimp only at iR q1 q2 q3
      subst q1
      have q2' : ¬ ru2 ≤ sn := by omega
      have hnz : rn2.size ≤ 9223372036854775807 := by
        by_cases hh : nameB rn2 = true ∧ timeB ru2 = true ∧ sk.size ≤ 40
        · have := name_size hh.1; omega
        · have he : sa = ⟨#[]⟩ := q3.symm.trans (tok_empty.2 hh)
          rw [he] at hr
          have h9 : (readV ⟨#[]⟩).2.2 = true := by rw [hr]
          exact absurd h9 (by decide)
      have iT := fun w' (hb : Below w0.heap.size w0 w') => implToken rn2 ru2 sk w' (by unfold maxLen; omega) (by unfold maxLen; omega) (HL.out.1.new hb)
      rw [q3] at iT
      clear q3 hr HA
      go_wp2_with fail
      refine (iR _ HBW.out).mono ?_; rintro e w14 ⟨rfl, hb⟩; replace HBW := hide (bchain HBW.out hb); clear hb
      go_wp2_with fail
      refine (iT _ HBW.out).mono ?_; rintro e w15 ⟨rfl, hb⟩; replace HBW := hide (bchain HBW.out hb); clear hb
      go_wp2_with fail
      go_meet
      case rel => exact HBW
  case rest =>
    have HBW := hcut
    clear HA
    by_cases hok : nameB nm = true ∧ timeB un = true ∧ key.size ≤ 40
    rotate_left
    · have he : t = ⟨#[]⟩ := by rw [← HT.out]; exact tok_empty.2 hok
      subst he
      go_wp2_with fail
      go_ret
      exact ⟨rfl, HBW.out⟩
    obtain ⟨h1, h2, h3⟩ := hok
    have hne : t ≠ ⟨#[]⟩ := fun e => tok_empty.1 (HT.out.trans e) ⟨h1, h2, h3⟩
    have hie : t.toList.isEmpty = false := List.isEmpty_eq_false_iff.2 (list_ne (Nat.pos_of_ne_zero fun e => hne (by apply ByteArray.ext; exact Array.eq_empty_of_size_eq_zero e)))
    have hrt := read_tok h1 h2 h3
    rw [HT.out] at hrt
    have iR := fun w' (hb : Below w0.heap.size w0 w') => implReadToken t w' (by omega) (HL.out.1.new hb) (HL.out.2.new hb)
    rw [hrt] at iR
    dsimp only at iR
    have hut := inB_true (show inB un 0 1000000 = true from h2)
    obtain ⟨n, rfl⟩ : ∃ n : Nat, un = n := ⟨un.toNat, by omega⟩
    have iD := fun w => lawDigits n w (by omega)
    obtain ⟨hbody, _⟩ := tok_parts (name := nm) (u := (n : Int)) (key := key) ⟨h1, h2, h3⟩
    rw [Int.toNat_natCast] at hbody
    have hds := decL_short 7 n (by omega) (by decide)
    have hdz : (strOf (decL n)).size ≤ 7 := by rw [strOf_size]; exact hds
    obtain ⟨Dg, hDg⟩ : ∃ x, strOf (decL n) = x := ⟨_, rfl⟩
    rw [hDg] at iD hbody hdz
    clear hDg hds
    have hos : (key ++ (⟨#[120]⟩ : ByteArray)).size = key.size + 1 := by rw [ByteArray.size_append]; rfl
    have hbs : (nm ++ (⟨#[46]⟩ : ByteArray) ++ Dg).size = nm.size + 1 + Dg.size := by rw [ByteArray.size_append, ByteArray.size_append]; rfl
    have HBS := hide hbs
    clear hbs
    by_cases h40 : key.size = 40
    · have hoI : (40 : Int) < (key.size : Int) + 1 := by omega
      clear hrt
      go_wp2_with fail
      refine (iR _ HBW.out).mono ?_; rintro e w14 ⟨rfl, hb⟩; replace HBW := hide (bchain HBW.out hb); clear hb
      go_wp2_with fail
      refine (iD _).mono ?_; rintro e w15 ⟨rfl, hb⟩; replace HBW := hide (bchain HBW.out hb); clear hb
      go_wp2_with fail
      go_ret
      exact ⟨rfl, HBW.out⟩
    have hoI : ¬ (40 : Int) < (key.size : Int) + 1 := by omega
    have s1 := sign_tok (key' := key) ((n : Int) - 1) h1 h2 h3 h3
    have s2 := sign_tok (key' := key) (n : Int) h1 h2 h3 h3
    have s3 := sign_tok (key' := key ++ (⟨#[120]⟩ : ByteArray)) ((n : Int) - 1) h1 h2 h3 (by omega)
    rw [HT.out] at s1 s2 s3
    rw [decide_eq_true (show (n : Int) - 1 < n by omega), decide_eq_true rfl] at s1
    rw [decide_eq_false (show ¬ (n : Int) < n by omega)] at s2
    rw [decide_eq_true (show (n : Int) - 1 < n by omega)] at s3
    simp only [Bool.and_self, Bool.false_and, Bool.true_and] at s1 s2 s3
    rw [← hbody] at s3
    have i1 := fun w' (hb : Below w0.heap.size w0 w') => implSigned t key ((n : Int) - 1) w' (by omega) (by unfold maxLen; omega) (HL.out.1.new hb) (HL.out.2.new hb)
    have i2 := fun w' (hb : Below w0.heap.size w0 w') => implSigned t key (n : Int) w' (by omega) (by unfold maxLen; omega) (HL.out.1.new hb) (HL.out.2.new hb)
    have i3 := fun w' (hb : Below w0.heap.size w0 w') => implSigned t (key ++ (⟨#[120]⟩ : ByteArray)) ((n : Int) - 1) w' (by omega) (by unfold maxLen; omega) (HL.out.1.new hb) (HL.out.2.new hb)
    have m1 := fun w => implMac key (nm ++ (⟨#[46]⟩ : ByteArray) ++ Dg) w (by unfold maxLen; omega) (by rw [HBS.out]; unfold maxLen; omega)
    have m2 := fun w => implMac (key ++ (⟨#[120]⟩ : ByteArray)) (nm ++ (⟨#[46]⟩ : ByteArray) ++ Dg) w (by unfold maxLen; omega) (by rw [HBS.out]; unfold maxLen; omega)
    rw [s1] at i1
    rw [s2] at i2
    rw [s3] at i3
    generalize macV key (nm ++ (⟨#[46]⟩ : ByteArray) ++ Dg) = z1 at *
    generalize macV (key ++ (⟨#[120]⟩ : ByteArray)) (nm ++ (⟨#[46]⟩ : ByteArray) ++ Dg) = z2 at *
    clear s1 s2 s3 hrt hbody
    by_cases hz : z1 = z2
    · subst hz
      rw [decide_eq_true rfl] at i3
      go_wp2_with fail
      refine (iR _ HBW.out).mono ?_; rintro e w14 ⟨rfl, hb⟩; replace HBW := hide (bchain HBW.out hb); clear hb
      go_wp2_with fail
      refine (iD _).mono ?_; rintro e w15 ⟨rfl, hb⟩; replace HBW := hide (bchain HBW.out hb); clear hb
      go_wp2_with fail
      refine (i1 _ HBW.out).mono ?_; rintro e w16 ⟨rfl, hb⟩; replace HBW := hide (bchain HBW.out hb); clear hb
      go_wp2_with fail
      refine (i2 _ HBW.out).mono ?_; rintro e w17 ⟨rfl, hb⟩; replace HBW := hide (bchain HBW.out hb); clear hb
      go_wp2_with fail
      refine (i3 _ HBW.out).mono ?_; rintro e w18 ⟨rfl, hb⟩; replace HBW := hide (bchain HBW.out hb); clear hb
      go_wp2_with fail
      refine (m1 _).mono ?_; rintro e w19 ⟨rfl, hb⟩; replace HBW := hide (bchain HBW.out hb); clear hb
      go_wp2_with fail
      refine (m2 _).mono ?_; rintro e w20 ⟨rfl, hb⟩; replace HBW := hide (bchain HBW.out hb); clear hb
      go_wp2_with fail
      go_ret
      exact ⟨by first | rfl | simp, HBW.out⟩
    · rw [decide_eq_false hz] at i3
      have hz2 : (z1 == z2) = false := by simpa using hz
      go_wp2_with fail
      refine (iR _ HBW.out).mono ?_; rintro e w14 ⟨rfl, hb⟩; replace HBW := hide (bchain HBW.out hb); clear hb
      go_wp2_with fail
      refine (iD _).mono ?_; rintro e w15 ⟨rfl, hb⟩; replace HBW := hide (bchain HBW.out hb); clear hb
      go_wp2_with fail
      refine (i1 _ HBW.out).mono ?_; rintro e w16 ⟨rfl, hb⟩; replace HBW := hide (bchain HBW.out hb); clear hb
      go_wp2_with fail
      refine (i2 _ HBW.out).mono ?_; rintro e w17 ⟨rfl, hb⟩; replace HBW := hide (bchain HBW.out hb); clear hb
      go_wp2_with fail
      refine (i3 _ HBW.out).mono ?_; rintro e w18 ⟨rfl, hb⟩; replace HBW := hide (bchain HBW.out hb); clear hb
      go_wp2_with fail
      refine (m1 _).mono ?_; rintro e w19 ⟨rfl, hb⟩; replace HBW := hide (bchain HBW.out hb); clear hb
      go_wp2_with fail
      refine (m2 _).mono ?_; rintro e w20 ⟨rfl, hb⟩; replace HBW := hide (bchain HBW.out hb); clear hb
      go_wp2_with fail
      go_ret
      exact ⟨by first | rfl | simp, HBW.out⟩
open Go.ChangeShapes Go.WideShapes Go.ChangeAt Go.Joins
open Go.ChangeMaps (open_string shut_string)


theorem own : ownKnob Tryz.prog.godebug = none := by kernel_rfl
theorem laidOut : laidOutB Tryz.prog = true := by kernel_rfl

theorem witness_row (os : Os) {H : Type} (enc : TypeId × Value → H) :
    (OpenSpec.ofChange Rows.fnTokensSpec).preRow enc Tryz.prog Tryz.f3 Rows.fnTokensRow.domain false Rows.fnTokensRow.laid ((({ World.holding Tryz.prog os ⟨#[.cells #[.string ⟨#[118, 97, 108, 117, 101, 32, 111, 117, 116, 32, 111, 102, 32, 114, 97, 110, 103, 101]⟩] 134, .cells #[.string ⟨#[105, 110, 118, 97, 108, 105, 100, 32, 115, 121, 110, 116, 97, 120]⟩] 134], #[], []⟩ with heap := putAll (World.holding Tryz.prog os ⟨#[.cells #[.string ⟨#[118, 97, 108, 117, 101, 32, 111, 117, 116, 32, 111, 102, 32, 114, 97, 110, 103, 101]⟩] 134, .cells #[.string ⟨#[105, 110, 118, 97, 108, 105, 100, 32, 115, 121, 110, 116, 97, 120]⟩] 134], #[], []⟩).heap (World.settled Tryz.prog os).heap.size } : World)).forCall (fun _ _ => 0) ⟨#[], #[.slice none 0 0], []⟩).memory #[.slice none 0 0] := by
  have hw : (DataW.whole enc Tryz.prog ((({ World.holding Tryz.prog os ⟨#[.cells #[.string ⟨#[118, 97, 108, 117, 101, 32, 111, 117, 116, 32, 111, 102, 32, 114, 97, 110, 103, 101]⟩] 134, .cells #[.string ⟨#[105, 110, 118, 97, 108, 105, 100, 32, 115, 121, 110, 116, 97, 120]⟩] 134], #[], []⟩ with heap := putAll (World.holding Tryz.prog os ⟨#[.cells #[.string ⟨#[118, 97, 108, 117, 101, 32, 111, 117, 116, 32, 111, 102, 32, 114, 97, 110, 103, 101]⟩] 134, .cells #[.string ⟨#[105, 110, 118, 97, 108, 105, 100, 32, 115, 121, 110, 116, 97, 120]⟩] 134], #[], []⟩).heap (World.settled Tryz.prog os).heap.size } : World)).forCall (fun _ _ => 0) ⟨#[], #[.slice none 0 0], []⟩).memory Tryz.f3.params.toList (OpenSpec.ofChange Rows.fnTokensSpec).vars false (#[.slice none 0 0] : Array Value).toList 8).isSome = true := by kernel_rfl
  obtain ⟨x, hx⟩ := Option.isSome_iff_exists.1 hw
  exact OpenSpec.preRow_of_cond 8 hx rfl (fun k hk => by cases hk) (by kernel_rfl) (laid7 os _)

set_option maxRecDepth 100000 in
theorem lifted (os : Os) (started : os.Started) (H : Type) (enc : TypeId × Value → H) (F : Stop.Interp) :
    ReturnsInHanded {} Tryz.checked os 3 .any ((OpenSpec.ofChange Rows.fnTokensSpec).preRow enc Tryz.prog Tryz.f3 Rows.fnTokensRow.domain false Rows.fnTokensRow.laid) (((OpenSpec.ofChange Rows.fnTokensSpec).at F).post enc Tryz.prog Tryz.f3 false true false false) := by
  refine returnsInHanded_of_row (C := Tryz.checked) (s := OpenSpec.ofChange Rows.fnTokensSpec) own started (by kernel_rfl) Tryz.func3
    (witness_row_atRef (enc := enc) (C := Tryz.checked) false (({ World.holding Tryz.prog os ⟨#[.cells #[.string ⟨#[118, 97, 108, 117, 101, 32, 111, 117, 116, 32, 111, 102, 32, 114, 97, 110, 103, 101]⟩] 134, .cells #[.string ⟨#[105, 110, 118, 97, 108, 105, 100, 32, 115, 121, 110, 116, 97, 120]⟩] 134], #[], []⟩ with heap := putAll (World.holding Tryz.prog os ⟨#[.cells #[.string ⟨#[118, 97, 108, 117, 101, 32, 111, 117, 116, 32, 111, 102, 32, 114, 97, 110, 103, 101]⟩] 134, .cells #[.string ⟨#[105, 110, 118, 97, 108, 105, 100, 32, 115, 121, 110, 116, 97, 120]⟩] 134], #[], []⟩).heap (World.settled Tryz.prog os).heap.size } : World)) #[.slice none 0 0] rfl (by kernel_rfl) (by kernel_rfl) (by kernel_rfl) (witness_row os enc)) ?_
  intro W base args ds gs before hval0 hW hcnd _ _ hL hSO _
  have hval : ∀ (j : Nat) t v, Tryz.f3.params[j]? = some t → args[j]? = some v → Value.okWide Tryz.prog W .any base t v := hval0
  have hW' := hW
  obtain ⟨p, q, hA0, hV, rfl, hfz, hnd⟩ := hW
  have hA : DataW.TrodAll enc Tryz.prog W 0 (fun _ => true) true Tryz.f3.params.toList args.toList ds p := hA0
  rw [Tryz.params3] at hA hval
  obtain ⟨v0, vs0, d0, ds0, p0, q0, hargs, rfl, rfl, h0, r0⟩ := trodAll_cons hA
  obtain ⟨rfl, rfl, rfl⟩ := trodAll_nil r0
  obtain rfl : args = #[v0] := by cases args; simp_all
  obtain ⟨rfl, rfl⟩ := trodVars_none hV
  have hlib := libs_of7 hL hSO
  have k0 := h0
  have lt0 : ∀ x ∈ p0, x.block < W.heap.size := by obtain ⟨m, hm⟩ := k0; exact DataW.trod_lt m _ _ _ hm
  obtain ⟨a0, len0, cap0, rfl⟩ := okWide_slice Tryz.underlying22 (hval 0 22 v0 rfl rfl); obtain ⟨hl0, hc0⟩ := open_code h0
  clear hA0 hval0
  refine (walk a0 len0 cap0 W hl0 hc0 hlib).mono fun e W' ⟨he, bel⟩ => ?_
  subst he
  exact ⟨_, rfl, _, _, _, [], _, [], hW', trodAll_mk1 (shut_bool Tryz.underlying4 _), (trodAll_cons_mk (Below.trod laidOut (by kernel_rfl) (of_decide_eq_true (by kernel_rfl)) k0 bel lt0) trodAll_mk0), rfl, bel.frame _, fun h => by cases h⟩

theorem over : Rows.fnTokensRow.holds Tryz.pinned (OpenSpec.ofChange Rows.fnTokensSpec) :=
  OpenClaim.holds_of_cond 3 Tryz.f3 rfl rfl rfl rfl rfl rfl rfl ⟨rfl, rfl, rfl, rfl, rfl⟩ rfl rfl rfl rfl rfl (by kernel_rfl) Tryz.func3 (by kernel_rfl)
    (of_decide_eq_true (by kernel_rfl)) (by unfold Func.isWrapper; first | (rw [if_pos (by decide +kernel)]; kernel_rfl) | (rw [if_neg (by decide +kernel)]; exact ⟨rfl, rfl⟩))
    (fun os started H enc _ F => by rw [OpenClaim.pre_eq_preRow]; exact lifted os started H enc F)

theorem card : Rows.FnTokensCardSaid :=
  Claim7.holds_tied_plain_at .later [] [.data, .data, .data, .data, .sentinel, .sentinel, .pinned] true (true, "fba606b244c15fe18e8067563fc71ae18f499817f16996d3d0c7c2181794fdb9") true
    over (fun _ h => by cases h) (by kernel_rfl) (fun _ h => by cases h) fnTokens_row_tie rfl ⟨rfl, rfl⟩ (by kernel_rfl) rfl
    (fun f fn hf hfn => by
      obtain rfl : f = 3 := Option.some.inj ((show Tryz.prog.funcNamed "loop.example/g00296/laws.FnTokens" = some 3 by kernel_rfl).symm.trans hf) |>.symm
      obtain rfl : fn = Tryz.f3 := (Option.some.inj (Tryz.func3.symm.trans hfn)).symm
      exact ⟨by kernel_rfl, fun j t ht => by
        rw [Tryz.params3] at ht
        have hm : t ∈ [22] := by simpa using Array.mem_of_getElem? ht
        have hall : ([22].all fun u => !Tryz.prog.wantsStandIn u) = true := by kernel_rfl
        exact (show Tryz.prog.wantsStandIn t = false by simpa using List.all_eq_true.1 hall t hm)⟩)
    (by kernel_rfl)

end lawTokens

theorem lawTokens_proved : Rows.FnTokensCardSaid := lawTokens.card
#print axioms lawTokens_proved
end Go.Proofs.YtnadephjbglcfaaGreatDoor
