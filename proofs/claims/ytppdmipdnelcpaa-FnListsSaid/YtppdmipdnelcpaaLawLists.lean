/- The law FnLists returns true at every argument and leaves it as it was. No condition. -/
import Derived.Test.YtppdmipdnelcpaaTokDraw4
import Derived.Test.YtppdmipdnelcpaaTokList
import Derived.Test.YtppdmipdnelcpaaTokImpl
import Derived.Test.YtppdmipdnelcpaaAppW
import Derived.WalkKit
import Derived.ProofKit
import Derived.OpenShut
import Derived.ShutString
import Derived.ChangeOld
import Derived.Below
import Derived.Lib.SmallJoins

namespace Go.Proofs.Ytppdmipdnelcpaa
open Go.RowKit
set_option maxRecDepth 100000
set_option linter.unusedSimpArgs false
set_option linter.unusedVariables false
theorem list_yes {L : List ByteArray} {t : ByteArray} (h : L.length ≤ 20 ∧ 1 ≤ t.size ∧ t.size ≤ 60 ∧ ∀ x ∈ L, x.size ≤ 60) : listV L t = L.any (hitB t) := by unfold listV; rw [if_pos h]
theorem hit_self (t : ByteArray) : hitB t t = true := by unfold hitB; simp
theorem hit_star (t : ByteArray) : hitB t ⟨#[42]⟩ = true := by
  unfold hitB
  have e : t.extract t.size t.size = (⟨#[42]⟩ : ByteArray).extract 1 1 := by
    rw [show (⟨#[42]⟩ : ByteArray).extract 1 1 = ByteArray.empty by rfl]
    apply ByteArray.ext
    simp
  have hs : (⟨#[42]⟩ : ByteArray).size = 1 := rfl
  have hb : (bys ⟨#[42]⟩).head? = some 42 := by rfl
  simp [hs, hb, e]
namespace lawLists
set_option maxHeartbeats 4000000 in
set_option maxRecDepth 100000 in
theorem walk (a : Option Addr) (len cap : Nat) (w : World) (hl : len ≤ maxLen) (hcode : CodeAt w a len w.heap.size) :
    Calls Try.prog 3 #[.slice a len cap] w fun x w' => x = .returned (.bool true) ∧ Below w.heap.size w w' := by
  unfold maxLen at hl
  by_cases hbig : (4096 : Int) < len
  · go_enter Try.func3, Try.ntmps3
    go_wp2_with fail
    refine (big1 a len cap _).mono ?_; rw [decide_eq_true hbig]; rintro x w1 ⟨rfl, rfl⟩
    go_wp2_with fail
    go_ret
    exact ⟨rfl, Below.refl _ _⟩
  have hl' : len ≤ 4096 := by omega
  have HCODE := hide hcode
  clear hcode
  go_enter Try.func3, Try.ntmps3
  go_wp2_with fail
  refine (big1 a len cap _).mono ?_; rw [decide_eq_false (by omega)]; rintro x w0 ⟨rfl, rfl⟩
  go_wp2_with fail
  refine (drawListed a len cap _ hl' HCODE.out).mono ?_; rintro e w1 ⟨v, L, t, rfl, ho, hL, hs, ht, hb⟩
  obtain ⟨av, pv, rfl, hv1, hv2⟩ := ho.form
  have HBW := hide hb
  have HO := hide ho
  have HS := hide hs
  have hts : t.size ≤ 9223372036854775807 := by omega
  have hLs : ∀ x ∈ L, x.size ≤ maxLen := fun x hx => by have := HS.out x hx; unfold maxLen; omega
  have htm : t.size ≤ maxLen := by unfold maxLen; omega
  have HLS := hide hLs
  have HTM := hide htm
  clear hb ho hs HCODE hLs htm
  have iL := fun w h => implListed L t (.slice av L.length pv) w h HLS.out HTM.out
  have sL := fun w h => specListed L t (.slice av L.length pv) w h HLS.out HTM.out
  obtain ⟨A, hA⟩ : ∃ A, listV L t = A := ⟨_, rfl⟩
  rw [hA] at iL sL
  have HA := hide hA
  clear hA
  go_wp2_with fail
  refine (iL _ (rd_strs HO.out.rd)).mono ?_; rintro e w2 ⟨rfl, hb2⟩
  replace HBW := hide (bchain HBW.out hb2)
  replace HO := hide (HO.out.new hb2)
  clear hb2
  go_wp2_with fail
  refine (sL _ (rd_strs HO.out.rd)).mono ?_; rintro e w3 ⟨rfl, hb3⟩
  replace HBW := hide (bchain HBW.out hb3)
  replace HO := hide (HO.out.new hb3)
  clear hb3 iL sL
  have hnn : (A != A) = false := by cases A <;> rfl
  go_wp2_with fail
  go_loop [6] (fun i => ∃ k : Nat, i = .int .i64 k ∧ k ≤ L.length ∧ Hid (∀ x ∈ L.take k, x.size ≤ 60)) (fun i => L.length - (intOf i).toNat)
  case atStart => exact ⟨0, rfl, by omega, by show ∀ x ∈ L.take 0, _; simp⟩
  case round =>
    obtain ⟨k, rfl, hk, H60⟩ := hrel
    by_cases hlt : k < L.length
    · have hltI : (k : Int) < L.length := by omega
      obtain ⟨b, o, rfl, hbw, cx, hsx⟩ := strs_at HO.out.rd hlt
      obtain ⟨x, hx⟩ : ∃ x, L[k] = x := ⟨_, rfl⟩
      rw [hx] at cx hsx
      by_cases hx60 : (60 : Int) < x.size
      · have HF : Hid (A = false) := by show A = false; rw [← HA.out]; exact list_no (fun c => by have := c.2.2.2 x (by rw [← hx]; exact List.getElem_mem hlt); omega)
        clear hx
        go_wp2_with fail
        go_ret
        exact ⟨by rw [HF.out]; rfl, HBW.out⟩
      · have H602 : Hid (∀ y ∈ L.take (k + 1), y.size ≤ 60) := by
          show ∀ y ∈ _, _
          intro y hy
          rw [List.take_add_one, List.getElem?_eq_getElem hlt, hx] at hy
          rcases List.mem_append.1 hy with h | h
          · exact H60.out y h
          · simp at h; subst h; omega
        clear hx
        go_wp2_with fail
        go_round
        case rel => exact ⟨k + 1, by go_num, by omega, H602⟩
        case measure => simp [intOf]; omega
    have hltI : ¬ (k : Int) < L.length := by omega
    have HALL : Hid (∀ x ∈ L, x.size ≤ 60) := fun x hx => H60.out x (by rw [List.take_of_length_le (by omega)]; exact hx)
    clear H60
    by_cases hout : 20 ≤ L.length ∨ t.size < 1 ∨ 60 < t.size
    · have HV : Hid (L.length = 20 ∨ A = false) := by
        show _ ∨ _
        by_cases h20 : L.length = 20
        · exact .inl h20
        · right; rw [← HA.out]; exact list_no (by omega)
      by_cases h20 : L.length = 20
      · have g1 : (20 : Int) ≤ L.length := by omega
        have g4 : (L.length : Int) = 20 := by omega
        have g5 : ((L.length : Int) == 20) = true := by simpa using g4
        clear HV
        go_wp2_with fail
        go_ret
        exact ⟨rfl, HBW.out⟩
      · have HF : Hid (A = false) := by
          rcases HV.out with h | h
          · exact absurd h h20
          · exact h
        obtain rfl := HF.out
        have g5 : ((L.length : Int) == 20) = false := by simp; omega
        by_cases g1 : (20 : Int) ≤ L.length
        · clear HV HF
          go_wp2_with fail
          go_ret
          exact ⟨rfl, HBW.out⟩
        · by_cases g2 : (t.size : Int) < 1
          · clear HV HF
            go_wp2_with fail
            go_ret
            exact ⟨rfl, HBW.out⟩
          · have g3 : (60 : Int) < t.size := by omega
            clear HV HF
            go_wp2_with fail
            go_ret
            exact ⟨rfl, HBW.out⟩
    have g1 : ¬ (20 : Int) ≤ L.length := by omega
    have g2 : ¬ (t.size : Int) < 1 := by omega
    have g3 : ¬ (60 : Int) < t.size := by omega
    have HAA : Hid (A = L.any (hitB t)) := by show _ = _; rw [← HA.out]; exact list_yes ⟨by omega, by omega, by omega, HALL.out⟩
    have hX0 : Below w3.heap.size w3 (w3.alloc (.cells #[] 9)) := (Below.refl _ _).alloc (Nat.le_refl _) _
    have HO0 : Hid ((w3.alloc (.cells #[] 9)).ownsRow w3.heap.size 9 1 (.slice (some ⟨w3.heap.size, 0, none⟩) 0 0) 0 (List.map Value.string [])) := owns_lit w3 9 1 0 #[] rfl (by omega)
    have HX0 := hide hX0
    clear hX0 HA
    go_wp2_with fail
    generalize w3.alloc (.cells #[] 9) = W at *
    go_loopw [7, 8] (fun s i wr => ∃ (j : Nat) (R : List ByteArray) (ab : Option Addr) (pb : Nat), i = .int .i64 ((j : Int) - 1) ∧ s = .slice ab R.length pb ∧ j ≤ L.length ∧ R.length + j = L.length ∧ Hid (R = (L.drop j).reverse) ∧ Hid (wr.ownsRow w3.heap.size 9 1 (.slice ab R.length pb) R.length (R.map Value.string)) ∧ Hid (Below w3.heap.size w3 wr)) (fun _ i _ => (intOf i + 1).toNat)
    case atStart => exact ⟨L.length, [], _, _, by first | rfl | go_num, rfl, by omega, by simp, hide (by simp), HO0, HX0⟩
    case round =>
      clear HO0 HX0
      obtain ⟨j, R, ab, pb, rfl, rfl, hj, hRj, HR, HOB, HB⟩ := hrel
      by_cases hj0 : 0 < j
      · obtain ⟨j, rfl⟩ : ∃ q, j = q + 1 := ⟨j - 1, by omega⟩
        rw [show (((j + 1 : Nat) : Int) - 1) = (j : Int) by omega]
        have hlt : j < L.length := by omega
        have hltI : (j : Int) < L.length := by omega
        obtain ⟨b, o, rfl, hbw, cx, hsx⟩ := strs_at (HO.out.new HB.out).rd hlt
        have HR2 : Hid (R ++ [L[j]] = (L.drop j).reverse) := by show _ = _; rw [HR.out, List.drop_eq_getElem_cons hlt, List.reverse_cons]
        obtain ⟨x, hx⟩ : ∃ x, L[j] = x := ⟨_, rfl⟩
        rw [hx] at cx hsx HR2
        clear hx
        have hX : Below wr.heap.size wr (wr.alloc (.cells #[.string x] 9)) := (Below.refl _ _).alloc (Nat.le_refl _) _
        have hoX := owns_new HOB.out hX
        have hrX : Reads (wr.alloc (.cells #[.string x] 9)) (.slice (some ⟨wr.heap.size, 0, none⟩) 1 1) 1 1 [.string x] := reads_of_owns (owns_lit wr 9 1 1 #[.string x] rfl (by omega))
        have hbX := bchain HB.out hX
        have hsX := hbX.size
        clear hX HB HOB
        go_wp2_with (at_builtin; go_must (refine wpList_app _ (by rfl) _ _ 24 (by rfl) 9 (.string ⟨#[]⟩) 1 16 Try.underlying24 (by kernel_rfl) rfl (by decide) w3.heap.size _ R.length (R.map Value.string) (by rfl) hoX _ 1 [.string x] (by rfl) hrX (sv_one [x]) (by omega) (by decide) hsX ?_))
        intro ad7 cp7 w7 hown7 hg7 hat7
        have HB7 := hide (hbX.grown hg7 hbX.size (fun k hk => (hoX.lt k hk).1))
        have HO7 : Hid (w7.ownsRow w3.heap.size 9 1 (.slice ad7 (R ++ [x]).length cp7) (R ++ [x]).length ((R ++ [x]).map Value.string)) := by show World.ownsRow _ _ _ _ _ _ _; rw [List.map_append, List.length_append]; exact hown7
        clear hown7 hg7 hat7 hoX hrX hbX hsX cx
        go_wp2_with fail
        go_roundw
        case rel => exact ⟨j, R ++ [x], ad7, cp7, rfl, by simp, by omega, by simp; omega, HR2, HO7, HB7⟩
        case measure => first | (simp [intOf]; done) | (simp [intOf]; omega)
      obtain rfl : j = 0 := by omega
      have hj0I : ¬ (0 : Int) ≤ ((0 : Nat) : Int) - 1 := by omega
      have HRR : Hid (R = L.reverse) := by show _ = _; rw [HR.out]; simp
      have hRL : R.length = L.length := by omega
      rw [hRL] at HOB ⊢
      clear HR hRj hRL hj
      obtain ⟨W4, hW4⟩ : ∃ W4, W4 = wr := ⟨_, rfl⟩
      rw [← hW4] at HOB HB ⊢
      clear hW4
      go_wp2_with fail
      go_loopw [9, 10] (fun s i wr => ∃ k : Nat, i = .int .i64 (k : Int) ∧ k ≤ L.length ∧ s = .bool ((L.take k).any (hitB t)) ∧ Hid (Below W4.heap.size W4 wr)) (fun _ i _ => L.length - (intOf i).toNat)
      case atStart => exact ⟨0, rfl, by omega, by simp, hide (Below.refl _ _)⟩
      case round =>
        obtain ⟨k, rfl, hk, rfl, HB5⟩ := hrel
        by_cases hlt : k < L.length
        · have hltI : (k : Int) < L.length := by omega
          have hat := any_take (t := t) hlt
          obtain ⟨b, o, rfl, hbw, cx, hsx⟩ := strs_at ((HO.out.new HB.out).new HB5.out).rd hlt
          have hx6 := HALL.out _ (List.getElem_mem hlt)
          obtain ⟨x, hx⟩ : ∃ x, L[k] = x := ⟨_, rfl⟩
          rw [hx] at cx hsx hat hx6
          clear hx
          have HAT := hide hat
          clear hat
          cases hs : (L.take k).any (hitB t)
          · have HN : Hid ((L.take (k + 1)).any (hitB t) = hitB t x) := by show _ = _; rw [HAT.out, hs]; rfl
            have hX : Below wr.heap.size wr (wr.alloc (.cells #[.string x] 9)) := (Below.refl _ _).alloc (Nat.le_refl _) _
            have hrX : Reads (wr.alloc (.cells #[.string x] 9)) (.slice (some ⟨wr.heap.size, 0, none⟩) 1 1) 1 1 [.string x] := reads_of_owns (owns_lit wr 9 1 1 #[.string x] rfl (by omega))
            have hcl := implListed [x] t (.slice (some ⟨wr.heap.size, 0, none⟩) 1 1) _ hrX (fun y hy => by simp at hy; subst hy; unfold maxLen; omega) HTM.out
            rw [list_yes (L := [x]) ⟨by simp, by omega, by omega, fun y hy => by simp at hy; subst hy; exact hx6⟩] at hcl
            simp only [List.any_cons, List.any_nil, Bool.or_false] at hcl
            have HX5 := hide (bchain HB5.out hX)
            clear hX hrX HB5 hs
            go_wp2_with fail
            refine hcl.mono ?_; rintro e w6 ⟨rfl, hb6⟩
            have HB6 := hide (bchain HX5.out hb6)
            clear hcl hb6 HX5
            go_wp2_with fail
            go_roundw
            case rel => exact ⟨k + 1, by go_num, by omega, by rw [HN.out], HB6⟩
            case measure => simp [intOf]; omega
          · have HN : Hid ((L.take (k + 1)).any (hitB t) = true) := by show _ = _; rw [HAT.out, hs]; rfl
            clear hs
            go_wp2_with fail
            go_roundw
            case rel => exact ⟨k + 1, by go_num, by omega, by rw [HN.out], HB5⟩
            case measure => simp [intOf]; omega
        have hltI : ¬ (k : Int) < L.length := by omega
        have hall : (L.take k).any (hitB t) = A := by rw [List.take_of_length_le (by omega), HAA.out]
        rw [hall]
        clear hall
        have HOB5 := hide (owns_new HOB.out HB5.out)
        have HBW5 := hide (bchain HBW.out (bchain HB.out HB5.out))
        have hRs : ∀ y ∈ R, y.size ≤ 60 := fun y hy => HALL.out y (by rw [HRR.out] at hy; simpa using hy)
        have hRl : R.length = L.length := by rw [HRR.out]; simp
        have hRA : R.any (hitB t) = A := by rw [HRR.out, HAA.out]; simp
        have HRS := hide hRs
        have HRA := hide hRA
        have HRL := hide hRl
        clear hRs hRA hRl HOB HBW HB HO HRR HAA HALL
        have hc1 := implListed R t (.slice ab L.length pb) wr (by rw [← HRL.out]; have := reads_of_owns HOB5.out; rw [← HRL.out] at this; exact this) (fun y hy => by have := HRS.out y hy; unfold maxLen; omega) HTM.out
        rw [list_yes ⟨by rw [HRL.out]; omega, by omega, by omega, HRS.out⟩, HRA.out] at hc1
        have HRD0 : Hid (Reads wr (.slice ab L.length pb) L.length 1 (R.map Value.string)) := by
          have := reads_of_owns HOB5.out
          exact this
        clear HOB5 HRA
        have e42 : (⟨#[42]⟩ : ByteArray).size = 1 := rfl
        cases A
        all_goals
          go_wp2_with fail
          refine hc1.mono ?_; rintro e w6 ⟨rfl, hb6⟩
          replace HBW5 := hide (bchain HBW5.out hb6)
          have HRD := hide (HRD0.out.new hb6)
          clear hb6 hc1 HRD0
          have hX1 : Below w6.heap.size w6 (w6.alloc (.cells #[] 9)) := (Below.refl _ _).alloc (Nat.le_refl _) _
          have hoX1 : (w6.alloc (.cells #[] 9)).ownsRow w6.heap.size 9 1 (.slice (some ⟨w6.heap.size, 0, none⟩) 0 0) 0 [] := owns_lit w6 9 1 0 #[] rfl (by omega)
          have hrX1 := HRD.out.new hX1
          go_wp2_with (at_builtin; go_must (refine wpList_appW _ (by kernel_rfl) _ _ 24 (by rfl) 9 (.string ⟨#[]⟩) 1 16 Try.underlying24 (by kernel_rfl) rfl (by decide) w6.heap.size _ 0 [] (by rfl) hoX1 _ L.length (R.map Value.string) (by rfl) hrX1 (sv_one _) (by omega) (by decide) hX1.size ?_))
          intro ad1a cp1a w1a hown1a hg1a hat1a
          try simp only [Nat.zero_add, List.nil_append] at hown1a
          have hb1a : Below w6.heap.size w6 w1a := hX1.grown hg1a hX1.size (fun k hk => (hoX1.lt k hk).1)
          have hY1 : Below w1a.heap.size w1a (w1a.alloc (.cells #[.string ⟨#[42]⟩] 9)) := (Below.refl _ _).alloc (Nat.le_refl _) _
          have hoY1 := owns_new hown1a hY1
          have hrY1 : Reads (w1a.alloc (.cells #[.string ⟨#[42]⟩] 9)) (.slice (some ⟨w1a.heap.size, 0, none⟩) 1 1) 1 1 [.string ⟨#[42]⟩] := reads_of_owns (owns_lit w1a 9 1 1 #[.string ⟨#[42]⟩] rfl (by omega))
          have hbY1 := bchain hb1a hY1
          have sY1 := hbY1.size
          try rw [Nat.zero_add]
          clear hown1a hg1a hat1a hoX1 hrX1 hX1
          go_wp2_with (at_builtin; go_must (refine wpList_appW _ (by kernel_rfl) _ _ 24 (by rfl) 9 (.string ⟨#[]⟩) 1 16 Try.underlying24 (by kernel_rfl) rfl (by decide) w6.heap.size _ L.length (R.map Value.string) (by rfl) hoY1 _ 1 [.string ⟨#[42]⟩] (by rfl) hrY1 (sv_one [⟨#[42]⟩]) (by omega) (by decide) sY1 ?_))
          intro ad1b cp1b w1b hown1b hg1b hat1b
          have hb1b : Below w6.heap.size w6 w1b := hbY1.grown hg1b hbY1.size (fun k hk => (hoY1.lt k hk).1)
          have hrd1 : Reads w1b (.slice ad1b (L.length + 1) cp1b) (R ++ [(⟨#[42]⟩ : ByteArray)]).length 1 ((R ++ [(⟨#[42]⟩ : ByteArray)]).map Value.string) := by
            have h := reads_of_owns hown1b
            rw [List.map_append, List.length_append, HRL.out]
            exact h
          have hc1 := implListed (R ++ [(⟨#[42]⟩ : ByteArray)]) t _ w1b hrd1 (fun y hy => by
            rcases List.mem_append.1 hy with h | h
            · have := HRS.out y h; unfold maxLen; omega
            · simp only [List.mem_singleton] at h; subst h; first | exact HTM.out | (unfold maxLen; decide)) HTM.out
          rw [list_yes ⟨by rw [List.length_append, HRL.out]; simp; omega, by omega, by omega, fun y hy => by
            rcases List.mem_append.1 hy with h | h
            · exact HRS.out y h
            · simp only [List.mem_singleton] at h; subst h; first | omega | decide⟩, show (R ++ [(⟨#[42]⟩ : ByteArray)]).any (hitB t) = true by rw [List.any_append]; simp [hit_star]] at hc1
          replace HBW5 := hide (bchain HBW5.out hb1b)
          replace HRD := hide (HRD.out.new hb1b)
          clear hown1b hg1b hat1b hoY1 hrY1 hbY1 sY1 hb1a hY1 hrd1 hb1b
          go_wp2_with fail
          refine hc1.mono ?_; rintro e w1c ⟨rfl, hb1c⟩
          replace HBW5 := hide (bchain HBW5.out hb1c)
          replace HRD := hide (HRD.out.new hb1c)
          clear hc1 hb1c
          have hX2 : Below w1c.heap.size w1c (w1c.alloc (.cells #[] 9)) := (Below.refl _ _).alloc (Nat.le_refl _) _
          have hoX2 : (w1c.alloc (.cells #[] 9)).ownsRow w1c.heap.size 9 1 (.slice (some ⟨w1c.heap.size, 0, none⟩) 0 0) 0 [] := owns_lit w1c 9 1 0 #[] rfl (by omega)
          have hrX2 := HRD.out.new hX2
          go_wp2_with (at_builtin; go_must (refine wpList_appW _ (by kernel_rfl) _ _ 24 (by rfl) 9 (.string ⟨#[]⟩) 1 16 Try.underlying24 (by kernel_rfl) rfl (by decide) w1c.heap.size _ 0 [] (by rfl) hoX2 _ L.length (R.map Value.string) (by rfl) hrX2 (sv_one _) (by omega) (by decide) hX2.size ?_))
          intro ad2a cp2a w2a hown2a hg2a hat2a
          try simp only [Nat.zero_add, List.nil_append] at hown2a
          have hb2a : Below w1c.heap.size w1c w2a := hX2.grown hg2a hX2.size (fun k hk => (hoX2.lt k hk).1)
          have hY2 : Below w2a.heap.size w2a (w2a.alloc (.cells #[.string t] 9)) := (Below.refl _ _).alloc (Nat.le_refl _) _
          have hoY2 := owns_new hown2a hY2
          have hrY2 : Reads (w2a.alloc (.cells #[.string t] 9)) (.slice (some ⟨w2a.heap.size, 0, none⟩) 1 1) 1 1 [.string t] := reads_of_owns (owns_lit w2a 9 1 1 #[.string t] rfl (by omega))
          have hbY2 := bchain hb2a hY2
          have sY2 := hbY2.size
          try rw [Nat.zero_add]
          clear hown2a hg2a hat2a hoX2 hrX2 hX2
          go_wp2_with (at_builtin; go_must (refine wpList_appW _ (by kernel_rfl) _ _ 24 (by rfl) 9 (.string ⟨#[]⟩) 1 16 Try.underlying24 (by kernel_rfl) rfl (by decide) w1c.heap.size _ L.length (R.map Value.string) (by rfl) hoY2 _ 1 [.string t] (by rfl) hrY2 (sv_one [t]) (by omega) (by decide) sY2 ?_))
          intro ad2b cp2b w2b hown2b hg2b hat2b
          have hb2b : Below w1c.heap.size w1c w2b := hbY2.grown hg2b hbY2.size (fun k hk => (hoY2.lt k hk).1)
          have hrd2 : Reads w2b (.slice ad2b (L.length + 1) cp2b) (R ++ [t]).length 1 ((R ++ [t]).map Value.string) := by
            have h := reads_of_owns hown2b
            rw [List.map_append, List.length_append, HRL.out]
            exact h
          have hc2 := implListed (R ++ [t]) t _ w2b hrd2 (fun y hy => by
            rcases List.mem_append.1 hy with h | h
            · have := HRS.out y h; unfold maxLen; omega
            · simp only [List.mem_singleton] at h; subst h; first | exact HTM.out | (unfold maxLen; decide)) HTM.out
          rw [list_yes ⟨by rw [List.length_append, HRL.out]; simp; omega, by omega, by omega, fun y hy => by
            rcases List.mem_append.1 hy with h | h
            · exact HRS.out y h
            · simp only [List.mem_singleton] at h; subst h; first | omega | decide⟩, show (R ++ [t]).any (hitB t) = true by rw [List.any_append]; simp [hit_self]] at hc2
          replace HBW5 := hide (bchain HBW5.out hb2b)
          replace HRD := hide (HRD.out.new hb2b)
          clear hown2b hg2b hat2b hoY2 hrY2 hbY2 sY2 hb2a hY2 hrd2 hb2b
          go_wp2_with fail
          refine hc2.mono ?_; rintro e w2c ⟨rfl, hb2c⟩
          replace HBW5 := hide (bchain HBW5.out hb2c)
          replace HRD := hide (HRD.out.new hb2c)
          clear hc2 hb2c
          go_wp2_with fail
          go_ret
          exact ⟨rfl, HBW5.out⟩
open Go.ChangeShapes Go.WideShapes Go.ChangeAt Go.Joins
open Go.ChangeMaps (open_string shut_string)


theorem own : ownKnob Try.prog.godebug = none := by kernel_rfl
theorem laidOut : laidOutB Try.prog = true := by kernel_rfl

set_option maxRecDepth 100000 in
theorem lifted (os : Os) (started : os.Started) (H : Type) (enc : TypeId × Value → H) :
    ReturnsInHanded {} Try.checked os 3 .any (Rows.fnListsSpec.pre6 enc Try.prog Try.f3 Rows.fnListsRow.domain false) (Rows.fnListsSpec.post enc Try.prog Try.f3 false true false false) := by
  refine returnsInHanded_of_change (C := Try.checked) own started (by kernel_rfl) Try.func3
    (ChangeSpec.witness6 (enc := enc) (C := Try.checked) false ⟨#[], #[.slice none 0 0], []⟩ 8 (by kernel_rfl) (by kernel_rfl) (by kernel_rfl) (by kernel_rfl)) ?_
  intro W base args ds gs before hval0 hW hcnd _
  have hval : ∀ (j : Nat) t v, Try.f3.params[j]? = some t → args[j]? = some v → Value.okWide Try.prog W .any base t v := hval0
  have hW' := hW
  obtain ⟨p, q, hA0, hV, rfl, hfz, hnd⟩ := hW
  have hA : DataW.TrodAll enc Try.prog W 0 (fun _ => true) true Try.f3.params.toList args.toList ds p := hA0
  rw [Try.params3] at hA hval
  obtain ⟨v0, vs0, d0, ds0, p0, q0, hargs, rfl, rfl, h0, r0⟩ := trodAll_cons hA
  obtain ⟨rfl, rfl, rfl⟩ := trodAll_nil r0
  obtain rfl : args = #[v0] := by cases args; simp_all
  obtain ⟨rfl, rfl⟩ := trodVars_none hV
  have k0 := h0
  have lt0 : ∀ x ∈ p0, x.block < W.heap.size := by obtain ⟨m, hm⟩ := k0; exact DataW.trod_lt m _ _ _ hm
  obtain ⟨a0, len0, cap0, rfl⟩ := okWide_slice Try.underlying22 (hval 0 22 v0 rfl rfl); obtain ⟨hl0, hc0⟩ := open_code h0
  clear hA0 hval0
  refine (walk a0 len0 cap0 W hl0 hc0).mono fun e W' ⟨he, bel⟩ => ?_
  subst he
  exact ⟨_, rfl, _, _, _, [], _, [], hW', trodAll_mk1 (shut_bool Try.underlying4 _), (trodAll_cons_mk (Below.trod laidOut (by kernel_rfl) (of_decide_eq_true (by kernel_rfl)) k0 bel lt0) trodAll_mk0), rfl, bel.frame _, fun h => by cases h⟩

theorem over : Rows.fnListsRow.holds Try.pinned (OpenSpec.ofChange Rows.fnListsSpec) :=
  OpenClaim.holds_of_wide 3 Try.f3 rfl rfl rfl rfl rfl rfl rfl ⟨rfl, rfl, rfl, rfl, rfl⟩ rfl rfl rfl rfl rfl (by kernel_rfl) Try.func3 (by kernel_rfl)
    (of_decide_eq_true (by kernel_rfl)) (by unfold Func.isWrapper; first | (rw [if_pos (by decide +kernel)]; kernel_rfl) | (rw [if_neg (by decide +kernel)]; exact ⟨rfl, rfl⟩))
    (fun os started H enc _ => lifted os started H enc)

end lawLists

theorem lawLists_proved : Rows.FnListsSaid := lawLists.over
#print axioms lawLists_proved
end Go.Proofs.Ytppdmipdnelcpaa
