/- The law FnSync returns true at every argument and leaves it as it was. No condition. -/
import Derived.Test.YtejmnkabmajebaaQBlocks6
import Derived.Test.YtejmnkabmajebaaQSB
import Derived.Test.YtejmnkabmajebaaQSyncDraw
import Derived.Test.YtejmnkabmajebaaQG11
import Derived.Test.YtejmnkabmajebaaQLikeTab
import Derived.WalkKit
import Derived.ProofKit
import Derived.OpenShut
import Derived.ShutString
import Derived.ChangeOld
import Derived.Below
import Derived.Lib.SmallJoins
namespace Go.Proofs.Ytejmnkabmajebaa
open Go.RowKit
set_option maxRecDepth 100000
set_option linter.unusedSimpArgs false
set_option linter.unusedVariables false

/-- The Fields that the law makes: a Name of two bytes, a Value of one. -/
def Fd.two (f : Fd) : Prop := f.n.size = 2 ∧ f.v.size = 1
theorem two_ok {f : Fd} (h : f.two) : okF f = true := by
  have h1 : inB (f.n.size : Int) 1 40 = true := by unfold inB; simp [h.1]
  unfold okF
  rw [h1, h.2]
  rfl
theorem two_wt {f : Fd} (h : f.two) : wt f = 11 := by rw [wt_ok (two_ok h), h.1, h.2]; rfl
/-- What one round of the law is, in plain words. -/
theorem sync_round {M l : List Fd} (hM : okT 400 M = true) (hl : ∀ f ∈ l, f.two) (h3 : l.length ≤ 3) (hs : sumW M + 33 ≤ 400) :
    ∃ es es2 N, encodedD 400 M l = (es, (400, N), true) ∧ decodedD 400 M es = (l, (400, N), true) ∧ encodedD 400 N l = (es2, (400, N), true) ∧ okT 400 N = true ∧ sumW N ≤ sumW M + 33 ∧ es2.size = l.length ∧ l.length ≤ es.size ∧ es.size ≤ 1500 := by
  have hokl : ∀ f ∈ l, okF f = true := fun f hf => two_ok (hl f hf)
  have hfs : okFs l = true := by simp only [okFs, Bool.and_eq_true, List.all_eq_true, decide_eq_true_eq]; exact ⟨hokl, by omega⟩
  have hw : ∀ f ∈ l, wt f ≤ 11 := fun f hf => by rw [two_wt (hl f hf)]; omega
  have h11 : (11 : Int) * l.length ≤ 33 := by omega
  obtain ⟨g1, g2, g3⟩ := enc_grows (room := 400) (c := 11) l (L := M) hw (by omega) (by omega)
  have hN := encL_ok (room := 400) l hM hokl
  have hE : encodedD 400 M l = ((encL 400 M l).1, (400, (encL 400 M l).2), true) := by simp [encodedD, hM, hfs]
  have hD := law_dec hM hfs
  rw [hE] at hD
  obtain ⟨b1, b2⟩ := enc_again (room := 400) l (L := (encL 400 M l).2) (okT_parts hN).2.2.2.2 g2
  have hE2 : encodedD 400 (encL 400 M l).2 l = ((encL 400 (encL 400 M l).2 l).1, (400, (encL 400 M l).2), true) := by simp [encodedD, hN, hfs, b2]
  have hz := encL_size (room := 400) l M
  exact ⟨_, _, _, hE, hD, hE2, hN, by omega, b1, enc_least l hM hokl, by omega⟩

namespace lawSync
set_option maxHeartbeats 8000000 in
set_option maxRecDepth 100000 in
theorem walk (a : Option Addr) (len cap : Nat) (w : World) (hl : len ≤ maxLen) (hcode : CodeAt w a len w.heap.size) :
    Calls Try.prog 4 #[.slice a len cap] w fun x w' => x = .returned (.bool true) ∧ Below w.heap.size w w' := by
  unfold maxLen at hl
  by_cases hbig : (4096 : Int) < len
  · go_enter Try.func4, Try.ntmps4
    go_wp2_with fail
    refine (big1 a len cap _).mono ?_; rw [decide_eq_true hbig]; rintro x w1 ⟨rfl, rfl⟩
    go_wp2_with fail
    go_ret
    exact ⟨rfl, Below.refl _ _⟩
  have hl' : len ≤ 4096 := by omega
  have HCODE := hide hcode
  clear hcode
  go_enter Try.func4, Try.ntmps4
  go_wp2_with fail
  refine (big1 a len cap _).mono ?_; rw [decide_eq_false (by omega)]; rintro x w0 ⟨rfl, rfl⟩
  go_wp2_with fail
  obtain ⟨V, hV⟩ : ∃ V, (w0.alloc (.cells #[.int .i64 400, .slice none 0 0] 26)).alloc (.cells #[.int .i64 400, .slice none 0 0] 26) = V := ⟨_, rfl⟩
  have HBW : Hid (Below w0.heap.size w0 V) := by show Below _ _ _; rw [← hV]; exact bo_alloc ((Below.refl _ _).alloc (Nat.le_refl _) _) _
  have B3 : Hid (RowIs V w0.heap.size 26 [.int .i64 400, .slice none 0 0]) := by show RowIs _ _ _ _; rw [← hV]; exact (rowIs_new w0 26 [.int .i64 400, .slice none 0 0]).alloc _
  have B4 : Hid (RowIs V (w0.heap.size + 1) 26 [.int .i64 400, .slice none 0 0]) := by show RowIs _ _ _ _; rw [← hV]; simpa using rowIs_new (w0.alloc (.cells #[.int .i64 400, .slice none 0 0] 26)) 26 [.int .i64 400, .slice none 0 0]
  rw [hV]
  clear hV
  go_loopw [5] (fun n wr => ∃ (k : Nat) (M : List Fd) (ax : Option Addr) (px : Nat) (ay : Option Addr) (py : Nat), n = .int .i64 k ∧ k ≤ 4 ∧ okT 400 M = true ∧ sumW M ≤ 33 * (k : Int) ∧ RowIs wr w0.heap.size 26 [.int .i64 400, .slice ax M.length px] ∧ RowIs wr (w0.heap.size + 1) 26 [.int .i64 400, .slice ay M.length py] ∧ wr.ownsRow (w0.heap.size + 1 + 1) 46 2 (.slice ax M.length px) M.length (fv M) ∧ wr.ownsRow (w0.heap.size + 1 + 1) 46 2 (.slice ay M.length py) M.length (fv M) ∧ Below w0.heap.size w0 wr) (fun n _ => 4 - (intOf n).toNat)
  case atStart => exact ⟨0, [], none, 0, none, 0, rfl, by omega, by decide, by simp [sumW], B3.out, B4.out, own_nil _ _ _, own_nil _ _ _, HBW.out⟩
  case round =>
    clear B3 B4 HBW
    obtain ⟨k, M, ax, px, ay, py, rfl, hk, hM, hsum, b3, b4, rx, ry, hbw⟩ := hrel
    have B3 := hide b3; have B4 := hide b4; have RA := hide rx; have RB := hide ry; have HBW := hide hbw
    have hsw := b4.lt
    clear b3 b4 rx ry hbw
    by_cases hk4 : (k : Int) < 4
    · have HMF : Hid (∀ f ∈ M, f.fine) := fun f hf => fine_of ((okT_parts hM).2.2.1 f hf)
      go_wp2_with fail
      obtain ⟨V1, hV1⟩ : ∃ V, wr.alloc (.cells #[] 46) = V := ⟨_, rfl⟩
      have hbV : Below wr.heap.size wr V1 := by rw [← hV1]; exact (Below.refl _ _).alloc (Nat.le_refl _) _
      have hoV : V1.ownsRow wr.heap.size 46 2 (.slice (some ⟨wr.heap.size, 0, none⟩) 0 0) 0 [] := by rw [← hV1]; exact owns_none wr 46
      rw [hV1]
      clear hV1
      go_loopw [6, 7] (fun lst i wq => ∃ (l : List Fd) (la : Option Addr) (lp : Nat), lst = .slice la l.length lp ∧ i = .int .i64 (l.length : Nat) ∧ l.length ≤ 3 ∧ (∀ f ∈ l, f.two) ∧ wq.ownsRow wr.heap.size 46 2 (.slice la l.length lp) l.length (fv l) ∧ Below wr.heap.size wr wq) (fun _ i _ => 3 - (intOf i).toNat)
      case atStart => exact ⟨[], _, _, rfl, rfl, by simp, fun f hf => by simp at hf, hoV, hbV⟩
      case round =>
        clear hoV hbV
        rename_i wq _
        obtain ⟨l, la, lp, rfl, rfl, h3, htwo, hol, hbq⟩ := hrel
        have HTW := hide htwo; have HOL := hide hol; have HBQ := hide hbq
        have hsq := hbq.size
        clear htwo hol hbq
        go_wp2_with fail
        refine (pick1 a len cap _ 3 _ _ hl' (HCODE.out.behind (bchain HBW.out HBQ.out)) (by omega) (by omega) (by omega) (by omega)).mono ?_; rintro x u1 ⟨z, z0, z1, rfl, rfl⟩
        by_cases hlz : (l.length : Int) < 1 + z
        · go_wp2_with fail
          refine (pick1 a len cap _ 3 _ _ hl' (HCODE.out.behind (bchain HBW.out HBQ.out)) (by omega) (by omega) (by omega) (by omega)).mono ?_; rintro x u2 ⟨y, y0, y1, rfl, rfl⟩
          go_wp2_with fail
          refine (digits1 y _ (by omega) (by omega)).mono ?_; rintro x u3 ⟨t1, ht1, rfl, hb3⟩
          replace HOL := hide (owns_new HOL.out hb3); replace HBQ := hide (bchain HBQ.out hb3)
          clear hb3
          go_wp2_with fail
          refine (pick1 a len cap _ 4 _ _ hl' (HCODE.out.behind (bchain HBW.out HBQ.out)) (by omega) (by omega) (by omega) (by omega)).mono ?_; rintro x u4 ⟨x4, x0, x1, rfl, rfl⟩
          go_wp2_with fail
          refine (digits1 x4 _ (by omega) (by omega)).mono ?_; rintro x u5 ⟨t2, ht2, rfl, hb5⟩
          replace HOL := hide (owns_new HOL.out hb5); replace HBQ := hide (bchain HBQ.out hb5)
          clear hb5
          obtain ⟨f, hf⟩ : ∃ f : Fd, f = ⟨⟨#[110]⟩ ++ t1, t2⟩ := ⟨_, rfl⟩
          have hfn : f.two := by rw [hf]; exact ⟨by show ((⟨#[110]⟩ : ByteArray) ++ t1).size = 2; rw [ba_size_append, ht1]; rfl, ht2⟩
          have HTW2 : Hid (∀ u ∈ l ++ [f], u.two) := fun u hu => by
            rcases List.mem_append.1 hu with h | h
            · exact HTW.out u h
            · simp at h; rw [h]; exact hfn
          have hX : Below u5.heap.size u5 (u5.alloc (.cells #[.string f.n, .string f.v] 46)) := (Below.refl _ _).alloc (Nat.le_refl _) _
          have hRd := reads_row1 u5 f
          have hownX := owns_new HOL.out hX
          have hbX := bchain HBQ.out hX
          have hsX := hbX.size
          have e1 : f.n = ⟨#[110]⟩ ++ t1 := by rw [hf]
          have e2 : f.v = t2 := by rw [hf]
          rw [e1, e2] at hRd hownX hbX hsX
          have HF := hide hf
          clear hX e1 e2 hf HBQ HOL
          go_wp2_with (at_builtin; refine wpList_app _ (by rfl) _ _ 24 (by rfl) 46 (.agg #[.string ⟨#[]⟩, .string ⟨#[]⟩]) 2 32 Try.underlying24 (by kernel_rfl) rfl (by decide) wr.heap.size _ l.length (fv l) (by rfl) hownX _ 1 (fv [f]) (by rfl) hRd (fv_one _) (by omega) (by decide) (by omega) ?_)
          intro ad7 cap7 u7 hown7 hg7 hat7
          have HB7 : Hid (Below wr.heap.size wr u7) := hide (hbX.trans ⟨hg7.os, hg7.tape, hg7.output, hg7.size, fun k hk => hg7.block k (Nat.lt_of_lt_of_le hk hbX.size) (fun e => by have := (hownX.lt k e.symm).1; omega)⟩)
          have HO7 := hide hown7
          clear hown7 hg7 hat7 hownX hRd hbX
          go_wp2_with fail
          go_roundw
          case rel =>
            have hlen : (l ++ [f]).length = l.length + 1 := by simp
            refine ⟨l ++ [f], ad7, cap7, ?_⟩
            rw [hlen, fv_app]
            exact ⟨rfl, by go_num, by omega, HTW2.out, HO7.out, HB7.out⟩
          case measure => simp [intOf]; omega
        · obtain ⟨es, es2, N, hE, hDd, hE2, hN, hsN, hz2, hz1, hzs⟩ := sync_round hM HTW.out h3 (by omega)
          have HE := hide hE; have HDD := hide hDd; have HE2 := hide hE2
          have HLF : Hid (∀ f ∈ l, f.fine) := fun f hf => fine_of (two_ok (HTW.out f hf))
          have HNF : Hid (∀ f ∈ N, f.fine) := fun f hf => fine_of ((okT_parts hN).2.2.1 f hf)
          have hsm : es.size ≤ maxLen := by unfold maxLen; omega
          have q1 : ¬ (es.size : Int) < es2.size := by omega
          have q2 : ((es2.size : Int) != (l.length : Int)) = false := by simp; omega
          have hb := HBQ.out
          replace B3 := hide (B3.out.new hb); replace B4 := hide (B4.out.new hb); replace RA := hide (owns_new RA.out hb); replace RB := hide (owns_new RB.out hb); replace HBW := hide (bchain HBW.out hb)
          have RL := HOL
          clear hE hDd hE2 hb HBQ HOL hz2
          have x0 := B3.out.cell (j := 0) rfl
          have x1 := B3.out.cell (j := 1) rfl
          go_wp2_with fail
          clear x0 x1
          have hcl := implEncoded M l 400 _ _ _ (reads_of_owns RA.out) HMF.out (reads_of_owns RL.out) HLF.out
          rw [HE.out] at hcl
          dsimp only at hcl
          refine hcl.mono ?_; clear hcl; rintro x w10 ⟨u10, rfl, ho10, hb10⟩
          obtain ⟨a10, p10, rfl, _⟩ := owns_form ho10
          have hr10 := owns_base (base' := w0.heap.size + 1 + 1) ho10 (fun q hq => by have := (ho10.lt q hq).1; omega)
          clear ho10
          replace B3 := hide (B3.out.new hb10)
          replace B4 := hide (B4.out.new hb10)
          replace RA := hide (owns_new RA.out hb10)
          replace RB := hide (owns_new RB.out hb10)
          replace RL := hide (owns_new RL.out hb10)
          replace HBW := hide (bchain HBW.out hb10)
          have zhb10 := hb10.size
          clear hb10
          have RX := hide hr10
          clear hr10
          obtain ⟨v11, hv11⟩ : ∃ V, w10.alloc (.cells #[.int .i64 400, .slice a10 N.length p10] 26) = V := ⟨_, rfl⟩
          have hbv11 : Below w10.heap.size w10 v11 := by rw [← hv11]; exact (Below.refl _ _).alloc (Nat.le_refl _) _
          have B9 : Hid (RowIs v11 w10.heap.size 26 [.int .i64 400, .slice a10 N.length p10]) := by show RowIs _ _ _ _; rw [← hv11]; exact rowIs_new w10 _ _
          replace B3 := hide (B3.out.new hbv11)
          replace B4 := hide (B4.out.new hbv11)
          replace RA := hide (owns_new RA.out hbv11)
          replace RB := hide (owns_new RB.out hbv11)
          replace RL := hide (owns_new RL.out hbv11)
          replace RX := hide (owns_new RX.out hbv11)
          replace HBW := hide (bchain HBW.out hbv11)
          have zhbv11 := hbv11.size
          clear hbv11
          have x0 := B4.out.cell (j := 0) rfl
          have x1 := B4.out.cell (j := 1) rfl
          go_wp2_with fail
          clear hv11
          clear x0 x1
          have hcl := implDecoded M 400 _ es _ (reads_of_owns RB.out) HMF.out hsm
          rw [HDD.out] at hcl
          dsimp only at hcl
          refine hcl.mono ?_; clear hcl; rintro x w12 ⟨t12, u12, rfl, hk12, ho12, _, hb12⟩
          obtain ⟨a12, p12, rfl, _⟩ := owns_form ho12
          obtain ⟨c12, q12, rfl, _⟩ := owns_form hk12
          have hr12 := owns_base (base' := w0.heap.size + 1 + 1) ho12 (fun q hq => by have := (ho12.lt q hq).1; omega)
          clear ho12
          replace B3 := hide (B3.out.new hb12)
          replace B4 := hide (B4.out.new hb12)
          replace B9 := hide (B9.out.new hb12)
          replace RA := hide (owns_new RA.out hb12)
          replace RB := hide (owns_new RB.out hb12)
          replace RL := hide (owns_new RL.out hb12)
          replace RX := hide (owns_new RX.out hb12)
          replace HBW := hide (bchain HBW.out hb12)
          have zhb12 := hb12.size
          clear hb12
          have RY := hide hr12
          have RU := hide hk12
          clear hr12 hk12
          obtain ⟨v13, hv13⟩ : ∃ V, w12.alloc (.cells #[.int .i64 400, .slice a12 N.length p12] 26) = V := ⟨_, rfl⟩
          have hbv13 : Below w12.heap.size w12 v13 := by rw [← hv13]; exact (Below.refl _ _).alloc (Nat.le_refl _) _
          have B12 : Hid (RowIs v13 w12.heap.size 26 [.int .i64 400, .slice a12 N.length p12]) := by show RowIs _ _ _ _; rw [← hv13]; exact rowIs_new w12 _ _
          replace B3 := hide (B3.out.new hbv13)
          replace B4 := hide (B4.out.new hbv13)
          replace B9 := hide (B9.out.new hbv13)
          replace RA := hide (owns_new RA.out hbv13)
          replace RB := hide (owns_new RB.out hbv13)
          replace RL := hide (owns_new RL.out hbv13)
          replace RX := hide (owns_new RX.out hbv13)
          replace RY := hide (owns_new RY.out hbv13)
          replace RU := hide (owns_new RU.out hbv13)
          replace HBW := hide (bchain HBW.out hbv13)
          have zhbv13 := hbv13.size
          clear hbv13
          have x0 := B3.out.cell (j := 0) rfl
          have x1 := B3.out.cell (j := 1) rfl
          go_wp2_with fail
          clear hv13
          clear x0 x1
          have hcl := specEncoded M l 400 _ _ _ (reads_of_owns RA.out) HMF.out (reads_of_owns RL.out) HLF.out
          rw [HE.out] at hcl
          dsimp only at hcl
          refine hcl.mono ?_; clear hcl; rintro x w14 ⟨u14, rfl, ho14, hb14⟩
          obtain ⟨a14, p14, rfl, _⟩ := owns_form ho14
          have hr14 := owns_base (base' := w0.heap.size + 1 + 1) ho14 (fun q hq => by have := (ho14.lt q hq).1; omega)
          clear ho14
          replace B3 := hide (B3.out.new hb14)
          replace B4 := hide (B4.out.new hb14)
          replace B9 := hide (B9.out.new hb14)
          replace B12 := hide (B12.out.new hb14)
          replace RA := hide (owns_new RA.out hb14)
          replace RB := hide (owns_new RB.out hb14)
          replace RL := hide (owns_new RL.out hb14)
          replace RX := hide (owns_new RX.out hb14)
          replace RY := hide (owns_new RY.out hb14)
          replace RU := hide (owns_new RU.out hb14)
          replace HBW := hide (bchain HBW.out hb14)
          have zhb14 := hb14.size
          clear hb14
          have RZ := hide hr14
          clear hr14
          obtain ⟨v15, hv15⟩ : ∃ V, w14.alloc (.cells #[.int .i64 400, .slice a14 N.length p14] 26) = V := ⟨_, rfl⟩
          have hbv15 : Below w14.heap.size w14 v15 := by rw [← hv15]; exact (Below.refl _ _).alloc (Nat.le_refl _) _
          have B15 : Hid (RowIs v15 w14.heap.size 26 [.int .i64 400, .slice a14 N.length p14]) := by show RowIs _ _ _ _; rw [← hv15]; exact rowIs_new w14 _ _
          replace B3 := hide (B3.out.new hbv15)
          replace B4 := hide (B4.out.new hbv15)
          replace B9 := hide (B9.out.new hbv15)
          replace B12 := hide (B12.out.new hbv15)
          replace RA := hide (owns_new RA.out hbv15)
          replace RB := hide (owns_new RB.out hbv15)
          replace RL := hide (owns_new RL.out hbv15)
          replace RX := hide (owns_new RX.out hbv15)
          replace RY := hide (owns_new RY.out hbv15)
          replace RU := hide (owns_new RU.out hbv15)
          replace RZ := hide (owns_new RZ.out hbv15)
          replace HBW := hide (bchain HBW.out hbv15)
          have zhbv15 := hbv15.size
          clear hbv15
          have x0 := B9.out.cell (j := 0) rfl
          have x1 := B9.out.cell (j := 1) rfl
          have y0 := B15.out.cell (j := 0) rfl
          have y1 := B15.out.cell (j := 1) rfl
          go_wp2_with fail
          clear hv15
          clear x0 x1 y0 y1
          refine (likeTable1 N 400 _ _ _ (reads_of_owns RX.out) (reads_of_owns RZ.out)).mono ?_; rintro x w16 ⟨rfl, hb16⟩
          replace B3 := hide (B3.out.new hb16)
          replace B4 := hide (B4.out.new hb16)
          replace B9 := hide (B9.out.new hb16)
          replace B12 := hide (B12.out.new hb16)
          replace B15 := hide (B15.out.new hb16)
          replace RA := hide (owns_new RA.out hb16)
          replace RB := hide (owns_new RB.out hb16)
          replace RL := hide (owns_new RL.out hb16)
          replace RX := hide (owns_new RX.out hb16)
          replace RY := hide (owns_new RY.out hb16)
          replace RU := hide (owns_new RU.out hb16)
          replace RZ := hide (owns_new RZ.out hb16)
          replace HBW := hide (bchain HBW.out hb16)
          have zhb16 := hb16.size
          clear hb16
          clear B15 RZ RA RB
          go_wp2_with fail
          refine (likeFields1 l _ _ _ (reads_of_owns RU.out) (reads_of_owns RL.out)).mono ?_; rintro x w17 ⟨rfl, hb17⟩
          replace B3 := hide (B3.out.new hb17)
          replace B4 := hide (B4.out.new hb17)
          replace B9 := hide (B9.out.new hb17)
          replace B12 := hide (B12.out.new hb17)
          replace RL := hide (owns_new RL.out hb17)
          replace RX := hide (owns_new RX.out hb17)
          replace RY := hide (owns_new RY.out hb17)
          replace RU := hide (owns_new RU.out hb17)
          replace HBW := hide (bchain HBW.out hb17)
          have zhb17 := hb17.size
          clear hb17
          have x0 := B9.out.cell (j := 0) rfl
          have x1 := B9.out.cell (j := 1) rfl
          have y0 := B12.out.cell (j := 0) rfl
          have y1 := B12.out.cell (j := 1) rfl
          go_wp2_with fail
          clear x0 x1 y0 y1
          refine (likeTable1 N 400 _ _ _ (reads_of_owns RX.out) (reads_of_owns RY.out)).mono ?_; rintro x w18 ⟨rfl, hb18⟩
          replace B3 := hide (B3.out.new hb18)
          replace B4 := hide (B4.out.new hb18)
          replace B9 := hide (B9.out.new hb18)
          replace B12 := hide (B12.out.new hb18)
          replace RL := hide (owns_new RL.out hb18)
          replace RX := hide (owns_new RX.out hb18)
          replace RY := hide (owns_new RY.out hb18)
          replace RU := hide (owns_new RU.out hb18)
          replace HBW := hide (bchain HBW.out hb18)
          have zhb18 := hb18.size
          clear hb18
          clear RU
          have x0 := B9.out.cell (j := 0) rfl
          have x1 := B9.out.cell (j := 1) rfl
          go_wp2_with fail
          clear x0 x1
          have hcl := implEncoded N l 400 _ _ _ (reads_of_owns RX.out) HNF.out (reads_of_owns RL.out) HLF.out
          rw [HE2.out] at hcl
          dsimp only at hcl
          refine hcl.mono ?_; clear hcl; rintro x w19 ⟨u19, rfl, ho19, hb19⟩
          obtain ⟨a19, p19, rfl, _⟩ := owns_form ho19
          have hr19 := owns_base (base' := w0.heap.size + 1 + 1) ho19 (fun q hq => by have := (ho19.lt q hq).1; omega)
          clear ho19
          replace B3 := hide (B3.out.new hb19)
          replace B4 := hide (B4.out.new hb19)
          replace B9 := hide (B9.out.new hb19)
          replace B12 := hide (B12.out.new hb19)
          replace RL := hide (owns_new RL.out hb19)
          replace RX := hide (owns_new RX.out hb19)
          replace RY := hide (owns_new RY.out hb19)
          replace HBW := hide (bchain HBW.out hb19)
          have zhb19 := hb19.size
          clear hb19
          have R18 := hide hr19
          clear hr19
          obtain ⟨v20, hv20⟩ : ∃ V, w19.alloc (.cells #[.int .i64 400, .slice a19 N.length p19] 26) = V := ⟨_, rfl⟩
          have hbv20 : Below w19.heap.size w19 v20 := by rw [← hv20]; exact (Below.refl _ _).alloc (Nat.le_refl _) _
          have B18 : Hid (RowIs v20 w19.heap.size 26 [.int .i64 400, .slice a19 N.length p19]) := by show RowIs _ _ _ _; rw [← hv20]; exact rowIs_new w19 _ _
          replace B3 := hide (B3.out.new hbv20)
          replace B4 := hide (B4.out.new hbv20)
          replace B9 := hide (B9.out.new hbv20)
          replace B12 := hide (B12.out.new hbv20)
          replace RL := hide (owns_new RL.out hbv20)
          replace RX := hide (owns_new RX.out hbv20)
          replace RY := hide (owns_new RY.out hbv20)
          replace R18 := hide (owns_new R18.out hbv20)
          replace HBW := hide (bchain HBW.out hbv20)
          have zhbv20 := hbv20.size
          clear hbv20
          clear R18 B18 RL
          have x0 := B9.out.cell (j := 0) rfl
          have x1 := B9.out.cell (j := 1) rfl
          have y0 := B12.out.cell (j := 0) rfl
          have y1 := B12.out.cell (j := 1) rfl
          have r0 := B3.out.cell (j := 0) rfl
          have r1 := B3.out.cell (j := 1) rfl
          have r2 := B3.out.frozen 0
          have r3 := B3.out.frozen 1
          have s0 := B4.out.cell (j := 0) rfl
          have s1 := B4.out.cell (j := 1) rfl
          have s2 := B4.out.frozen 0
          have s3 := B4.out.frozen 1
          have hn1 : ¬ w10.heap.size = w0.heap.size := by omega
          have hn2 : ¬ w12.heap.size = w0.heap.size := by omega
          have hn3 : ¬ w12.heap.size = w0.heap.size + 1 := by omega
          have hn4 : ¬ w10.heap.size = w0.heap.size + 1 := by omega
          go_wp2_with fail
          clear hv20
          go_roundw
          case rel =>
            have hm1 : (w0.heap.size : Nat) ≠ w0.heap.size + 1 := by omega
            refine ⟨k + 1, N, a10, p10, a12, p12, by go_num, by omega, hN, by omega, ?_, ?_, ?_, ?_, ?_⟩
            · exact (((B3.out.set 0 _).set 1 _).far _ _ (by simp)).far _ _ (by simp)
            · exact (((B4.out.far _ _ (by simp)).far _ _ (by simp)).set 0 _).set 1 _
            · exact owns_far (w0.heap.size + 1 + 1) (owns_far (w0.heap.size + 1 + 1) (owns_far (w0.heap.size + 1 + 1) (owns_far (w0.heap.size + 1 + 1) RX.out (fun q hq => (RX.out.lt q hq).1) _ _ (by show w0.heap.size < w0.heap.size + 1 + 1; omega)) (fun q hq => (RX.out.lt q hq).1) _ _ (by show w0.heap.size < w0.heap.size + 1 + 1; omega)) (fun q hq => (RX.out.lt q hq).1) _ _ (by show w0.heap.size + 1 < w0.heap.size + 1 + 1; omega)) (fun q hq => (RX.out.lt q hq).1) _ _ (by show w0.heap.size + 1 < w0.heap.size + 1 + 1; omega)
            · exact owns_far (w0.heap.size + 1 + 1) (owns_far (w0.heap.size + 1 + 1) (owns_far (w0.heap.size + 1 + 1) (owns_far (w0.heap.size + 1 + 1) RY.out (fun q hq => (RY.out.lt q hq).1) _ _ (by show w0.heap.size < w0.heap.size + 1 + 1; omega)) (fun q hq => (RY.out.lt q hq).1) _ _ (by show w0.heap.size < w0.heap.size + 1 + 1; omega)) (fun q hq => (RY.out.lt q hq).1) _ _ (by show w0.heap.size + 1 < w0.heap.size + 1 + 1; omega)) (fun q hq => (RY.out.lt q hq).1) _ _ (by show w0.heap.size + 1 < w0.heap.size + 1 + 1; omega)
            · exact Below.setCell (Below.setCell (Below.setCell (Below.setCell HBW.out (show w0.heap.size ≤ w0.heap.size by omega) _) (show w0.heap.size ≤ w0.heap.size by omega) _) (show w0.heap.size ≤ w0.heap.size + 1 by omega) _) (show w0.heap.size ≤ w0.heap.size + 1 by omega) _
          case measure => simp [intOf]; omega
    · go_wp2_with fail
      go_ret
      exact ⟨rfl, HBW.out⟩

open Go.ChangeShapes Go.WideShapes Go.ChangeAt Go.Joins
open Go.ChangeMaps (open_string shut_string)


theorem own : ownKnob Try.prog.godebug = none := by kernel_rfl
theorem laidOut : laidOutB Try.prog = true := by kernel_rfl

set_option maxRecDepth 100000 in
theorem lifted (os : Os) (started : os.Started) (H : Type) (enc : TypeId × Value → H) :
    ReturnsInHanded {} Try.checked os 4 .any (Rows.fnSyncSpec.pre6 enc Try.prog Try.f4 Rows.fnSyncRow.domain false) (Rows.fnSyncSpec.post enc Try.prog Try.f4 false true false false) := by
  refine returnsInHanded_of_change (C := Try.checked) own started (by kernel_rfl) Try.func4
    (ChangeSpec.witness6 (enc := enc) (C := Try.checked) false ⟨#[], #[.slice none 0 0], []⟩ 8 (by kernel_rfl) (by kernel_rfl) (by kernel_rfl) (by kernel_rfl)) ?_
  intro W base args ds gs before hval0 hW hcnd _
  have hval : ∀ (j : Nat) t v, Try.f4.params[j]? = some t → args[j]? = some v → Value.okWide Try.prog W .any base t v := hval0
  have hW' := hW
  obtain ⟨p, q, hA0, hV, rfl, hfz, hnd⟩ := hW
  have hA : DataW.TrodAll enc Try.prog W 0 (fun _ => true) true Try.f4.params.toList args.toList ds p := hA0
  rw [Try.params4] at hA hval
  obtain ⟨v0, vs0, d0, ds0, p0, q0, hargs, rfl, rfl, h0, r0⟩ := trodAll_cons hA
  obtain ⟨rfl, rfl, rfl⟩ := trodAll_nil r0
  obtain rfl : args = #[v0] := by cases args; simp_all
  obtain ⟨rfl, rfl⟩ := trodVars_none hV
  have k0 := h0
  have lt0 : ∀ x ∈ p0, x.block < W.heap.size := by obtain ⟨m, hm⟩ := k0; exact DataW.trod_lt m _ _ _ hm
  obtain ⟨a0, len0, cap0, rfl⟩ := okWide_slice Try.underlying22 (hval 0 22 v0 rfl rfl); obtain ⟨hl0, hc0⟩ := open_code h0
  clear hA0 hval0
  refine (walk a0 len0 cap0 W hl0 hc0).mono fun e W' ⟨he, bel⟩ => ?_
  subst he
  exact ⟨_, rfl, _, _, _, [], _, [], hW', trodAll_mk1 (shut_bool Try.underlying4 _), (trodAll_cons_mk (Below.trod laidOut (by kernel_rfl) (of_decide_eq_true (by kernel_rfl)) k0 bel lt0) trodAll_mk0), rfl, bel.frame _, fun h => by cases h⟩

theorem over : Rows.fnSyncRow.holds Try.pinned (OpenSpec.ofChange Rows.fnSyncSpec) :=
  OpenClaim.holds_of_wide 4 Try.f4 rfl rfl rfl rfl rfl rfl rfl ⟨rfl, rfl, rfl, rfl, rfl⟩ rfl rfl rfl rfl rfl (by kernel_rfl) Try.func4 (by kernel_rfl)
    (of_decide_eq_true (by kernel_rfl)) (by unfold Func.isWrapper; first | (rw [if_pos (by decide +kernel)]; kernel_rfl) | (rw [if_neg (by decide +kernel)]; exact ⟨rfl, rfl⟩))
    (fun os started H enc _ => lifted os started H enc)

end lawSync

theorem lawSync_proved : Rows.FnSyncSaid := lawSync.over
#print axioms lawSync_proved
end Go.Proofs.Ytejmnkabmajebaa
