/- The law FnPieces returns true at every argument and leaves it as it was. The listed package-level variables (the program's two errors, package errors' handle of the type error) begin as the program's text lays them: the card ties that. -/
import Derived.Test.YtelcnojmfkoboaaDoorFrDraw2
import Derived.Test.YtelcnojmfkoboaaDoorFrReads
import Derived.Test.YtelcnojmfkoboaaDoorFrSpec
import Derived.Test.YtelcnojmfkoboaaDoorFrLaid
import Derived.Test.YtelcnojmfkoboaaDoorFrLen
import Derived.Test.YtelcnojmfkoboaaDoorSyncDraw
import Derived.Test.YtelcnojmfkoboaaDoorTie
import Derived.Test.YtelcnojmfkoboaaDoorCards
import Derived.WalkKit
import Derived.ProofKit
import Derived.OpenShut
import Derived.ShutString
import Derived.ChangeOld
import Derived.Below
import Derived.Lib.SmallJoins
import Derived.SevenTiedAt


namespace Go.Proofs.YtelcnojmfkoboaaDoor
open Go.RowKit
set_option maxRecDepth 100000
set_option linter.unusedSimpArgs false
set_option linter.unusedVariables false

theorem bysV_some {n c : Int} (h : 0 < (bysV n c).size) : ∃ C : Nat, c = C ∧ 1 ≤ C ∧ C ≤ 4 ∧ 0 ≤ n ∧ n < 256 ^ C ∧ bysV n c = bytV C n := by
  unfold bysV at h ⊢
  split at h
  · rename_i hh
    have h1 := inB_true hh.1
    have h2 := inB_true hh.2
    rw [if_pos hh]
    exact ⟨c.toNat, by omega, by omega, by omega, h2.1, by omega, rfl⟩
  · exact absurd h (Nat.lt_irrefl _)
theorem num_bysV {n c : Int} (h : 0 < (bysV n c).size) : numV (bysV n c) = n := by
  obtain ⟨C, rfl, h1, h2, h3, h4, e⟩ := bysV_some h
  rw [e]; exact law_num h2 h3 h4
theorem bysV_num {s : ByteArray} (h0 : 0 < s.size) (h4 : s.size ≤ 4) : bysV (numV s) s.size = s := by
  have hr := numV_range h4
  rw [bysV_of h0 h4 hr.1 hr.2]; exact law_byt h4

namespace lawPieces
set_option maxHeartbeats 8000000 in
set_option maxRecDepth 100000 in
theorem walk (a : Option Addr) (len cap : Nat) (a0 a2 : Addr) (w : World) (hl : len ≤ maxLen) (hcode : CodeAt w a len w.heap.size) (he : Errs w a0 a2) :
    Calls Tryd.prog 4 #[.slice a len cap] w fun x w' => x = .returned (.bool true) ∧ Below w.heap.size w w' := by
  unfold maxLen at hl
  by_cases hbig : (4096 : Int) < len
  · go_enter Tryd.func4, Tryd.ntmps4
    go_wp2_with fail
    refine (big1 a len cap _).mono ?_; rw [decide_eq_true hbig]; rintro x w1 ⟨rfl, rfl⟩
    go_wp2_with fail
    go_ret
    exact ⟨rfl, Below.refl _ _⟩
  have hl' : len ≤ 4096 := by omega
  have HCODE := hide hcode
  have HE := hide he
  clear hcode he
  go_enter Tryd.func4, Tryd.ntmps4
  go_wp2_with fail
  refine (big1 a len cap _).mono ?_; rw [decide_eq_false (by omega)]; rintro x w0 ⟨rfl, rfl⟩
  have HBW := hide (Below.refl w0.heap.size w0)
  go_wp2_with fail
  refine (drawFrames a len cap _ hl' HCODE.out).mono ?_; rintro x w1 ⟨s, sz, rfl, hb1⟩
  replace HBW := hide (bchain HBW.out hb1)
  clear hb1
  obtain ⟨⟨L, rest, ok⟩, hF⟩ : ∃ F, frmV s = F := ⟨_, rfl⟩
  have hLn := frm_len s.size s (Nat.le_refl _)
  rw [hF] at hLn
  dsimp only at hLn
  have HF := hide hF
  clear hF
  go_wp2_with fail
  have hcl := implFrames s a0 a2 _ (by omega) (HE.out.new HBW.out)
  rw [HF.out] at hcl
  dsimp only at hcl
  refine hcl.mono ?_; clear hcl; rintro x w2 ⟨v2, rfl, ho2, hb2⟩
  obtain ⟨ca2, cp2, rfl, _⟩ := owns_form ho2
  have hr2 := reads_of_owns ho2
  clear ho2
  replace HBW := hide (bchain HBW.out hb2)
  clear hb2
  have RL := hide hr2
  clear hr2
  go_wp2_with fail
  refine (drawNumber a len cap _ hl' (HCODE.out.behind HBW.out)).mono ?_; rintro x w3 ⟨n, nz, rfl, hb3⟩
  replace RL := hide (RL.out.new hb3)
  replace HBW := hide (bchain HBW.out hb3)
  clear hb3
  have hnm : n.size ≤ maxLen := by unfold maxLen; omega
  go_wp2_with fail
  refine (drawBytes a len cap _ hl' (HCODE.out.behind HBW.out)).mono ?_; rintro x w4 ⟨an, bc, rfl, hb4⟩
  replace RL := hide (RL.out.new hb4)
  replace HBW := hide (bchain HBW.out hb4)
  clear hb4
  obtain ⟨t, ht⟩ : ∃ t, bysV an bc = t := ⟨_, rfl⟩
  have HT := hide ht
  have htz : t.size ≤ 4 := by
    rw [← ht]
    unfold bysV
    split
    · rename_i hh; have := inB_true hh.1; rw [bytV_size]; omega
    · exact Nat.zero_le _
  have htm : t.size ≤ maxLen := by unfold maxLen; omega
  have hib := fun w => implBytes an bc w
  have hsb := fun w => specBytes an bc w
  rw [ht] at hib hsb
  clear ht
  obtain ⟨nv, hnv⟩ : ∃ v, numV n = v := ⟨_, rfl⟩
  have hin := fun w => implNumber n w hnm
  have hsn := fun w => specNumber n w hnm
  rw [hnv] at hin hsn
  have HNV := hide hnv
  clear hnv
  go_wp2_with fail
  refine (hib _).mono ?_; rintro x w5 ⟨rfl, hb5⟩
  replace RL := hide (RL.out.new hb5)
  replace HBW := hide (bchain HBW.out hb5)
  clear hb5
  go_wp2_with fail
  have hcl := specFrames s w5 (by omega)
  rw [HF.out] at hcl
  dsimp only at hcl
  refine hcl.mono ?_; clear hcl; rintro x w6 ⟨v6, rfl, ho6, hb6⟩
  obtain ⟨ca6, cp6, rfl, _⟩ := owns_form ho6
  have hr6 := reads_of_owns ho6
  clear ho6
  replace RL := hide (RL.out.new hb6)
  replace HBW := hide (bchain HBW.out hb6)
  clear hb6
  have RM := hide hr6
  clear hr6
  go_wp2_with fail
  refine (likeFrames1 L _ _ _ RL.out RM.out).mono ?_; rintro x w7 ⟨rfl, hb7⟩
  replace RL := hide (RL.out.new hb7)
  replace RM := hide (RM.out.new hb7)
  replace HBW := hide (bchain HBW.out hb7)
  clear hb7
  go_wp2_with fail
  refine (hin _).mono ?_; rintro x w8 ⟨rfl, hsame⟩; obtain rfl := hsame.symm; clear hsame
  go_wp2_with fail
  refine (hsn _).mono ?_; rintro x w9 ⟨rfl, hsame⟩; obtain rfl := hsame.symm; clear hsame
  go_wp2_with fail
  refine (hsb _).mono ?_; rintro x w10 ⟨rfl, hb10⟩
  replace RL := hide (RL.out.new hb10)
  replace RM := hide (RM.out.new hb10)
  replace HBW := hide (bchain HBW.out hb10)
  clear hb10
  by_cases htz0 : t.size = 0
  · have hte : t = ⟨#[]⟩ := ba_empty htz0
    subst hte
    clear htz0
    go_wp2_with fail
    refine (hin _).mono ?_; rintro x w11 ⟨rfl, hsame⟩; obtain rfl := hsame.symm; clear hsame
    by_cases hn5 : 4 < n.size
    · have hv : nv = -1 := by rw [← HNV.out]; exact numV_long hn5
      subst hv
      go_wp2_with fail
      refine (pick1 a len cap 1 _ _ _ hl' (HCODE.out.behind HBW.out) (by omega) (by omega) (by omega) (by omega)).mono ?_; rintro x w12 ⟨z, z0, z1, rfl, hsame⟩; obtain rfl := hsame.symm; clear hsame
      obtain ⟨k, rfl⟩ : ∃ k : Nat, z = k := ⟨z.toNat, by omega⟩
      have hk : k ≤ s.size := by omega
      obtain ⟨p, hp⟩ : ∃ p, s.extract 0 k = p := ⟨_, rfl⟩
      obtain ⟨q, hq⟩ : ∃ q, s.extract k s.size = q := ⟨_, rfl⟩
      have hpq : p ++ q = s := by rw [← hp, ← hq]; exact ba_split s k hk
      have hpz : p.size = k := by rw [← hp, ba_extract_size hk (Nat.zero_le _)]; omega
      have hqz : q.size = s.size - k := by rw [← hq, ba_extract_size (Nat.le_refl _) hk]
      have hslp : ∀ w, (Instr.slice 9 (.string s) none (some (.int .i64 k)) none).run Tryd.prog w = .ok (.string p) w := fun w => by
        rw [run_slice_string_to_if (P := Tryd.prog) w 9 s .i64 k Tryd.underlying9, if_pos ⟨by omega, by omega⟩, Int.toNat_natCast, hp]
      have hslq : ∀ w, (Instr.slice 9 (.string s) (some (.int .i64 k)) none none).run Tryd.prog w = .ok (.string q) w := fun w => by
        rw [run_slice_string_from_if (P := Tryd.prog) w 9 s .i64 k Tryd.underlying9, if_pos ⟨by omega, by omega⟩, Int.toNat_natCast, hq]
      have hlaw := law_pieces p.size p (Nat.le_refl _) q
      rw [hpq, HF.out] at hlaw
      have hxn := frm_len p.size p (Nat.le_refl _)
      obtain ⟨⟨Lx, left, one⟩, hX⟩ : ∃ F, frmV p = F := ⟨_, rfl⟩
      have htold := (law_told p.size p (Nat.le_refl _)).2
      rw [hX] at hlaw hxn htold
      dsimp only at hlaw hxn htold
      have hlz : left.size ≤ 200 := by have := congrArg ByteArray.size htold; rw [ba_size_append] at this; omega
      have HX := hide hX
      have HLAW := hide hlaw
      have hp200 : p.size ≤ 2097152 := by omega
      clear hX hlaw htold hp hq hpq z0 z1
      go_wp2_with fail
      have hcl := implFrames p a0 a2 _ hp200 (HE.out.new HBW.out)
      rw [HX.out] at hcl
      dsimp only at hcl
      refine hcl.mono ?_; clear hcl; rintro x w13 ⟨v13, rfl, ho13, hb13⟩
      obtain ⟨ca13, cp13, rfl, _⟩ := owns_form ho13
      have hr13 := reads_of_owns ho13
      clear ho13
      replace RL := hide (RL.out.new hb13)
      replace RM := hide (RM.out.new hb13)
      replace HBW := hide (bchain HBW.out hb13)
      clear hb13
      have RX := hide hr13
      clear hr13
      cases one
      · have hl1 := HLAW.out.2 rfl
        simp only [Prod.mk.injEq] at hl1
        obtain ⟨rfl, _, rfl⟩ := hl1
        go_wp2_with fail
        refine (likeFrames1 L _ _ _ RX.out RL.out).mono ?_; rintro x w14 ⟨rfl, hb14⟩
        replace RL := hide (RL.out.new hb14)
        replace RM := hide (RM.out.new hb14)
        replace RX := hide (RX.out.new hb14)
        replace HBW := hide (bchain HBW.out hb14)
        clear hb14
        go_wp2_with fail
        go_ret
        exact ⟨rfl, HBW.out⟩
      · have hl1 := HLAW.out.1 rfl
        obtain ⟨⟨Ly, r2, two⟩, hY⟩ : ∃ F, frmV (left ++ q) = F := ⟨_, rfl⟩
        rw [hY] at hl1
        dsimp only at hl1
        simp only [Prod.mk.injEq] at hl1
        obtain ⟨hLxy, rfl, rfl⟩ := hl1
        have HY := hide hY
        have HLXY := hide hLxy
        have hyn := congrArg List.length hLxy
        rw [List.length_append] at hyn
        have hyn1 : Lx.length ≤ 200 := by omega
        have hyn2 : Ly.length ≤ 200 := by omega
        have hs1 : ¬ 9223372036854775807 < left.size + q.size := by omega
        have hq200 : (left ++ q).size ≤ 2097152 := by rw [ba_size_append]; omega
        have hyn3 : Lx.length + Ly.length = L.length := by omega
        clear hY hLxy hyn
        go_wp2_with fail
        have hcl := implFrames (left ++ q) a0 a2 _ hq200 (HE.out.new HBW.out)
        rw [HY.out] at hcl
        dsimp only at hcl
        refine hcl.mono ?_; clear hcl; rintro x w14 ⟨v14, rfl, ho14, hb14⟩
        obtain ⟨ca14, cp14, rfl, _⟩ := owns_form ho14
        have hr14 := reads_of_owns ho14
        clear ho14
        replace RL := hide (RL.out.new hb14)
        replace RM := hide (RM.out.new hb14)
        replace RX := hide (RX.out.new hb14)
        replace HBW := hide (bchain HBW.out hb14)
        clear hb14
        have RY := hide hr14
        clear hr14
        obtain ⟨V, hV⟩ : ∃ V, w14.alloc (.cells #[] 29) = V := ⟨_, rfl⟩
        have hbV : Below w14.heap.size w14 V := by rw [← hV]; exact (Below.refl _ _).alloc (Nat.le_refl _) _
        have HN0 : Hid (V.ownsRow w14.heap.size 29 4 (.slice (some ⟨w14.heap.size, 0, none⟩) 0 0) 0 []) := by show World.ownsRow _ _ _ _ _ _ _; rw [← hV]; exact owns_empty w14
        have B0 := hide hbV
        have hzV := hbV.size
        have HBWV := hide (bchain HBW.out hbV)
        clear hbV
        go_wp2_with (at_builtin; refine wpList_app _ (by rfl) _ _ 25 (by rfl) 29 (.agg #[.int .i64 0, .int .i64 0, .int .i64 0, .string ⟨#[]⟩]) 4 40 Tryd.underlying25 (by kernel_rfl) rfl (by decide) w14.heap.size _ 0 [] (by rfl) HN0.out _ Lx.length (fr Lx) (by rfl) (RX.out.new B0.out) (fr_one Lx) (by omega) (by decide) hzV ?_)
        intro ad1 cap1 u1 hown1 hgrow1 hat1
        clear hat1 hV
        have B1 := hide (B0.out.grown hgrow1 hzV (fun y hy => (HN0.out.lt y hy).1))
        have HN1 := hide hown1
        have hz1 := B1.out.size
        clear hown1 hgrow1 HN0 B0
        go_wp2_with (at_builtin; refine wpList_app _ (by rfl) _ _ 25 (by rfl) 29 (.agg #[.int .i64 0, .int .i64 0, .int .i64 0, .string ⟨#[]⟩]) 4 40 Tryd.underlying25 (by kernel_rfl) rfl (by decide) w14.heap.size _ Lx.length (fr Lx) (by rfl) HN1.out _ Ly.length (fr Ly) (by rfl) (RY.out.new B1.out) (fr_one Ly) (by omega) (by decide) hz1 ?_)
        intro ad2 cap2 u2 hown2 hgrow2 hat2
        clear hat2
        rw [← fr_app, ← HLXY.out] at hown2
        have B2 := hide (B1.out.grown hgrow2 hz1 (fun y hy => (HN1.out.lt y hy).1))
        have RN := hide (reads_of_owns hown2)
        clear hown2 hgrow2 HN1 B1
        replace HBW := hide (bchain HBW.out B2.out)
        go_wp2_with fail
        refine (likeFrames1 L _ _ _ RN.out (RL.out.new B2.out)).mono ?_; rintro x u3 ⟨rfl, hb3⟩
        replace HBW := hide (bchain HBW.out hb3)
        go_wp2_with fail
        go_ret
        exact ⟨by simp, HBW.out⟩
    · have hnr := numV_range (s := n) (by omega)
      rw [HNV.out] at hnr
      have hn0 : 0 ≤ nv := hnr.1
      clear hnr
      by_cases hnz : n.size = 0
      · have hne : n = ⟨#[]⟩ := ba_empty hnz
        subst hne
        clear hnz hn5
        go_wp2_with fail
        refine (pick1 a len cap 1 _ _ _ hl' (HCODE.out.behind HBW.out) (by omega) (by omega) (by omega) (by omega)).mono ?_; rintro x w12 ⟨z, z0, z1, rfl, hsame⟩; obtain rfl := hsame.symm; clear hsame
        obtain ⟨k, rfl⟩ : ∃ k : Nat, z = k := ⟨z.toNat, by omega⟩
        have hk : k ≤ s.size := by omega
        obtain ⟨p, hp⟩ : ∃ p, s.extract 0 k = p := ⟨_, rfl⟩
        obtain ⟨q, hq⟩ : ∃ q, s.extract k s.size = q := ⟨_, rfl⟩
        have hpq : p ++ q = s := by rw [← hp, ← hq]; exact ba_split s k hk
        have hpz : p.size = k := by rw [← hp, ba_extract_size hk (Nat.zero_le _)]; omega
        have hqz : q.size = s.size - k := by rw [← hq, ba_extract_size (Nat.le_refl _) hk]
        have hslp : ∀ w, (Instr.slice 9 (.string s) none (some (.int .i64 k)) none).run Tryd.prog w = .ok (.string p) w := fun w => by
          rw [run_slice_string_to_if (P := Tryd.prog) w 9 s .i64 k Tryd.underlying9, if_pos ⟨by omega, by omega⟩, Int.toNat_natCast, hp]
        have hslq : ∀ w, (Instr.slice 9 (.string s) (some (.int .i64 k)) none none).run Tryd.prog w = .ok (.string q) w := fun w => by
          rw [run_slice_string_from_if (P := Tryd.prog) w 9 s .i64 k Tryd.underlying9, if_pos ⟨by omega, by omega⟩, Int.toNat_natCast, hq]
        have hlaw := law_pieces p.size p (Nat.le_refl _) q
        rw [hpq, HF.out] at hlaw
        have hxn := frm_len p.size p (Nat.le_refl _)
        obtain ⟨⟨Lx, left, one⟩, hX⟩ : ∃ F, frmV p = F := ⟨_, rfl⟩
        have htold := (law_told p.size p (Nat.le_refl _)).2
        rw [hX] at hlaw hxn htold
        dsimp only at hlaw hxn htold
        have hlz : left.size ≤ 200 := by have := congrArg ByteArray.size htold; rw [ba_size_append] at this; omega
        have HX := hide hX
        have HLAW := hide hlaw
        have hp200 : p.size ≤ 2097152 := by omega
        clear hX hlaw htold hp hq hpq z0 z1
        go_wp2_with fail
        have hcl := implFrames p a0 a2 _ hp200 (HE.out.new HBW.out)
        rw [HX.out] at hcl
        dsimp only at hcl
        refine hcl.mono ?_; clear hcl; rintro x w13 ⟨v13, rfl, ho13, hb13⟩
        obtain ⟨ca13, cp13, rfl, _⟩ := owns_form ho13
        have hr13 := reads_of_owns ho13
        clear ho13
        replace RL := hide (RL.out.new hb13)
        replace RM := hide (RM.out.new hb13)
        replace HBW := hide (bchain HBW.out hb13)
        clear hb13
        have RX := hide hr13
        clear hr13
        cases one
        · have hl1 := HLAW.out.2 rfl
          simp only [Prod.mk.injEq] at hl1
          obtain ⟨rfl, _, rfl⟩ := hl1
          go_wp2_with fail
          refine (likeFrames1 L _ _ _ RX.out RL.out).mono ?_; rintro x w14 ⟨rfl, hb14⟩
          replace RL := hide (RL.out.new hb14)
          replace RM := hide (RM.out.new hb14)
          replace RX := hide (RX.out.new hb14)
          replace HBW := hide (bchain HBW.out hb14)
          clear hb14
          go_wp2_with fail
          go_ret
          exact ⟨rfl, HBW.out⟩
        · have hl1 := HLAW.out.1 rfl
          obtain ⟨⟨Ly, r2, two⟩, hY⟩ : ∃ F, frmV (left ++ q) = F := ⟨_, rfl⟩
          rw [hY] at hl1
          dsimp only at hl1
          simp only [Prod.mk.injEq] at hl1
          obtain ⟨hLxy, rfl, rfl⟩ := hl1
          have HY := hide hY
          have HLXY := hide hLxy
          have hyn := congrArg List.length hLxy
          rw [List.length_append] at hyn
          have hyn1 : Lx.length ≤ 200 := by omega
          have hyn2 : Ly.length ≤ 200 := by omega
          have hs1 : ¬ 9223372036854775807 < left.size + q.size := by omega
          have hq200 : (left ++ q).size ≤ 2097152 := by rw [ba_size_append]; omega
          have hyn3 : Lx.length + Ly.length = L.length := by omega
          clear hY hLxy hyn
          go_wp2_with fail
          have hcl := implFrames (left ++ q) a0 a2 _ hq200 (HE.out.new HBW.out)
          rw [HY.out] at hcl
          dsimp only at hcl
          refine hcl.mono ?_; clear hcl; rintro x w14 ⟨v14, rfl, ho14, hb14⟩
          obtain ⟨ca14, cp14, rfl, _⟩ := owns_form ho14
          have hr14 := reads_of_owns ho14
          clear ho14
          replace RL := hide (RL.out.new hb14)
          replace RM := hide (RM.out.new hb14)
          replace RX := hide (RX.out.new hb14)
          replace HBW := hide (bchain HBW.out hb14)
          clear hb14
          have RY := hide hr14
          clear hr14
          obtain ⟨V, hV⟩ : ∃ V, w14.alloc (.cells #[] 29) = V := ⟨_, rfl⟩
          have hbV : Below w14.heap.size w14 V := by rw [← hV]; exact (Below.refl _ _).alloc (Nat.le_refl _) _
          have HN0 : Hid (V.ownsRow w14.heap.size 29 4 (.slice (some ⟨w14.heap.size, 0, none⟩) 0 0) 0 []) := by show World.ownsRow _ _ _ _ _ _ _; rw [← hV]; exact owns_empty w14
          have B0 := hide hbV
          have hzV := hbV.size
          have HBWV := hide (bchain HBW.out hbV)
          clear hbV
          go_wp2_with (at_builtin; refine wpList_app _ (by rfl) _ _ 25 (by rfl) 29 (.agg #[.int .i64 0, .int .i64 0, .int .i64 0, .string ⟨#[]⟩]) 4 40 Tryd.underlying25 (by kernel_rfl) rfl (by decide) w14.heap.size _ 0 [] (by rfl) HN0.out _ Lx.length (fr Lx) (by rfl) (RX.out.new B0.out) (fr_one Lx) (by omega) (by decide) hzV ?_)
          intro ad1 cap1 u1 hown1 hgrow1 hat1
          clear hat1 hV
          have B1 := hide (B0.out.grown hgrow1 hzV (fun y hy => (HN0.out.lt y hy).1))
          have HN1 := hide hown1
          have hz1 := B1.out.size
          clear hown1 hgrow1 HN0 B0
          go_wp2_with (at_builtin; refine wpList_app _ (by rfl) _ _ 25 (by rfl) 29 (.agg #[.int .i64 0, .int .i64 0, .int .i64 0, .string ⟨#[]⟩]) 4 40 Tryd.underlying25 (by kernel_rfl) rfl (by decide) w14.heap.size _ Lx.length (fr Lx) (by rfl) HN1.out _ Ly.length (fr Ly) (by rfl) (RY.out.new B1.out) (fr_one Ly) (by omega) (by decide) hz1 ?_)
          intro ad2 cap2 u2 hown2 hgrow2 hat2
          clear hat2
          rw [← fr_app, ← HLXY.out] at hown2
          have B2 := hide (B1.out.grown hgrow2 hz1 (fun y hy => (HN1.out.lt y hy).1))
          have RN := hide (reads_of_owns hown2)
          clear hown2 hgrow2 HN1 B1
          replace HBW := hide (bchain HBW.out B2.out)
          go_wp2_with fail
          refine (likeFrames1 L _ _ _ RN.out (RL.out.new B2.out)).mono ?_; rintro x u3 ⟨rfl, hb3⟩
          replace HBW := hide (bchain HBW.out hb3)
          go_wp2_with fail
          go_ret
          exact ⟨by simp, HBW.out⟩
      · have hnl := list_ne (s := n) (by omega)
        have hnl2 := list_isEmpty (s := n) (by omega)
        have hbn := fun w => implBytes nv n.size w
        have e := bysV_num (s := n) (by omega) (by omega)
        rw [HNV.out] at e
        rw [e] at hbn
        clear e
        go_wp2_with fail
        refine (hbn _).mono ?_; rintro x w12 ⟨rfl, hb12⟩
        replace RL := hide (RL.out.new hb12)
        replace RM := hide (RM.out.new hb12)
        replace HBW := hide (bchain HBW.out hb12)
        clear hb12
        clear hbn
        go_wp2_with fail
        refine (pick1 a len cap 1 _ _ _ hl' (HCODE.out.behind HBW.out) (by omega) (by omega) (by omega) (by omega)).mono ?_; rintro x w13 ⟨z, z0, z1, rfl, hsame⟩; obtain rfl := hsame.symm; clear hsame
        obtain ⟨k, rfl⟩ : ∃ k : Nat, z = k := ⟨z.toNat, by omega⟩
        have hk : k ≤ s.size := by omega
        obtain ⟨p, hp⟩ : ∃ p, s.extract 0 k = p := ⟨_, rfl⟩
        obtain ⟨q, hq⟩ : ∃ q, s.extract k s.size = q := ⟨_, rfl⟩
        have hpq : p ++ q = s := by rw [← hp, ← hq]; exact ba_split s k hk
        have hpz : p.size = k := by rw [← hp, ba_extract_size hk (Nat.zero_le _)]; omega
        have hqz : q.size = s.size - k := by rw [← hq, ba_extract_size (Nat.le_refl _) hk]
        have hslp : ∀ w, (Instr.slice 9 (.string s) none (some (.int .i64 k)) none).run Tryd.prog w = .ok (.string p) w := fun w => by
          rw [run_slice_string_to_if (P := Tryd.prog) w 9 s .i64 k Tryd.underlying9, if_pos ⟨by omega, by omega⟩, Int.toNat_natCast, hp]
        have hslq : ∀ w, (Instr.slice 9 (.string s) (some (.int .i64 k)) none none).run Tryd.prog w = .ok (.string q) w := fun w => by
          rw [run_slice_string_from_if (P := Tryd.prog) w 9 s .i64 k Tryd.underlying9, if_pos ⟨by omega, by omega⟩, Int.toNat_natCast, hq]
        have hlaw := law_pieces p.size p (Nat.le_refl _) q
        rw [hpq, HF.out] at hlaw
        have hxn := frm_len p.size p (Nat.le_refl _)
        obtain ⟨⟨Lx, left, one⟩, hX⟩ : ∃ F, frmV p = F := ⟨_, rfl⟩
        have htold := (law_told p.size p (Nat.le_refl _)).2
        rw [hX] at hlaw hxn htold
        dsimp only at hlaw hxn htold
        have hlz : left.size ≤ 200 := by have := congrArg ByteArray.size htold; rw [ba_size_append] at this; omega
        have HX := hide hX
        have HLAW := hide hlaw
        have hp200 : p.size ≤ 2097152 := by omega
        clear hX hlaw htold hp hq hpq z0 z1
        go_wp2_with fail
        have hcl := implFrames p a0 a2 _ hp200 (HE.out.new HBW.out)
        rw [HX.out] at hcl
        dsimp only at hcl
        refine hcl.mono ?_; clear hcl; rintro x w14 ⟨v14, rfl, ho14, hb14⟩
        obtain ⟨ca14, cp14, rfl, _⟩ := owns_form ho14
        have hr14 := reads_of_owns ho14
        clear ho14
        replace RL := hide (RL.out.new hb14)
        replace RM := hide (RM.out.new hb14)
        replace HBW := hide (bchain HBW.out hb14)
        clear hb14
        have RX := hide hr14
        clear hr14
        cases one
        · have hl1 := HLAW.out.2 rfl
          simp only [Prod.mk.injEq] at hl1
          obtain ⟨rfl, _, rfl⟩ := hl1
          go_wp2_with fail
          refine (likeFrames1 L _ _ _ RX.out RL.out).mono ?_; rintro x w15 ⟨rfl, hb15⟩
          replace RL := hide (RL.out.new hb15)
          replace RM := hide (RM.out.new hb15)
          replace RX := hide (RX.out.new hb15)
          replace HBW := hide (bchain HBW.out hb15)
          clear hb15
          go_wp2_with fail
          go_ret
          exact ⟨rfl, HBW.out⟩
        · have hl1 := HLAW.out.1 rfl
          obtain ⟨⟨Ly, r2, two⟩, hY⟩ : ∃ F, frmV (left ++ q) = F := ⟨_, rfl⟩
          rw [hY] at hl1
          dsimp only at hl1
          simp only [Prod.mk.injEq] at hl1
          obtain ⟨hLxy, rfl, rfl⟩ := hl1
          have HY := hide hY
          have HLXY := hide hLxy
          have hyn := congrArg List.length hLxy
          rw [List.length_append] at hyn
          have hyn1 : Lx.length ≤ 200 := by omega
          have hyn2 : Ly.length ≤ 200 := by omega
          have hs1 : ¬ 9223372036854775807 < left.size + q.size := by omega
          have hq200 : (left ++ q).size ≤ 2097152 := by rw [ba_size_append]; omega
          have hyn3 : Lx.length + Ly.length = L.length := by omega
          clear hY hLxy hyn
          go_wp2_with fail
          have hcl := implFrames (left ++ q) a0 a2 _ hq200 (HE.out.new HBW.out)
          rw [HY.out] at hcl
          dsimp only at hcl
          refine hcl.mono ?_; clear hcl; rintro x w15 ⟨v15, rfl, ho15, hb15⟩
          obtain ⟨ca15, cp15, rfl, _⟩ := owns_form ho15
          have hr15 := reads_of_owns ho15
          clear ho15
          replace RL := hide (RL.out.new hb15)
          replace RM := hide (RM.out.new hb15)
          replace RX := hide (RX.out.new hb15)
          replace HBW := hide (bchain HBW.out hb15)
          clear hb15
          have RY := hide hr15
          clear hr15
          obtain ⟨V, hV⟩ : ∃ V, w15.alloc (.cells #[] 29) = V := ⟨_, rfl⟩
          have hbV : Below w15.heap.size w15 V := by rw [← hV]; exact (Below.refl _ _).alloc (Nat.le_refl _) _
          have HN0 : Hid (V.ownsRow w15.heap.size 29 4 (.slice (some ⟨w15.heap.size, 0, none⟩) 0 0) 0 []) := by show World.ownsRow _ _ _ _ _ _ _; rw [← hV]; exact owns_empty w15
          have B0 := hide hbV
          have hzV := hbV.size
          have HBWV := hide (bchain HBW.out hbV)
          clear hbV
          go_wp2_with (at_builtin; refine wpList_app _ (by rfl) _ _ 25 (by rfl) 29 (.agg #[.int .i64 0, .int .i64 0, .int .i64 0, .string ⟨#[]⟩]) 4 40 Tryd.underlying25 (by kernel_rfl) rfl (by decide) w15.heap.size _ 0 [] (by rfl) HN0.out _ Lx.length (fr Lx) (by rfl) (RX.out.new B0.out) (fr_one Lx) (by omega) (by decide) hzV ?_)
          intro ad1 cap1 u1 hown1 hgrow1 hat1
          clear hat1 hV
          have B1 := hide (B0.out.grown hgrow1 hzV (fun y hy => (HN0.out.lt y hy).1))
          have HN1 := hide hown1
          have hz1 := B1.out.size
          clear hown1 hgrow1 HN0 B0
          go_wp2_with (at_builtin; refine wpList_app _ (by rfl) _ _ 25 (by rfl) 29 (.agg #[.int .i64 0, .int .i64 0, .int .i64 0, .string ⟨#[]⟩]) 4 40 Tryd.underlying25 (by kernel_rfl) rfl (by decide) w15.heap.size _ Lx.length (fr Lx) (by rfl) HN1.out _ Ly.length (fr Ly) (by rfl) (RY.out.new B1.out) (fr_one Ly) (by omega) (by decide) hz1 ?_)
          intro ad2 cap2 u2 hown2 hgrow2 hat2
          clear hat2
          rw [← fr_app, ← HLXY.out] at hown2
          have B2 := hide (B1.out.grown hgrow2 hz1 (fun y hy => (HN1.out.lt y hy).1))
          have RN := hide (reads_of_owns hown2)
          clear hown2 hgrow2 HN1 B1
          replace HBW := hide (bchain HBW.out B2.out)
          go_wp2_with fail
          refine (likeFrames1 L _ _ _ RN.out (RL.out.new B2.out)).mono ?_; rintro x u3 ⟨rfl, hb3⟩
          replace HBW := hide (bchain HBW.out hb3)
          go_wp2_with fail
          go_ret
          exact ⟨by simp, HBW.out⟩
  · have htl := list_ne (s := t) (by omega)
    have htl2 := list_isEmpty (s := t) (by omega)
    have hnt := fun w => implNumber t w htm
    have e := num_bysV (n := an) (c := bc) (by rw [HT.out]; omega)
    rw [HT.out] at e
    rw [e] at hnt
    clear e
    go_wp2_with fail
    refine (hnt _).mono ?_; rintro x w11 ⟨rfl, hsame⟩; obtain rfl := hsame.symm; clear hsame
    clear hnt
    go_wp2_with fail
    refine (hin _).mono ?_; rintro x w12 ⟨rfl, hsame⟩; obtain rfl := hsame.symm; clear hsame
    by_cases hn5 : 4 < n.size
    · have hv : nv = -1 := by rw [← HNV.out]; exact numV_long hn5
      subst hv
      go_wp2_with fail
      refine (pick1 a len cap 1 _ _ _ hl' (HCODE.out.behind HBW.out) (by omega) (by omega) (by omega) (by omega)).mono ?_; rintro x w13 ⟨z, z0, z1, rfl, hsame⟩; obtain rfl := hsame.symm; clear hsame
      obtain ⟨k, rfl⟩ : ∃ k : Nat, z = k := ⟨z.toNat, by omega⟩
      have hk : k ≤ s.size := by omega
      obtain ⟨p, hp⟩ : ∃ p, s.extract 0 k = p := ⟨_, rfl⟩
      obtain ⟨q, hq⟩ : ∃ q, s.extract k s.size = q := ⟨_, rfl⟩
      have hpq : p ++ q = s := by rw [← hp, ← hq]; exact ba_split s k hk
      have hpz : p.size = k := by rw [← hp, ba_extract_size hk (Nat.zero_le _)]; omega
      have hqz : q.size = s.size - k := by rw [← hq, ba_extract_size (Nat.le_refl _) hk]
      have hslp : ∀ w, (Instr.slice 9 (.string s) none (some (.int .i64 k)) none).run Tryd.prog w = .ok (.string p) w := fun w => by
        rw [run_slice_string_to_if (P := Tryd.prog) w 9 s .i64 k Tryd.underlying9, if_pos ⟨by omega, by omega⟩, Int.toNat_natCast, hp]
      have hslq : ∀ w, (Instr.slice 9 (.string s) (some (.int .i64 k)) none none).run Tryd.prog w = .ok (.string q) w := fun w => by
        rw [run_slice_string_from_if (P := Tryd.prog) w 9 s .i64 k Tryd.underlying9, if_pos ⟨by omega, by omega⟩, Int.toNat_natCast, hq]
      have hlaw := law_pieces p.size p (Nat.le_refl _) q
      rw [hpq, HF.out] at hlaw
      have hxn := frm_len p.size p (Nat.le_refl _)
      obtain ⟨⟨Lx, left, one⟩, hX⟩ : ∃ F, frmV p = F := ⟨_, rfl⟩
      have htold := (law_told p.size p (Nat.le_refl _)).2
      rw [hX] at hlaw hxn htold
      dsimp only at hlaw hxn htold
      have hlz : left.size ≤ 200 := by have := congrArg ByteArray.size htold; rw [ba_size_append] at this; omega
      have HX := hide hX
      have HLAW := hide hlaw
      have hp200 : p.size ≤ 2097152 := by omega
      clear hX hlaw htold hp hq hpq z0 z1
      go_wp2_with fail
      have hcl := implFrames p a0 a2 _ hp200 (HE.out.new HBW.out)
      rw [HX.out] at hcl
      dsimp only at hcl
      refine hcl.mono ?_; clear hcl; rintro x w14 ⟨v14, rfl, ho14, hb14⟩
      obtain ⟨ca14, cp14, rfl, _⟩ := owns_form ho14
      have hr14 := reads_of_owns ho14
      clear ho14
      replace RL := hide (RL.out.new hb14)
      replace RM := hide (RM.out.new hb14)
      replace HBW := hide (bchain HBW.out hb14)
      clear hb14
      have RX := hide hr14
      clear hr14
      cases one
      · have hl1 := HLAW.out.2 rfl
        simp only [Prod.mk.injEq] at hl1
        obtain ⟨rfl, _, rfl⟩ := hl1
        go_wp2_with fail
        refine (likeFrames1 L _ _ _ RX.out RL.out).mono ?_; rintro x w15 ⟨rfl, hb15⟩
        replace RL := hide (RL.out.new hb15)
        replace RM := hide (RM.out.new hb15)
        replace RX := hide (RX.out.new hb15)
        replace HBW := hide (bchain HBW.out hb15)
        clear hb15
        go_wp2_with fail
        go_ret
        exact ⟨rfl, HBW.out⟩
      · have hl1 := HLAW.out.1 rfl
        obtain ⟨⟨Ly, r2, two⟩, hY⟩ : ∃ F, frmV (left ++ q) = F := ⟨_, rfl⟩
        rw [hY] at hl1
        dsimp only at hl1
        simp only [Prod.mk.injEq] at hl1
        obtain ⟨hLxy, rfl, rfl⟩ := hl1
        have HY := hide hY
        have HLXY := hide hLxy
        have hyn := congrArg List.length hLxy
        rw [List.length_append] at hyn
        have hyn1 : Lx.length ≤ 200 := by omega
        have hyn2 : Ly.length ≤ 200 := by omega
        have hs1 : ¬ 9223372036854775807 < left.size + q.size := by omega
        have hq200 : (left ++ q).size ≤ 2097152 := by rw [ba_size_append]; omega
        have hyn3 : Lx.length + Ly.length = L.length := by omega
        clear hY hLxy hyn
        go_wp2_with fail
        have hcl := implFrames (left ++ q) a0 a2 _ hq200 (HE.out.new HBW.out)
        rw [HY.out] at hcl
        dsimp only at hcl
        refine hcl.mono ?_; clear hcl; rintro x w15 ⟨v15, rfl, ho15, hb15⟩
        obtain ⟨ca15, cp15, rfl, _⟩ := owns_form ho15
        have hr15 := reads_of_owns ho15
        clear ho15
        replace RL := hide (RL.out.new hb15)
        replace RM := hide (RM.out.new hb15)
        replace RX := hide (RX.out.new hb15)
        replace HBW := hide (bchain HBW.out hb15)
        clear hb15
        have RY := hide hr15
        clear hr15
        obtain ⟨V, hV⟩ : ∃ V, w15.alloc (.cells #[] 29) = V := ⟨_, rfl⟩
        have hbV : Below w15.heap.size w15 V := by rw [← hV]; exact (Below.refl _ _).alloc (Nat.le_refl _) _
        have HN0 : Hid (V.ownsRow w15.heap.size 29 4 (.slice (some ⟨w15.heap.size, 0, none⟩) 0 0) 0 []) := by show World.ownsRow _ _ _ _ _ _ _; rw [← hV]; exact owns_empty w15
        have B0 := hide hbV
        have hzV := hbV.size
        have HBWV := hide (bchain HBW.out hbV)
        clear hbV
        go_wp2_with (at_builtin; refine wpList_app _ (by rfl) _ _ 25 (by rfl) 29 (.agg #[.int .i64 0, .int .i64 0, .int .i64 0, .string ⟨#[]⟩]) 4 40 Tryd.underlying25 (by kernel_rfl) rfl (by decide) w15.heap.size _ 0 [] (by rfl) HN0.out _ Lx.length (fr Lx) (by rfl) (RX.out.new B0.out) (fr_one Lx) (by omega) (by decide) hzV ?_)
        intro ad1 cap1 u1 hown1 hgrow1 hat1
        clear hat1 hV
        have B1 := hide (B0.out.grown hgrow1 hzV (fun y hy => (HN0.out.lt y hy).1))
        have HN1 := hide hown1
        have hz1 := B1.out.size
        clear hown1 hgrow1 HN0 B0
        go_wp2_with (at_builtin; refine wpList_app _ (by rfl) _ _ 25 (by rfl) 29 (.agg #[.int .i64 0, .int .i64 0, .int .i64 0, .string ⟨#[]⟩]) 4 40 Tryd.underlying25 (by kernel_rfl) rfl (by decide) w15.heap.size _ Lx.length (fr Lx) (by rfl) HN1.out _ Ly.length (fr Ly) (by rfl) (RY.out.new B1.out) (fr_one Ly) (by omega) (by decide) hz1 ?_)
        intro ad2 cap2 u2 hown2 hgrow2 hat2
        clear hat2
        rw [← fr_app, ← HLXY.out] at hown2
        have B2 := hide (B1.out.grown hgrow2 hz1 (fun y hy => (HN1.out.lt y hy).1))
        have RN := hide (reads_of_owns hown2)
        clear hown2 hgrow2 HN1 B1
        replace HBW := hide (bchain HBW.out B2.out)
        go_wp2_with fail
        refine (likeFrames1 L _ _ _ RN.out (RL.out.new B2.out)).mono ?_; rintro x u3 ⟨rfl, hb3⟩
        replace HBW := hide (bchain HBW.out hb3)
        go_wp2_with fail
        go_ret
        exact ⟨by simp, HBW.out⟩
    · have hnr := numV_range (s := n) (by omega)
      rw [HNV.out] at hnr
      have hn0 : 0 ≤ nv := hnr.1
      clear hnr
      by_cases hnz : n.size = 0
      · have hne : n = ⟨#[]⟩ := ba_empty hnz
        subst hne
        clear hnz hn5
        go_wp2_with fail
        refine (pick1 a len cap 1 _ _ _ hl' (HCODE.out.behind HBW.out) (by omega) (by omega) (by omega) (by omega)).mono ?_; rintro x w13 ⟨z, z0, z1, rfl, hsame⟩; obtain rfl := hsame.symm; clear hsame
        obtain ⟨k, rfl⟩ : ∃ k : Nat, z = k := ⟨z.toNat, by omega⟩
        have hk : k ≤ s.size := by omega
        obtain ⟨p, hp⟩ : ∃ p, s.extract 0 k = p := ⟨_, rfl⟩
        obtain ⟨q, hq⟩ : ∃ q, s.extract k s.size = q := ⟨_, rfl⟩
        have hpq : p ++ q = s := by rw [← hp, ← hq]; exact ba_split s k hk
        have hpz : p.size = k := by rw [← hp, ba_extract_size hk (Nat.zero_le _)]; omega
        have hqz : q.size = s.size - k := by rw [← hq, ba_extract_size (Nat.le_refl _) hk]
        have hslp : ∀ w, (Instr.slice 9 (.string s) none (some (.int .i64 k)) none).run Tryd.prog w = .ok (.string p) w := fun w => by
          rw [run_slice_string_to_if (P := Tryd.prog) w 9 s .i64 k Tryd.underlying9, if_pos ⟨by omega, by omega⟩, Int.toNat_natCast, hp]
        have hslq : ∀ w, (Instr.slice 9 (.string s) (some (.int .i64 k)) none none).run Tryd.prog w = .ok (.string q) w := fun w => by
          rw [run_slice_string_from_if (P := Tryd.prog) w 9 s .i64 k Tryd.underlying9, if_pos ⟨by omega, by omega⟩, Int.toNat_natCast, hq]
        have hlaw := law_pieces p.size p (Nat.le_refl _) q
        rw [hpq, HF.out] at hlaw
        have hxn := frm_len p.size p (Nat.le_refl _)
        obtain ⟨⟨Lx, left, one⟩, hX⟩ : ∃ F, frmV p = F := ⟨_, rfl⟩
        have htold := (law_told p.size p (Nat.le_refl _)).2
        rw [hX] at hlaw hxn htold
        dsimp only at hlaw hxn htold
        have hlz : left.size ≤ 200 := by have := congrArg ByteArray.size htold; rw [ba_size_append] at this; omega
        have HX := hide hX
        have HLAW := hide hlaw
        have hp200 : p.size ≤ 2097152 := by omega
        clear hX hlaw htold hp hq hpq z0 z1
        go_wp2_with fail
        have hcl := implFrames p a0 a2 _ hp200 (HE.out.new HBW.out)
        rw [HX.out] at hcl
        dsimp only at hcl
        refine hcl.mono ?_; clear hcl; rintro x w14 ⟨v14, rfl, ho14, hb14⟩
        obtain ⟨ca14, cp14, rfl, _⟩ := owns_form ho14
        have hr14 := reads_of_owns ho14
        clear ho14
        replace RL := hide (RL.out.new hb14)
        replace RM := hide (RM.out.new hb14)
        replace HBW := hide (bchain HBW.out hb14)
        clear hb14
        have RX := hide hr14
        clear hr14
        cases one
        · have hl1 := HLAW.out.2 rfl
          simp only [Prod.mk.injEq] at hl1
          obtain ⟨rfl, _, rfl⟩ := hl1
          go_wp2_with fail
          refine (likeFrames1 L _ _ _ RX.out RL.out).mono ?_; rintro x w15 ⟨rfl, hb15⟩
          replace RL := hide (RL.out.new hb15)
          replace RM := hide (RM.out.new hb15)
          replace RX := hide (RX.out.new hb15)
          replace HBW := hide (bchain HBW.out hb15)
          clear hb15
          go_wp2_with fail
          go_ret
          exact ⟨rfl, HBW.out⟩
        · have hl1 := HLAW.out.1 rfl
          obtain ⟨⟨Ly, r2, two⟩, hY⟩ : ∃ F, frmV (left ++ q) = F := ⟨_, rfl⟩
          rw [hY] at hl1
          dsimp only at hl1
          simp only [Prod.mk.injEq] at hl1
          obtain ⟨hLxy, rfl, rfl⟩ := hl1
          have HY := hide hY
          have HLXY := hide hLxy
          have hyn := congrArg List.length hLxy
          rw [List.length_append] at hyn
          have hyn1 : Lx.length ≤ 200 := by omega
          have hyn2 : Ly.length ≤ 200 := by omega
          have hs1 : ¬ 9223372036854775807 < left.size + q.size := by omega
          have hq200 : (left ++ q).size ≤ 2097152 := by rw [ba_size_append]; omega
          have hyn3 : Lx.length + Ly.length = L.length := by omega
          clear hY hLxy hyn
          go_wp2_with fail
          have hcl := implFrames (left ++ q) a0 a2 _ hq200 (HE.out.new HBW.out)
          rw [HY.out] at hcl
          dsimp only at hcl
          refine hcl.mono ?_; clear hcl; rintro x w15 ⟨v15, rfl, ho15, hb15⟩
          obtain ⟨ca15, cp15, rfl, _⟩ := owns_form ho15
          have hr15 := reads_of_owns ho15
          clear ho15
          replace RL := hide (RL.out.new hb15)
          replace RM := hide (RM.out.new hb15)
          replace RX := hide (RX.out.new hb15)
          replace HBW := hide (bchain HBW.out hb15)
          clear hb15
          have RY := hide hr15
          clear hr15
          obtain ⟨V, hV⟩ : ∃ V, w15.alloc (.cells #[] 29) = V := ⟨_, rfl⟩
          have hbV : Below w15.heap.size w15 V := by rw [← hV]; exact (Below.refl _ _).alloc (Nat.le_refl _) _
          have HN0 : Hid (V.ownsRow w15.heap.size 29 4 (.slice (some ⟨w15.heap.size, 0, none⟩) 0 0) 0 []) := by show World.ownsRow _ _ _ _ _ _ _; rw [← hV]; exact owns_empty w15
          have B0 := hide hbV
          have hzV := hbV.size
          have HBWV := hide (bchain HBW.out hbV)
          clear hbV
          go_wp2_with (at_builtin; refine wpList_app _ (by rfl) _ _ 25 (by rfl) 29 (.agg #[.int .i64 0, .int .i64 0, .int .i64 0, .string ⟨#[]⟩]) 4 40 Tryd.underlying25 (by kernel_rfl) rfl (by decide) w15.heap.size _ 0 [] (by rfl) HN0.out _ Lx.length (fr Lx) (by rfl) (RX.out.new B0.out) (fr_one Lx) (by omega) (by decide) hzV ?_)
          intro ad1 cap1 u1 hown1 hgrow1 hat1
          clear hat1 hV
          have B1 := hide (B0.out.grown hgrow1 hzV (fun y hy => (HN0.out.lt y hy).1))
          have HN1 := hide hown1
          have hz1 := B1.out.size
          clear hown1 hgrow1 HN0 B0
          go_wp2_with (at_builtin; refine wpList_app _ (by rfl) _ _ 25 (by rfl) 29 (.agg #[.int .i64 0, .int .i64 0, .int .i64 0, .string ⟨#[]⟩]) 4 40 Tryd.underlying25 (by kernel_rfl) rfl (by decide) w15.heap.size _ Lx.length (fr Lx) (by rfl) HN1.out _ Ly.length (fr Ly) (by rfl) (RY.out.new B1.out) (fr_one Ly) (by omega) (by decide) hz1 ?_)
          intro ad2 cap2 u2 hown2 hgrow2 hat2
          clear hat2
          rw [← fr_app, ← HLXY.out] at hown2
          have B2 := hide (B1.out.grown hgrow2 hz1 (fun y hy => (HN1.out.lt y hy).1))
          have RN := hide (reads_of_owns hown2)
          clear hown2 hgrow2 HN1 B1
          replace HBW := hide (bchain HBW.out B2.out)
          go_wp2_with fail
          refine (likeFrames1 L _ _ _ RN.out (RL.out.new B2.out)).mono ?_; rintro x u3 ⟨rfl, hb3⟩
          replace HBW := hide (bchain HBW.out hb3)
          go_wp2_with fail
          go_ret
          exact ⟨by simp, HBW.out⟩
      · have hnl := list_ne (s := n) (by omega)
        have hnl2 := list_isEmpty (s := n) (by omega)
        have hbn := fun w => implBytes nv n.size w
        have e := bysV_num (s := n) (by omega) (by omega)
        rw [HNV.out] at e
        rw [e] at hbn
        clear e
        go_wp2_with fail
        refine (hbn _).mono ?_; rintro x w13 ⟨rfl, hb13⟩
        replace RL := hide (RL.out.new hb13)
        replace RM := hide (RM.out.new hb13)
        replace HBW := hide (bchain HBW.out hb13)
        clear hb13
        clear hbn
        go_wp2_with fail
        refine (pick1 a len cap 1 _ _ _ hl' (HCODE.out.behind HBW.out) (by omega) (by omega) (by omega) (by omega)).mono ?_; rintro x w14 ⟨z, z0, z1, rfl, hsame⟩; obtain rfl := hsame.symm; clear hsame
        obtain ⟨k, rfl⟩ : ∃ k : Nat, z = k := ⟨z.toNat, by omega⟩
        have hk : k ≤ s.size := by omega
        obtain ⟨p, hp⟩ : ∃ p, s.extract 0 k = p := ⟨_, rfl⟩
        obtain ⟨q, hq⟩ : ∃ q, s.extract k s.size = q := ⟨_, rfl⟩
        have hpq : p ++ q = s := by rw [← hp, ← hq]; exact ba_split s k hk
        have hpz : p.size = k := by rw [← hp, ba_extract_size hk (Nat.zero_le _)]; omega
        have hqz : q.size = s.size - k := by rw [← hq, ba_extract_size (Nat.le_refl _) hk]
        have hslp : ∀ w, (Instr.slice 9 (.string s) none (some (.int .i64 k)) none).run Tryd.prog w = .ok (.string p) w := fun w => by
          rw [run_slice_string_to_if (P := Tryd.prog) w 9 s .i64 k Tryd.underlying9, if_pos ⟨by omega, by omega⟩, Int.toNat_natCast, hp]
        have hslq : ∀ w, (Instr.slice 9 (.string s) (some (.int .i64 k)) none none).run Tryd.prog w = .ok (.string q) w := fun w => by
          rw [run_slice_string_from_if (P := Tryd.prog) w 9 s .i64 k Tryd.underlying9, if_pos ⟨by omega, by omega⟩, Int.toNat_natCast, hq]
        have hlaw := law_pieces p.size p (Nat.le_refl _) q
        rw [hpq, HF.out] at hlaw
        have hxn := frm_len p.size p (Nat.le_refl _)
        obtain ⟨⟨Lx, left, one⟩, hX⟩ : ∃ F, frmV p = F := ⟨_, rfl⟩
        have htold := (law_told p.size p (Nat.le_refl _)).2
        rw [hX] at hlaw hxn htold
        dsimp only at hlaw hxn htold
        have hlz : left.size ≤ 200 := by have := congrArg ByteArray.size htold; rw [ba_size_append] at this; omega
        have HX := hide hX
        have HLAW := hide hlaw
        have hp200 : p.size ≤ 2097152 := by omega
        clear hX hlaw htold hp hq hpq z0 z1
        go_wp2_with fail
        have hcl := implFrames p a0 a2 _ hp200 (HE.out.new HBW.out)
        rw [HX.out] at hcl
        dsimp only at hcl
        refine hcl.mono ?_; clear hcl; rintro x w15 ⟨v15, rfl, ho15, hb15⟩
        obtain ⟨ca15, cp15, rfl, _⟩ := owns_form ho15
        have hr15 := reads_of_owns ho15
        clear ho15
        replace RL := hide (RL.out.new hb15)
        replace RM := hide (RM.out.new hb15)
        replace HBW := hide (bchain HBW.out hb15)
        clear hb15
        have RX := hide hr15
        clear hr15
        cases one
        · have hl1 := HLAW.out.2 rfl
          simp only [Prod.mk.injEq] at hl1
          obtain ⟨rfl, _, rfl⟩ := hl1
          go_wp2_with fail
          refine (likeFrames1 L _ _ _ RX.out RL.out).mono ?_; rintro x w16 ⟨rfl, hb16⟩
          replace RL := hide (RL.out.new hb16)
          replace RM := hide (RM.out.new hb16)
          replace RX := hide (RX.out.new hb16)
          replace HBW := hide (bchain HBW.out hb16)
          clear hb16
          go_wp2_with fail
          go_ret
          exact ⟨rfl, HBW.out⟩
        · have hl1 := HLAW.out.1 rfl
          obtain ⟨⟨Ly, r2, two⟩, hY⟩ : ∃ F, frmV (left ++ q) = F := ⟨_, rfl⟩
          rw [hY] at hl1
          dsimp only at hl1
          simp only [Prod.mk.injEq] at hl1
          obtain ⟨hLxy, rfl, rfl⟩ := hl1
          have HY := hide hY
          have HLXY := hide hLxy
          have hyn := congrArg List.length hLxy
          rw [List.length_append] at hyn
          have hyn1 : Lx.length ≤ 200 := by omega
          have hyn2 : Ly.length ≤ 200 := by omega
          have hs1 : ¬ 9223372036854775807 < left.size + q.size := by omega
          have hq200 : (left ++ q).size ≤ 2097152 := by rw [ba_size_append]; omega
          have hyn3 : Lx.length + Ly.length = L.length := by omega
          clear hY hLxy hyn
          go_wp2_with fail
          have hcl := implFrames (left ++ q) a0 a2 _ hq200 (HE.out.new HBW.out)
          rw [HY.out] at hcl
          dsimp only at hcl
          refine hcl.mono ?_; clear hcl; rintro x w16 ⟨v16, rfl, ho16, hb16⟩
          obtain ⟨ca16, cp16, rfl, _⟩ := owns_form ho16
          have hr16 := reads_of_owns ho16
          clear ho16
          replace RL := hide (RL.out.new hb16)
          replace RM := hide (RM.out.new hb16)
          replace RX := hide (RX.out.new hb16)
          replace HBW := hide (bchain HBW.out hb16)
          clear hb16
          have RY := hide hr16
          clear hr16
          obtain ⟨V, hV⟩ : ∃ V, w16.alloc (.cells #[] 29) = V := ⟨_, rfl⟩
          have hbV : Below w16.heap.size w16 V := by rw [← hV]; exact (Below.refl _ _).alloc (Nat.le_refl _) _
          have HN0 : Hid (V.ownsRow w16.heap.size 29 4 (.slice (some ⟨w16.heap.size, 0, none⟩) 0 0) 0 []) := by show World.ownsRow _ _ _ _ _ _ _; rw [← hV]; exact owns_empty w16
          have B0 := hide hbV
          have hzV := hbV.size
          have HBWV := hide (bchain HBW.out hbV)
          clear hbV
          go_wp2_with (at_builtin; refine wpList_app _ (by rfl) _ _ 25 (by rfl) 29 (.agg #[.int .i64 0, .int .i64 0, .int .i64 0, .string ⟨#[]⟩]) 4 40 Tryd.underlying25 (by kernel_rfl) rfl (by decide) w16.heap.size _ 0 [] (by rfl) HN0.out _ Lx.length (fr Lx) (by rfl) (RX.out.new B0.out) (fr_one Lx) (by omega) (by decide) hzV ?_)
          intro ad1 cap1 u1 hown1 hgrow1 hat1
          clear hat1 hV
          have B1 := hide (B0.out.grown hgrow1 hzV (fun y hy => (HN0.out.lt y hy).1))
          have HN1 := hide hown1
          have hz1 := B1.out.size
          clear hown1 hgrow1 HN0 B0
          go_wp2_with (at_builtin; refine wpList_app _ (by rfl) _ _ 25 (by rfl) 29 (.agg #[.int .i64 0, .int .i64 0, .int .i64 0, .string ⟨#[]⟩]) 4 40 Tryd.underlying25 (by kernel_rfl) rfl (by decide) w16.heap.size _ Lx.length (fr Lx) (by rfl) HN1.out _ Ly.length (fr Ly) (by rfl) (RY.out.new B1.out) (fr_one Ly) (by omega) (by decide) hz1 ?_)
          intro ad2 cap2 u2 hown2 hgrow2 hat2
          clear hat2
          rw [← fr_app, ← HLXY.out] at hown2
          have B2 := hide (B1.out.grown hgrow2 hz1 (fun y hy => (HN1.out.lt y hy).1))
          have RN := hide (reads_of_owns hown2)
          clear hown2 hgrow2 HN1 B1
          replace HBW := hide (bchain HBW.out B2.out)
          go_wp2_with fail
          refine (likeFrames1 L _ _ _ RN.out (RL.out.new B2.out)).mono ?_; rintro x u3 ⟨rfl, hb3⟩
          replace HBW := hide (bchain HBW.out hb3)
          go_wp2_with fail
          go_ret
          exact ⟨by simp, HBW.out⟩

open Go.ChangeShapes Go.WideShapes Go.ChangeAt Go.Joins
open Go.ChangeMaps (open_string shut_string)


theorem own : ownKnob Tryd.prog.godebug = none := by kernel_rfl
theorem laidOut : laidOutB Tryd.prog = true := by kernel_rfl

set_option maxRecDepth 100000 in
theorem lifted (os : Os) (started : os.Started) (H : Type) (enc : TypeId × Value → H) :
    ReturnsInHanded {} Tryd.checked os 4 .any (fun w args => (Rows.fnPiecesSpec.pre enc Tryd.prog Tryd.f4 [] false w args ∧ laidMetH Tryd.prog [("errors.errorType", Rows.laid_errors_errorType), ("loop.example/g00296/impl.errNoFrame", Rows.laid_loop_example_g00296_impl_errNoFrame), ("loop.example/g00296/impl.errNotYet", Rows.laid_loop_example_g00296_impl_errNotYet)] w) ∧ sizedMet enc Tryd.prog Tryd.f4 (OpenSpec.ofChange Rows.fnPiecesSpec) false w args)
      (Rows.fnPiecesSpec.post enc Tryd.prog Tryd.f4 false true false false) := by
  refine returnsInHanded_of_change_and (C := Tryd.checked) (X := fun w _ => laidMetH Tryd.prog [("errors.errorType", Rows.laid_errors_errorType), ("loop.example/g00296/impl.errNoFrame", Rows.laid_loop_example_g00296_impl_errNoFrame), ("loop.example/g00296/impl.errNotYet", Rows.laid_loop_example_g00296_impl_errNotYet)] w) (fun _ _ _ hh h => h.of_heap hh) own started (by kernel_rfl) Tryd.func4
    (ChangeSpec.witness_at (enc := enc) (C := Tryd.checked) (os := os) (X := fun w _ => laidMetH Tryd.prog [("errors.errorType", Rows.laid_errors_errorType), ("loop.example/g00296/impl.errNoFrame", Rows.laid_loop_example_g00296_impl_errNoFrame), ("loop.example/g00296/impl.errNotYet", Rows.laid_loop_example_g00296_impl_errNotYet)] w) false (({ World.holding Tryd.prog os ⟨#[.cells #[.string ⟨#[110, 111, 32, 114, 105, 103, 104, 116, 32, 102, 114, 97, 109, 101, 32, 98, 101, 103, 105, 110, 115, 32, 115, 111]⟩] 126, .cells #[.string ⟨#[116, 104, 101, 32, 102, 114, 97, 109, 101, 32, 105, 115, 32, 110, 111, 116, 32, 119, 104, 111, 108, 101, 32, 121, 101, 116]⟩] 126], #[], []⟩ with heap := (((World.holding Tryd.prog os ⟨#[.cells #[.string ⟨#[110, 111, 32, 114, 105, 103, 104, 116, 32, 102, 114, 97, 109, 101, 32, 98, 101, 103, 105, 110, 115, 32, 115, 111]⟩] 126, .cells #[.string ⟨#[116, 104, 101, 32, 102, 114, 97, 109, 101, 32, 105, 115, 32, 110, 111, 116, 32, 119, 104, 111, 108, 101, 32, 121, 101, 116]⟩] 126], #[], []⟩).heap.modify 0 fun | .cells _ t frozen => .cells #[.iface 105 (.pointer (some (⟨8, 0, none⟩)))] t frozen | o => o).modify 2 fun | .cells _ t frozen => .cells #[.iface 105 (.pointer (some (⟨8 + 1, 0, none⟩)))] t frozen | o => o).modify 1 fun | .cells _ t frozen => .cells #[.iface 89 (.agg #[.pointer (some ⟨3, 48, none⟩)])] t frozen | o => o } : World)) #[.slice none 0 0] 8 rfl (by kernel_rfl) (by kernel_rfl) (by kernel_rfl) (by kernel_rfl) (by kernel_rfl)
      (laidMetH_of_parts (laidMet_of_run (ps := [.cell 0 0, .cell 8 0, .cell 2 0, .cell (8 + 1) 0]) 8 (by kernel_rfl) (by kernel_rfl) (by kernel_rfl)) (by kernel_rfl))) ?_
  intro W base args ds gs before hval0 hW hcnd hwt hL _
  have hval : ∀ (j : Nat) t v, Tryd.f4.params[j]? = some t → args[j]? = some v → Value.okWide Tryd.prog W .any base t v := hval0
  have hW' := hW
  obtain ⟨p, q, hA0, hV0, rfl, hfz, hnd⟩ := hW
  have hA : DataW.TrodAll enc Tryd.prog W 0 (fun _ => true) true Tryd.f4.params.toList args.toList ds p := hA0
  have hV : DataW.TrodVars enc Tryd.prog W (fun _ => true) ["loop.example/g00296/impl.errNoFrame", "loop.example/g00296/impl.errNotYet"] gs q := hV0
  rw [Tryd.params4] at hA hval
  obtain ⟨v0, vs0, d0, ds0, p0, q0, hargs, rfl, rfl, h0, r0⟩ := trodAll_cons hA
  obtain ⟨rfl, rfl, rfl⟩ := trodAll_nil r0
  obtain rfl : args = #[v0] := by cases args; simp_all
  obtain ⟨a0, a2, hv0, hv2, herrs⟩ := errs_of_laid hL
  obtain ⟨rfl, rfl⟩ := hV.unique (vars_read2 enc hv0 hv2 trivial trivial _)
  have k0 := h0
  have lt0 : ∀ x ∈ p0, x.block < W.heap.size := by obtain ⟨m, hm⟩ := k0; exact DataW.trod_lt m _ _ _ hm
  obtain ⟨a9, len0, cap0, rfl⟩ := okWide_slice Tryd.underlying22 (hval 0 22 v0 rfl rfl); obtain ⟨hl0, hc0⟩ := open_code h0
  clear hA0 hval0 hV0
  refine (walk a9 len0 cap0 a0 a2 W hl0 hc0 herrs).mono fun e W' ⟨he, bel⟩ => ?_
  subst he
  exact ⟨_, rfl, _, _, _, [], _, [.cell 0 0, .cell 2 0], hW', trodAll_mk1 (shut_bool Tryd.underlying4 _), (trodAll_cons_mk (Below.trod laidOut (by kernel_rfl) (of_decide_eq_true (by kernel_rfl)) k0 bel lt0) trodAll_mk0), vars_read2 enc (var_below bel hv0) (var_below bel hv2) trivial trivial _, bel.frame _, fun h => by cases h⟩

theorem over : Rows.fnPiecesRow.holds Tryd.pinned (OpenSpec.ofChange Rows.fnPiecesSpec) :=
  OpenClaim.holds_of_wide 4 Tryd.f4 rfl rfl rfl rfl rfl rfl rfl ⟨rfl, rfl, rfl, rfl, rfl⟩ rfl rfl rfl rfl rfl (by kernel_rfl) Tryd.func4 (by kernel_rfl)
    (of_decide_eq_true (by kernel_rfl)) (by unfold Func.isWrapper; first | (rw [if_pos (by decide +kernel)]; kernel_rfl) | (rw [if_neg (by decide +kernel)]; exact ⟨rfl, rfl⟩))
    (fun os started H enc _ => lifted os started H enc)

theorem card : Rows.FnPiecesCardSaid :=
  Claim7.holds_tied_plain_at .later [] [.handle, .sentinel, .sentinel] true (true, "3dfbc58254e7635a0db15b8d9f745f5f5b065571958f57a52a6a07e023aa5fe4") true
    over (fun _ h => by cases h) (by kernel_rfl) (fun _ h => by cases h) fnPieces_row_tie rfl ⟨rfl, rfl⟩ (by kernel_rfl) rfl
    (fun f fn hf hfn => by
      obtain rfl : f = 4 := Option.some.inj ((show Tryd.prog.funcNamed "loop.example/g00296/laws.FnPieces" = some 4 by kernel_rfl).symm.trans hf) |>.symm
      obtain rfl : fn = Tryd.f4 := (Option.some.inj (Tryd.func4.symm.trans hfn)).symm
      exact ⟨by kernel_rfl, fun j t ht => by
        rw [Tryd.params4] at ht
        have hm : t ∈ [22] := by simpa using Array.mem_of_getElem? ht
        have hall : ([22].all fun u => !Tryd.prog.wantsStandIn u) = true := by kernel_rfl
        exact (show Tryd.prog.wantsStandIn t = false by simpa using List.all_eq_true.1 hall t hm)⟩)
    (by kernel_rfl)

end lawPieces

theorem lawPieces_proved : Rows.FnPiecesCardSaid := lawPieces.card
#print axioms lawPieces_proved
end Go.Proofs.YtelcnojmfkoboaaDoor
