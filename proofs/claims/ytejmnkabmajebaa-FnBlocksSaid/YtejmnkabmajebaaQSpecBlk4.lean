/- The model's way to read the Field with which a block begins. -/
import Derived.Test.YtejmnkabmajebaaQSB
namespace Go.Proofs.Ytejmnkabmajebaa
open Go.RowKit
set_option maxRecDepth 100000
set_option linter.unusedSimpArgs false
set_option linter.unusedVariables false

theorem b0_get {s : ByteArray} (h : 0 < s.size) : b0 s = (s[0].toNat : Int) := by unfold b0; rw [bys_cons h]
theorem b0_none {s : ByteArray} (h : s.size = 0) : b0 s = -1 := by unfold b0; rw [bys_nil h]

set_option maxRecDepth 100000 in
set_option maxHeartbeats 4000000 in
theorem field1 (L : List Fd) (room : Int) (v : Value) (s : ByteArray) (w : World) (hr0 : Reads w v L.length 2 (fv L)) (hL : L.length ≤ 111) (hs : s.size ≤ maxLen) :
    Calls Try.prog 55 #[.agg #[.int .i64 room, v], .string s] w fun x w' => x = .returned (.tuple #[.agg #[.string (fldV L s).1.n, .string (fldV L s).1.v], .int .i64 (fldV L s).2]) ∧ Below w.heap.size w w' := by
  have hs' := hs
  unfold maxLen at hs'
  obtain ⟨hl, ad, cap, rfl, h1, h2, h3⟩ := hr0
  have H3 := hide h3
  clear h3
  have hnF : noF.n = ⟨#[]⟩ ∧ noF.v = ⟨#[]⟩ := ⟨rfl, rfl⟩
  obtain ⟨D, hD⟩ : ∃ D, fldV L s = D := ⟨_, rfl⟩
  rw [hD]
  unfold fldV at hD
  by_cases h0 : s.size = 0
  · have hDD : D = (noF, 0) := by rw [← hD, if_pos (by rw [b0_none h0]; omega)]
    have hse := ba_empty h0
    subst hse
    subst hDD
    clear hD
    go_enter Try.func55, Try.ntmps55; go_wp2_with fail
    (refine bodyPost_ret (v := (.tuple #[.agg #[.string (noF).n, .string (noF).v], .int .i64 (0)])) (by simp [results, Try.results55, go_sem, *]) rfl ?_)
    exact ⟨rfl, (by repeat' (first | (with_reducible exact Below.refl _ _) | (with_reducible refine Below.drew ?_) | (with_reducible refine bo_drewN _ ?_) | (with_reducible refine bo_alloc ?_ _) | (refine bchain ?_ (by with_reducible assumption)) | (with_reducible refine Below.setCell ?_ ?_ _) | go_size))⟩
  have hp : 0 < s.size := by omega
  have hne := list_ne hp
  have hne2 := list_isEmpty hp
  have hb := b0_get hp
  have hu := s[0].toNat_lt
  obtain ⟨c, hc⟩ : ∃ c : Int, (s[0].toNat : Int) = c := ⟨_, rfl⟩
  rw [hb, hc] at hD
  have hc0 : 0 ≤ c := by omega
  have hc1 : c ≤ 255 := by omega
  clear hb
  by_cases h64 : c < 64
  · have hDD : D = (noF, 0) := by rw [← hD, if_pos h64]
    subst hDD
    clear hD
    go_enter Try.func55, Try.ntmps55; go_wp2_with fail
    (refine bodyPost_ret (v := (.tuple #[.agg #[.string (noF).n, .string (noF).v], .int .i64 (0)])) (by simp [results, Try.results55, go_sem, *]) rfl ?_)
    exact ⟨rfl, (by repeat' (first | (with_reducible exact Below.refl _ _) | (with_reducible refine Below.drew ?_) | (with_reducible refine bo_drewN _ ?_) | (with_reducible refine bo_alloc ?_ _) | (refine bchain ?_ (by with_reducible assumption)) | (with_reducible refine Below.setCell ?_ ?_ _) | go_size))⟩
  rw [if_neg h64] at hD
  by_cases h128 : 128 ≤ c
  · rw [if_pos h128] at hD
    have hat := rd_upto s 7
    obtain ⟨⟨n, k⟩, hP⟩ : ∃ P, rdV s 7 = P := ⟨_, rfl⟩
    rw [hP] at hD hat
    simp only at hD hat
    obtain ⟨k0, k1⟩ := hat
    by_cases hk0 : k = 0
    · subst hk0
      rw [if_pos (Or.inl rfl)] at hD
      subst hD
      go_enter Try.func55, Try.ntmps55; go_wp2_with fail
      obtain ⟨V, hV⟩ : ∃ V, (w.alloc (.cells #[.int .i64 room, .slice ad L.length cap] 26)).alloc (.cells #[.string ⟨#[]⟩, .string ⟨#[]⟩] 46) = V := ⟨_, rfl⟩
      have HBW : Hid (Below w.heap.size w V) := by show Below _ _ _; rw [← hV]; exact bo_alloc ((Below.refl _ _).alloc (Nat.le_refl _) _) _
      have HX : Hid (RowIs V w.heap.size 26 [.int .i64 room, .slice ad L.length cap]) := by show RowIs _ _ _ _; rw [← hV]; exact (rowIs_new w 26 [.int .i64 room, .slice ad L.length cap]).alloc _
      have HRR : Hid (RowIs V (w.heap.size + 1) 46 [.string ⟨#[]⟩, .string ⟨#[]⟩]) := by show RowIs _ _ _ _; rw [← hV]; simpa using rowIs_new (w.alloc (.cells #[.int .i64 room, .slice ad L.length cap] 26)) 46 [.string ⟨#[]⟩, .string ⟨#[]⟩]
      rw [hV]
      clear hV
      refine (specRead s 7 _ hs).mono ?_; rw [hP]; rintro x w1 ⟨rfl, hb1⟩
      replace HX := hide (HX.out.new hb1); replace HRR := hide (HRR.out.new hb1); replace HBW := hide (bchain HBW.out hb1)
      clear hb1
      have x1c := HX.out.cell (j := 1) rfl; have r0 := HRR.out.cell (j := 0) rfl; have r1 := HRR.out.cell (j := 1) rfl; have r2 := HRR.out.frozen 0; have r3 := HRR.out.frozen 1; have hlr := HRR.out.lt
      go_wp2_with fail
      refine bodyPost_ret (v := (.tuple #[.agg #[.string (⟨#[]⟩), .string (⟨#[]⟩)], .int .i64 (0)])) (by simp [results, Try.results55, go_sem, *]) rfl ?_
      have hbw := HBW.out
      have hsz := HBW.out.size
      exact ⟨rfl, (by repeat' (first | (with_reducible exact hbw) | (with_reducible refine Below.setCell ?_ ?_ _) | (with_reducible refine Below.alloc ?_ ?_ _) | (with_reducible refine Below.drew ?_) | (with_reducible refine bo_drewN _ ?_) | omega | (simp; done) | (simp; omega)))⟩
    cases hin : inB n 1 L.length
    · rw [if_pos (Or.inr hin)] at hD
      subst hD
      go_enter Try.func55, Try.ntmps55; go_wp2_with fail
      obtain ⟨V, hV⟩ : ∃ V, (w.alloc (.cells #[.int .i64 room, .slice ad L.length cap] 26)).alloc (.cells #[.string ⟨#[]⟩, .string ⟨#[]⟩] 46) = V := ⟨_, rfl⟩
      have HBW : Hid (Below w.heap.size w V) := by show Below _ _ _; rw [← hV]; exact bo_alloc ((Below.refl _ _).alloc (Nat.le_refl _) _) _
      have HX : Hid (RowIs V w.heap.size 26 [.int .i64 room, .slice ad L.length cap]) := by show RowIs _ _ _ _; rw [← hV]; exact (rowIs_new w 26 [.int .i64 room, .slice ad L.length cap]).alloc _
      have HRR : Hid (RowIs V (w.heap.size + 1) 46 [.string ⟨#[]⟩, .string ⟨#[]⟩]) := by show RowIs _ _ _ _; rw [← hV]; simpa using rowIs_new (w.alloc (.cells #[.int .i64 room, .slice ad L.length cap] 26)) 46 [.string ⟨#[]⟩, .string ⟨#[]⟩]
      rw [hV]
      clear hV
      refine (specRead s 7 _ hs).mono ?_; rw [hP]; rintro x w1 ⟨rfl, hb1⟩
      replace HX := hide (HX.out.new hb1); replace HRR := hide (HRR.out.new hb1); replace HBW := hide (bchain HBW.out hb1)
      clear hb1
      have x1c := HX.out.cell (j := 1) rfl; have r0 := HRR.out.cell (j := 0) rfl; have r1 := HRR.out.cell (j := 1) rfl; have r2 := HRR.out.frozen 0; have r3 := HRR.out.frozen 1; have hlr := HRR.out.lt
      go_wp2_with fail
      refine (specIn _ _ _ _).mono ?_; rw [hin]; rintro x w2 ⟨rfl, rfl⟩
      go_wp2_with fail
      refine bodyPost_ret (v := (.tuple #[.agg #[.string (⟨#[]⟩), .string (⟨#[]⟩)], .int .i64 (0)])) (by simp [results, Try.results55, go_sem, *]) rfl ?_
      have hbw := HBW.out
      have hsz := HBW.out.size
      exact ⟨rfl, (by repeat' (first | (with_reducible exact hbw) | (with_reducible refine Below.setCell ?_ ?_ _) | (with_reducible refine Below.alloc ?_ ?_ _) | (with_reducible refine Below.drew ?_) | (with_reducible refine bo_drewN _ ?_) | omega | (simp; done) | (simp; omega)))⟩
    rw [if_neg (fun h => h.elim hk0 (fun h => by rw [hin] at h; cases h))] at hD
    obtain ⟨hn1, hn2⟩ := inB_true hin
    obtain ⟨q, rfl⟩ : ∃ q : Nat, n = (q : Int) + 1 := ⟨(n - 1).toNat, by omega⟩
    have hq : q < L.length := by omega
    rw [show ((q : Int) + 1).toNat - 1 = q by omega, List.getD_eq_getElem?_getD, List.getElem?_eq_getElem hq] at hD
    obtain ⟨b, o, rfl, hbw, hcc⟩ := H3.out (by omega)
    obtain ⟨s0, s1⟩ := fv_get L q hq
    obtain ⟨f, hff⟩ : ∃ f, L[q] = f := ⟨_, rfl⟩
    rw [hff] at s0 s1 hD
    have hD2 : (f, k) = D := hD
    subst hD2
    clear hD hff
    have c0 := hcc _ _ s0; have c1 := hcc _ _ s1
    have C0 := hide c0; have C1 := hide c1
    clear c0 c1 hcc s0 s1
    go_enter Try.func55, Try.ntmps55; go_wp2_with fail
    obtain ⟨V, hV⟩ : ∃ V, (w.alloc (.cells #[.int .i64 room, .slice (some ⟨b, o, none⟩) L.length cap] 26)).alloc (.cells #[.string ⟨#[]⟩, .string ⟨#[]⟩] 46) = V := ⟨_, rfl⟩
    have HBW : Hid (Below w.heap.size w V) := by show Below _ _ _; rw [← hV]; exact bo_alloc ((Below.refl _ _).alloc (Nat.le_refl _) _) _
    have HX : Hid (RowIs V w.heap.size 26 [.int .i64 room, .slice (some ⟨b, o, none⟩) L.length cap]) := by show RowIs _ _ _ _; rw [← hV]; exact (rowIs_new w 26 [.int .i64 room, .slice (some ⟨b, o, none⟩) L.length cap]).alloc _
    have HRR : Hid (RowIs V (w.heap.size + 1) 46 [.string ⟨#[]⟩, .string ⟨#[]⟩]) := by show RowIs _ _ _ _; rw [← hV]; simpa using rowIs_new (w.alloc (.cells #[.int .i64 room, .slice (some ⟨b, o, none⟩) L.length cap] 26)) 46 [.string ⟨#[]⟩, .string ⟨#[]⟩]
    rw [hV]
    clear hV
    refine (specRead s 7 _ hs).mono ?_; rw [hP]; rintro x w1 ⟨rfl, hb1⟩
    replace HX := hide (HX.out.new hb1); replace HRR := hide (HRR.out.new hb1); replace HBW := hide (bchain HBW.out hb1)
    clear hb1
    have x1c := HX.out.cell (j := 1) rfl; have r0 := HRR.out.cell (j := 0) rfl; have r1 := HRR.out.cell (j := 1) rfl; have r2 := HRR.out.frozen 0; have r3 := HRR.out.frozen 1; have hlr := HRR.out.lt
    have c0 : w1.cell? ⟨b, o + q * 2, none⟩ = some (.string f.n) := (HBW.out.cell (p := ⟨b, o + q * 2, none⟩) hbw).trans C0.out
    have c1 : w1.cell? ⟨b, o + q * 2 + 1, none⟩ = some (.string f.v) := (HBW.out.cell (p := ⟨b, o + q * 2 + 1, none⟩) hbw).trans C1.out
    go_wp2_with fail
    refine (specIn _ _ _ _).mono ?_; rw [hin]; rintro x w2 ⟨rfl, rfl⟩
    go_wp2_with fail
    refine bodyPost_ret (v := (.tuple #[.agg #[.string (f.n), .string (f.v)], .int .i64 (k)])) (by simp [results, Try.results55, go_sem, *]) rfl ?_
    have hbw := HBW.out
    have hsz := HBW.out.size
    exact ⟨rfl, (by repeat' (first | (with_reducible exact hbw) | (with_reducible refine Below.setCell ?_ ?_ _) | (with_reducible refine Below.alloc ?_ ?_ _) | (with_reducible refine Below.drew ?_) | (with_reducible refine bo_drewN _ ?_) | omega | (simp; done) | (simp; omega)))⟩
  · rw [if_neg h128] at hD
    have hat := rd_upto s 6
    obtain ⟨⟨n, k⟩, hP⟩ : ∃ P, rdV s 6 = P := ⟨_, rfl⟩
    rw [hP] at hD hat
    simp only at hD hat
    obtain ⟨k0, k1⟩ := hat
    by_cases hk0 : k = 0
    · subst hk0
      rw [if_pos (Or.inl rfl)] at hD
      subst hD
      go_enter Try.func55, Try.ntmps55; go_wp2_with fail
      obtain ⟨V, hV⟩ : ∃ V, (w.alloc (.cells #[.int .i64 room, .slice ad L.length cap] 26)).alloc (.cells #[.string ⟨#[]⟩, .string ⟨#[]⟩] 46) = V := ⟨_, rfl⟩
      have HBW : Hid (Below w.heap.size w V) := by show Below _ _ _; rw [← hV]; exact bo_alloc ((Below.refl _ _).alloc (Nat.le_refl _) _) _
      have HX : Hid (RowIs V w.heap.size 26 [.int .i64 room, .slice ad L.length cap]) := by show RowIs _ _ _ _; rw [← hV]; exact (rowIs_new w 26 [.int .i64 room, .slice ad L.length cap]).alloc _
      have HRR : Hid (RowIs V (w.heap.size + 1) 46 [.string ⟨#[]⟩, .string ⟨#[]⟩]) := by show RowIs _ _ _ _; rw [← hV]; simpa using rowIs_new (w.alloc (.cells #[.int .i64 room, .slice ad L.length cap] 26)) 46 [.string ⟨#[]⟩, .string ⟨#[]⟩]
      rw [hV]
      clear hV
      refine (specRead s 6 _ hs).mono ?_; rw [hP]; rintro x w1 ⟨rfl, hb1⟩
      replace HX := hide (HX.out.new hb1); replace HRR := hide (HRR.out.new hb1); replace HBW := hide (bchain HBW.out hb1)
      clear hb1
      have x1c := HX.out.cell (j := 1) rfl; have r0 := HRR.out.cell (j := 0) rfl; have r1 := HRR.out.cell (j := 1) rfl; have r2 := HRR.out.frozen 0; have r3 := HRR.out.frozen 1; have hlr := HRR.out.lt
      go_wp2_with fail
      refine bodyPost_ret (v := (.tuple #[.agg #[.string (⟨#[]⟩), .string (⟨#[]⟩)], .int .i64 (0)])) (by simp [results, Try.results55, go_sem, *]) rfl ?_
      have hbw := HBW.out
      have hsz := HBW.out.size
      exact ⟨rfl, (by repeat' (first | (with_reducible exact hbw) | (with_reducible refine Below.setCell ?_ ?_ _) | (with_reducible refine Below.alloc ?_ ?_ _) | (with_reducible refine Below.drew ?_) | (with_reducible refine bo_drewN _ ?_) | omega | (simp; done) | (simp; omega)))⟩
    cases hin : inB n 0 L.length
    · rw [if_pos (Or.inr hin)] at hD
      subst hD
      go_enter Try.func55, Try.ntmps55; go_wp2_with fail
      obtain ⟨V, hV⟩ : ∃ V, (w.alloc (.cells #[.int .i64 room, .slice ad L.length cap] 26)).alloc (.cells #[.string ⟨#[]⟩, .string ⟨#[]⟩] 46) = V := ⟨_, rfl⟩
      have HBW : Hid (Below w.heap.size w V) := by show Below _ _ _; rw [← hV]; exact bo_alloc ((Below.refl _ _).alloc (Nat.le_refl _) _) _
      have HX : Hid (RowIs V w.heap.size 26 [.int .i64 room, .slice ad L.length cap]) := by show RowIs _ _ _ _; rw [← hV]; exact (rowIs_new w 26 [.int .i64 room, .slice ad L.length cap]).alloc _
      have HRR : Hid (RowIs V (w.heap.size + 1) 46 [.string ⟨#[]⟩, .string ⟨#[]⟩]) := by show RowIs _ _ _ _; rw [← hV]; simpa using rowIs_new (w.alloc (.cells #[.int .i64 room, .slice ad L.length cap] 26)) 46 [.string ⟨#[]⟩, .string ⟨#[]⟩]
      rw [hV]
      clear hV
      refine (specRead s 6 _ hs).mono ?_; rw [hP]; rintro x w1 ⟨rfl, hb1⟩
      replace HX := hide (HX.out.new hb1); replace HRR := hide (HRR.out.new hb1); replace HBW := hide (bchain HBW.out hb1)
      clear hb1
      have x1c := HX.out.cell (j := 1) rfl; have r0 := HRR.out.cell (j := 0) rfl; have r1 := HRR.out.cell (j := 1) rfl; have r2 := HRR.out.frozen 0; have r3 := HRR.out.frozen 1; have hlr := HRR.out.lt
      go_wp2_with fail
      refine (specIn _ _ _ _).mono ?_; rw [hin]; rintro x w2 ⟨rfl, rfl⟩
      go_wp2_with fail
      refine bodyPost_ret (v := (.tuple #[.agg #[.string (⟨#[]⟩), .string (⟨#[]⟩)], .int .i64 (0)])) (by simp [results, Try.results55, go_sem, *]) rfl ?_
      have hbw := HBW.out
      have hsz := HBW.out.size
      exact ⟨rfl, (by repeat' (first | (with_reducible exact hbw) | (with_reducible refine Below.setCell ?_ ?_ _) | (with_reducible refine Below.alloc ?_ ?_ _) | (with_reducible refine Below.drew ?_) | (with_reducible refine bo_drewN _ ?_) | omega | (simp; done) | (simp; omega)))⟩
    rw [if_neg (fun h => h.elim hk0 (fun h => by rw [hin] at h; cases h))] at hD
    obtain ⟨hn1, hn2⟩ := inB_true hin
    obtain ⟨T, hT⟩ : ∃ T, s.extract k.toNat s.size = T := ⟨_, rfl⟩
    have hsl : ∀ w : World, (Instr.slice 9 (.string s) (some (.int .i64 k)) none none).run Try.prog w = .ok (.string T) w := by
      intro w
      rw [run_slice_string_from_if (P := Try.prog) w 9 s .i64 k Try.underlying9, if_pos ⟨k0, k1⟩, hT]
    have hTs : T.size + k.toNat = s.size := by rw [← hT, ba_extract_size (Nat.le_refl _) (by omega)]; omega
    have hTm : T.size ≤ maxLen := by unfold maxLen; omega
    rw [hT] at hD
    have hlt := rl_upto T
    obtain ⟨⟨x1, j⟩, hQ⟩ : ∃ Q, rlV T = Q := ⟨_, rfl⟩
    rw [hQ] at hD hlt
    simp only at hD hlt
    obtain ⟨j0, j1, _⟩ := hlt
    clear hT
    by_cases h0 : n = 0
    · subst h0
      rw [if_pos rfl] at hD
      by_cases hj : j = 0
      · subst hj
        rw [if_pos rfl] at hD
        subst hD
        go_enter Try.func55, Try.ntmps55; go_wp2_with fail
        obtain ⟨V, hV⟩ : ∃ V, (w.alloc (.cells #[.int .i64 room, .slice ad L.length cap] 26)).alloc (.cells #[.string ⟨#[]⟩, .string ⟨#[]⟩] 46) = V := ⟨_, rfl⟩
        have HBW : Hid (Below w.heap.size w V) := by show Below _ _ _; rw [← hV]; exact bo_alloc ((Below.refl _ _).alloc (Nat.le_refl _) _) _
        have HX : Hid (RowIs V w.heap.size 26 [.int .i64 room, .slice ad L.length cap]) := by show RowIs _ _ _ _; rw [← hV]; exact (rowIs_new w 26 [.int .i64 room, .slice ad L.length cap]).alloc _
        have HRR : Hid (RowIs V (w.heap.size + 1) 46 [.string ⟨#[]⟩, .string ⟨#[]⟩]) := by show RowIs _ _ _ _; rw [← hV]; simpa using rowIs_new (w.alloc (.cells #[.int .i64 room, .slice ad L.length cap] 26)) 46 [.string ⟨#[]⟩, .string ⟨#[]⟩]
        rw [hV]
        clear hV
        refine (specRead s 6 _ hs).mono ?_; rw [hP]; rintro x w1 ⟨rfl, hb1⟩
        replace HX := hide (HX.out.new hb1); replace HRR := hide (HRR.out.new hb1); replace HBW := hide (bchain HBW.out hb1)
        clear hb1
        have x1c := HX.out.cell (j := 1) rfl; have r0 := HRR.out.cell (j := 0) rfl; have r1 := HRR.out.cell (j := 1) rfl; have r2 := HRR.out.frozen 0; have r3 := HRR.out.frozen 1; have hlr := HRR.out.lt
        go_wp2_with fail
        refine (specIn _ _ _ _).mono ?_; rw [hin]; rintro x w2 ⟨rfl, rfl⟩
        go_upto_region 12 with fail; clear x1c r0 r1 r2 r3 hlr; have hl9 := HRR.out.lt; obtain ⟨v10, hW⟩ : ∃ v10, (w2).alloc (.cells #[.string ⟨#[]⟩, .string ⟨#[]⟩] 46) = v10 := ⟨_, rfl⟩; have hbW : Below (w2).heap.size (w2) v10 := (by rw [← hW]; exact (Below.refl _ _).alloc (Nat.le_refl _) _); have H10 : Hid (RowIs v10 (w2).heap.size 46 [.string ⟨#[]⟩, .string ⟨#[]⟩]) := (by show RowIs _ _ _ _; rw [← hW]; exact rowIs_new _ _ _); replace HX := hide (HX.out.new hbW); replace HRR := hide (HRR.out.new hbW); replace HBW := hide (bchain HBW.out hbW); clear hbW; rw [hW]; clear hW; have x1c := HX.out.cell (j := 1) rfl; have r0 := HRR.out.cell (j := 0) rfl; have r1 := HRR.out.cell (j := 1) rfl; have r2 := HRR.out.frozen 0; have r3 := HRR.out.frozen 1; have hlr := HRR.out.lt; have t0 := H10.out.cell (j := 0) rfl; have t1 := H10.out.cell (j := 1) rfl; have t2 := H10.out.frozen 0; have t3 := H10.out.frozen 1; have hlt10 := H10.out.lt
        go_wp2_with fail
        clear x1c r0 r1 r2 r3 hlr t0 t1 t2 t3 hlt10
        refine (specReadL T _ hTm).mono ?_; rw [hQ]; rintro x w3 ⟨rfl, hb3⟩
        replace HX := hide (HX.out.new hb3); replace HRR := hide (HRR.out.new hb3); replace HBW := hide (bchain HBW.out hb3)
        replace H10 := hide (H10.out.new hb3)
        clear hb3
        have x1c := HX.out.cell (j := 1) rfl; have r0 := HRR.out.cell (j := 0) rfl; have r1 := HRR.out.cell (j := 1) rfl; have r2 := HRR.out.frozen 0; have r3 := HRR.out.frozen 1; have hlr := HRR.out.lt
        have t0 := H10.out.cell (j := 0) rfl; have t1 := H10.out.cell (j := 1) rfl; have t2 := H10.out.frozen 0; have t3 := H10.out.frozen 1; have hlt10 := H10.out.lt
        go_wp2_with fail
        refine bodyPost_ret (v := (.tuple #[.agg #[.string (⟨#[]⟩), .string (⟨#[]⟩)], .int .i64 (0)])) (by simp [results, Try.results55, go_sem, *]) rfl ?_
        have hbw := HBW.out
        have hsz := HBW.out.size
        exact ⟨rfl, (by repeat' (first | (with_reducible exact hbw) | (with_reducible refine Below.setCell ?_ ?_ _) | (with_reducible refine Below.alloc ?_ ?_ _) | (with_reducible refine Below.drew ?_) | (with_reducible refine bo_drewN _ ?_) | omega | (simp; done) | (simp; omega)))⟩
      rw [if_neg hj] at hD
      obtain ⟨T2, hT2⟩ : ∃ T2, s.extract (k + j).toNat s.size = T2 := ⟨_, rfl⟩
      have hsl2 : ∀ w : World, (Instr.slice 9 (.string s) (some (.int .i64 (k + j))) none none).run Try.prog w = .ok (.string T2) w := by
        intro w
        rw [run_slice_string_from_if (P := Try.prog) w 9 s .i64 (k + j) Try.underlying9, if_pos ⟨by omega, by omega⟩, hT2]
      have hT2s : T2.size + (k + j).toNat = s.size := by rw [← hT2, ba_extract_size (Nat.le_refl _) (by omega)]; omega
      have hT2m : T2.size ≤ maxLen := by unfold maxLen; omega
      rw [hT2] at hD
      have hlt2 := rl_upto T2
      obtain ⟨⟨x2, j2⟩, hQ2⟩ : ∃ Q, rlV T2 = Q := ⟨_, rfl⟩
      rw [hQ2] at hD hlt2
      simp only at hD hlt2
      obtain ⟨i0, i1, _⟩ := hlt2
      clear hT2
      by_cases hj2 : j2 = 0
      · subst hj2
        rw [if_pos rfl] at hD
        subst hD
        go_enter Try.func55, Try.ntmps55; go_wp2_with fail
        obtain ⟨V, hV⟩ : ∃ V, (w.alloc (.cells #[.int .i64 room, .slice ad L.length cap] 26)).alloc (.cells #[.string ⟨#[]⟩, .string ⟨#[]⟩] 46) = V := ⟨_, rfl⟩
        have HBW : Hid (Below w.heap.size w V) := by show Below _ _ _; rw [← hV]; exact bo_alloc ((Below.refl _ _).alloc (Nat.le_refl _) _) _
        have HX : Hid (RowIs V w.heap.size 26 [.int .i64 room, .slice ad L.length cap]) := by show RowIs _ _ _ _; rw [← hV]; exact (rowIs_new w 26 [.int .i64 room, .slice ad L.length cap]).alloc _
        have HRR : Hid (RowIs V (w.heap.size + 1) 46 [.string ⟨#[]⟩, .string ⟨#[]⟩]) := by show RowIs _ _ _ _; rw [← hV]; simpa using rowIs_new (w.alloc (.cells #[.int .i64 room, .slice ad L.length cap] 26)) 46 [.string ⟨#[]⟩, .string ⟨#[]⟩]
        rw [hV]
        clear hV
        refine (specRead s 6 _ hs).mono ?_; rw [hP]; rintro x w1 ⟨rfl, hb1⟩
        replace HX := hide (HX.out.new hb1); replace HRR := hide (HRR.out.new hb1); replace HBW := hide (bchain HBW.out hb1)
        clear hb1
        have x1c := HX.out.cell (j := 1) rfl; have r0 := HRR.out.cell (j := 0) rfl; have r1 := HRR.out.cell (j := 1) rfl; have r2 := HRR.out.frozen 0; have r3 := HRR.out.frozen 1; have hlr := HRR.out.lt
        go_wp2_with fail
        refine (specIn _ _ _ _).mono ?_; rw [hin]; rintro x w2 ⟨rfl, rfl⟩
        go_upto_region 12 with fail; clear x1c r0 r1 r2 r3 hlr; have hl9 := HRR.out.lt; obtain ⟨v10, hW⟩ : ∃ v10, (w2).alloc (.cells #[.string ⟨#[]⟩, .string ⟨#[]⟩] 46) = v10 := ⟨_, rfl⟩; have hbW : Below (w2).heap.size (w2) v10 := (by rw [← hW]; exact (Below.refl _ _).alloc (Nat.le_refl _) _); have H10 : Hid (RowIs v10 (w2).heap.size 46 [.string ⟨#[]⟩, .string ⟨#[]⟩]) := (by show RowIs _ _ _ _; rw [← hW]; exact rowIs_new _ _ _); replace HX := hide (HX.out.new hbW); replace HRR := hide (HRR.out.new hbW); replace HBW := hide (bchain HBW.out hbW); clear hbW; rw [hW]; clear hW; have x1c := HX.out.cell (j := 1) rfl; have r0 := HRR.out.cell (j := 0) rfl; have r1 := HRR.out.cell (j := 1) rfl; have r2 := HRR.out.frozen 0; have r3 := HRR.out.frozen 1; have hlr := HRR.out.lt; have t0 := H10.out.cell (j := 0) rfl; have t1 := H10.out.cell (j := 1) rfl; have t2 := H10.out.frozen 0; have t3 := H10.out.frozen 1; have hlt10 := H10.out.lt
        go_wp2_with fail
        clear x1c r0 r1 r2 r3 hlr t0 t1 t2 t3 hlt10
        refine (specReadL T _ hTm).mono ?_; rw [hQ]; rintro x w3 ⟨rfl, hb3⟩
        replace HX := hide (HX.out.new hb3); replace HRR := hide (HRR.out.new hb3); replace HBW := hide (bchain HBW.out hb3)
        replace H10 := hide (H10.out.new hb3)
        clear hb3
        have x1c := HX.out.cell (j := 1) rfl; have r0 := HRR.out.cell (j := 0) rfl; have r1 := HRR.out.cell (j := 1) rfl; have r2 := HRR.out.frozen 0; have r3 := HRR.out.frozen 1; have hlr := HRR.out.lt
        have t0 := H10.out.cell (j := 0) rfl; have t1 := H10.out.cell (j := 1) rfl; have t2 := H10.out.frozen 0; have t3 := H10.out.frozen 1; have hlt10 := H10.out.lt
        go_upto_region 19 with fail
        clear x1c r0 r1 r2 r3 hlr t0 t1 t2 t3 hlt10
        obtain ⟨u9, hu9⟩ : ∃ u, World.setCell (w3) ⟨w2.heap.size, 0, none⟩ (.string x1) = u := ⟨_, rfl⟩; (try rw [hu9]); have hn1 : w2.heap.size ≠ w.heap.size := (by omega); have hn2 : w2.heap.size ≠ w.heap.size + 1 := (by omega); replace H10 : Hid (RowIs u9 w2.heap.size 46 [.string x1, .string ⟨#[]⟩]) := hide (hu9 ▸ H10.out.set 0 (.string x1)); replace HX := hide (HX.out.far ⟨w2.heap.size, 0, none⟩ (.string x1) hn1); replace HRR := hide (HRR.out.far ⟨w2.heap.size, 0, none⟩ (.string x1) hn2); replace HBW := hide (HBW.out.setCell (p := ⟨w2.heap.size, 0, none⟩) (show w.heap.size ≤ w2.heap.size by omega) (.string x1)); rw [hu9] at HX HRR HBW; clear hu9
        go_wp2_with fail
        refine (specReadL T2 _ hT2m).mono ?_; rw [hQ2]; rintro x w4 ⟨rfl, hb4⟩
        replace HX := hide (HX.out.new hb4); replace HRR := hide (HRR.out.new hb4); replace HBW := hide (bchain HBW.out hb4)
        replace H10 := hide (H10.out.new hb4)
        clear hb4
        have x1c := HX.out.cell (j := 1) rfl; have r0 := HRR.out.cell (j := 0) rfl; have r1 := HRR.out.cell (j := 1) rfl; have r2 := HRR.out.frozen 0; have r3 := HRR.out.frozen 1; have hlr := HRR.out.lt
        have t0 := H10.out.cell (j := 0) rfl; have t1 := H10.out.cell (j := 1) rfl; have t2 := H10.out.frozen 0; have t3 := H10.out.frozen 1; have hlt10 := H10.out.lt
        go_wp2_with fail
        refine bodyPost_ret (v := (.tuple #[.agg #[.string (⟨#[]⟩), .string (⟨#[]⟩)], .int .i64 (0)])) (by simp [results, Try.results55, go_sem, *]) rfl ?_
        have hbw := HBW.out
        have hsz := HBW.out.size
        exact ⟨rfl, (by repeat' (first | (with_reducible exact hbw) | (with_reducible refine Below.setCell ?_ ?_ _) | (with_reducible refine Below.alloc ?_ ?_ _) | (with_reducible refine Below.drew ?_) | (with_reducible refine bo_drewN _ ?_) | omega | (simp; done) | (simp; omega)))⟩
      rw [if_neg hj2] at hD
      subst hD
      go_enter Try.func55, Try.ntmps55; go_wp2_with fail
      obtain ⟨V, hV⟩ : ∃ V, (w.alloc (.cells #[.int .i64 room, .slice ad L.length cap] 26)).alloc (.cells #[.string ⟨#[]⟩, .string ⟨#[]⟩] 46) = V := ⟨_, rfl⟩
      have HBW : Hid (Below w.heap.size w V) := by show Below _ _ _; rw [← hV]; exact bo_alloc ((Below.refl _ _).alloc (Nat.le_refl _) _) _
      have HX : Hid (RowIs V w.heap.size 26 [.int .i64 room, .slice ad L.length cap]) := by show RowIs _ _ _ _; rw [← hV]; exact (rowIs_new w 26 [.int .i64 room, .slice ad L.length cap]).alloc _
      have HRR : Hid (RowIs V (w.heap.size + 1) 46 [.string ⟨#[]⟩, .string ⟨#[]⟩]) := by show RowIs _ _ _ _; rw [← hV]; simpa using rowIs_new (w.alloc (.cells #[.int .i64 room, .slice ad L.length cap] 26)) 46 [.string ⟨#[]⟩, .string ⟨#[]⟩]
      rw [hV]
      clear hV
      refine (specRead s 6 _ hs).mono ?_; rw [hP]; rintro x w1 ⟨rfl, hb1⟩
      replace HX := hide (HX.out.new hb1); replace HRR := hide (HRR.out.new hb1); replace HBW := hide (bchain HBW.out hb1)
      clear hb1
      have x1c := HX.out.cell (j := 1) rfl; have r0 := HRR.out.cell (j := 0) rfl; have r1 := HRR.out.cell (j := 1) rfl; have r2 := HRR.out.frozen 0; have r3 := HRR.out.frozen 1; have hlr := HRR.out.lt
      go_wp2_with fail
      refine (specIn _ _ _ _).mono ?_; rw [hin]; rintro x w2 ⟨rfl, rfl⟩
      go_upto_region 12 with fail; clear x1c r0 r1 r2 r3 hlr; have hl9 := HRR.out.lt; obtain ⟨v10, hW⟩ : ∃ v10, (w2).alloc (.cells #[.string ⟨#[]⟩, .string ⟨#[]⟩] 46) = v10 := ⟨_, rfl⟩; have hbW : Below (w2).heap.size (w2) v10 := (by rw [← hW]; exact (Below.refl _ _).alloc (Nat.le_refl _) _); have H10 : Hid (RowIs v10 (w2).heap.size 46 [.string ⟨#[]⟩, .string ⟨#[]⟩]) := (by show RowIs _ _ _ _; rw [← hW]; exact rowIs_new _ _ _); replace HX := hide (HX.out.new hbW); replace HRR := hide (HRR.out.new hbW); replace HBW := hide (bchain HBW.out hbW); clear hbW; rw [hW]; clear hW; have x1c := HX.out.cell (j := 1) rfl; have r0 := HRR.out.cell (j := 0) rfl; have r1 := HRR.out.cell (j := 1) rfl; have r2 := HRR.out.frozen 0; have r3 := HRR.out.frozen 1; have hlr := HRR.out.lt; have t0 := H10.out.cell (j := 0) rfl; have t1 := H10.out.cell (j := 1) rfl; have t2 := H10.out.frozen 0; have t3 := H10.out.frozen 1; have hlt10 := H10.out.lt
      go_wp2_with fail
      clear x1c r0 r1 r2 r3 hlr t0 t1 t2 t3 hlt10
      refine (specReadL T _ hTm).mono ?_; rw [hQ]; rintro x w3 ⟨rfl, hb3⟩
      replace HX := hide (HX.out.new hb3); replace HRR := hide (HRR.out.new hb3); replace HBW := hide (bchain HBW.out hb3)
      replace H10 := hide (H10.out.new hb3)
      clear hb3
      have x1c := HX.out.cell (j := 1) rfl; have r0 := HRR.out.cell (j := 0) rfl; have r1 := HRR.out.cell (j := 1) rfl; have r2 := HRR.out.frozen 0; have r3 := HRR.out.frozen 1; have hlr := HRR.out.lt
      have t0 := H10.out.cell (j := 0) rfl; have t1 := H10.out.cell (j := 1) rfl; have t2 := H10.out.frozen 0; have t3 := H10.out.frozen 1; have hlt10 := H10.out.lt
      go_upto_region 19 with fail
      clear x1c r0 r1 r2 r3 hlr t0 t1 t2 t3 hlt10
      obtain ⟨u9, hu9⟩ : ∃ u, World.setCell (w3) ⟨w2.heap.size, 0, none⟩ (.string x1) = u := ⟨_, rfl⟩; (try rw [hu9]); have hn1 : w2.heap.size ≠ w.heap.size := (by omega); have hn2 : w2.heap.size ≠ w.heap.size + 1 := (by omega); replace H10 : Hid (RowIs u9 w2.heap.size 46 [.string x1, .string ⟨#[]⟩]) := hide (hu9 ▸ H10.out.set 0 (.string x1)); replace HX := hide (HX.out.far ⟨w2.heap.size, 0, none⟩ (.string x1) hn1); replace HRR := hide (HRR.out.far ⟨w2.heap.size, 0, none⟩ (.string x1) hn2); replace HBW := hide (HBW.out.setCell (p := ⟨w2.heap.size, 0, none⟩) (show w.heap.size ≤ w2.heap.size by omega) (.string x1)); rw [hu9] at HX HRR HBW; clear hu9
      go_wp2_with fail
      refine (specReadL T2 _ hT2m).mono ?_; rw [hQ2]; rintro x w4 ⟨rfl, hb4⟩
      replace HX := hide (HX.out.new hb4); replace HRR := hide (HRR.out.new hb4); replace HBW := hide (bchain HBW.out hb4)
      replace H10 := hide (H10.out.new hb4)
      clear hb4
      have x1c := HX.out.cell (j := 1) rfl; have r0 := HRR.out.cell (j := 0) rfl; have r1 := HRR.out.cell (j := 1) rfl; have r2 := HRR.out.frozen 0; have r3 := HRR.out.frozen 1; have hlr := HRR.out.lt
      have t0 := H10.out.cell (j := 0) rfl; have t1 := H10.out.cell (j := 1) rfl; have t2 := H10.out.frozen 0; have t3 := H10.out.frozen 1; have hlt10 := H10.out.lt
      go_wp2_with fail
      refine bodyPost_ret (v := (.tuple #[.agg #[.string (x1), .string (x2)], .int .i64 (k + j + j2)])) (by simp [results, Try.results55, go_sem, *]) rfl ?_
      have hbw := HBW.out
      have hsz := HBW.out.size
      exact ⟨rfl, (by repeat' (first | (with_reducible exact hbw) | (with_reducible refine Below.setCell ?_ ?_ _) | (with_reducible refine Below.alloc ?_ ?_ _) | (with_reducible refine Below.drew ?_) | (with_reducible refine bo_drewN _ ?_) | omega | (simp; done) | (simp; omega)))⟩
    rw [if_neg h0] at hD
    have hn9 : (n == 0) = false := by simp [h0]
    obtain ⟨q, rfl⟩ : ∃ q : Nat, n = (q : Int) + 1 := ⟨(n - 1).toNat, by omega⟩
    have hq : q < L.length := by omega
    rw [show ((q : Int) + 1).toNat - 1 = q by omega, List.getD_eq_getElem?_getD, List.getElem?_eq_getElem hq] at hD
    obtain ⟨b, o, rfl, hbw, hcc⟩ := H3.out (by omega)
    obtain ⟨s0, s1⟩ := fv_get L q hq
    obtain ⟨f, hff⟩ : ∃ f, L[q] = f := ⟨_, rfl⟩
    rw [hff] at s0 s1 hD
    have hD2 : (if j = 0 then (noF, 0) else ((⟨f.n, x1⟩ : Fd), k + j)) = D := hD
    clear hD hff
    have c0 := hcc _ _ s0
    have C0 := hide c0
    clear c0 hcc s0 s1
    by_cases hj : j = 0
    · subst hj
      rw [if_pos rfl] at hD2
      subst hD2
      go_enter Try.func55, Try.ntmps55; go_wp2_with fail
      obtain ⟨V, hV⟩ : ∃ V, (w.alloc (.cells #[.int .i64 room, .slice (some ⟨b, o, none⟩) L.length cap] 26)).alloc (.cells #[.string ⟨#[]⟩, .string ⟨#[]⟩] 46) = V := ⟨_, rfl⟩
      have HBW : Hid (Below w.heap.size w V) := by show Below _ _ _; rw [← hV]; exact bo_alloc ((Below.refl _ _).alloc (Nat.le_refl _) _) _
      have HX : Hid (RowIs V w.heap.size 26 [.int .i64 room, .slice (some ⟨b, o, none⟩) L.length cap]) := by show RowIs _ _ _ _; rw [← hV]; exact (rowIs_new w 26 [.int .i64 room, .slice (some ⟨b, o, none⟩) L.length cap]).alloc _
      have HRR : Hid (RowIs V (w.heap.size + 1) 46 [.string ⟨#[]⟩, .string ⟨#[]⟩]) := by show RowIs _ _ _ _; rw [← hV]; simpa using rowIs_new (w.alloc (.cells #[.int .i64 room, .slice (some ⟨b, o, none⟩) L.length cap] 26)) 46 [.string ⟨#[]⟩, .string ⟨#[]⟩]
      rw [hV]
      clear hV
      refine (specRead s 6 _ hs).mono ?_; rw [hP]; rintro x w1 ⟨rfl, hb1⟩
      replace HX := hide (HX.out.new hb1); replace HRR := hide (HRR.out.new hb1); replace HBW := hide (bchain HBW.out hb1)
      clear hb1
      have x1c := HX.out.cell (j := 1) rfl; have r0 := HRR.out.cell (j := 0) rfl; have r1 := HRR.out.cell (j := 1) rfl; have r2 := HRR.out.frozen 0; have r3 := HRR.out.frozen 1; have hlr := HRR.out.lt
      go_wp2_with fail
      refine (specIn _ _ _ _).mono ?_; rw [hin]; rintro x w2 ⟨rfl, rfl⟩
      go_upto_region 12 with fail; clear x1c r0 r1 r2 r3 hlr; have hl9 := HRR.out.lt; obtain ⟨v10, hW⟩ : ∃ v10, (w2).alloc (.cells #[.string ⟨#[]⟩, .string ⟨#[]⟩] 46) = v10 := ⟨_, rfl⟩; have hbW : Below (w2).heap.size (w2) v10 := (by rw [← hW]; exact (Below.refl _ _).alloc (Nat.le_refl _) _); have H10 : Hid (RowIs v10 (w2).heap.size 46 [.string ⟨#[]⟩, .string ⟨#[]⟩]) := (by show RowIs _ _ _ _; rw [← hW]; exact rowIs_new _ _ _); replace HX := hide (HX.out.new hbW); replace HRR := hide (HRR.out.new hbW); replace HBW := hide (bchain HBW.out hbW); clear hbW; rw [hW]; clear hW; have x1c := HX.out.cell (j := 1) rfl; have r0 := HRR.out.cell (j := 0) rfl; have r1 := HRR.out.cell (j := 1) rfl; have r2 := HRR.out.frozen 0; have r3 := HRR.out.frozen 1; have hlr := HRR.out.lt; have t0 := H10.out.cell (j := 0) rfl; have t1 := H10.out.cell (j := 1) rfl; have t2 := H10.out.frozen 0; have t3 := H10.out.frozen 1; have hlt10 := H10.out.lt
      have c0 : v10.cell? ⟨b, o + q * 2, none⟩ = some (.string f.n) := (HBW.out.cell (p := ⟨b, o + q * 2, none⟩) hbw).trans C0.out
      have hnb : ¬ b = w2.heap.size := by omega
      go_upto_region 19 with fail
      clear x1c r0 r1 r2 r3 hlr t0 t1 t2 t3 hlt10
      clear c0
      obtain ⟨u9, hu9⟩ : ∃ u, World.setCell (v10) ⟨w2.heap.size, 0, none⟩ (.string f.n) = u := ⟨_, rfl⟩; (try rw [hu9]); have hn1 : w2.heap.size ≠ w.heap.size := (by omega); have hn2 : w2.heap.size ≠ w.heap.size + 1 := (by omega); replace H10 : Hid (RowIs u9 w2.heap.size 46 [.string f.n, .string ⟨#[]⟩]) := hide (hu9 ▸ H10.out.set 0 (.string f.n)); replace HX := hide (HX.out.far ⟨w2.heap.size, 0, none⟩ (.string f.n) hn1); replace HRR := hide (HRR.out.far ⟨w2.heap.size, 0, none⟩ (.string f.n) hn2); replace HBW := hide (HBW.out.setCell (p := ⟨w2.heap.size, 0, none⟩) (show w.heap.size ≤ w2.heap.size by omega) (.string f.n)); rw [hu9] at HX HRR HBW; clear hu9
      go_wp2_with fail
      refine (specReadL T _ hTm).mono ?_; rw [hQ]; rintro x w4 ⟨rfl, hb4⟩
      replace HX := hide (HX.out.new hb4); replace HRR := hide (HRR.out.new hb4); replace HBW := hide (bchain HBW.out hb4)
      replace H10 := hide (H10.out.new hb4)
      clear hb4
      have x1c := HX.out.cell (j := 1) rfl; have r0 := HRR.out.cell (j := 0) rfl; have r1 := HRR.out.cell (j := 1) rfl; have r2 := HRR.out.frozen 0; have r3 := HRR.out.frozen 1; have hlr := HRR.out.lt
      have t0 := H10.out.cell (j := 0) rfl; have t1 := H10.out.cell (j := 1) rfl; have t2 := H10.out.frozen 0; have t3 := H10.out.frozen 1; have hlt10 := H10.out.lt
      go_wp2_with fail
      refine bodyPost_ret (v := (.tuple #[.agg #[.string (⟨#[]⟩), .string (⟨#[]⟩)], .int .i64 (0)])) (by simp [results, Try.results55, go_sem, *]) rfl ?_
      have hbw := HBW.out
      have hsz := HBW.out.size
      exact ⟨rfl, (by repeat' (first | (with_reducible exact hbw) | (with_reducible refine Below.setCell ?_ ?_ _) | (with_reducible refine Below.alloc ?_ ?_ _) | (with_reducible refine Below.drew ?_) | (with_reducible refine bo_drewN _ ?_) | omega | (simp; done) | (simp; omega)))⟩
    rw [if_neg hj] at hD2
    subst hD2
    go_enter Try.func55, Try.ntmps55; go_wp2_with fail
    obtain ⟨V, hV⟩ : ∃ V, (w.alloc (.cells #[.int .i64 room, .slice (some ⟨b, o, none⟩) L.length cap] 26)).alloc (.cells #[.string ⟨#[]⟩, .string ⟨#[]⟩] 46) = V := ⟨_, rfl⟩
    have HBW : Hid (Below w.heap.size w V) := by show Below _ _ _; rw [← hV]; exact bo_alloc ((Below.refl _ _).alloc (Nat.le_refl _) _) _
    have HX : Hid (RowIs V w.heap.size 26 [.int .i64 room, .slice (some ⟨b, o, none⟩) L.length cap]) := by show RowIs _ _ _ _; rw [← hV]; exact (rowIs_new w 26 [.int .i64 room, .slice (some ⟨b, o, none⟩) L.length cap]).alloc _
    have HRR : Hid (RowIs V (w.heap.size + 1) 46 [.string ⟨#[]⟩, .string ⟨#[]⟩]) := by show RowIs _ _ _ _; rw [← hV]; simpa using rowIs_new (w.alloc (.cells #[.int .i64 room, .slice (some ⟨b, o, none⟩) L.length cap] 26)) 46 [.string ⟨#[]⟩, .string ⟨#[]⟩]
    rw [hV]
    clear hV
    refine (specRead s 6 _ hs).mono ?_; rw [hP]; rintro x w1 ⟨rfl, hb1⟩
    replace HX := hide (HX.out.new hb1); replace HRR := hide (HRR.out.new hb1); replace HBW := hide (bchain HBW.out hb1)
    clear hb1
    have x1c := HX.out.cell (j := 1) rfl; have r0 := HRR.out.cell (j := 0) rfl; have r1 := HRR.out.cell (j := 1) rfl; have r2 := HRR.out.frozen 0; have r3 := HRR.out.frozen 1; have hlr := HRR.out.lt
    go_wp2_with fail
    refine (specIn _ _ _ _).mono ?_; rw [hin]; rintro x w2 ⟨rfl, rfl⟩
    go_upto_region 12 with fail; clear x1c r0 r1 r2 r3 hlr; have hl9 := HRR.out.lt; obtain ⟨v10, hW⟩ : ∃ v10, (w2).alloc (.cells #[.string ⟨#[]⟩, .string ⟨#[]⟩] 46) = v10 := ⟨_, rfl⟩; have hbW : Below (w2).heap.size (w2) v10 := (by rw [← hW]; exact (Below.refl _ _).alloc (Nat.le_refl _) _); have H10 : Hid (RowIs v10 (w2).heap.size 46 [.string ⟨#[]⟩, .string ⟨#[]⟩]) := (by show RowIs _ _ _ _; rw [← hW]; exact rowIs_new _ _ _); replace HX := hide (HX.out.new hbW); replace HRR := hide (HRR.out.new hbW); replace HBW := hide (bchain HBW.out hbW); clear hbW; rw [hW]; clear hW; have x1c := HX.out.cell (j := 1) rfl; have r0 := HRR.out.cell (j := 0) rfl; have r1 := HRR.out.cell (j := 1) rfl; have r2 := HRR.out.frozen 0; have r3 := HRR.out.frozen 1; have hlr := HRR.out.lt; have t0 := H10.out.cell (j := 0) rfl; have t1 := H10.out.cell (j := 1) rfl; have t2 := H10.out.frozen 0; have t3 := H10.out.frozen 1; have hlt10 := H10.out.lt
    have c0 : v10.cell? ⟨b, o + q * 2, none⟩ = some (.string f.n) := (HBW.out.cell (p := ⟨b, o + q * 2, none⟩) hbw).trans C0.out
    have hnb : ¬ b = w2.heap.size := by omega
    go_upto_region 19 with fail
    clear x1c r0 r1 r2 r3 hlr t0 t1 t2 t3 hlt10
    clear c0
    obtain ⟨u9, hu9⟩ : ∃ u, World.setCell (v10) ⟨w2.heap.size, 0, none⟩ (.string f.n) = u := ⟨_, rfl⟩; (try rw [hu9]); have hn1 : w2.heap.size ≠ w.heap.size := (by omega); have hn2 : w2.heap.size ≠ w.heap.size + 1 := (by omega); replace H10 : Hid (RowIs u9 w2.heap.size 46 [.string f.n, .string ⟨#[]⟩]) := hide (hu9 ▸ H10.out.set 0 (.string f.n)); replace HX := hide (HX.out.far ⟨w2.heap.size, 0, none⟩ (.string f.n) hn1); replace HRR := hide (HRR.out.far ⟨w2.heap.size, 0, none⟩ (.string f.n) hn2); replace HBW := hide (HBW.out.setCell (p := ⟨w2.heap.size, 0, none⟩) (show w.heap.size ≤ w2.heap.size by omega) (.string f.n)); rw [hu9] at HX HRR HBW; clear hu9
    go_wp2_with fail
    refine (specReadL T _ hTm).mono ?_; rw [hQ]; rintro x w4 ⟨rfl, hb4⟩
    replace HX := hide (HX.out.new hb4); replace HRR := hide (HRR.out.new hb4); replace HBW := hide (bchain HBW.out hb4)
    replace H10 := hide (H10.out.new hb4)
    clear hb4
    have x1c := HX.out.cell (j := 1) rfl; have r0 := HRR.out.cell (j := 0) rfl; have r1 := HRR.out.cell (j := 1) rfl; have r2 := HRR.out.frozen 0; have r3 := HRR.out.frozen 1; have hlr := HRR.out.lt
    have t0 := H10.out.cell (j := 0) rfl; have t1 := H10.out.cell (j := 1) rfl; have t2 := H10.out.frozen 0; have t3 := H10.out.frozen 1; have hlt10 := H10.out.lt
    go_wp2_with fail
    refine bodyPost_ret (v := (.tuple #[.agg #[.string (f.n), .string (x1)], .int .i64 (k + j)])) (by simp [results, Try.results55, go_sem, *]) rfl ?_
    have hbw := HBW.out
    have hsz := HBW.out.size
    exact ⟨rfl, (by repeat' (first | (with_reducible exact hbw) | (with_reducible refine Below.setCell ?_ ?_ _) | (with_reducible refine Below.alloc ?_ ?_ _) | (with_reducible refine Below.drew ?_) | (with_reducible refine bo_drewN _ ?_) | omega | (simp; done) | (simp; omega)))⟩
end Go.Proofs.Ytejmnkabmajebaa
