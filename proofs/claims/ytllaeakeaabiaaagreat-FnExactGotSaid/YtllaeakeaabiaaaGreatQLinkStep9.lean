/- The program's link: whatever frame. -/
import Derived.Test.YtllaeakeaabiaaaGreatQLinkStep8
import Derived.Test.YtllaeakeaabiaaaGreatQG2
namespace Go.Proofs.YtllaeakeaabiaaaGreat
open Go.RowKit
set_option maxRecDepth 100000
set_option linter.unusedSimpArgs false
set_option linter.unusedVariables false
set_option maxHeartbeats 8000000 in
theorem implObey (lo g : Nat) (d : CnD) (L : List Fr) (bs : List Nat) (f : Fr) (w : World) (h : LkM w lo g d L bs) (hok : okCn d = true) (hL : L.length ≤ 999990) (hf : okFr f = true) :
    Calls Tryz.prog 75 #[.pointer (some ⟨g, 0, none⟩), .agg #[.int .i64 f.k, .int .i64 f.fl, .int .i64 f.st, .string f.b]] w fun x w' => x = endO (obeyO d f) ∧ ∃ bx, Lnk lo g w bs w' (obeyO d f).1 (L ++ (obeyO d f).2.1) bx := by
  have hq := h.far (Nat.le_refl _)
  have hkk := fr_kinds hf
  obtain ⟨k, fl, st, b⟩ := f
  dsimp only at hkk
  obtain ⟨q1, q2, q3, q4, q5, q6, q7, q8, q9, q10, q11⟩ := hkk
  obtain ⟨V, hV⟩ : ∃ V, w.alloc (.cells #[.int .i64 k, .int .i64 fl, .int .i64 st, .string b] 48) = V := ⟨_, rfl⟩
  have hBV : Below w.heap.size w V := by rw [← hV]; exact (Below.refl _ _).alloc (Nat.le_refl _) _
  have hRV : RowIs V w.heap.size 48 [.int .i64 k, .int .i64 fl, .int .i64 st, .string b] := by rw [← hV]; exact rowIs_new w 48 _
  have hm := h.new hBV
  have hbm : b.size ≤ maxLen := by unfold maxLen; omega
  have HB := hide hBV; have HR := hide hRV; have HM := hide hm; have HQ := hide hq
  have HFO := hide hf; have HOK := hide hok; have HBM := hide hbm
  obtain ⟨E, hE⟩ : ∃ E, obeyO d ⟨k, fl, st, b⟩ = E := ⟨_, rfl⟩
  rw [hE]
  have HE := hide hE
  have r0 := RowIs.cell (j := 0) hRV rfl
  have r1 := RowIs.cell (j := 1) hRV rfl
  have r2 := RowIs.cell (j := 2) hRV rfl
  have r3 := RowIs.cell (j := 3) hRV rfl
  have hreg := (okCn_iff.1 hok).1
  clear hE hq hBV hRV h hf hok hbm
  rcases (show k = 1 ∨ k = 2 ∨ k = 3 ∨ k = 4 ∨ k = 5 ∨ k = 6 ∨ k = 7 by omega) with rfl | rfl | rfl | rfl | rfl | rfl | rfl
  · have hE0 : E = dataO d ⟨1, fl, st, b⟩ := by rw [← HE.out]; rfl
    go_enter Tryz.func75, Tryz.ntmps75
    go_wp2_with fail
    try rw [hV]
    clear hV
    refine (implGotData lo g d L bs ⟨1, fl, st, b⟩ _ hm HOK.out hL HFO.out rfl).mono ?_
    rintro x w5 ⟨hx, by_, hl5⟩
    rw [← hE0] at hx hl5
    have HF := hide (Lnk.after HB.out hl5)
    clear hl5 hm r0 r1 r2 r3 hE0
    obtain ⟨c5, l5, q5⟩ := E
    cases q5 with
    | none =>
      simp only [endO] at hx
      subst hx
      go_wp2_with fail
      first | go_end0 | refine bodyPost_ret (results_none rfl _ _ _) rfl ?_
      exact ⟨rfl, _, HF.out⟩
    | some p =>
      obtain ⟨st5, cd5⟩ := p
      simp only [endO] at hx
      subst hx
      go_wp2_with fail
      exact ⟨rfl, rfl, _, HF.out⟩
  · have hE0 : E = headO d st fl b := by rw [← HE.out]; rfl
    go_enter Tryz.func75, Tryz.ntmps75
    go_wp2_with fail
    try rw [hV]
    clear hV
    refine (implGotHead lo g d L bs ⟨2, fl, st, b⟩ _ hm HOK.out (by omega) HBM.out (by have := q9 (by simp); dsimp only; omega)).mono ?_
    rintro x w5 ⟨hx, by_, hl5⟩
    rw [← hE0] at hx hl5
    have HF := hide (Lnk.after HB.out hl5)
    clear hl5 hm r0 r1 r2 r3 hE0
    obtain ⟨c5, l5, q5⟩ := E
    cases q5 with
    | none =>
      simp only [endO] at hx
      subst hx
      go_wp2_with fail
      first | go_end0 | refine bodyPost_ret (results_none rfl _ _ _) rfl ?_
      exact ⟨rfl, _, HF.out⟩
    | some p =>
      obtain ⟨st5, cd5⟩ := p
      simp only [endO] at hx
      subst hx
      go_wp2_with fail
      exact ⟨rfl, rfl, _, HF.out⟩
  · obtain ⟨S, hS⟩ : ∃ S, stateD d.reg st = S := ⟨_, rfl⟩
    have hE0 : E = if S = 0 then (d, [], some (0, 1)) else (atFl (hapD d st 4) st tornF, [], none) := by rw [← HE.out, ← hS]; rfl
    have HS := hide hS
    clear hS
    by_cases hs0 : S = 0
    · rw [if_pos hs0] at hE0
      subst hE0
      have hz := HS.out.trans hs0
      go_enter Tryz.func75, Tryz.ntmps75
      go_wp2_with fail
      try rw [hV]
      clear hV
      refine (implBegunNo lo g d L bs st _ hm hreg hz).mono ?_; rintro x w2 ⟨rfl, hb2⟩
      have HF := hide (Lnk.after HB.out ((Lnk.start HM.out).new hb2))
      clear hb2
      go_wp2_with fail
      refine ⟨rfl, rfl, bs, ?_⟩
      (try rw [List.append_nil]); exact HF.out
    · rw [if_neg hs0] at hE0
      subst hE0
      have hz : stateD d.reg st ≠ 0 := by rw [HS.out]; exact hs0
      clear hs0
      go_enter Tryz.func75, Tryz.ntmps75
      go_wp2_with fail
      try rw [hV]
      clear hV
      refine (implBegun lo g d L bs st _ hm hreg hz).mono ?_; rintro x w2 ⟨rfl, hb2⟩
      have HL := hide ((Lnk.start HM.out).new hb2)
      replace HR := hide (HR.out.new hb2)
      clear hb2 r0 r1 r2 r3 hm
      have r2 := RowIs.cell (j := 2) HR.out rfl
      have hm2 := HL.out.m
      go_wp2_with fail
      refine (implReset lo g d L bs st 4 _ hm2 hreg (hap_ok _ _ HOK.out)).mono ?_; rintro x w3 ⟨rfl, by_, hl3⟩
      have HF := hide (Lnk.after HB.out (HL.out.step hl3))
      clear hl3 hm2 r2
      go_wp2_with fail
      first | go_end0 | refine bodyPost_ret (results_none rfl _ _ _) rfl ?_
      refine ⟨rfl, by_, ?_⟩
      (try rw [List.append_nil]); exact HF.out
  · have hE0 : E = settleO d b := by rw [← HE.out]; rfl
    go_enter Tryz.func75, Tryz.ntmps75
    go_wp2_with fail
    try rw [hV]
    clear hV
    refine (implGotSettle lo g d L bs ⟨4, fl, st, b⟩ _ hm HOK.out (by omega) HBM.out).mono ?_
    rintro x w5 ⟨hx, by_, hl5⟩
    rw [← hE0] at hx hl5
    have HF := hide (Lnk.after HB.out hl5)
    clear hl5 hm r0 r1 r2 r3 hE0
    obtain ⟨c5, l5, q5⟩ := E
    cases q5 with
    | none =>
      simp only [endO] at hx
      subst hx
      go_wp2_with fail
      first | go_end0 | refine bodyPost_ret (results_none rfl _ _ _) rfl ?_
      exact ⟨rfl, _, HF.out⟩
    | some p =>
      obtain ⟨st5, cd5⟩ := p
      simp only [endO] at hx
      subst hx
      go_wp2_with fail
      exact ⟨rfl, rfl, _, HF.out⟩
  · by_cases hf1 : fl = 1
    · subst hf1
      have hE0 : E = (d, [], none) := by rw [← HE.out]; rfl
      subst hE0
      have HF := hide (Lnk.after HB.out (Lnk.start HM.out))
      go_enter Tryz.func75, Tryz.ntmps75
      go_wp2_with fail
      first | go_end0 | refine bodyPost_ret (results_none rfl _ _ _) rfl ?_
      refine ⟨rfl, bs, ?_⟩
      (try rw [List.append_nil]); try rw [hV]
      exact HF.out
    · have hE0 : E = (d, [⟨5, 1, 0, b⟩], none) := by
        rw [← HE.out]
        show (if fl ≠ 1 then _ else _) = _
        rw [if_pos hf1]
      subst hE0
      have hf1' : (fl != 1) = true := by simpa using hf1
      have hbs : b.size ≤ 281474976710656 := by omega
      clear hf1
      go_enter Tryz.func75, Tryz.ntmps75
      go_wp2_with fail
      try rw [hV]
      clear hV
      refine (clone b _ hbs).mono ?_; rintro x w2 ⟨rfl, hb2⟩
      have HL := hide ((Lnk.start HM.out).new hb2)
      clear hb2 r0 r1 r2 r3 hm
      have hm2 := HL.out.m
      go_wp2_with fail
      refine (implTell lo g d L bs 5 1 0 b _ hm2 (by omega)).mono ?_; rintro x w3 ⟨rfl, by_, hl3⟩
      have HF := hide (Lnk.after HB.out (HL.out.step hl3))
      clear hl3 hm2
      go_wp2_with fail
      first | go_end0 | refine bodyPost_ret (results_none rfl _ _ _) rfl ?_
      exact ⟨rfl, by_, HF.out⟩
  · have hE0 : E = ({ d with away := true }, [], none) := by rw [← HE.out]; rfl
    subst hE0
    obtain ⟨⟨ve, vi, vo, vf, tv, cb, hrow, hc, h3, h4, h5⟩, hl, hlo, hng, hbs⟩ := hm
    have x11 := RowIs.cell (j := 11) hrow rfl
    have xf := RowIs.frozen hrow 11
    have xl := hrow.lt
    have HF := hide (Lnk.after HB.out HM.out.setAway)
    clear hrow hc h3 h4 h5 hl hlo hng hbs
    go_enter Tryz.func75, Tryz.ntmps75
    go_wp2_with fail
    first | go_end0 | refine bodyPost_ret (results_none rfl _ _ _) rfl ?_
    refine ⟨rfl, bs, ?_⟩
    (try rw [List.append_nil]); try rw [hV]
    exact HF.out
  · have hE0 : E = windowO d st b := by rw [← HE.out]; rfl
    go_enter Tryz.func75, Tryz.ntmps75
    go_wp2_with fail
    try rw [hV]
    clear hV
    refine (implGotWindow lo g d L bs ⟨7, fl, st, b⟩ _ hm HOK.out (by omega) HBM.out).mono ?_
    rintro x w5 ⟨hx, by_, hl5⟩
    rw [← hE0] at hx hl5
    have HF := hide (Lnk.after HB.out hl5)
    clear hl5 hm r0 r1 r2 r3 hE0
    obtain ⟨c5, l5, q5⟩ := E
    cases q5 with
    | none =>
      simp only [endO] at hx
      subst hx
      go_wp2_with fail
      first | go_end0 | refine bodyPost_ret (results_none rfl _ _ _) rfl ?_
      exact ⟨rfl, _, HF.out⟩
    | some p =>
      obtain ⟨st5, cd5⟩ := p
      simp only [endO] at hx
      subst hx
      go_wp2_with fail
      exact ⟨rfl, rfl, _, HF.out⟩
end Go.Proofs.YtllaeakeaabiaaaGreat
