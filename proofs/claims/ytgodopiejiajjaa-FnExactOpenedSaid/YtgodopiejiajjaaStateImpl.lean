/- The program's states: its moves are a map with keys of state and event. -/
import Derived.Test.YtgodopiejiajjaaStateMath
import Derived.Test.YtgodopiejiajjaaInts
import Derived.Test.YtgodopiejiajjaaMoveMap
import Derived.Test.YtgodopiejiajjaaRegionInv
import Derived.Test.YtgodopiejiajjaaRowIs
import Derived.Maps.OwnOps
import Derived.Deep.RegionHeld3



namespace Go.Proofs.Ytgodopiejiajjaa
open Go.RowKit
set_option maxRecDepth 100000
set_option linter.unusedSimpArgs false
set_option linter.unusedVariables false
def mvs : List (Nat × Int × Int × Int) := [(2, 0, 1, 1), (4, 1, 6, 1), (6, 1, 7, 1), (8, 1, 2, 2), (10, 1, 3, 3), (12, 1, 4, 4), (14, 1, 5, 4), (16, 2, 7, 2), (18, 2, 3, 4), (20, 2, 4, 4), (22, 2, 5, 4), (24, 3, 6, 3), (26, 3, 2, 4), (28, 3, 4, 4), (30, 3, 5, 4)]
def fL (l : Array Bool) : Int → Int → Option Int := fun s e => (mvs.find? fun t => decide (t.2.1 = s) && decide (t.2.2.1 = e)).bind fun t => if l.getD t.1 false then some t.2.2.2 else none
def mvF : Int → Int → Option Int := fun s e => (mvs.find? fun t => decide (t.2.1 = s) && decide (t.2.2.1 = e)).map fun t => t.2.2.2
theorem mvs_find : ∀ t ∈ mvs, (mvs.find? fun u => decide (u.2.1 = t.2.1) && decide (u.2.2.1 = t.2.2.1)) = some t := by decide
theorem mvs_one : ∀ t ∈ mvs, ∀ u ∈ mvs, t.1 = u.1 → t = u := by decide
theorem fL_put {l : Array Bool} {t : Nat × Int × Int × Int} (ht : t ∈ mvs) (hl : t.1 < l.size) (a b : Int) : fPut (fL l) t.2.1 t.2.2.1 t.2.2.2 a b = fL (l.setIfInBounds t.1 true) a b := by
  unfold fPut fL
  split
  · rename_i h
    obtain ⟨rfl, rfl⟩ := h
    rw [mvs_find t ht]
    simp [hl]
  · rename_i h
    cases hf : mvs.find? fun t => decide (t.2.1 = a) && decide (t.2.2.1 = b) with
    | none => rfl
    | some u =>
      have hu := List.find?_some hf
      have hm := List.mem_of_find?_eq_some hf
      simp at hu
      have hne : t.1 ≠ u.1 := fun e => by
        obtain rfl := mvs_one t ht u hm e
        exact h ⟨hu.1.symm, hu.2.symm⟩
      simp only [Option.bind_some]
      rw [getD_set_ne false hne]
theorem fL_none {l : Array Bool} {t : Nat × Int × Int × Int} (ht : t ∈ mvs) (hl : l.getD t.1 false = false) : fL l t.2.1 t.2.2.1 = none := by
  unfold fL
  rw [mvs_find t ht]
  simp only [Option.bind_some]
  rw [hl]; rfl
theorem fL_far {l : Array Bool} {i : Nat} (h : ∀ t ∈ mvs, i ≠ t.1) (a b : Int) : fL l a b = fL (l.setIfInBounds i true) a b := by
  unfold fL
  cases hf : mvs.find? fun t => decide (t.2.1 = a) && decide (t.2.2.1 = b) with
  | none => rfl
  | some u =>
    simp only [Option.bind_some]
    rw [getD_set_ne false (h u (List.mem_of_find?_eq_some hf))]
theorem fL_all {l : Array Bool} (h : ∀ t ∈ mvs, l.getD t.1 false = true) (a b : Int) : fL l a b = mvF a b := by
  unfold fL mvF
  cases hf : mvs.find? fun t => decide (t.2.1 = a) && decide (t.2.2.1 = b) with
  | none => rfl
  | some u =>
    simp only [Option.bind_some, Option.map_some]
    rw [h u (List.mem_of_find?_eq_some hf)]; rfl
set_option maxRecDepth 100000 in
set_option maxHeartbeats 4000000 in
theorem implMoves (w : World) : Calls Try.prog 67 #[] w fun x w' => x = .returned (.map (some w.heap.size)) ∧ MapHas w' w.heap.size mvF ∧ Below w.heap.size w w' := by
  have hmm := @run_makeMap Try.prog
  go_enter Try.func67, Try.ntmps67
  go_wp2_with fail
  refine wp_region_any (by kernel_rfl) ?_; change wpAny _ _ _ _ _ _ _ (World.drew _)
  refine wpAny_take (i := 1) (v := ?_) rfl (by kernel_rfl) (by kernel_rfl) (by kernel_rfl) (fun _ _ _ h => h) (Or.inl ⟨by rfl, ?_⟩) ?_; rotate_left; focus (intro w; go_simp; try with_reducible rfl)
  refine wpAny_take (i := 3) (v := ?_) rfl (by kernel_rfl) (by kernel_rfl) (by kernel_rfl) (fun _ _ _ h => h) (Or.inl ⟨by rfl, ?_⟩) ?_; rotate_left; focus (intro w; go_simp; try with_reducible rfl)
  refine wpAny_take (i := 5) (v := ?_) rfl (by kernel_rfl) (by kernel_rfl) (by kernel_rfl) (fun _ _ _ h => h) (Or.inl ⟨by rfl, ?_⟩) ?_; rotate_left; focus (intro w; go_simp; try with_reducible rfl)
  refine wpAny_take (i := 7) (v := ?_) rfl (by kernel_rfl) (by kernel_rfl) (by kernel_rfl) (fun _ _ _ h => h) (Or.inl ⟨by rfl, ?_⟩) ?_; rotate_left; focus (intro w; go_simp; try with_reducible rfl)
  refine wpAny_take (i := 9) (v := ?_) rfl (by kernel_rfl) (by kernel_rfl) (by kernel_rfl) (fun _ _ _ h => h) (Or.inl ⟨by rfl, ?_⟩) ?_; rotate_left; focus (intro w; go_simp; try with_reducible rfl)
  refine wpAny_take (i := 11) (v := ?_) rfl (by kernel_rfl) (by kernel_rfl) (by kernel_rfl) (fun _ _ _ h => h) (Or.inl ⟨by rfl, ?_⟩) ?_; rotate_left; focus (intro w; go_simp; try with_reducible rfl)
  refine wpAny_take (i := 13) (v := ?_) rfl (by kernel_rfl) (by kernel_rfl) (by kernel_rfl) (fun _ _ _ h => h) (Or.inl ⟨by rfl, ?_⟩) ?_; rotate_left; focus (intro w; go_simp; try with_reducible rfl)
  refine wpAny_take (i := 15) (v := ?_) rfl (by kernel_rfl) (by kernel_rfl) (by kernel_rfl) (fun _ _ _ h => h) (Or.inl ⟨by rfl, ?_⟩) ?_; rotate_left; focus (intro w; go_simp; try with_reducible rfl)
  refine wpAny_take (i := 17) (v := ?_) rfl (by kernel_rfl) (by kernel_rfl) (by kernel_rfl) (fun _ _ _ h => h) (Or.inl ⟨by rfl, ?_⟩) ?_; rotate_left; focus (intro w; go_simp; try with_reducible rfl)
  refine wpAny_take (i := 19) (v := ?_) rfl (by kernel_rfl) (by kernel_rfl) (by kernel_rfl) (fun _ _ _ h => h) (Or.inl ⟨by rfl, ?_⟩) ?_; rotate_left; focus (intro w; go_simp; try with_reducible rfl)
  refine wpAny_take (i := 21) (v := ?_) rfl (by kernel_rfl) (by kernel_rfl) (by kernel_rfl) (fun _ _ _ h => h) (Or.inl ⟨by rfl, ?_⟩) ?_; rotate_left; focus (intro w; go_simp; try with_reducible rfl)
  refine wpAny_take (i := 23) (v := ?_) rfl (by kernel_rfl) (by kernel_rfl) (by kernel_rfl) (fun _ _ _ h => h) (Or.inl ⟨by rfl, ?_⟩) ?_; rotate_left; focus (intro w; go_simp; try with_reducible rfl)
  refine wpAny_take (i := 25) (v := ?_) rfl (by kernel_rfl) (by kernel_rfl) (by kernel_rfl) (fun _ _ _ h => h) (Or.inl ⟨by rfl, ?_⟩) ?_; rotate_left; focus (intro w; go_simp; try with_reducible rfl)
  refine wpAny_take (i := 27) (v := ?_) rfl (by kernel_rfl) (by kernel_rfl) (by kernel_rfl) (fun _ _ _ h => h) (Or.inl ⟨by rfl, ?_⟩) ?_; rotate_left; focus (intro w; go_simp; try with_reducible rfl)
  refine wpAny_take (i := 29) (v := ?_) rfl (by kernel_rfl) (by kernel_rfl) (by kernel_rfl) (fun _ _ _ h => h) (Or.inl ⟨by rfl, ?_⟩) ?_; rotate_left; focus (intro w; go_simp; try with_reducible rfl)
  refine wpAny_ready (rs := [0]) (by kernel_rfl) (by simp) ?_; refine AllReady.cons rfl (fun K hK => ?_) AllReady.nil
  go_simp; refine hK _ _ ?_; clear hK K
  refine wpAny_inv (fun (l : Array Bool) (a : Act) (u : World) => ((l.getD 31 false = false ∧ l.getD 32 false = false ∧ a = ⟨#[.map none, .map (some w.heap.size), .agg #[.int .i64 0, .int .i64 1], .agg #[.int .i64 1, .int .i64 6], .agg #[.int .i64 1, .int .i64 7], .agg #[.int .i64 1, .int .i64 2], .agg #[.int .i64 1, .int .i64 3], .agg #[.int .i64 1, .int .i64 4], .agg #[.int .i64 1, .int .i64 5], .agg #[.int .i64 2, .int .i64 7], .agg #[.int .i64 2, .int .i64 3], .agg #[.int .i64 2, .int .i64 4], .agg #[.int .i64 2, .int .i64 5], .agg #[.int .i64 3, .int .i64 6], .agg #[.int .i64 3, .int .i64 2], .agg #[.int .i64 3, .int .i64 4], .agg #[.int .i64 3, .int .i64 5], undef], []⟩) ∨ (l.getD 31 false = true ∧ l.getD 32 false = false ∧ a = ⟨#[.map none, .map (some w.heap.size), .agg #[.int .i64 0, .int .i64 1], .agg #[.int .i64 1, .int .i64 6], .agg #[.int .i64 1, .int .i64 7], .agg #[.int .i64 1, .int .i64 2], .agg #[.int .i64 1, .int .i64 3], .agg #[.int .i64 1, .int .i64 4], .agg #[.int .i64 1, .int .i64 5], .agg #[.int .i64 2, .int .i64 7], .agg #[.int .i64 2, .int .i64 3], .agg #[.int .i64 2, .int .i64 4], .agg #[.int .i64 2, .int .i64 5], .agg #[.int .i64 3, .int .i64 6], .agg #[.int .i64 3, .int .i64 2], .agg #[.int .i64 3, .int .i64 4], .agg #[.int .i64 3, .int .i64 5], .map (some w.heap.size)], []⟩) ∨ (l.getD 31 false = true ∧ l.getD 32 false = true ∧ a = ⟨#[.map (some w.heap.size), .map (some w.heap.size), .agg #[.int .i64 0, .int .i64 1], .agg #[.int .i64 1, .int .i64 6], .agg #[.int .i64 1, .int .i64 7], .agg #[.int .i64 1, .int .i64 2], .agg #[.int .i64 1, .int .i64 3], .agg #[.int .i64 1, .int .i64 4], .agg #[.int .i64 1, .int .i64 5], .agg #[.int .i64 2, .int .i64 7], .agg #[.int .i64 2, .int .i64 3], .agg #[.int .i64 2, .int .i64 4], .agg #[.int .i64 2, .int .i64 5], .agg #[.int .i64 3, .int .i64 6], .agg #[.int .i64 3, .int .i64 2], .agg #[.int .i64 3, .int .i64 4], .agg #[.int .i64 3, .int .i64 5], .map (some w.heap.size)], []⟩)) ∧ (∀ j ∈ [0, 1, 3, 5, 7, 9, 11, 13, 15, 17, 19, 21, 23, 25, 27, 29], l.getD j false = true) ∧ (l.getD 31 false = true → ∀ j, j < 31 → l.getD j false = true) ∧ MapHas u w.heap.size (fL l) ∧ Below w.heap.size w u) ?hs ?he _ _ _ _ (by kernel_rfl) (by decide) ?h0
  case h0 =>
    refine ⟨Or.inl ⟨by kernel_rfl, by kernel_rfl, rfl⟩, by decide, by decide, (mv_made _).ext (fun s e => ?_), (Below.refl _ _).drew.alloc (Nat.le_refl _) _⟩
    unfold fL
    cases hf : mvs.find? fun t => decide (t.2.1 = s) && decide (t.2.2.1 = e) with
    | none => rfl
    | some t =>
      have hm := List.mem_of_find?_eq_some hf
      clear hf
      simp only [Option.bind_some]
      revert t
      decide
  case he =>
    rintro l a u ⟨hA, h0, h31, hM, hB⟩ hl hr
    have hall := all_listed hl (by kernel_rfl) hr
    have hM2 := hM.ext (fL_all (fun t ht => by
      have : ∀ t ∈ mvs, t.1 < 33 := by decide
      exact hall t.1 (this t ht)))
    rcases hA with ⟨_, h2, _⟩ | ⟨_, h2, _⟩ | ⟨_, _, rfl⟩
    · rw [hall 32 (by decide)] at h2; cases h2
    · rw [hall 32 (by decide)] at h2; cases h2
    · clear hall hM h0 h31 hr
      go_wp2_with fail
      refine bodyPost_ret (v := .map (some w.heap.size)) (by simp [results, Try.results67, go_sem, *]) rfl ?_
      exact ⟨rfl, hM2, hB⟩
  case hs =>
    rintro l a u io ⟨hA, h0, h31, hM, hB⟩ hl hr
    have hlt := ready_lt hr
    match io, hlt, hr with
    | 0, _, hr => have := (ready_new hr hl).1; rw [h0 0 (by decide)] at this; cases this
    | 1, _, hr => have := (ready_new hr hl).1; rw [h0 1 (by decide)] at this; cases this
    | 2, _, hr =>
      have hnew := (ready_new hr hl).1
      obtain ⟨w2, hrun, hM2, hg2⟩ := mv_update hM 0 1 1 (fL_none (t := (2, 0, 1, 1)) (by decide) hnew)
      have hB2 : Below w.heap.size w w2 := hB.grown hg2 hB.size (fun q hq => by cases hq; exact Nat.le_refl _)
      have hM3 := hM2.ext (fL_put (l := l) (t := (2, 0, 1, 1)) (by decide) (by rw [hl]; exact ready_lt hr))
      rcases hA with ⟨h1, h2, rfl⟩ | ⟨h1, _, _⟩ | ⟨h1, _, _⟩
      · refine wpOp_step (o := _) rfl (fun K hK => ?_)
        go_simp
        refine hK _ _ ?_; clear hK K
        exact ⟨Or.inl ⟨(getD_set_ne false (by decide)).trans h1, (getD_set_ne false (by decide)).trans h2, rfl⟩, fun j hj => getD_set_true (h0 j hj), last_kept hr hl h31 (by decide), hM3, hB2⟩
      all_goals (rw [not_last hr hl h31 (by decide)] at h1; cases h1)
    | 3, _, hr => have := (ready_new hr hl).1; rw [h0 3 (by decide)] at this; cases this
    | 4, _, hr =>
      have hnew := (ready_new hr hl).1
      obtain ⟨w2, hrun, hM2, hg2⟩ := mv_update hM 1 6 1 (fL_none (t := (4, 1, 6, 1)) (by decide) hnew)
      have hB2 : Below w.heap.size w w2 := hB.grown hg2 hB.size (fun q hq => by cases hq; exact Nat.le_refl _)
      have hM3 := hM2.ext (fL_put (l := l) (t := (4, 1, 6, 1)) (by decide) (by rw [hl]; exact ready_lt hr))
      rcases hA with ⟨h1, h2, rfl⟩ | ⟨h1, _, _⟩ | ⟨h1, _, _⟩
      · refine wpOp_step (o := _) rfl (fun K hK => ?_)
        go_simp
        refine hK _ _ ?_; clear hK K
        exact ⟨Or.inl ⟨(getD_set_ne false (by decide)).trans h1, (getD_set_ne false (by decide)).trans h2, rfl⟩, fun j hj => getD_set_true (h0 j hj), last_kept hr hl h31 (by decide), hM3, hB2⟩
      all_goals (rw [not_last hr hl h31 (by decide)] at h1; cases h1)
    | 5, _, hr => have := (ready_new hr hl).1; rw [h0 5 (by decide)] at this; cases this
    | 6, _, hr =>
      have hnew := (ready_new hr hl).1
      obtain ⟨w2, hrun, hM2, hg2⟩ := mv_update hM 1 7 1 (fL_none (t := (6, 1, 7, 1)) (by decide) hnew)
      have hB2 : Below w.heap.size w w2 := hB.grown hg2 hB.size (fun q hq => by cases hq; exact Nat.le_refl _)
      have hM3 := hM2.ext (fL_put (l := l) (t := (6, 1, 7, 1)) (by decide) (by rw [hl]; exact ready_lt hr))
      rcases hA with ⟨h1, h2, rfl⟩ | ⟨h1, _, _⟩ | ⟨h1, _, _⟩
      · refine wpOp_step (o := _) rfl (fun K hK => ?_)
        go_simp
        refine hK _ _ ?_; clear hK K
        exact ⟨Or.inl ⟨(getD_set_ne false (by decide)).trans h1, (getD_set_ne false (by decide)).trans h2, rfl⟩, fun j hj => getD_set_true (h0 j hj), last_kept hr hl h31 (by decide), hM3, hB2⟩
      all_goals (rw [not_last hr hl h31 (by decide)] at h1; cases h1)
    | 7, _, hr => have := (ready_new hr hl).1; rw [h0 7 (by decide)] at this; cases this
    | 8, _, hr =>
      have hnew := (ready_new hr hl).1
      obtain ⟨w2, hrun, hM2, hg2⟩ := mv_update hM 1 2 2 (fL_none (t := (8, 1, 2, 2)) (by decide) hnew)
      have hB2 : Below w.heap.size w w2 := hB.grown hg2 hB.size (fun q hq => by cases hq; exact Nat.le_refl _)
      have hM3 := hM2.ext (fL_put (l := l) (t := (8, 1, 2, 2)) (by decide) (by rw [hl]; exact ready_lt hr))
      rcases hA with ⟨h1, h2, rfl⟩ | ⟨h1, _, _⟩ | ⟨h1, _, _⟩
      · refine wpOp_step (o := _) rfl (fun K hK => ?_)
        go_simp
        refine hK _ _ ?_; clear hK K
        exact ⟨Or.inl ⟨(getD_set_ne false (by decide)).trans h1, (getD_set_ne false (by decide)).trans h2, rfl⟩, fun j hj => getD_set_true (h0 j hj), last_kept hr hl h31 (by decide), hM3, hB2⟩
      all_goals (rw [not_last hr hl h31 (by decide)] at h1; cases h1)
    | 9, _, hr => have := (ready_new hr hl).1; rw [h0 9 (by decide)] at this; cases this
    | 10, _, hr =>
      have hnew := (ready_new hr hl).1
      obtain ⟨w2, hrun, hM2, hg2⟩ := mv_update hM 1 3 3 (fL_none (t := (10, 1, 3, 3)) (by decide) hnew)
      have hB2 : Below w.heap.size w w2 := hB.grown hg2 hB.size (fun q hq => by cases hq; exact Nat.le_refl _)
      have hM3 := hM2.ext (fL_put (l := l) (t := (10, 1, 3, 3)) (by decide) (by rw [hl]; exact ready_lt hr))
      rcases hA with ⟨h1, h2, rfl⟩ | ⟨h1, _, _⟩ | ⟨h1, _, _⟩
      · refine wpOp_step (o := _) rfl (fun K hK => ?_)
        go_simp
        refine hK _ _ ?_; clear hK K
        exact ⟨Or.inl ⟨(getD_set_ne false (by decide)).trans h1, (getD_set_ne false (by decide)).trans h2, rfl⟩, fun j hj => getD_set_true (h0 j hj), last_kept hr hl h31 (by decide), hM3, hB2⟩
      all_goals (rw [not_last hr hl h31 (by decide)] at h1; cases h1)
    | 11, _, hr => have := (ready_new hr hl).1; rw [h0 11 (by decide)] at this; cases this
    | 12, _, hr =>
      have hnew := (ready_new hr hl).1
      obtain ⟨w2, hrun, hM2, hg2⟩ := mv_update hM 1 4 4 (fL_none (t := (12, 1, 4, 4)) (by decide) hnew)
      have hB2 : Below w.heap.size w w2 := hB.grown hg2 hB.size (fun q hq => by cases hq; exact Nat.le_refl _)
      have hM3 := hM2.ext (fL_put (l := l) (t := (12, 1, 4, 4)) (by decide) (by rw [hl]; exact ready_lt hr))
      rcases hA with ⟨h1, h2, rfl⟩ | ⟨h1, _, _⟩ | ⟨h1, _, _⟩
      · refine wpOp_step (o := _) rfl (fun K hK => ?_)
        go_simp
        refine hK _ _ ?_; clear hK K
        exact ⟨Or.inl ⟨(getD_set_ne false (by decide)).trans h1, (getD_set_ne false (by decide)).trans h2, rfl⟩, fun j hj => getD_set_true (h0 j hj), last_kept hr hl h31 (by decide), hM3, hB2⟩
      all_goals (rw [not_last hr hl h31 (by decide)] at h1; cases h1)
    | 13, _, hr => have := (ready_new hr hl).1; rw [h0 13 (by decide)] at this; cases this
    | 14, _, hr =>
      have hnew := (ready_new hr hl).1
      obtain ⟨w2, hrun, hM2, hg2⟩ := mv_update hM 1 5 4 (fL_none (t := (14, 1, 5, 4)) (by decide) hnew)
      have hB2 : Below w.heap.size w w2 := hB.grown hg2 hB.size (fun q hq => by cases hq; exact Nat.le_refl _)
      have hM3 := hM2.ext (fL_put (l := l) (t := (14, 1, 5, 4)) (by decide) (by rw [hl]; exact ready_lt hr))
      rcases hA with ⟨h1, h2, rfl⟩ | ⟨h1, _, _⟩ | ⟨h1, _, _⟩
      · refine wpOp_step (o := _) rfl (fun K hK => ?_)
        go_simp
        refine hK _ _ ?_; clear hK K
        exact ⟨Or.inl ⟨(getD_set_ne false (by decide)).trans h1, (getD_set_ne false (by decide)).trans h2, rfl⟩, fun j hj => getD_set_true (h0 j hj), last_kept hr hl h31 (by decide), hM3, hB2⟩
      all_goals (rw [not_last hr hl h31 (by decide)] at h1; cases h1)
    | 15, _, hr => have := (ready_new hr hl).1; rw [h0 15 (by decide)] at this; cases this
    | 16, _, hr =>
      have hnew := (ready_new hr hl).1
      obtain ⟨w2, hrun, hM2, hg2⟩ := mv_update hM 2 7 2 (fL_none (t := (16, 2, 7, 2)) (by decide) hnew)
      have hB2 : Below w.heap.size w w2 := hB.grown hg2 hB.size (fun q hq => by cases hq; exact Nat.le_refl _)
      have hM3 := hM2.ext (fL_put (l := l) (t := (16, 2, 7, 2)) (by decide) (by rw [hl]; exact ready_lt hr))
      rcases hA with ⟨h1, h2, rfl⟩ | ⟨h1, _, _⟩ | ⟨h1, _, _⟩
      · refine wpOp_step (o := _) rfl (fun K hK => ?_)
        go_simp
        refine hK _ _ ?_; clear hK K
        exact ⟨Or.inl ⟨(getD_set_ne false (by decide)).trans h1, (getD_set_ne false (by decide)).trans h2, rfl⟩, fun j hj => getD_set_true (h0 j hj), last_kept hr hl h31 (by decide), hM3, hB2⟩
      all_goals (rw [not_last hr hl h31 (by decide)] at h1; cases h1)
    | 17, _, hr => have := (ready_new hr hl).1; rw [h0 17 (by decide)] at this; cases this
    | 18, _, hr =>
      have hnew := (ready_new hr hl).1
      obtain ⟨w2, hrun, hM2, hg2⟩ := mv_update hM 2 3 4 (fL_none (t := (18, 2, 3, 4)) (by decide) hnew)
      have hB2 : Below w.heap.size w w2 := hB.grown hg2 hB.size (fun q hq => by cases hq; exact Nat.le_refl _)
      have hM3 := hM2.ext (fL_put (l := l) (t := (18, 2, 3, 4)) (by decide) (by rw [hl]; exact ready_lt hr))
      rcases hA with ⟨h1, h2, rfl⟩ | ⟨h1, _, _⟩ | ⟨h1, _, _⟩
      · refine wpOp_step (o := _) rfl (fun K hK => ?_)
        go_simp
        refine hK _ _ ?_; clear hK K
        exact ⟨Or.inl ⟨(getD_set_ne false (by decide)).trans h1, (getD_set_ne false (by decide)).trans h2, rfl⟩, fun j hj => getD_set_true (h0 j hj), last_kept hr hl h31 (by decide), hM3, hB2⟩
      all_goals (rw [not_last hr hl h31 (by decide)] at h1; cases h1)
    | 19, _, hr => have := (ready_new hr hl).1; rw [h0 19 (by decide)] at this; cases this
    | 20, _, hr =>
      have hnew := (ready_new hr hl).1
      obtain ⟨w2, hrun, hM2, hg2⟩ := mv_update hM 2 4 4 (fL_none (t := (20, 2, 4, 4)) (by decide) hnew)
      have hB2 : Below w.heap.size w w2 := hB.grown hg2 hB.size (fun q hq => by cases hq; exact Nat.le_refl _)
      have hM3 := hM2.ext (fL_put (l := l) (t := (20, 2, 4, 4)) (by decide) (by rw [hl]; exact ready_lt hr))
      rcases hA with ⟨h1, h2, rfl⟩ | ⟨h1, _, _⟩ | ⟨h1, _, _⟩
      · refine wpOp_step (o := _) rfl (fun K hK => ?_)
        go_simp
        refine hK _ _ ?_; clear hK K
        exact ⟨Or.inl ⟨(getD_set_ne false (by decide)).trans h1, (getD_set_ne false (by decide)).trans h2, rfl⟩, fun j hj => getD_set_true (h0 j hj), last_kept hr hl h31 (by decide), hM3, hB2⟩
      all_goals (rw [not_last hr hl h31 (by decide)] at h1; cases h1)
    | 21, _, hr => have := (ready_new hr hl).1; rw [h0 21 (by decide)] at this; cases this
    | 22, _, hr =>
      have hnew := (ready_new hr hl).1
      obtain ⟨w2, hrun, hM2, hg2⟩ := mv_update hM 2 5 4 (fL_none (t := (22, 2, 5, 4)) (by decide) hnew)
      have hB2 : Below w.heap.size w w2 := hB.grown hg2 hB.size (fun q hq => by cases hq; exact Nat.le_refl _)
      have hM3 := hM2.ext (fL_put (l := l) (t := (22, 2, 5, 4)) (by decide) (by rw [hl]; exact ready_lt hr))
      rcases hA with ⟨h1, h2, rfl⟩ | ⟨h1, _, _⟩ | ⟨h1, _, _⟩
      · refine wpOp_step (o := _) rfl (fun K hK => ?_)
        go_simp
        refine hK _ _ ?_; clear hK K
        exact ⟨Or.inl ⟨(getD_set_ne false (by decide)).trans h1, (getD_set_ne false (by decide)).trans h2, rfl⟩, fun j hj => getD_set_true (h0 j hj), last_kept hr hl h31 (by decide), hM3, hB2⟩
      all_goals (rw [not_last hr hl h31 (by decide)] at h1; cases h1)
    | 23, _, hr => have := (ready_new hr hl).1; rw [h0 23 (by decide)] at this; cases this
    | 24, _, hr =>
      have hnew := (ready_new hr hl).1
      obtain ⟨w2, hrun, hM2, hg2⟩ := mv_update hM 3 6 3 (fL_none (t := (24, 3, 6, 3)) (by decide) hnew)
      have hB2 : Below w.heap.size w w2 := hB.grown hg2 hB.size (fun q hq => by cases hq; exact Nat.le_refl _)
      have hM3 := hM2.ext (fL_put (l := l) (t := (24, 3, 6, 3)) (by decide) (by rw [hl]; exact ready_lt hr))
      rcases hA with ⟨h1, h2, rfl⟩ | ⟨h1, _, _⟩ | ⟨h1, _, _⟩
      · refine wpOp_step (o := _) rfl (fun K hK => ?_)
        go_simp
        refine hK _ _ ?_; clear hK K
        exact ⟨Or.inl ⟨(getD_set_ne false (by decide)).trans h1, (getD_set_ne false (by decide)).trans h2, rfl⟩, fun j hj => getD_set_true (h0 j hj), last_kept hr hl h31 (by decide), hM3, hB2⟩
      all_goals (rw [not_last hr hl h31 (by decide)] at h1; cases h1)
    | 25, _, hr => have := (ready_new hr hl).1; rw [h0 25 (by decide)] at this; cases this
    | 26, _, hr =>
      have hnew := (ready_new hr hl).1
      obtain ⟨w2, hrun, hM2, hg2⟩ := mv_update hM 3 2 4 (fL_none (t := (26, 3, 2, 4)) (by decide) hnew)
      have hB2 : Below w.heap.size w w2 := hB.grown hg2 hB.size (fun q hq => by cases hq; exact Nat.le_refl _)
      have hM3 := hM2.ext (fL_put (l := l) (t := (26, 3, 2, 4)) (by decide) (by rw [hl]; exact ready_lt hr))
      rcases hA with ⟨h1, h2, rfl⟩ | ⟨h1, _, _⟩ | ⟨h1, _, _⟩
      · refine wpOp_step (o := _) rfl (fun K hK => ?_)
        go_simp
        refine hK _ _ ?_; clear hK K
        exact ⟨Or.inl ⟨(getD_set_ne false (by decide)).trans h1, (getD_set_ne false (by decide)).trans h2, rfl⟩, fun j hj => getD_set_true (h0 j hj), last_kept hr hl h31 (by decide), hM3, hB2⟩
      all_goals (rw [not_last hr hl h31 (by decide)] at h1; cases h1)
    | 27, _, hr => have := (ready_new hr hl).1; rw [h0 27 (by decide)] at this; cases this
    | 28, _, hr =>
      have hnew := (ready_new hr hl).1
      obtain ⟨w2, hrun, hM2, hg2⟩ := mv_update hM 3 4 4 (fL_none (t := (28, 3, 4, 4)) (by decide) hnew)
      have hB2 : Below w.heap.size w w2 := hB.grown hg2 hB.size (fun q hq => by cases hq; exact Nat.le_refl _)
      have hM3 := hM2.ext (fL_put (l := l) (t := (28, 3, 4, 4)) (by decide) (by rw [hl]; exact ready_lt hr))
      rcases hA with ⟨h1, h2, rfl⟩ | ⟨h1, _, _⟩ | ⟨h1, _, _⟩
      · refine wpOp_step (o := _) rfl (fun K hK => ?_)
        go_simp
        refine hK _ _ ?_; clear hK K
        exact ⟨Or.inl ⟨(getD_set_ne false (by decide)).trans h1, (getD_set_ne false (by decide)).trans h2, rfl⟩, fun j hj => getD_set_true (h0 j hj), last_kept hr hl h31 (by decide), hM3, hB2⟩
      all_goals (rw [not_last hr hl h31 (by decide)] at h1; cases h1)
    | 29, _, hr => have := (ready_new hr hl).1; rw [h0 29 (by decide)] at this; cases this
    | 30, _, hr =>
      have hnew := (ready_new hr hl).1
      obtain ⟨w2, hrun, hM2, hg2⟩ := mv_update hM 3 5 4 (fL_none (t := (30, 3, 5, 4)) (by decide) hnew)
      have hB2 : Below w.heap.size w w2 := hB.grown hg2 hB.size (fun q hq => by cases hq; exact Nat.le_refl _)
      have hM3 := hM2.ext (fL_put (l := l) (t := (30, 3, 5, 4)) (by decide) (by rw [hl]; exact ready_lt hr))
      rcases hA with ⟨h1, h2, rfl⟩ | ⟨h1, _, _⟩ | ⟨h1, _, _⟩
      · refine wpOp_step (o := _) rfl (fun K hK => ?_)
        go_simp
        refine hK _ _ ?_; clear hK K
        exact ⟨Or.inl ⟨(getD_set_ne false (by decide)).trans h1, (getD_set_ne false (by decide)).trans h2, rfl⟩, fun j hj => getD_set_true (h0 j hj), last_kept hr hl h31 (by decide), hM3, hB2⟩
      all_goals (rw [not_last hr hl h31 (by decide)] at h1; cases h1)
    | 31, _, hr =>
      have hnew := (ready_new hr hl).1
      rcases hA with ⟨h1, h2, rfl⟩ | ⟨h1, _, _⟩ | ⟨h1, _, _⟩
      · refine wpOp_step (o := _) rfl (fun K hK => ?_)
        go_simp
        refine hK _ _ ?_; clear hK K
        exact ⟨Or.inr (Or.inl ⟨set_is (by rw [hl]; exact ready_lt hr), (getD_set_ne false (by decide)).trans h2, rfl⟩), fun j hj => getD_set_true (h0 j hj), last_comes hr (by kernel_rfl), hM.ext (fL_far (by decide)), hB⟩
      all_goals (rw [hnew] at h1; cases h1)
    | 32, _, hr =>
      have hnew := (ready_new hr hl).1
      have h31' := ready_waits hr (j := 31) (by kernel_rfl)
      rcases hA with ⟨h1, _, _⟩ | ⟨h1, h2, rfl⟩ | ⟨_, h1, _⟩
      · rw [h31'] at h1; cases h1
      · refine wpOp_step (o := _) rfl (fun K hK => ?_)
        go_simp
        refine hK _ _ ?_; clear hK K
        exact ⟨Or.inr (Or.inr ⟨getD_set_true h1, set_is (by rw [hl]; exact ready_lt hr), rfl⟩), fun j hj => getD_set_true (h0 j hj), fun _ j hj => getD_set_true (h31 h1 j hj), hM.ext (fL_far (by decide)), hB⟩
      · rw [hnew] at h1; cases h1
    | n + 33, h, _ => exact absurd h (by show ¬ n + 33 < 33; omega)
def cF : Int → Int → Option Int := fPut (fPut (fun _ _ => none) 4 4 4) 4 5 4
def mF (s : Int) : Int → Int → Option Int := if s = 4 then cF else mvF
theorem mF_nx (s e : Int) : nxV s e = (((mF s s e).getD s), (mF s s e).isSome) := by
  rcases st_cases s with rfl | rfl | rfl | rfl | rfl | hs
  rotate_left 5
  · rw [nx_bad hs]
    obtain ⟨h0, h1, h2, h3, h4⟩ := hs
    have : mF s s e = none := by
      simp only [mF, h4, if_false, mvF, mvs, List.find?]
      simp [Ne.symm h0, Ne.symm h1, Ne.symm h2, Ne.symm h3]
    rw [this]; rfl
  · rcases ev_cases e with rfl | rfl | rfl | rfl | rfl | rfl | rfl | he
    rotate_left 7
    · rw [nx_none he]
      obtain ⟨e1, e2, e3, e4, e5, e6, e7⟩ := he
      have h : mF 0 0 e = none := by
        show mvF 0 e = none
        unfold mvF mvs
        simp [List.find?, Ne.symm e1, Ne.symm e2, Ne.symm e3, Ne.symm e4, Ne.symm e5, Ne.symm e6, Ne.symm e7]
      rw [h]; rfl
    all_goals decide
  · rcases ev_cases e with rfl | rfl | rfl | rfl | rfl | rfl | rfl | he
    rotate_left 7
    · rw [nx_none he]
      obtain ⟨e1, e2, e3, e4, e5, e6, e7⟩ := he
      have h : mF 1 1 e = none := by
        show mvF 1 e = none
        unfold mvF mvs
        simp [List.find?, Ne.symm e1, Ne.symm e2, Ne.symm e3, Ne.symm e4, Ne.symm e5, Ne.symm e6, Ne.symm e7]
      rw [h]; rfl
    all_goals decide
  · rcases ev_cases e with rfl | rfl | rfl | rfl | rfl | rfl | rfl | he
    rotate_left 7
    · rw [nx_none he]
      obtain ⟨e1, e2, e3, e4, e5, e6, e7⟩ := he
      have h : mF 2 2 e = none := by
        show mvF 2 e = none
        unfold mvF mvs
        simp [List.find?, Ne.symm e1, Ne.symm e2, Ne.symm e3, Ne.symm e4, Ne.symm e5, Ne.symm e6, Ne.symm e7]
      rw [h]; rfl
    all_goals decide
  · rcases ev_cases e with rfl | rfl | rfl | rfl | rfl | rfl | rfl | he
    rotate_left 7
    · rw [nx_none he]
      obtain ⟨e1, e2, e3, e4, e5, e6, e7⟩ := he
      have h : mF 3 3 e = none := by
        show mvF 3 e = none
        unfold mvF mvs
        simp [List.find?, Ne.symm e1, Ne.symm e2, Ne.symm e3, Ne.symm e4, Ne.symm e5, Ne.symm e6, Ne.symm e7]
      rw [h]; rfl
    all_goals decide
  · rcases ev_cases e with rfl | rfl | rfl | rfl | rfl | rfl | rfl | he
    rotate_left 7
    · rw [nx_none he]
      obtain ⟨e1, e2, e3, e4, e5, e6, e7⟩ := he
      have h : mF 4 4 e = none := by
        show cF 4 e = none
        simp [cF, fPut, e4, e5]
      rw [h]; rfl
    all_goals decide
set_option maxHeartbeats 1000000 in
theorem enter1 (B0 b g : Nat) (s0 s : Int) (f : Int → Int → Option Int) (w : World) (R : RowIs w b 83 [.int .i64 s0, .map (some g)]) (M : MapHas w g f) (hbg : b ≠ g) (h1 : B0 ≤ b) (h2 : B0 ≤ g) :
    Calls Try.prog 68 #[.pointer (some ⟨b, 0, none⟩), .int .i64 s] w fun x w' => x = .returned (.tuple #[]) ∧ RowIs w' b 83 [.int .i64 s, .map (some g)] ∧ MapHas w' g (if s = 4 then cF else f) ∧ Below B0 w w' := by
  have k0 := RowIs.cell (j := 0) R rfl
  have k1 := RowIs.cell (j := 1) R rfl
  have k9 := fun j => RowIs.frozen R j
  have klt := R.lt
  have R1 := hide (R.set 0 (.int .i64 s))
  have M1 := hide (M.setCell (a := ⟨b, 0, none⟩) (fun e => hbg e.symm) (.int .i64 s))
  have hb1 := hide ((Below.refl B0 w).setCell (p := ⟨b, 0, none⟩) h1 (.int .i64 s))
  clear R M
  by_cases hs : s = 4
  · subst hs
    rw [if_pos rfl]
    obtain ⟨W1, hW1⟩ : ∃ W, w.setCell ⟨b, 0, none⟩ (.int .i64 4) = W := ⟨_, rfl⟩
    rw [hW1] at R1 M1 hb1
    obtain ⟨w2, hr2, M2, g2⟩ := mv_clear M1.out 0
    obtain ⟨w3, hr3, M3, g3⟩ := mv_update M2 4 4 4 rfl
    obtain ⟨w4, hr4, M4, g4⟩ := mv_update M3 4 5 4 (by simp [fPut])
    have klt1 : b < W1.heap.size := R1.out.lt
    have R2 := R1.out.kept (g2.block b klt1 (fun e => hbg (by injection e)))
    have R3 := R2.kept (g3.block b R2.lt (fun e => hbg (by injection e)))
    have R4 := R3.kept (g4.block b R3.lt (fun e => hbg (by injection e)))
    have c1 := RowIs.cell (j := 1) R1.out rfl
    have c2 := RowIs.cell (j := 1) R2 rfl
    have c3 := RowIs.cell (j := 1) R3 rfl
    have l2 := R2.lt
    have l3 := R3.lt
    have hz1 := hb1.out.size
    have B2 : Below B0 w w2 := hb1.out.grown g2 (by omega) (fun q hq => by cases hq; exact h2)
    have B3 : Below B0 w w3 := B2.grown g3 (by omega) (fun q hq => by cases hq; exact h2)
    have B4 := hide (B3.grown g4 (by omega) (fun q hq => by cases hq; exact h2))
    replace R4 := hide R4
    replace M4 := hide M4
    clear R1 M1 hb1 M2 M3 g2 g3 g4 R2 R3 B2 B3
    go_enter Try.func68, Try.ntmps68
    go_wp2_with fail
    refine bodyPost_end (v := .tuple #[]) (by simp [results, Try.results68, go_sem]) rfl ?_
    exact ⟨rfl, R4.out, M4.out, B4.out⟩
  · rw [if_neg hs]
    have hs' : (s == 4) = false := by simpa using hs
    go_enter Try.func68, Try.ntmps68
    go_wp2_with fail
    refine bodyPost_ret (v := .tuple #[]) (by simp [results, Try.results68, go_sem, *]) rfl ?_
    exact ⟨rfl, R1.out, M1.out, hb1.out⟩
set_option maxHeartbeats 1000000 in
theorem courseIn1 (s : Int) (w : World) : Calls Try.prog 61 #[.int .i64 s] w fun x w' => ∃ g : Nat, x = .returned (.agg #[.int .i64 s, .map (some g)]) ∧ w.heap.size ≤ g ∧ MapHas w' g (mF s) ∧ Below w.heap.size w w' := by
  go_enter Try.func61, Try.ntmps61
  go_wp2_with fail
  refine (implMoves _).mono ?_; rintro e w1 ⟨rfl, M1, hb1⟩
  have R2 := (rowIs_new w 83 [.int .i64 0, .map none]).new hb1
  have b1 : Below w.heap.size w w1 := ((Below.refl _ w).alloc (Nat.le_refl _) _).trans (hb1.mono (by simp))
  have z1 := M1.lt
  simp at z1 M1 R2
  go_simp
  obtain ⟨g, hg⟩ : ∃ g, g = w.heap.size + 1 := ⟨_, rfl⟩
  rw [← hg] at z1 M1 ⊢
  have hgw : w.heap.size < g := by omega
  clear hg hb1
  go_wp2_with fail
  have R3 := rowIs_new w1 83 [.int .i64 0, .map (some g)]
  have M3 := M1.kept (World.grownBy_alloc w1 (.cells #[.int .i64 0, .map (some g)] 83) none) (by simp)
  have R5 := R2.alloc (.cells #[.int .i64 0, .map (some g)] 83)
  have b3 : Below w.heap.size w (w1.alloc (.cells #[.int .i64 0, .map (some g)] 83)) := b1.alloc (by omega) _
  refine (enter1 (w.heap.size + 1) w1.heap.size g 0 s mvF _ R3 M3 (by omega) (by omega) (by omega)).mono ?_; rintro e w2 ⟨rfl, R4, M4, hb4⟩
  replace R5 := R5.kept (hb4.block w.heap.size (by omega))
  have b4 : Below w.heap.size w w2 := b3.trans (hb4.mono (by omega))
  have x0 := RowIs.cell (j := 0) R4 rfl
  have x1 := RowIs.cell (j := 1) R4 rfl
  have xl := R4.lt
  have y0 := RowIs.cell (j := 0) R5 rfl
  have y1 := RowIs.cell (j := 1) R5 rfl
  have y9 := fun j => RowIs.frozen R5 j
  have yl := R5.lt
  have M5 := hide M4
  have b5 := hide b4
  clear M4 b4 R4 R5 hb4 b3 R3 M3 b1 M1 R2
  go_wp2_with fail
  refine bodyPost_ret (v := .agg #[.int .i64 s, .map (some g)]) (by simp [results, Try.results61, go_sem, *]) rfl ?_
  refine ⟨g, rfl, by omega, ?_, ?_⟩
  · exact ((M5.out.setCell (a := ⟨w.heap.size, 0, none⟩) (by show g ≠ w.heap.size; omega) _).setCell (a := ⟨w.heap.size, 1, none⟩) (by show g ≠ w.heap.size; omega) _)
  · repeat' (first | (with_reducible exact b5.out) | (with_reducible refine Below.setCell ?_ ?_ _) | (with_reducible refine Below.alloc ?_ ?_ _) | (with_reducible refine Below.drew ?_) | (with_reducible refine bo_drewN _ ?_) | omega | (simp; done) | (simp; omega))
set_option maxHeartbeats 1000000 in
theorem happen1 (B0 b g : Nat) (s e : Int) (w : World) (R : RowIs w b 83 [.int .i64 s, .map (some g)]) (M : MapHas w g (mF s)) (hbg : b ≠ g) (h1 : B0 ≤ b) (h2 : B0 ≤ g) :
    Calls Try.prog 62 #[.pointer (some ⟨b, 0, none⟩), .int .i64 e] w fun x w' => x = .returned (.bool (nxV s e).2) ∧ RowIs w' b 83 [.int .i64 (nxV s e).1, .map (some g)] ∧ MapHas w' g (mF (nxV s e).1) ∧ Below B0 w w' := by
  have k0 := RowIs.cell (j := 0) R rfl
  have k1 := RowIs.cell (j := 1) R rfl
  have klt := R.lt
  have hlk := mv_lookup (w := w.drew) M s e
  have hn := mF_nx s e
  obtain ⟨o, ho⟩ : ∃ o, mF s s e = o := ⟨_, rfl⟩
  rw [ho] at hlk hn
  clear ho
  rw [hn]
  dsimp only
  go_enter Try.func62, Try.ntmps62
  go_wp2_with fail
  refine wp_region_held_drew (S := (fun u => u.cell? ⟨b, 0, none⟩ = some (.int .i64 s) ∧ u.cell? ⟨b, 1, none⟩ = some (.map (some g)) ∧ (Instr.lookup 81 (.map (some g)) (.agg #[.int .i64 s, .int .i64 e]) true).run Try.prog u = .ok (.tuple #[.int .i64 (o.getD 0), .bool o.isSome]) u)) (by kernel_rfl) (And.intro k0 (And.intro k1 hlk)) (fun hS => ?_)
  refine wpAnyH_take (i := 0) (v := ?_) rfl (by kernel_rfl) (by kernel_rfl) (by kernel_rfl) (fun _ _ _ h => h) (Or.inl ⟨by rfl, ?_⟩) hS ?_; rotate_left; focus (intro w hw; clear hw; go_simp; try with_reducible rfl)
  refine wpAnyH_take (i := 1) (v := ?_) rfl (by kernel_rfl) (by kernel_rfl) (by kernel_rfl) (fun _ _ _ h => h) (Or.inl ⟨by rfl, ?_⟩) hS ?_; rotate_left; focus (intro w hw; clear hw; go_simp; try with_reducible rfl)
  refine wpAnyH_take (i := 2) (v := ?_) rfl (by kernel_rfl) (by kernel_rfl) (by kernel_rfl) (fun _ _ _ h => h) (Or.inl ⟨by rfl, ?_⟩) hS ?_; rotate_left; focus (intro w hw; clear hw; go_simp; try with_reducible rfl)
  refine wpAnyH_take (i := 3) (v := ?_) rfl (by kernel_rfl) (by kernel_rfl) (by kernel_rfl) (fun _ _ _ h => h) (Or.inl ⟨by rfl, ?_⟩) hS ?_; rotate_left; focus (intro w hw; obtain ⟨l0, l1, l2⟩ := hw; go_simp; try with_reducible rfl)
  refine wpAnyH_take (i := 4) (v := ?_) rfl (by kernel_rfl) (by kernel_rfl) (by kernel_rfl) (fun _ _ _ h => h) (Or.inl ⟨by rfl, ?_⟩) hS ?_; rotate_left; focus (intro w hw; clear hw; go_simp; try with_reducible rfl)
  refine wpAnyH_take (i := 5) (v := ?_) rfl (by kernel_rfl) (by kernel_rfl) (by kernel_rfl) (fun _ _ _ h => h) (Or.inl ⟨by rfl, ?_⟩) hS ?_; rotate_left; focus (intro w hw; clear hw; go_simp; try with_reducible rfl)
  refine wpAnyH_take (i := 6) (v := ?_) rfl (by kernel_rfl) (by kernel_rfl) (by kernel_rfl) (fun _ _ _ h => h) (Or.inl ⟨by rfl, ?_⟩) hS ?_; rotate_left; focus (intro w hw; clear hw; go_simp; try with_reducible rfl)
  refine wpAnyH_take (i := 7) (v := ?_) rfl (by kernel_rfl) (by kernel_rfl) (by kernel_rfl) (fun _ _ _ h => h) (Or.inl ⟨by rfl, ?_⟩) hS ?_; rotate_left; focus (intro w hw; obtain ⟨l0, l1, l2⟩ := hw; go_simp; try with_reducible rfl)
  refine wpAnyH_take (i := 8) (v := ?_) rfl (by kernel_rfl) (by kernel_rfl) (by kernel_rfl) (fun _ _ _ h => h) (Or.inl ⟨by rfl, ?_⟩) hS ?_; rotate_left; focus (intro w hw; clear hw; go_simp; try with_reducible rfl)
  refine wpAnyH_take (i := 9) (v := ?_) rfl (by kernel_rfl) (by kernel_rfl) (by kernel_rfl) (fun _ _ _ h => h) (Or.inl ⟨by rfl, ?_⟩) hS ?_; rotate_left; focus (intro w hw; clear hw; go_simp; try with_reducible rfl)
  refine wpAnyH_take (i := 10) (v := ?_) rfl (by kernel_rfl) (by kernel_rfl) (by kernel_rfl) (fun _ _ _ h => h) (Or.inl ⟨by rfl, ?_⟩) hS ?_; rotate_left; focus (intro w hw; obtain ⟨l0, l1, l2⟩ := hw; go_simp; try with_reducible rfl)
  refine wpAnyH_take (i := 11) (v := ?_) rfl (by kernel_rfl) (by kernel_rfl) (by kernel_rfl) (fun _ _ _ h => h) (Or.inl ⟨by rfl, ?_⟩) hS ?_; rotate_left; focus (intro w hw; clear hw; go_simp; try with_reducible rfl)
  refine wpAnyH_take (i := 12) (v := ?_) rfl (by kernel_rfl) (by kernel_rfl) (by kernel_rfl) (fun _ _ _ h => h) (Or.inl ⟨by rfl, ?_⟩) hS ?_; rotate_left; focus (intro w hw; clear hw; go_simp; try with_reducible rfl)
  refine wpAnyH_take (i := 13) (v := ?_) rfl (by kernel_rfl) (by kernel_rfl) (by kernel_rfl) (fun _ _ _ h => h) (Or.inl ⟨by rfl, ?_⟩) hS ?_; rotate_left; focus (intro w hw; clear hw; go_simp; try with_reducible rfl)
  refine wpAnyH_take (i := 14) (v := ?_) rfl (by kernel_rfl) (by kernel_rfl) (by kernel_rfl) (fun _ _ _ h => h) (Or.inl ⟨by rfl, ?_⟩) hS ?_; rotate_left; focus (intro w hw; clear hw; go_simp; try with_reducible rfl)
  refine wpAnyH_take (i := 15) (v := ?_) rfl (by kernel_rfl) (by kernel_rfl) (by kernel_rfl) (fun _ _ _ h => h) (Or.inl ⟨by rfl, ?_⟩) hS ?_; rotate_left; focus (intro w hw; clear hw; go_simp; try with_reducible rfl)
  refine wpAnyH_done (by kernel_rfl) ?_ _
  clear hS
  have R0 : RowIs w.drew b 83 [.int .i64 s, .map (some g)] := R
  have M0 : MapHas w.drew g (mF s) := M
  have hb0 : Below B0 w w.drew := (Below.refl _ _).drew
  cases o with
  | none =>
    clear hn hlk
    go_wp2_with fail
    refine bodyPost_ret (v := .bool false) (by simp [results, Try.results62, go_sem, *]) rfl ?_
    exact ⟨rfl, R0, M0, hb0⟩
  | some v =>
    have hM : ∀ u, MapHas u g (if v = 4 then cF else mF s) → MapHas u g (mF v) := fun u hu => by
      unfold mF
      by_cases h4 : v = 4
      · rw [if_pos h4] at hu ⊢; exact hu
      · rw [if_neg h4] at hu ⊢
        have hs4 : s ≠ 4 := fun e4 => by
          subst e4
          exact h4 (nx_closed hn)
        unfold mF at hu
        rw [if_neg hs4] at hu
        exact hu
    clear hn hlk
    go_wp2_with fail
    refine (enter1 B0 b g s v (mF s) _ R0 M0 hbg h1 h2).mono ?_; rintro e w1 ⟨rfl, R1, M1, hb1⟩
    go_wp2_with fail
    refine bodyPost_ret (v := .bool true) (by simp [results, Try.results62, go_sem, *]) rfl ?_
    exact ⟨rfl, R1, hM _ M1, hb0.trans hb1⟩
set_option maxHeartbeats 1000000 in
theorem implNext (s e : Int) (w : World) : Calls Try.prog 38 #[.int .i64 s, .int .i64 e] w fun x w' => x = .returned (.tuple #[.int .i64 (nxV s e).1, .bool (nxV s e).2]) ∧ Below w.heap.size w w' := by
  obtain ⟨⟨n, is⟩, hn⟩ : ∃ y, nxV s e = y := ⟨_, rfl⟩
  rw [hn]
  dsimp only
  go_enter Try.func38, Try.ntmps38
  go_wp2_with fail
  refine (courseIn1 s _).mono ?_; rintro x w1 ⟨g, rfl, hg, M1, hb1⟩
  have z1 := M1.lt
  have z2 := hb1.size
  go_wp2_with fail
  have R3 := rowIs_new w1 83 [.int .i64 s, .map (some g)]
  have M3 := M1.kept (World.grownBy_alloc w1 (.cells #[.int .i64 s, .map (some g)] 83) none) (by simp)
  have b3 : Below w.heap.size w (w1.alloc (.cells #[.int .i64 s, .map (some g)] 83)) := hb1.alloc (by omega) _
  refine (happen1 w.heap.size w1.heap.size g s e _ R3 M3 (by omega) (by omega) (by omega)).mono ?_; rintro x w2 ⟨rfl, R4, M4, hb4⟩
  have b4 := hide (b3.trans hb4)
  have x0 := RowIs.cell (j := 0) R4 rfl
  have xl := R4.lt
  rw [hn] at x0 ⊢
  dsimp only at x0 ⊢
  clear hn M4 R4 hb4 b3 M3 R3 M1 hb1
  go_wp2_with fail
  go_ret2
  exact ⟨rfl, b4.out⟩
theorem nx_ms (s : Int) : (nxV s 7).2 = msV s := by
  rcases st_cases s with rfl | rfl | rfl | rfl | rfl | hs
  rotate_left 5
  · rw [nx_bad hs]
    obtain ⟨h0, h1, h2, h3, h4⟩ := hs
    simp [msV, h1, h2]
  all_goals decide
theorem nx_mg (s : Int) : (nxV s 6).2 = mgV s := by
  rcases st_cases s with rfl | rfl | rfl | rfl | rfl | hs
  rotate_left 5
  · rw [nx_bad hs]
    obtain ⟨h0, h1, h2, h3, h4⟩ := hs
    simp [mgV, h1, h3]
  all_goals decide
end Go.Proofs.Ytgodopiejiajjaa
