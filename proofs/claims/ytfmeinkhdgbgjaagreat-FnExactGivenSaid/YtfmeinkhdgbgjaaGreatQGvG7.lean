/- Several small texts of one level, one behind the other. -/
import Derived.Test.YtfmeinkhdgbgjaaGreatQGvG6
import Derived.Test.YtfmeinkhdgbgjaaGreatQGvG2
import Derived.Test.YtfmeinkhdgbgjaaGreatQGvG3
import Derived.Deep.RegionHeld3
import Derived.Test.YtfmeinkhdgbgjaaGreatQGvG5
import Derived.Deep.Cut
import Derived.Deep.DeepCutAuto
import Derived.Deep.QuietTactic
import Derived.Test.YtfmeinkhdgbgjaaGreatQGvG4
import Derived.OpenShut
import Derived.ChangeOld
/- The registry in plain words: which is right, what is opened, what happens, what is swept; a registry stays right, and no number is opened twice. -/
namespace Go.Proofs.YtfmeinkhdgbgjaaGreat
open Go.RowKit
set_option maxRecDepth 100000
set_option linter.unusedSimpArgs false
set_option linter.unusedVariables false

/-- An odd number from 1 to 100000. -/
def idB (x : Int) : Bool := decide (1 ≤ x ∧ x ≤ 100000 ∧ x % 2 = 1)
theorem idB_iff {x : Int} : idB x = true ↔ 1 ≤ x ∧ x ≤ 100000 ∧ x % 2 = 1 := by unfold idB; exact decide_eq_true_iff
/-- One that is not closed counts 1. -/
def lv1 (e : EntryD) : Int := if e.state = 4 then 0 else 1
theorem lv1_nn (e : EntryD) : 0 ≤ lv1 e := by unfold lv1; split <;> omega
theorem lv1_le (e : EntryD) : lv1 e ≤ 1 := by unfold lv1; split <;> omega
def liveL (L : List EntryD) : Int := sumLs lv1 L
theorem live_le (L : List EntryD) : liveL L ≤ L.length := by
  unfold liveL
  induction L with
  | nil => simp [sumLs]
  | cons e L ih => have := lv1_le e; simp only [sumLs, List.length_cons]; omega
theorem live_nn (L : List EntryD) : 0 ≤ liveL L := sum_nn lv1 lv1_nn L
def entOk (top : Int) (e : EntryD) : Bool := idB e.id && decide (e.id ≤ top) && decide (1 ≤ e.state ∧ e.state ≤ 4)
theorem entOk_iff {top : Int} {e : EntryD} : entOk top e = true ↔ idB e.id = true ∧ e.id ≤ top ∧ 1 ≤ e.state ∧ e.state ≤ 4 := by unfold entOk; simp [and_assoc]
def risB : List EntryD → Bool
  | [] => true
  | [_] => true
  | a :: b :: L => decide (a.id < b.id) && risB (b :: L)
theorem risB_iff : ∀ (L : List EntryD), risB L = true ↔ ∀ i (h : i + 1 < L.length), L[i].id < L[i + 1].id
  | [] => by simp [risB]
  | [_] => by simp [risB]
  | a :: b :: L => by
    simp only [risB, Bool.and_eq_true, decide_eq_true_eq]
    rw [risB_iff (b :: L)]
    constructor
    · rintro ⟨h1, h2⟩ i h
      cases i with
      | zero => exact h1
      | succ i => exact h2 i (by simpa using h)
    · intro h
      exact ⟨h 0 (by simp), fun i hi => h (i + 1) (by simpa using hi)⟩
def okRg (r : RegistryD) : Bool := decide (0 ≤ r.lim ∧ r.lim ≤ 20) && decide (r.top = 0 ∨ idB r.top = true) && decide (r.es.length ≤ 60) && r.es.all (entOk r.top) && risB r.es && decide (liveL r.es ≤ r.lim)
theorem okRg_iff {r : RegistryD} : okRg r = true ↔ (0 ≤ r.lim ∧ r.lim ≤ 20) ∧ (r.top = 0 ∨ idB r.top = true) ∧ r.es.length ≤ 60 ∧ (∀ i (h : i < r.es.length), entOk r.top r.es[i] = true ∧ (0 < i → (r.es[i - 1]'(by omega)).id < r.es[i].id)) ∧ liveL r.es ≤ r.lim := by
  unfold okRg
  simp only [Bool.and_eq_true, decide_eq_true_eq, List.all_eq_true, risB_iff]
  constructor
  · rintro ⟨⟨⟨⟨⟨h1, h2⟩, h3⟩, h4⟩, h5⟩, h6⟩
    refine ⟨h1, h2, h3, fun i hi => ⟨h4 _ (List.getElem_mem hi), fun h0 => ?_⟩, h6⟩
    obtain ⟨j, rfl⟩ : ∃ j, i = j + 1 := ⟨i - 1, by omega⟩
    exact h5 j hi
  · rintro ⟨h1, h2, h3, h4, h6⟩
    refine ⟨⟨⟨⟨⟨h1, h2⟩, h3⟩, fun e he => ?_⟩, fun i hi => (h4 (i + 1) hi).2 (by omega)⟩, h6⟩
    obtain ⟨i, hi, rfl⟩ := List.mem_iff_getElem.1 he
    exact (h4 i hi).1
/-- The first with this number: its place. -/
def atE : List EntryD → Int → Option Nat
  | [], _ => none
  | e :: L, id => if e.id = id then some 0 else (atE L id).map (· + 1)
theorem atE_some {L : List EntryD} {id : Int} {k : Nat} (h : atE L id = some k) : ∃ hk : k < L.length, L[k].id = id ∧ ∀ j (hj : j < k), (L[j]'(by omega)).id ≠ id := by
  induction L generalizing k with
  | nil => simp [atE] at h
  | cons e L ih =>
    unfold atE at h
    split at h
    · rename_i he
      simp at h
      subst h
      exact ⟨by simp, he, fun j hj => absurd hj (Nat.not_lt_zero _)⟩
    · rename_i he
      cases hq : atE L id with
      | none => rw [hq] at h; simp at h
      | some q =>
        rw [hq] at h
        simp at h
        subst h
        obtain ⟨h1, h2, h3⟩ := ih hq
        refine ⟨by simpa using h1, by simpa using h2, fun j hj => ?_⟩
        cases j with
        | zero => simpa using he
        | succ j => simpa using h3 j (by omega)
theorem atE_none {L : List EntryD} {id : Int} (h : atE L id = none) : ∀ e ∈ L, e.id ≠ id := by
  induction L with
  | nil => simp
  | cons e L ih =>
    unfold atE at h
    split at h
    · simp at h
    · rename_i he
      intro x hx
      rcases List.mem_cons.1 hx with rfl | hx
      · exact he
      · exact ih (by cases hq : atE L id <;> rw [hq] at h <;> simp at h ⊢) x hx
theorem atE_of {L : List EntryD} {id : Int} (k : Nat) (hk : k < L.length) (h1 : L[k].id = id) (h2 : ∀ j (hj : j < k), (L[j]'(by omega)).id ≠ id) : atE L id = some k := by
  cases h : atE L id with
  | none => exact absurd h1 (atE_none h _ (List.getElem_mem hk))
  | some q =>
    obtain ⟨hq, e1, e2⟩ := atE_some h
    rcases Nat.lt_trichotomy q k with hlt | rfl | hgt
    · exact absurd e1 (h2 q hlt)
    · rfl
    · exact absurd h1 (e2 k hgt)
theorem atE_no {L : List EntryD} {id : Int} (h : ∀ e ∈ L, e.id ≠ id) : atE L id = none := by
  cases hq : atE L id with
  | none => rfl
  | some q => obtain ⟨hk, e1, _⟩ := atE_some hq; exact absurd e1 (h _ (List.getElem_mem hk))
/-- What opening does to a registry, right or not. -/
def openRaw (r : RegistryD) (id : Int) : RegistryD × Int :=
  if idB id = true ∧ r.top < id then
    (if r.lim ≤ liveL r.es ∨ r.es.length = 60 then (⟨r.lim, id, r.es⟩, 2) else (⟨r.lim, id, r.es ++ [⟨id, 1⟩]⟩, 0))
  else (r, 1)
def happenRaw (r : RegistryD) (id ev : Int) : RegistryD × Bool :=
  match atE r.es id with
  | none => (r, false)
  | some k => match r.es[k]? with
    | none => (r, false)
    | some e => (⟨r.lim, r.top, r.es.set k ⟨e.id, (nxV e.state ev).1⟩⟩, (nxV e.state ev).2)
def stateD (r : RegistryD) (id : Int) : Int :=
  match atE r.es id with
  | some k => match r.es[k]? with | some e => e.state | none => 0
  | none => if idB id = true ∧ id ≤ r.top then 4 else 0
theorem happenRaw_none {r : RegistryD} {id ev : Int} (h : atE r.es id = none) : happenRaw r id ev = (r, false) := by unfold happenRaw; rw [h]
theorem happenRaw_some {r : RegistryD} {id ev : Int} {k : Nat} (h : atE r.es id = some k) (hk : k < r.es.length) : happenRaw r id ev = (⟨r.lim, r.top, r.es.set k ⟨r.es[k].id, (nxV r.es[k].state ev).1⟩⟩, (nxV r.es[k].state ev).2) := by
  unfold happenRaw; rw [h]; simp only [List.getElem?_eq_getElem hk]
theorem stateD_none {r : RegistryD} {id : Int} (h : atE r.es id = none) : stateD r id = if idB id = true ∧ id ≤ r.top then 4 else 0 := by unfold stateD; rw [h]
-- the laws
theorem open_again {r : RegistryD} {id : Int} (h : id ≤ r.top) : openRaw r id = (r, 1) := by unfold openRaw; rw [if_neg (by omega)]
theorem live_filter (L : List EntryD) : liveL (L.filter fun e => !decide (e.state = 4)) = liveL L ∧ ((L.filter fun e => !decide (e.state = 4)).length : Int) = liveL L := by
  unfold liveL
  induction L with
  | nil => simp [sumLs]
  | cons e L ih =>
    by_cases h : e.state = 4
    · rw [List.filter_cons_of_neg (by simp [h])]
      simp only [sumLs, lv1, h, if_true]; omega
    · rw [List.filter_cons_of_pos (by simp [h])]
      simp only [sumLs, List.length_cons, lv1, h, if_false]; omega
-- sizes
theorem cnt_entries (L : List EntryD) : cntEntryS L = 2 * L.length := by
  unfold cntEntryS
  induction L with
  | nil => rfl
  | cons e L ih => simp only [cntLs, cntEntry, List.length_cons, ih]; omega
end Go.Proofs.YtfmeinkhdgbgjaaGreat
/- The ring's own functions: where a row stands, a row put last, the last one dropped. -/
namespace Go.Proofs.YtfmeinkhdgbgjaaGreat
open Go.RowKit
set_option maxRecDepth 100000
set_option linter.unusedSimpArgs false
set_option linter.unusedVariables false

/-- What the loads of a region read. -/
def S3 (b o : Nat) (v : Value) (g : Nat) (x y : Value) (u : World) : Prop := u.cell? ⟨b, o, none⟩ = some v ∧ u.cell? ⟨g, 0, none⟩ = some x ∧ u.cell? ⟨g, 1, none⟩ = some y
theorem slot1 (b first n : Nat) (sl : List Fd) (c g : Int) (w : World) (hs : sl.length = 112) (hr : RowIs w b 229 (rC sl first c g)) (hf : first < 112) (hn : n ≤ 112) :
    Calls Tryz.prog 279 #[.pointer (some ⟨b, 0, none⟩), .int .i64 n] w fun x w' => x = .returned (.pointer (some ⟨b, (first + n) % 112 * 2, none⟩)) ∧ Below w.heap.size w w' := by
  have c0 := hr.cell (rC_num hs first c g).1
  have hi1 : (0 : Int) ≤ ((first : Int) + n) % 112 ∧ ((first : Int) + n) % 112 < 112 := by omega
  have hi2 : (((first : Int) + n) % 112).toNat = (first + n) % 112 := by omega
  go_enter Tryz.func279, Tryz.ntmps279
  go_wp2_with fail
  go_quiet (fail)
  go_wp2_with fail
  go_ret
  exact ⟨rfl, (by repeat' (first | (with_reducible exact Below.refl _ _) | (with_reducible refine Below.drew ?_) | (with_reducible refine bo_drewN _ ?_) | (with_reducible refine bo_alloc ?_ _) | (refine bchain ?_ (by with_reducible assumption)) | (with_reducible refine Below.setCell ?_ ?_ _) | go_size))⟩

set_option maxHeartbeats 2000000 in
theorem putLast1 (b first n : Nat) (sl : List Fd) (g : Int) (f : Fd) (w : World) (hs : sl.length = 112) (hr : RowIs w b 229 (rC sl first n g)) (hf : first < 112) (hn : n ≤ 111) (hff : f.fine) (hg0 : 0 ≤ g) (hg1 : g ≤ 1000000) :
    Calls Tryz.prog 255 #[.pointer (some ⟨b, 0, none⟩), .agg #[.string f.n, .string f.v]] w fun x w' => x = .returned (.tuple #[]) ∧ RowIs w' b 229 (rC (sl.set ((first + n) % 112) f) first ((n + 1 : Nat) : Int) (g + wt f)) ∧ Turn b (b + 1) w w' := by
  have hbw := hr.lt
  go_enter Tryz.func255, Tryz.ntmps255
  go_wp2_with fail
  generalize hV : w.alloc (.cells #[.string f.n, .string f.v] 163) = V; have hbV : Below w.heap.size w V := (by rw [← hV]; exact (Below.refl _ _).alloc (Nat.le_refl _) _); have x0 : World.cell? V ⟨w.heap.size, 0, none⟩ = some (.string f.n) := (by rw [← hV]; simp); have x1 : World.cell? V ⟨w.heap.size, 1, none⟩ = some (.string f.v) := (by rw [← hV]; simp); have hlV : w.heap.size < (World.heap V).size := (by rw [← hV]; simp); clear hV
  have hrV := hr.new hbV
  have hbl : b < V.heap.size := hrV.lt
  have c1 := hrV.cell (rC_num hs first n g).2.1
  have hk : (first + n) % 112 < 112 := by omega
  obtain ⟨k, hkk⟩ : ∃ k, k = (first + n) % 112 := ⟨_, rfl⟩
  rw [← hkk] at hk
  obtain ⟨s0, s1⟩ := rC_slot hs first n g k hk
  have u0 := hrV.cell s0
  have u1 := hrV.cell s1
  have HK := hide hkk
  have z0 := hrV.frozen (k * 2)
  have z1 := hrV.frozen (k * 2 + 1)
  have hne : ¬ b = w.heap.size := by omega
  clear s0 s1 hkk
  have HRV := hide hrV
  clear hr hrV
  have hS0 := And.intro c1 (And.intro x0 x1)
  refine wp_region_held_drew (S := (S3 b 225 (.int .i64 n) w.heap.size (.string f.n) (.string f.v))) (by kernel_rfl) hS0 (fun hS => ?_)
  clear hS0
  refine wpAnyH_take (i := 0) (v := ?_) rfl (by kernel_rfl) (by kernel_rfl) (by kernel_rfl) (fun _ _ _ h => h) (Or.inl ⟨by rfl, ?_⟩) hS ?_; rotate_left; focus (intro w hw; clear hw; go_simp; try with_reducible rfl)
  refine wpAnyH_take (i := 1) (v := ?_) rfl (by kernel_rfl) (by kernel_rfl) (by kernel_rfl) (fun _ _ _ h => h) (Or.inl ⟨by rfl, ?_⟩) hS ?_; rotate_left; focus (intro w hw; clear hw; go_simp; try with_reducible rfl)
  refine wpAnyH_take (i := 2) (v := ?_) rfl (by kernel_rfl) (by kernel_rfl) (by kernel_rfl) (fun _ _ _ h => h) (Or.inl ⟨by rfl, ?_⟩) hS ?_; rotate_left; focus (intro w hw; clear hw; go_simp; try with_reducible rfl)
  refine wpAnyH_take (i := 3) (v := ?_) rfl (by kernel_rfl) (by kernel_rfl) (by kernel_rfl) (fun _ _ _ h => h) (Or.inl ⟨by rfl, ?_⟩) hS ?_; rotate_left; focus (intro w hw; clear hw; go_simp; try with_reducible rfl)
  refine wpAnyH_take (i := 4) (v := ?_) rfl (by kernel_rfl) (by kernel_rfl) (by kernel_rfl) (fun _ _ _ h => h) (Or.inl ⟨by rfl, ?_⟩) hS ?_; rotate_left; focus (intro w hw; obtain ⟨l0, l1, l2⟩ := hw; go_simp; try with_reducible rfl)
  refine wpAnyH_take (i := 6) (v := ?_) rfl (by kernel_rfl) (by kernel_rfl) (by kernel_rfl) (fun _ _ _ h => h) (Or.inl ⟨by rfl, ?_⟩) hS ?_; rotate_left; focus (intro w hw; obtain ⟨l0, l1, l2⟩ := hw; go_simp; try with_reducible rfl)
  refine wpAnyH_ready (rs := [5]) (by kernel_rfl) (by simp) ?_; refine AllReadyH.cons rfl (fun K hK => ?_) AllReadyH.nil; go_simp
  refine (slot1 b first n sl n g _ hs (HRV.out.new (bo_drewN 1 (Below.refl _ _))) hf (by omega)).mono ?_; rw [← HK.out]; rintro x w2 ⟨rfl, hb2⟩
  have hb2' : Below V.heap.size V w2 := bchain (bo_drewN 1 (Below.refl _ _)) hb2
  have c1' := (hb2'.cell (p := ⟨b, 225, none⟩) hbl).trans c1
  have x0' := (hb2'.cell (p := ⟨w.heap.size, 0, none⟩) hlV).trans x0
  have x1' := (hb2'.cell (p := ⟨w.heap.size, 1, none⟩) hlV).trans x1
  have u0' := (hb2'.cell (p := ⟨b, k * 2, none⟩) hbl).trans u0
  have u1' := (hb2'.cell (p := ⟨b, k * 2 + 1, none⟩) hbl).trans u1
  have z0' := (hb2'.frozen (p := ⟨b, k * 2, none⟩) hbl).trans z0
  have z1' := (hb2'.frozen (p := ⟨b, k * 2 + 1, none⟩) hbl).trans z1
  refine hK.out _ _ ⟨c1', x0', x1'⟩ (fun hS => ?_)
  clear hK K c1 u0 u1 z0 z1 hb2
  refine wpAnyH_take (i := 7) (v := ?_) rfl (by kernel_rfl) (by kernel_rfl) (by kernel_rfl) (fun _ _ _ h => h) (Or.inl ⟨by rfl, ?_⟩) hS ?_; rotate_left; focus (intro w hw; clear hw; go_simp; try with_reducible rfl)
  refine wpAnyH_ready (rs := [8]) (by kernel_rfl) (by simp) ?_; refine AllReadyH.cons rfl (fun K hK => ?_) AllReadyH.nil; go_simp
  have hk1 : ¬ k * 2 = 225 := by omega
  have hk2 : ¬ k * 2 + 1 = 225 := by omega
  have hr3 := ((HRV.out.new hb2').set (k * 2) (.string f.n)).set (k * 2 + 1) (.string f.v)
  rw [rC_setF hs _ _ _ k hk f] at hr3
  have hs' : (sl.set k f).length = 112 := by simp [hs]
  have ht3 : Turn b (b + 1) V ((w2.setCell ⟨b, k * 2, none⟩ (.string f.n)).setCell ⟨b, k * 2 + 1, none⟩ (.string f.v)) :=
    ((turn_new hb2' b (b + 1)).setCell _ (.inl ⟨Nat.le_refl _, by simp⟩)).setCell _ (.inl ⟨Nat.le_refl _, by simp⟩)
  generalize (w2.setCell ⟨b, k * 2, none⟩ (.string f.n)).setCell ⟨b, k * 2 + 1, none⟩ (.string f.v) = w3 at *
  have y0 := (ht3.cell w.heap.size 0 hlV (by omega)).trans x0
  have y1 := (ht3.cell w.heap.size 1 hlV (by omega)).trans x1
  have c3 := hr3.cell (rC_num hs' first n g).2.1
  have q3 := hr3.frozen 225
  refine hK.out _ _ ⟨c3, y0, y1⟩ (fun _ => ?_)
  clear hK K hS c1' x0' x1' u0' u1' z0' z1' hb2' w2
  refine wpAnyH_done (by kernel_rfl) ?_ _
  have HR3 := hide hr3
  clear hr3
  go_wp2_with fail
  have hr4 := HR3.out.set 225 (.int .i64 ((n : Int) + 1))
  rw [rC_set225 hs'] at hr4
  have ht4 := ht3.setCell (p := ⟨b, 225, none⟩) (.int .i64 ((n : Int) + 1)) (.inl ⟨Nat.le_refl _, by simp⟩)
  generalize w3.setCell ⟨b, 225, none⟩ (.int .i64 ((n : Int) + 1)) = w4 at *
  replace y0 := (ht4.cell w.heap.size 0 hlV (by omega)).trans x0
  replace y1 := (ht4.cell w.heap.size 1 hlV (by omega)).trans x1
  have d2 := hr4.cell (rC_num hs' first ((n : Int) + 1) g).2.2
  have d3 := hr4.frozen 226
  have hblW := hr4.lt
  have hzr := wt_range f
  obtain ⟨z, hz⟩ : ∃ z, wt f = z := ⟨_, rfl⟩
  rw [hz] at hzr
  have fin : ∀ w5, Below w4.heap.size w4 w5 → RowIs (w5.setCell ⟨b, 226, none⟩ (.int .i64 (g + z))) b 229 (rC (sl.set ((first + n) % 112) f) first ((n + 1 : Nat) : Int) (g + wt f)) ∧ Turn b (b + 1) w (w5.setCell ⟨b, 226, none⟩ (.int .i64 (g + z))) := fun w5 h5 => by
    have hr5 := (hr4.new h5).set 226 (.int .i64 (g + z))
    rw [rC_set226 hs', HK.out] at hr5
    rw [hz]
    refine ⟨hr5, ((turn_new hbV b (b + 1)).trans (ht4.trans (turn_new h5 b (b + 1)))).setCell _ (.inl ⟨Nat.le_refl _, by simp⟩)⟩
  have HZ := hide hz
  clear hz x0 x1 c3 q3 ht4 ht3 hr4 HR3 HRV
  have hzw : IntKind.i64.wrap (g + z) = g + z := by rw [IntKind.wrap_i64]; omega
  refine wp_region_any (by kernel_rfl) ?_; change wpAny _ _ _ _ _ _ _ (World.drew _)
  refine wpAny_take (i := 0) (v := ?_) rfl (by kernel_rfl) (by kernel_rfl) (by kernel_rfl) (fun _ _ _ h => h) (Or.inl ⟨by rfl, ?_⟩) ?_; rotate_left; focus (intro w; go_simp; try with_reducible rfl)
  refine wpAny_take (i := 1) (v := ?_) rfl (by kernel_rfl) (by kernel_rfl) (by kernel_rfl) (fun _ _ _ h => h) (Or.inl ⟨by rfl, ?_⟩) ?_; rotate_left; focus (intro w; go_simp; try with_reducible rfl)
  refine wpAny_take (i := 2) (v := ?_) rfl (by kernel_rfl) (by kernel_rfl) (by kernel_rfl) (fun _ _ _ h => h) (Or.inl ⟨by rfl, ?_⟩) ?_; rotate_left; focus (intro w; go_simp; try with_reducible rfl)
  refine wpAny_ready (rs := [3, 4]) (by kernel_rfl) (by simp) ?_; refine AllReady.cons rfl (fun K hK => ?_) (AllReady.cons rfl (fun K hK => ?_) AllReady.nil)
  · go_simp; refine hK _ _ ?_; clear hK K
    refine wpAny_ready (rs := [4]) (by kernel_rfl) (by simp) ?_; refine AllReady.cons rfl (fun K hK => ?_) AllReady.nil
    go_simp; refine hK _ _ ?_; clear hK K
    refine wpAny_ready (rs := [5]) (by kernel_rfl) (by simp) ?_; refine AllReady.cons rfl (fun K hK => ?_) AllReady.nil
    go_simp
    refine (implWt f _ hff).mono ?_; rw [HZ.out]; rintro x w5 ⟨rfl, hb5⟩
    have hb5' : Below w4.heap.size w4 w5 := bchain (bo_drewN 1 (Below.refl _ _)) hb5
    have e2 := (hb5'.cell (p := ⟨b, 226, none⟩) hblW).trans d2
    have e3 := (hb5'.frozen (p := ⟨b, 226, none⟩) hblW).trans d3
    refine hK _ _ ?_
    clear hK K
    refine wpAny_take (i := 6) (v := ?_) rfl (by kernel_rfl) (by kernel_rfl) (by kernel_rfl) (fun _ _ _ h => h) (Or.inl ⟨by rfl, ?_⟩) ?_; rotate_left; focus (intro w; go_simp; try with_reducible rfl)
    refine wpAny_take (i := 7) (v := ?_) rfl (by kernel_rfl) (by kernel_rfl) (by kernel_rfl) (fun _ _ _ h => h) (Or.inl ⟨by rfl, ?_⟩) ?_; rotate_left; focus (intro w; go_simp; try with_reducible rfl)
    refine wpAny_take (i := 8) (v := ?_) rfl (by kernel_rfl) (by kernel_rfl) (by kernel_rfl) (fun _ _ _ h => h) (Or.inl ⟨by rfl, ?_⟩) ?_; rotate_left; focus (intro w; go_simp; try with_reducible rfl)
    refine wpAny_ready (rs := [9]) (by kernel_rfl) (by simp) ?_; refine AllReady.cons rfl (fun K hK => ?_) AllReady.nil
    go_simp; refine hK _ _ ?_; clear hK K
    refine wpAny_done (by kernel_rfl) ?_ _
    go_wp2_with fail
    refine bodyPost_end (v := .tuple #[]) (by simp [results, Tryz.results255, go_sem]) rfl ?_
    exact ⟨rfl, fin _ hb5'⟩
  · go_simp; refine hK _ _ ?_; clear hK K
    refine wpAny_ready (rs := [3, 5]) (by kernel_rfl) (by simp) ?_; refine AllReady.cons rfl (fun K hK => ?_) (AllReady.cons rfl (fun K hK => ?_) AllReady.nil)
    · go_simp; refine hK _ _ ?_; clear hK K
      refine wpAny_ready (rs := [5]) (by kernel_rfl) (by simp) ?_; refine AllReady.cons rfl (fun K hK => ?_) AllReady.nil
      go_simp
      refine (implWt f _ hff).mono ?_; rw [HZ.out]; rintro x w5 ⟨rfl, hb5⟩
      have hb5' : Below w4.heap.size w4 w5 := bchain (bo_drewN 1 (Below.refl _ _)) hb5
      have e2 := (hb5'.cell (p := ⟨b, 226, none⟩) hblW).trans d2
      have e3 := (hb5'.frozen (p := ⟨b, 226, none⟩) hblW).trans d3
      refine hK _ _ ?_
      clear hK K
      refine wpAny_take (i := 6) (v := ?_) rfl (by kernel_rfl) (by kernel_rfl) (by kernel_rfl) (fun _ _ _ h => h) (Or.inl ⟨by rfl, ?_⟩) ?_; rotate_left; focus (intro w; go_simp; try with_reducible rfl)
      refine wpAny_take (i := 7) (v := ?_) rfl (by kernel_rfl) (by kernel_rfl) (by kernel_rfl) (fun _ _ _ h => h) (Or.inl ⟨by rfl, ?_⟩) ?_; rotate_left; focus (intro w; go_simp; try with_reducible rfl)
      refine wpAny_take (i := 8) (v := ?_) rfl (by kernel_rfl) (by kernel_rfl) (by kernel_rfl) (fun _ _ _ h => h) (Or.inl ⟨by rfl, ?_⟩) ?_; rotate_left; focus (intro w; go_simp; try with_reducible rfl)
      refine wpAny_ready (rs := [9]) (by kernel_rfl) (by simp) ?_; refine AllReady.cons rfl (fun K hK => ?_) AllReady.nil
      go_simp; refine hK _ _ ?_; clear hK K
      refine wpAny_done (by kernel_rfl) ?_ _
      go_wp2_with fail
      refine bodyPost_end (v := .tuple #[]) (by simp [results, Tryz.results255, go_sem]) rfl ?_
      exact ⟨rfl, fin _ hb5'⟩
    · go_simp
      refine (implWt f _ hff).mono ?_; rw [HZ.out]; rintro x w5 ⟨rfl, hb5⟩
      have hb5' : Below w4.heap.size w4 w5 := bchain (bo_drewN 1 (Below.refl _ _)) hb5
      have e2 := (hb5'.cell (p := ⟨b, 226, none⟩) hblW).trans d2
      have e3 := (hb5'.frozen (p := ⟨b, 226, none⟩) hblW).trans d3
      refine hK _ _ ?_
      clear hK K
      refine wpAny_ready (rs := [3]) (by kernel_rfl) (by simp) ?_; refine AllReady.cons rfl (fun K hK => ?_) AllReady.nil
      go_simp; refine hK _ _ ?_; clear hK K
      refine wpAny_take (i := 6) (v := ?_) rfl (by kernel_rfl) (by kernel_rfl) (by kernel_rfl) (fun _ _ _ h => h) (Or.inl ⟨by rfl, ?_⟩) ?_; rotate_left; focus (intro w; go_simp; try with_reducible rfl)
      refine wpAny_take (i := 7) (v := ?_) rfl (by kernel_rfl) (by kernel_rfl) (by kernel_rfl) (fun _ _ _ h => h) (Or.inl ⟨by rfl, ?_⟩) ?_; rotate_left; focus (intro w; go_simp; try with_reducible rfl)
      refine wpAny_take (i := 8) (v := ?_) rfl (by kernel_rfl) (by kernel_rfl) (by kernel_rfl) (fun _ _ _ h => h) (Or.inl ⟨by rfl, ?_⟩) ?_; rotate_left; focus (intro w; go_simp; try with_reducible rfl)
      refine wpAny_ready (rs := [9]) (by kernel_rfl) (by simp) ?_; refine AllReady.cons rfl (fun K hK => ?_) AllReady.nil
      go_simp; refine hK _ _ ?_; clear hK K
      refine wpAny_done (by kernel_rfl) ?_ _
      go_wp2_with fail
      refine bodyPost_end (v := .tuple #[]) (by simp [results, Tryz.results255, go_sem]) rfl ?_
      exact ⟨rfl, fin _ hb5'⟩
end Go.Proofs.YtfmeinkhdgbgjaaGreat
/- What Noted and Resized make of a Table, in plain words. -/
namespace Go.Proofs.YtfmeinkhdgbgjaaGreat
/-- What Resized makes of it. -/
def resizedD (room : Int) (L : List Fd) (r : Int) : (Int × List Fd) × Bool := if okT room L then (if inB r 0 1000 then ((r, shr r L), true) else ((room, L), false)) else ((0, []), false)
theorem own_nil (w : World) (base : Nat) (e : TypeId) : w.ownsRow base e 2 (.slice none 0 0) 0 (fv []) := ⟨rfl, .inl ⟨rfl, rfl⟩⟩
end Go.Proofs.YtfmeinkhdgbgjaaGreat
/- Chapter 16's model: NewTunnel, In, Out, Back, Torn, Over. -/
namespace Go.Proofs.YtfmeinkhdgbgjaaGreat
open Go.RowKit
set_option maxRecDepth 100000
set_option linter.unusedSimpArgs false
set_option linter.unusedVariables false
theorem specMin16 (a b : Int) (w : World) : Calls Tryz.prog 142 #[.int .i64 a, .int .i64 b] w fun x w' => x = .returned (.int .i64 (min a b)) ∧ w' = w := by
  by_cases h : a < b
  · rw [show min a b = a by omega]
    go_enter Tryz.func142, Tryz.ntmps142
    go_wp2_with fail
    go_ret
    exact ⟨rfl, rfl⟩
  · rw [show min a b = b by omega]
    go_enter Tryz.func142, Tryz.ntmps142
    go_wp2_with fail
    go_ret
    exact ⟨rfl, rfl⟩
end Go.Proofs.YtfmeinkhdgbgjaaGreat
/- Plain and FieldOf, of the program and of the model, in plain words. -/
namespace Go.Proofs.YtfmeinkhdgbgjaaGreat
open Go.RowKit
set_option maxRecDepth 100000
set_option linter.unusedSimpArgs false
set_option linter.unusedVariables false

set_option maxHeartbeats 1000000 in
theorem implRights (L : List Fd) (v : Value) (w : World) (hr0 : Reads w v L.length 2 (fv L)) (hf : ∀ f ∈ L, f.fine) :
    Calls Tryz.prog 195 #[v] w fun x w' => x = .returned (.bool (L.all okF)) ∧ Below w.heap.size w w' := by
  obtain ⟨hl, ad, cap, rfl, h1, h2, h3⟩ := hr0
  have H3 := hide h3; have HF := hide hf
  clear h3 hf
  unfold maxLen at h2
  obtain ⟨R, hR⟩ : ∃ R, R = L.all okF := ⟨_, rfl⟩
  rw [← hR]
  have HR := hide hR
  clear hR
  go_enter Tryz.func195, Tryz.ntmps195
  go_wp2_with fail
  go_loopw [7] (fun i wr => ∃ (k : Nat), i = .int .i64 k ∧ k ≤ L.length ∧ (∀ f ∈ L.take k, okF f = true) ∧ Below w.heap.size w wr) (fun i _ => L.length - (intOf i).toNat)
  case atStart => exact ⟨0, rfl, Nat.zero_le _, by simp, Below.refl _ _⟩
  case round =>
    obtain ⟨k, rfl, hk, hall, hb⟩ := hrel
    by_cases hlt : k < L.length
    · obtain ⟨b, o, rfl, hbw, hc⟩ := H3.out (by omega)
      obtain ⟨s0, s1⟩ := fv_get L k hlt
      have hfk := HF.out _ (List.getElem_mem hlt)
      have HA := hide (all_take_succ L k hlt hall)
      have HB : Hid (okF L[k] = false → L.all okF = false) := fun h => by
        cases e : L.all okF
        · rfl
        · have := List.all_eq_true.1 e _ (List.getElem_mem hlt); rw [h] at this; cases this
      obtain ⟨f, hff⟩ : ∃ f, f = L[k] := ⟨_, rfl⟩
      rw [← hff] at s0 s1 hfk HA HB
      have c0 : wr.cell? ⟨b, o + k * 2, none⟩ = some (.string f.n) := by rw [hb.cell (p := ⟨b, o + k * 2, none⟩) hbw]; exact hc _ _ s0
      have c1 : wr.cell? ⟨b, o + k * 2 + 1, none⟩ = some (.string f.v) := by rw [hb.cell (p := ⟨b, o + k * 2 + 1, none⟩) hbw]; exact hc _ _ s1
      clear hc s0 s1 hff hall
      cases hok : okF f
      · have hRf := HR.out.trans (HB.out hok)
        subst hRf
        clear HB HR HA
        go_wp2_with fail
        refine (implRight f _ hfk).mono ?_; rw [hok]; rintro x w1 ⟨rfl, hb1⟩
        go_wp2_with fail
        go_ret
        exact ⟨rfl, bchain (bo_alloc hb _) hb1⟩
      · have HAA := hide (HA.out hok)
        clear HA HB
        go_wp2_with fail
        refine (implRight f _ hfk).mono ?_; rw [hok]; rintro x w1 ⟨rfl, hb1⟩
        go_wp2_with fail
        exact ⟨⟨k + 1, by go_num, by omega, HAA.out, bchain (bo_alloc hb _) hb1⟩, by simp [intOf]; omega⟩
    · obtain rfl : k = L.length := by omega
      rw [List.take_length] at hall
      have hRf := HR.out.trans (List.all_eq_true.2 hall)
      subst hRf
      clear HR hall
      go_wp2_with fail
      go_ret
      exact ⟨rfl, hb⟩
end Go.Proofs.YtfmeinkhdgbgjaaGreat
/- Chapter 16's program: lanes that embed a way up and a way down; in, out, back. -/
namespace Go.Proofs.YtfmeinkhdgbgjaaGreat
open Go.RowKit
set_option maxRecDepth 100000
set_option linter.unusedSimpArgs false
set_option linter.unusedVariables false
abbrev lncs (t : TuD) : List Value := [.int .i64 t.up.r, .string t.up.b, .bool t.up.e, .bool t.up.k, .int .i64 t.went, .int .i64 t.dn.r, .string t.dn.b, .bool t.dn.e, .bool t.dn.k, .int .i64 t.came]
abbrev lnv (t : TuD) : Value := .agg #[.int .i64 t.up.r, .string t.up.b, .bool t.up.e, .bool t.up.k, .int .i64 t.went, .int .i64 t.dn.r, .string t.dn.b, .bool t.dn.e, .bool t.dn.k, .int .i64 t.came]
theorem bckTu_size (t : TuD) (s : ByteArray) (fin : Bool) (h : okTu t = true) (hs : s.size ≤ 1048576) : (bckTu t s fin).1.up.b.size ≤ 2000000 ∧ (bckTu t s fin).1.dn.b.size ≤ 2000000 := by
  obtain ⟨hu, hd, _, _⟩ := okTu_true h
  have h1 := okPp_true hu
  have h2 := okPp_true hd
  unfold bckTu
  rw [if_neg (by rw [h]; decide)]
  refine ⟨by show t.up.b.size ≤ _; omega, ?_⟩
  show (t.dn.b ++ s.extract 0 _).size ≤ _
  rw [ByteArray.size_append, ByteArray.size_extract]; omega
set_option maxHeartbeats 1000000 in
theorem lanes16 (t : TuD) (w : World) : Calls Tryz.prog 157 #[tuv t] w fun x w' => x = .returned (lnv t) ∧ Below w.heap.size w w' := by
  obtain ⟨⟨r, b, e, k⟩, ⟨r2, b2, e2, k2⟩, wt, cm⟩ := t
  dsimp only [tuv, lnv] at *
  obtain ⟨W, hW⟩ : ∃ W, ((w.alloc (.cells #[.int .i64 r, .string b, .bool e, .bool k, .int .i64 r2, .string b2, .bool e2, .bool k2, .int .i64 wt, .int .i64 cm] 55)).alloc (.cells #[.int .i64 0, .string ⟨#[]⟩, .bool false, .bool false, .int .i64 0, .int .i64 0, .string ⟨#[]⟩, .bool false, .bool false, .int .i64 0] 202)) = W := ⟨_, rfl⟩
  have RX : RowIs W w.heap.size 55 [.int .i64 r, .string b, .bool e, .bool k, .int .i64 r2, .string b2, .bool e2, .bool k2, .int .i64 wt, .int .i64 cm] := by rw [← hW]; exact (rowIs_new w 55 [.int .i64 r, .string b, .bool e, .bool k, .int .i64 r2, .string b2, .bool e2, .bool k2, .int .i64 wt, .int .i64 cm]).alloc _
  have RY : RowIs W (w.heap.size + 1) 202 [.int .i64 0, .string ⟨#[]⟩, .bool false, .bool false, .int .i64 0, .int .i64 0, .string ⟨#[]⟩, .bool false, .bool false, .int .i64 0] := by have := rowIs_new (w.alloc (.cells #[.int .i64 r, .string b, .bool e, .bool k, .int .i64 r2, .string b2, .bool e2, .bool k2, .int .i64 wt, .int .i64 cm] 55)) 202 [.int .i64 0, .string ⟨#[]⟩, .bool false, .bool false, .int .i64 0, .int .i64 0, .string ⟨#[]⟩, .bool false, .bool false, .int .i64 0]; rw [hW] at this; simpa using this
  have HB : Below w.heap.size w W := by rw [← hW]; exact (((Below.refl _ _).alloc (Nat.le_refl _) _).alloc (by simp) _)
  go_enter Tryz.func157, Tryz.ntmps157
  have x0 := RowIs.cell (j := 0) RX rfl
  have x1 := RowIs.cell (j := 1) RX rfl
  have x2 := RowIs.cell (j := 2) RX rfl
  have x3 := RowIs.cell (j := 3) RX rfl
  have x4 := RowIs.cell (j := 4) RX rfl
  have x5 := RowIs.cell (j := 5) RX rfl
  have x6 := RowIs.cell (j := 6) RX rfl
  have x7 := RowIs.cell (j := 7) RX rfl
  have x8 := RowIs.cell (j := 8) RX rfl
  have x9 := RowIs.cell (j := 9) RX rfl
  have xf := fun j => RowIs.frozen RX j
  have xl := RX.lt
  go_wp2_with (refine wpList_store_row (by rfl) 202 _ _ (by rfl) (w.heap.size + 1) [.int .i64 r, .string b, .bool e, .bool k, .int .i64 wt, .int .i64 r2, .string b2, .bool e2, .bool k2, .int .i64 cm] (by rfl) (by rfl) 202 [.int .i64 0, .string ⟨#[]⟩, .bool false, .bool false, .int .i64 0, .int .i64 0, .string ⟨#[]⟩, .bool false, .bool false, .int .i64 0] RY (by kernel_rfl) rfl (by intro u hu; simp at hu; rcases hu with rfl | rfl | rfl | rfl | rfl | rfl | rfl | rfl | rfl | rfl <;> rfl) ?_)
  clear x0 x1 x2 x3 x4 x5 x6 x7 x8 x9 xf xl
  clear hW
  have NRX := RX.kept (setRow_other W (w.heap.size + 1) #[.int .i64 r, .string b, .bool e, .bool k, .int .i64 wt, .int .i64 r2, .string b2, .bool e2, .bool k2, .int .i64 cm] w.heap.size (by omega))
  have NRY : RowIs (W.setRow (w.heap.size + 1) #[.int .i64 r, .string b, .bool e, .bool k, .int .i64 wt, .int .i64 r2, .string b2, .bool e2, .bool k2, .int .i64 cm]) (w.heap.size + 1) 202 [.int .i64 r, .string b, .bool e, .bool k, .int .i64 wt, .int .i64 r2, .string b2, .bool e2, .bool k2, .int .i64 cm] := rowIs_setRow (cs' := [.int .i64 r, .string b, .bool e, .bool k, .int .i64 wt, .int .i64 r2, .string b2, .bool e2, .bool k2, .int .i64 cm]) RY
  have NHB := below_setRow HB (show w.heap.size ≤ (w.heap.size + 1) by omega) #[.int .i64 r, .string b, .bool e, .bool k, .int .i64 wt, .int .i64 r2, .string b2, .bool e2, .bool k2, .int .i64 cm]
  generalize hV : W.setRow (w.heap.size + 1) #[.int .i64 r, .string b, .bool e, .bool k, .int .i64 wt, .int .i64 r2, .string b2, .bool e2, .bool k2, .int .i64 cm] = V1 at *
  clear hV
  clear RX
  have RX := NRX
  clear NRX
  clear RY
  have RY := NRY
  clear NRY
  clear HB
  have HB := NHB
  clear NHB
  have y0 := RowIs.cell (j := 0) RY rfl
  have y1 := RowIs.cell (j := 1) RY rfl
  have y2 := RowIs.cell (j := 2) RY rfl
  have y3 := RowIs.cell (j := 3) RY rfl
  have y4 := RowIs.cell (j := 4) RY rfl
  have y5 := RowIs.cell (j := 5) RY rfl
  have y6 := RowIs.cell (j := 6) RY rfl
  have y7 := RowIs.cell (j := 7) RY rfl
  have y8 := RowIs.cell (j := 8) RY rfl
  have y9 := RowIs.cell (j := 9) RY rfl
  have yf := fun j => RowIs.frozen RY j
  have yl := RY.lt
  refine bodyPost_ret (v := .agg #[.int .i64 r, .string b, .bool e, .bool k, .int .i64 wt, .int .i64 r2, .string b2, .bool e2, .bool k2, .int .i64 cm]) (by simp [results, Tryz.results157, go_sem, *]) rfl ?_
  exact ⟨rfl, HB⟩
set_option maxHeartbeats 1000000 in
theorem lanesRight16 (t : TuD) (w : World) (h1 : t.up.b.size ≤ maxLen) (h2 : t.dn.b.size ≤ maxLen) : Calls Tryz.prog 158 #[lnv t] w fun x w' => x = .returned (.bool (okTu t)) ∧ Below w.heap.size w w' := by
  obtain ⟨⟨r, b, e, k⟩, ⟨r2, b2, e2, k2⟩, wt, cm⟩ := t
  unfold okTu
  dsimp only [lnv] at *
  have RX := rowIs_new w 202 [.int .i64 r, .string b, .bool e, .bool k, .int .i64 wt, .int .i64 r2, .string b2, .bool e2, .bool k2, .int .i64 cm]
  have HB : Below w.heap.size w (w.alloc (.cells #[.int .i64 r, .string b, .bool e, .bool k, .int .i64 wt, .int .i64 r2, .string b2, .bool e2, .bool k2, .int .i64 cm] 202)) := (Below.refl _ _).alloc (Nat.le_refl _) _
  cases hu : okPp ⟨r, b, e, k⟩
  · go_enter Tryz.func158, Tryz.ntmps158
    go_wp2_with fail
    refine (right r b e k _ h1).mono ?_; rw [show okB r b k = _ from hu]; rintro x w1 ⟨rfl, hb⟩
    replace RX := RX.new hb
    replace HB := bchain HB hb
    clear hb
    have x0 := RowIs.cell (j := 0) RX rfl
    have x1 := RowIs.cell (j := 1) RX rfl
    have x2 := RowIs.cell (j := 2) RX rfl
    have x3 := RowIs.cell (j := 3) RX rfl
    have x4 := RowIs.cell (j := 4) RX rfl
    have x5 := RowIs.cell (j := 5) RX rfl
    have x6 := RowIs.cell (j := 6) RX rfl
    have x7 := RowIs.cell (j := 7) RX rfl
    have x8 := RowIs.cell (j := 8) RX rfl
    have x9 := RowIs.cell (j := 9) RX rfl
    have xf := fun j => RowIs.frozen RX j
    have xl := RX.lt
    go_wp2_with fail
    go_ret
    exact ⟨rfl, HB⟩
  cases hd : okPp ⟨r2, b2, e2, k2⟩
  · go_enter Tryz.func158, Tryz.ntmps158
    go_wp2_with fail
    refine (right r b e k _ h1).mono ?_; rw [show okB r b k = _ from hu]; rintro x w1 ⟨rfl, hb⟩
    replace RX := RX.new hb
    replace HB := bchain HB hb
    clear hb
    have x0 := RowIs.cell (j := 0) RX rfl
    have x1 := RowIs.cell (j := 1) RX rfl
    have x2 := RowIs.cell (j := 2) RX rfl
    have x3 := RowIs.cell (j := 3) RX rfl
    have x4 := RowIs.cell (j := 4) RX rfl
    have x5 := RowIs.cell (j := 5) RX rfl
    have x6 := RowIs.cell (j := 6) RX rfl
    have x7 := RowIs.cell (j := 7) RX rfl
    have x8 := RowIs.cell (j := 8) RX rfl
    have x9 := RowIs.cell (j := 9) RX rfl
    have xf := fun j => RowIs.frozen RX j
    have xl := RX.lt
    go_wp2_with fail
    clear x0 x1 x2 x3 x4 x5 x6 x7 x8 x9 xf xl
    refine (right r2 b2 e2 k2 _ h2).mono ?_; rw [show okB r2 b2 k2 = _ from hd]; rintro x w2 ⟨rfl, hb⟩
    replace RX := RX.new hb
    replace HB := bchain HB hb
    clear hb
    have x0 := RowIs.cell (j := 0) RX rfl
    have x1 := RowIs.cell (j := 1) RX rfl
    have x2 := RowIs.cell (j := 2) RX rfl
    have x3 := RowIs.cell (j := 3) RX rfl
    have x4 := RowIs.cell (j := 4) RX rfl
    have x5 := RowIs.cell (j := 5) RX rfl
    have x6 := RowIs.cell (j := 6) RX rfl
    have x7 := RowIs.cell (j := 7) RX rfl
    have x8 := RowIs.cell (j := 8) RX rfl
    have x9 := RowIs.cell (j := 9) RX rfl
    have xf := fun j => RowIs.frozen RX j
    have xl := RX.lt
    go_wp2_with fail
    go_ret
    exact ⟨rfl, HB⟩
  cases hw : inB wt 0 1000000
  · go_enter Tryz.func158, Tryz.ntmps158
    go_wp2_with fail
    refine (right r b e k _ h1).mono ?_; rw [show okB r b k = _ from hu]; rintro x w1 ⟨rfl, hb⟩
    replace RX := RX.new hb
    replace HB := bchain HB hb
    clear hb
    have x0 := RowIs.cell (j := 0) RX rfl
    have x1 := RowIs.cell (j := 1) RX rfl
    have x2 := RowIs.cell (j := 2) RX rfl
    have x3 := RowIs.cell (j := 3) RX rfl
    have x4 := RowIs.cell (j := 4) RX rfl
    have x5 := RowIs.cell (j := 5) RX rfl
    have x6 := RowIs.cell (j := 6) RX rfl
    have x7 := RowIs.cell (j := 7) RX rfl
    have x8 := RowIs.cell (j := 8) RX rfl
    have x9 := RowIs.cell (j := 9) RX rfl
    have xf := fun j => RowIs.frozen RX j
    have xl := RX.lt
    go_wp2_with fail
    clear x0 x1 x2 x3 x4 x5 x6 x7 x8 x9 xf xl
    refine (right r2 b2 e2 k2 _ h2).mono ?_; rw [show okB r2 b2 k2 = _ from hd]; rintro x w2 ⟨rfl, hb⟩
    replace RX := RX.new hb
    replace HB := bchain HB hb
    clear hb
    have x0 := RowIs.cell (j := 0) RX rfl
    have x1 := RowIs.cell (j := 1) RX rfl
    have x2 := RowIs.cell (j := 2) RX rfl
    have x3 := RowIs.cell (j := 3) RX rfl
    have x4 := RowIs.cell (j := 4) RX rfl
    have x5 := RowIs.cell (j := 5) RX rfl
    have x6 := RowIs.cell (j := 6) RX rfl
    have x7 := RowIs.cell (j := 7) RX rfl
    have x8 := RowIs.cell (j := 8) RX rfl
    have x9 := RowIs.cell (j := 9) RX rfl
    have xf := fun j => RowIs.frozen RX j
    have xl := RX.lt
    go_wp2_with fail
    refine (implWithin _ _ _ _).mono ?_; rw [hw]; rintro e w7 ⟨rfl, hsame⟩; obtain rfl := hsame.symm; clear hsame
    go_wp2_with fail
    go_ret
    exact ⟨rfl, HB⟩
  cases hm : inB cm 0 1000000
  · go_enter Tryz.func158, Tryz.ntmps158
    go_wp2_with fail
    refine (right r b e k _ h1).mono ?_; rw [show okB r b k = _ from hu]; rintro x w1 ⟨rfl, hb⟩
    replace RX := RX.new hb
    replace HB := bchain HB hb
    clear hb
    have x0 := RowIs.cell (j := 0) RX rfl
    have x1 := RowIs.cell (j := 1) RX rfl
    have x2 := RowIs.cell (j := 2) RX rfl
    have x3 := RowIs.cell (j := 3) RX rfl
    have x4 := RowIs.cell (j := 4) RX rfl
    have x5 := RowIs.cell (j := 5) RX rfl
    have x6 := RowIs.cell (j := 6) RX rfl
    have x7 := RowIs.cell (j := 7) RX rfl
    have x8 := RowIs.cell (j := 8) RX rfl
    have x9 := RowIs.cell (j := 9) RX rfl
    have xf := fun j => RowIs.frozen RX j
    have xl := RX.lt
    go_wp2_with fail
    clear x0 x1 x2 x3 x4 x5 x6 x7 x8 x9 xf xl
    refine (right r2 b2 e2 k2 _ h2).mono ?_; rw [show okB r2 b2 k2 = _ from hd]; rintro x w2 ⟨rfl, hb⟩
    replace RX := RX.new hb
    replace HB := bchain HB hb
    clear hb
    have x0 := RowIs.cell (j := 0) RX rfl
    have x1 := RowIs.cell (j := 1) RX rfl
    have x2 := RowIs.cell (j := 2) RX rfl
    have x3 := RowIs.cell (j := 3) RX rfl
    have x4 := RowIs.cell (j := 4) RX rfl
    have x5 := RowIs.cell (j := 5) RX rfl
    have x6 := RowIs.cell (j := 6) RX rfl
    have x7 := RowIs.cell (j := 7) RX rfl
    have x8 := RowIs.cell (j := 8) RX rfl
    have x9 := RowIs.cell (j := 9) RX rfl
    have xf := fun j => RowIs.frozen RX j
    have xl := RX.lt
    go_wp2_with fail
    refine (implWithin _ _ _ _).mono ?_; rw [hw]; rintro e w7 ⟨rfl, hsame⟩; obtain rfl := hsame.symm; clear hsame
    go_wp2_with fail
    refine (implWithin _ _ _ _).mono ?_; rw [hm]; rintro e w8 ⟨rfl, hsame⟩; obtain rfl := hsame.symm; clear hsame
    go_wp2_with fail
    go_ret
    exact ⟨rfl, HB⟩
  go_enter Tryz.func158, Tryz.ntmps158
  go_wp2_with fail
  refine (right r b e k _ h1).mono ?_; rw [show okB r b k = _ from hu]; rintro x w1 ⟨rfl, hb⟩
  replace RX := RX.new hb
  replace HB := bchain HB hb
  clear hb
  have x0 := RowIs.cell (j := 0) RX rfl
  have x1 := RowIs.cell (j := 1) RX rfl
  have x2 := RowIs.cell (j := 2) RX rfl
  have x3 := RowIs.cell (j := 3) RX rfl
  have x4 := RowIs.cell (j := 4) RX rfl
  have x5 := RowIs.cell (j := 5) RX rfl
  have x6 := RowIs.cell (j := 6) RX rfl
  have x7 := RowIs.cell (j := 7) RX rfl
  have x8 := RowIs.cell (j := 8) RX rfl
  have x9 := RowIs.cell (j := 9) RX rfl
  have xf := fun j => RowIs.frozen RX j
  have xl := RX.lt
  go_wp2_with fail
  clear x0 x1 x2 x3 x4 x5 x6 x7 x8 x9 xf xl
  refine (right r2 b2 e2 k2 _ h2).mono ?_; rw [show okB r2 b2 k2 = _ from hd]; rintro x w2 ⟨rfl, hb⟩
  replace RX := RX.new hb
  replace HB := bchain HB hb
  clear hb
  have x0 := RowIs.cell (j := 0) RX rfl
  have x1 := RowIs.cell (j := 1) RX rfl
  have x2 := RowIs.cell (j := 2) RX rfl
  have x3 := RowIs.cell (j := 3) RX rfl
  have x4 := RowIs.cell (j := 4) RX rfl
  have x5 := RowIs.cell (j := 5) RX rfl
  have x6 := RowIs.cell (j := 6) RX rfl
  have x7 := RowIs.cell (j := 7) RX rfl
  have x8 := RowIs.cell (j := 8) RX rfl
  have x9 := RowIs.cell (j := 9) RX rfl
  have xf := fun j => RowIs.frozen RX j
  have xl := RX.lt
  go_wp2_with fail
  refine (implWithin _ _ _ _).mono ?_; rw [hw]; rintro e w7 ⟨rfl, hsame⟩; obtain rfl := hsame.symm; clear hsame
  go_wp2_with fail
  refine (implWithin _ _ _ _).mono ?_; rw [hm]; rintro e w8 ⟨rfl, hsame⟩; obtain rfl := hsame.symm; clear hsame
  go_wp2_with fail
  go_ret
  exact ⟨rfl, HB⟩
set_option maxHeartbeats 1000000 in
theorem lanesTunnel16 (t : TuD) (w : World) (h1 : t.up.b.size ≤ 281474976710656) (h2 : t.dn.b.size ≤ 281474976710656) : Calls Tryz.prog 160 #[lnv t] w fun x w' => x = .returned (tuv t) ∧ Below w.heap.size w w' := by
  obtain ⟨⟨r, b, e, k⟩, ⟨r2, b2, e2, k2⟩, wt, cm⟩ := t
  dsimp only [tuv, lnv] at *
  obtain ⟨W, hW⟩ : ∃ W, ((w.alloc (.cells #[.int .i64 r, .string b, .bool e, .bool k, .int .i64 wt, .int .i64 r2, .string b2, .bool e2, .bool k2, .int .i64 cm] 202)).alloc (.cells #[.int .i64 0, .string ⟨#[]⟩, .bool false, .bool false, .int .i64 0, .string ⟨#[]⟩, .bool false, .bool false, .int .i64 0, .int .i64 0] 55)) = W := ⟨_, rfl⟩
  have RX : RowIs W w.heap.size 202 [.int .i64 r, .string b, .bool e, .bool k, .int .i64 wt, .int .i64 r2, .string b2, .bool e2, .bool k2, .int .i64 cm] := by rw [← hW]; exact (rowIs_new w 202 [.int .i64 r, .string b, .bool e, .bool k, .int .i64 wt, .int .i64 r2, .string b2, .bool e2, .bool k2, .int .i64 cm]).alloc _
  have RY : RowIs W (w.heap.size + 1) 55 [.int .i64 0, .string ⟨#[]⟩, .bool false, .bool false, .int .i64 0, .string ⟨#[]⟩, .bool false, .bool false, .int .i64 0, .int .i64 0] := by have := rowIs_new (w.alloc (.cells #[.int .i64 r, .string b, .bool e, .bool k, .int .i64 wt, .int .i64 r2, .string b2, .bool e2, .bool k2, .int .i64 cm] 202)) 55 [.int .i64 0, .string ⟨#[]⟩, .bool false, .bool false, .int .i64 0, .string ⟨#[]⟩, .bool false, .bool false, .int .i64 0, .int .i64 0]; rw [hW] at this; simpa using this
  have HB : Below w.heap.size w W := by rw [← hW]; exact (((Below.refl _ _).alloc (Nat.le_refl _) _).alloc (by simp) _)
  go_enter Tryz.func160, Tryz.ntmps160
  go_upto_region 1 with fail
  try rw [hW]
  clear hW
  refine wp_region_held_drew (S := (fun u => RowIs u w.heap.size 202 [.int .i64 r, .string b, .bool e, .bool k, .int .i64 wt, .int .i64 r2, .string b2, .bool e2, .bool k2, .int .i64 cm])) (by kernel_rfl) (show RowIs (World.drew W) w.heap.size 202 [.int .i64 r, .string b, .bool e, .bool k, .int .i64 wt, .int .i64 r2, .string b2, .bool e2, .bool k2, .int .i64 cm] from RX) (fun hS => ?_)
  replace RY : RowIs (World.drew W) (w.heap.size + 1) 55 [.int .i64 0, .string ⟨#[]⟩, .bool false, .bool false, .int .i64 0, .string ⟨#[]⟩, .bool false, .bool false, .int .i64 0, .int .i64 0] := RY
  replace HB := HB.drew
  clear RX
  generalize World.drew W = u0 at *
  refine wpAnyH_take (i := 0) (v := ?_) rfl (by kernel_rfl) (by kernel_rfl) (by kernel_rfl) (fun _ _ _ h => h) (Or.inl ⟨by kernel_rfl, ?_⟩) hS ?_; rotate_left; focus (intro uu hu; clear hu; go_simp; try with_reducible rfl)
  try simp only [Act.put, List.getElem_toArray, List.getElem_cons_succ, List.getElem_cons_zero, List.setIfInBounds_toArray, List.set_cons_zero, List.set_cons_succ]
  refine wpAnyH_take (i := 1) (v := ?_) rfl (by kernel_rfl) (by kernel_rfl) (by kernel_rfl) (fun _ _ _ h => h) (Or.inl ⟨by kernel_rfl, ?_⟩) hS ?_; rotate_left; focus (intro uu hu; clear hu; go_simp; try with_reducible rfl)
  try simp only [Act.put, List.getElem_toArray, List.getElem_cons_succ, List.getElem_cons_zero, List.setIfInBounds_toArray, List.set_cons_zero, List.set_cons_succ]
  refine wpAnyH_take (i := 2) (v := .agg #[.int .i64 r, .string b, .bool e, .bool k]) rfl (by kernel_rfl) (by kernel_rfl) (by kernel_rfl) (fun _ _ _ h => h) (Or.inl ⟨by kernel_rfl, ?ld⟩) hS ?_; case ld => (intro uu hu; have l0 := RowIs.cell (j := 0) hu rfl; have l1 := RowIs.cell (j := 1) hu rfl; have l2 := RowIs.cell (j := 2) hu rfl; have l3 := RowIs.cell (j := 3) hu rfl; have ll := hu.lt; clear hu; go_simp)
  try simp only [Act.put, List.getElem_toArray, List.getElem_cons_succ, List.getElem_cons_zero, List.setIfInBounds_toArray, List.set_cons_zero, List.set_cons_succ]
  refine wpAnyH_take (i := 4) (v := ?_) rfl (by kernel_rfl) (by kernel_rfl) (by kernel_rfl) (fun _ _ _ h => h) (Or.inl ⟨by kernel_rfl, ?_⟩) hS ?_; rotate_left; focus (intro uu hu; clear hu; go_simp; try with_reducible rfl)
  try simp only [Act.put, List.getElem_toArray, List.getElem_cons_succ, List.getElem_cons_zero, List.setIfInBounds_toArray, List.set_cons_zero, List.set_cons_succ]
  refine wpAnyH_take (i := 5) (v := ?_) rfl (by kernel_rfl) (by kernel_rfl) (by kernel_rfl) (fun _ _ _ h => h) (Or.inl ⟨by kernel_rfl, ?_⟩) hS ?_; rotate_left; focus (intro uu hu; clear hu; go_simp; try with_reducible rfl)
  try simp only [Act.put, List.getElem_toArray, List.getElem_cons_succ, List.getElem_cons_zero, List.setIfInBounds_toArray, List.set_cons_zero, List.set_cons_succ]
  refine wpAnyH_take (i := 6) (v := .agg #[.int .i64 r2, .string b2, .bool e2, .bool k2]) rfl (by kernel_rfl) (by kernel_rfl) (by kernel_rfl) (fun _ _ _ h => h) (Or.inl ⟨by kernel_rfl, ?ld⟩) hS ?_; case ld => (intro uu hu; have l5 := RowIs.cell (j := 5) hu rfl; have l6 := RowIs.cell (j := 6) hu rfl; have l7 := RowIs.cell (j := 7) hu rfl; have l8 := RowIs.cell (j := 8) hu rfl; have ll := hu.lt; clear hu; go_simp)
  try simp only [Act.put, List.getElem_toArray, List.getElem_cons_succ, List.getElem_cons_zero, List.setIfInBounds_toArray, List.set_cons_zero, List.set_cons_succ]
  refine wpAnyH_take (i := 8) (v := ?_) rfl (by kernel_rfl) (by kernel_rfl) (by kernel_rfl) (fun _ _ _ h => h) (Or.inl ⟨by kernel_rfl, ?_⟩) hS ?_; rotate_left; focus (intro uu hu; clear hu; go_simp; try with_reducible rfl)
  try simp only [Act.put, List.getElem_toArray, List.getElem_cons_succ, List.getElem_cons_zero, List.setIfInBounds_toArray, List.set_cons_zero, List.set_cons_succ]
  refine wpAnyH_take (i := 9) (v := ?_) rfl (by kernel_rfl) (by kernel_rfl) (by kernel_rfl) (fun _ _ _ h => h) (Or.inl ⟨by kernel_rfl, ?_⟩) hS ?_; rotate_left; focus (intro uu hu; clear hu; go_simp; try with_reducible rfl)
  try simp only [Act.put, List.getElem_toArray, List.getElem_cons_succ, List.getElem_cons_zero, List.setIfInBounds_toArray, List.set_cons_zero, List.set_cons_succ]
  refine wpAnyH_take (i := 10) (v := .int .i64 wt) rfl (by kernel_rfl) (by kernel_rfl) (by kernel_rfl) (fun _ _ _ h => h) (Or.inl ⟨by kernel_rfl, ?ld⟩) hS ?_; case ld => (intro uu hu; have l4 := RowIs.cell (j := 4) hu rfl; have ll := hu.lt; clear hu; go_simp)
  try simp only [Act.put, List.getElem_toArray, List.getElem_cons_succ, List.getElem_cons_zero, List.setIfInBounds_toArray, List.set_cons_zero, List.set_cons_succ]
  refine wpAnyH_take (i := 11) (v := ?_) rfl (by kernel_rfl) (by kernel_rfl) (by kernel_rfl) (fun _ _ _ h => h) (Or.inl ⟨by kernel_rfl, ?_⟩) hS ?_; rotate_left; focus (intro uu hu; clear hu; go_simp; try with_reducible rfl)
  try simp only [Act.put, List.getElem_toArray, List.getElem_cons_succ, List.getElem_cons_zero, List.setIfInBounds_toArray, List.set_cons_zero, List.set_cons_succ]
  refine wpAnyH_take (i := 12) (v := ?_) rfl (by kernel_rfl) (by kernel_rfl) (by kernel_rfl) (fun _ _ _ h => h) (Or.inl ⟨by kernel_rfl, ?_⟩) hS ?_; rotate_left; focus (intro uu hu; clear hu; go_simp; try with_reducible rfl)
  try simp only [Act.put, List.getElem_toArray, List.getElem_cons_succ, List.getElem_cons_zero, List.setIfInBounds_toArray, List.set_cons_zero, List.set_cons_succ]
  refine wpAnyH_take (i := 13) (v := .int .i64 cm) rfl (by kernel_rfl) (by kernel_rfl) (by kernel_rfl) (fun _ _ _ h => h) (Or.inl ⟨by kernel_rfl, ?ld⟩) hS ?_; case ld => (intro uu hu; have l9 := RowIs.cell (j := 9) hu rfl; have ll := hu.lt; clear hu; go_simp)
  try simp only [Act.put, List.getElem_toArray, List.getElem_cons_succ, List.getElem_cons_zero, List.setIfInBounds_toArray, List.set_cons_zero, List.set_cons_succ]
  refine wpAnyH_ready (rs := [3]) (by kernel_rfl) (by simp) ?_; refine AllReadyH.cons rfl (fun K hK => ?_) AllReadyH.nil; rw [if_pos (by kernel_rfl)]; go_simp
  refine (apart r b e k _ (by omega)).mono ?_; rintro x u1 ⟨rfl, hb⟩
  replace RY := RY.new hb
  replace HB := bchain HB hb
  refine hK.out _ _ (hS.new hb) (fun hS => ?_)
  clear hK K hb
  try simp only [Act.put, List.getElem_toArray, List.getElem_cons_succ, List.getElem_cons_zero, List.setIfInBounds_toArray, List.set_cons_zero, List.set_cons_succ]
  refine wpAnyH_ready (rs := [7]) (by kernel_rfl) (by simp) ?_; refine AllReadyH.cons rfl (fun K hK => ?_) AllReadyH.nil; rw [if_pos (by kernel_rfl)]; go_simp
  refine (apart r2 b2 e2 k2 _ (by omega)).mono ?_; rintro x u2 ⟨rfl, hb⟩
  replace RY := RY.new hb
  replace HB := bchain HB hb
  refine hK.out _ _ (hS.new hb) (fun hS => ?_)
  clear hK K hb
  try simp only [Act.put, List.getElem_toArray, List.getElem_cons_succ, List.getElem_cons_zero, List.setIfInBounds_toArray, List.set_cons_zero, List.set_cons_succ]
  refine wpAnyH_take (i := 14) (v := ?_) rfl (by kernel_rfl) (by kernel_rfl) (by kernel_rfl) (fun _ _ _ h => h) (Or.inl ⟨by kernel_rfl, ?_⟩) hS ?_; rotate_left; focus (intro uu hu; clear hu; go_simp; try with_reducible rfl)
  try simp only [Act.put, List.getElem_toArray, List.getElem_cons_succ, List.getElem_cons_zero, List.setIfInBounds_toArray, List.set_cons_zero, List.set_cons_succ]
  refine wpAnyH_ready (rs := [15]) (by kernel_rfl) (by simp) ?_; refine AllReadyH.cons rfl (fun K hK => ?_) AllReadyH.nil; rw [if_pos (by kernel_rfl)]
  refine wp_store_row 55 (.tmp 2) (.tmp 17) rfl (w.heap.size + 1) #[.int .i64 r, .string b, .bool e, .bool k, .int .i64 r2, .string b2, .bool e2, .bool k2, .int .i64 wt, .int .i64 cm] rfl rfl 55 #[.int .i64 0, .string ⟨#[]⟩, .bool false, .bool false, .int .i64 0, .string ⟨#[]⟩, .bool false, .bool false, .int .i64 0, .int .i64 0] RY (by kernel_rfl) rfl (by simp [Value.oneCell']) ?_
  have NY : RowIs (u2.setRow (w.heap.size + 1) #[.int .i64 r, .string b, .bool e, .bool k, .int .i64 r2, .string b2, .bool e2, .bool k2, .int .i64 wt, .int .i64 cm]) (w.heap.size + 1) 55 [.int .i64 r, .string b, .bool e, .bool k, .int .i64 r2, .string b2, .bool e2, .bool k2, .int .i64 wt, .int .i64 cm] := rowIs_setRow (cs' := [.int .i64 r, .string b, .bool e, .bool k, .int .i64 r2, .string b2, .bool e2, .bool k2, .int .i64 wt, .int .i64 cm]) RY
  replace HB := below_setRow HB (show w.heap.size ≤ w.heap.size + 1 by omega) #[.int .i64 r, .string b, .bool e, .bool k, .int .i64 r2, .string b2, .bool e2, .bool k2, .int .i64 wt, .int .i64 cm]
  have hS2 := hS.kept (setRow_other u2 (w.heap.size + 1) #[.int .i64 r, .string b, .bool e, .bool k, .int .i64 r2, .string b2, .bool e2, .bool k2, .int .i64 wt, .int .i64 cm] w.heap.size (by omega))
  clear RY
  generalize hV : u2.setRow (w.heap.size + 1) #[.int .i64 r, .string b, .bool e, .bool k, .int .i64 r2, .string b2, .bool e2, .bool k2, .int .i64 wt, .int .i64 cm] = V9 at *
  clear hV
  refine hK.out _ _ hS2 (fun hS => ?_)
  clear hK K hS2
  try simp only [Act.put, List.getElem_toArray, List.getElem_cons_succ, List.getElem_cons_zero, List.setIfInBounds_toArray, List.set_cons_zero, List.set_cons_succ]
  refine wpAnyH_done (by kernel_rfl) ?_ _
  clear hS
  have RY := NY
  go_wp2_with fail
  have y0 := RowIs.cell (j := 0) RY rfl
  have y1 := RowIs.cell (j := 1) RY rfl
  have y2 := RowIs.cell (j := 2) RY rfl
  have y3 := RowIs.cell (j := 3) RY rfl
  have y4 := RowIs.cell (j := 4) RY rfl
  have y5 := RowIs.cell (j := 5) RY rfl
  have y6 := RowIs.cell (j := 6) RY rfl
  have y7 := RowIs.cell (j := 7) RY rfl
  have y8 := RowIs.cell (j := 8) RY rfl
  have y9 := RowIs.cell (j := 9) RY rfl
  have yf := fun j => RowIs.frozen RY j
  have yl := RY.lt
  refine bodyPost_ret (v := .agg #[.int .i64 r, .string b, .bool e, .bool k, .int .i64 r2, .string b2, .bool e2, .bool k2, .int .i64 wt, .int .i64 cm]) (by simp [results, Tryz.results160, go_sem, *]) rfl ?_
  exact ⟨rfl, HB⟩
set_option maxHeartbeats 1000000 in
theorem takeBack16_open (r : Int) (b : ByteArray) (e k : Bool) (r2 : Int) (b2 : ByteArray) (wt cm : Int) (s : ByteArray) (fin : Bool) (g : Nat) (w : World) (R : RowIs w g 202 [.int .i64 r, .string b, .bool e, .bool k, .int .i64 wt, .int .i64 r2, .string b2, .bool false, .bool false, .int .i64 cm]) (hok : okB r2 b2 false = true) (hs : s.size ≤ 1048576) (hno : fin = true → comes r2 b2 s ≠ s.size) :
    Calls Tryz.prog 171 #[.pointer (some ⟨g, 5, none⟩), .string s, .bool fin] w fun x w' => x = .returned (.int .i64 (comes r2 b2 s : Int)) ∧ RowIs w' g 202 [.int .i64 r, .string b, .bool e, .bool k, .int .i64 wt, .int .i64 r2, .string (b2 ++ s.extract 0 (comes r2 b2 s)), .bool false, .bool false, .int .i64 cm] ∧ Turn g (g + 1) w w' := by
  have HB : Turn g (g + 1) w w := Turn.refl _ _ _
  have hpu := fun (u : World) => push r2 b2 s false false u hok hs
  simp only [pushedV_open r2 b2 s false false rfl] at hpu
  obtain ⟨n, hn⟩ : ∃ n, comes r2 b2 s = n := ⟨_, rfl⟩
  rw [hn] at hpu ⊢
  obtain ⟨nb, hnb⟩ : ∃ nb, b2 ++ s.extract 0 n = nb := ⟨_, rfl⟩
  rw [hnb] at hpu ⊢
  have hnbs : nb.size ≤ 281474976710656 := by rw [← hnb, ByteArray.size_append, ByteArray.size_extract]; obtain ⟨_, _, _⟩ := okB_parts hok; omega
  rw [hn] at hno
  clear hn hnb
  cases fin
  · skip
    go_enter Tryz.func171, Tryz.ntmps171
    have z5 := RowIs.cell (j := 5) R rfl
    have z6 := RowIs.cell (j := 6) R rfl
    have z7 := RowIs.cell (j := 7) R rfl
    have z8 := RowIs.cell (j := 8) R rfl
    have zf := fun j => RowIs.frozen R j
    have zl := R.lt
    go_wp2_with fail
    clear z5 z6 z7 z8 zf zl
    refine (hpu _).mono ?_; rintro x w1 ⟨rfl, hb⟩
    replace R := R.new hb
    replace HB := HB.trans (turn_new hb _ _)
    clear hb
    clear hpu
    have z5 := RowIs.cell (j := 5) R rfl
    have z6 := RowIs.cell (j := 6) R rfl
    have z7 := RowIs.cell (j := 7) R rfl
    have z8 := RowIs.cell (j := 8) R rfl
    have zf := fun j => RowIs.frozen R j
    have zl := R.lt
    go_upto_region 3 with fail
    clear z5 z6 z7 z8 zf zl
    have NR : RowIs ((((w1.setCell ⟨g, 5, none⟩ (.int .i64 r2)).setCell ⟨g, 6, none⟩ (.string nb)).setCell ⟨g, 7, none⟩ (.bool false)).setCell ⟨g, 8, none⟩ (.bool false)) g 202 [.int .i64 r, .string b, .bool e, .bool k, .int .i64 wt, .int .i64 r2, .string nb, .bool false, .bool false, .int .i64 cm] := ((((R.set 5 (.int .i64 r2)).set 6 (.string nb)).set 7 (.bool false)).set 8 (.bool false))
    have NHB : Turn g (g + 1) w ((((w1.setCell ⟨g, 5, none⟩ (.int .i64 r2)).setCell ⟨g, 6, none⟩ (.string nb)).setCell ⟨g, 7, none⟩ (.bool false)).setCell ⟨g, 8, none⟩ (.bool false)) := (Turn.setCell (Turn.setCell (Turn.setCell (Turn.setCell HB (p := ⟨g, 5, none⟩) (.int .i64 r2) (.inl ⟨Nat.le_refl _, Nat.lt_succ_self _⟩)) (p := ⟨g, 6, none⟩) (.string nb) (.inl ⟨Nat.le_refl _, Nat.lt_succ_self _⟩)) (p := ⟨g, 7, none⟩) (.bool false) (.inl ⟨Nat.le_refl _, Nat.lt_succ_self _⟩)) (p := ⟨g, 8, none⟩) (.bool false) (.inl ⟨Nat.le_refl _, Nat.lt_succ_self _⟩))
    generalize hV : ((((w1.setCell ⟨g, 5, none⟩ (.int .i64 r2)).setCell ⟨g, 6, none⟩ (.string nb)).setCell ⟨g, 7, none⟩ (.bool false)).setCell ⟨g, 8, none⟩ (.bool false)) = V2 at *
    clear hV
    clear R
    have R := NR
    clear NR
    clear HB
    have HB := NHB
    clear NHB
    have z5 := RowIs.cell (j := 5) R rfl
    have z6 := RowIs.cell (j := 6) R rfl
    have z7 := RowIs.cell (j := 7) R rfl
    have z8 := RowIs.cell (j := 8) R rfl
    have zf := fun j => RowIs.frozen R j
    have zl := R.lt
    go_wp2_with fail
    go_ret
    exact ⟨rfl, R, HB⟩
  have hne : ¬ ((n : Int) = (s.size : Int)) := fun h => hno rfl (by exact_mod_cast h)
  go_enter Tryz.func171, Tryz.ntmps171
  have z5 := RowIs.cell (j := 5) R rfl
  have z6 := RowIs.cell (j := 6) R rfl
  have z7 := RowIs.cell (j := 7) R rfl
  have z8 := RowIs.cell (j := 8) R rfl
  have zf := fun j => RowIs.frozen R j
  have zl := R.lt
  go_wp2_with fail
  clear z5 z6 z7 z8 zf zl
  refine (hpu _).mono ?_; rintro x w1 ⟨rfl, hb⟩
  replace R := R.new hb
  replace HB := HB.trans (turn_new hb _ _)
  clear hb
  clear hpu
  have z5 := RowIs.cell (j := 5) R rfl
  have z6 := RowIs.cell (j := 6) R rfl
  have z7 := RowIs.cell (j := 7) R rfl
  have z8 := RowIs.cell (j := 8) R rfl
  have zf := fun j => RowIs.frozen R j
  have zl := R.lt
  go_upto_region 3 with fail
  clear z5 z6 z7 z8 zf zl
  have NR : RowIs ((((w1.setCell ⟨g, 5, none⟩ (.int .i64 r2)).setCell ⟨g, 6, none⟩ (.string nb)).setCell ⟨g, 7, none⟩ (.bool false)).setCell ⟨g, 8, none⟩ (.bool false)) g 202 [.int .i64 r, .string b, .bool e, .bool k, .int .i64 wt, .int .i64 r2, .string nb, .bool false, .bool false, .int .i64 cm] := ((((R.set 5 (.int .i64 r2)).set 6 (.string nb)).set 7 (.bool false)).set 8 (.bool false))
  have NHB : Turn g (g + 1) w ((((w1.setCell ⟨g, 5, none⟩ (.int .i64 r2)).setCell ⟨g, 6, none⟩ (.string nb)).setCell ⟨g, 7, none⟩ (.bool false)).setCell ⟨g, 8, none⟩ (.bool false)) := (Turn.setCell (Turn.setCell (Turn.setCell (Turn.setCell HB (p := ⟨g, 5, none⟩) (.int .i64 r2) (.inl ⟨Nat.le_refl _, Nat.lt_succ_self _⟩)) (p := ⟨g, 6, none⟩) (.string nb) (.inl ⟨Nat.le_refl _, Nat.lt_succ_self _⟩)) (p := ⟨g, 7, none⟩) (.bool false) (.inl ⟨Nat.le_refl _, Nat.lt_succ_self _⟩)) (p := ⟨g, 8, none⟩) (.bool false) (.inl ⟨Nat.le_refl _, Nat.lt_succ_self _⟩))
  generalize hV : ((((w1.setCell ⟨g, 5, none⟩ (.int .i64 r2)).setCell ⟨g, 6, none⟩ (.string nb)).setCell ⟨g, 7, none⟩ (.bool false)).setCell ⟨g, 8, none⟩ (.bool false)) = V2 at *
  clear hV
  clear R
  have R := NR
  clear NR
  clear HB
  have HB := NHB
  clear NHB
  have z5 := RowIs.cell (j := 5) R rfl
  have z6 := RowIs.cell (j := 6) R rfl
  have z7 := RowIs.cell (j := 7) R rfl
  have z8 := RowIs.cell (j := 8) R rfl
  have zf := fun j => RowIs.frozen R j
  have zl := R.lt
  go_wp2_with fail
  go_ret
  exact ⟨rfl, R, HB⟩
set_option maxHeartbeats 1000000 in
theorem takeBack16_openfin (r : Int) (b : ByteArray) (e k : Bool) (r2 : Int) (b2 : ByteArray) (wt cm : Int) (s : ByteArray) (g : Nat) (w : World) (R : RowIs w g 202 [.int .i64 r, .string b, .bool e, .bool k, .int .i64 wt, .int .i64 r2, .string b2, .bool false, .bool false, .int .i64 cm]) (hok : okB r2 b2 false = true) (hs : s.size ≤ 1048576) (hyes : comes r2 b2 s = s.size) :
    Calls Tryz.prog 171 #[.pointer (some ⟨g, 5, none⟩), .string s, .bool true] w fun x w' => x = .returned (.int .i64 (comes r2 b2 s : Int)) ∧ RowIs w' g 202 [.int .i64 r, .string b, .bool e, .bool k, .int .i64 wt, .int .i64 r2, .string (b2 ++ s.extract 0 (comes r2 b2 s)), .bool true, .bool false, .int .i64 cm] ∧ Turn g (g + 1) w w' := by
  have HB : Turn g (g + 1) w w := Turn.refl _ _ _
  have hpu := fun (u : World) => push r2 b2 s false false u hok hs
  simp only [pushedV_open r2 b2 s false false rfl] at hpu
  obtain ⟨n, hn⟩ : ∃ n, comes r2 b2 s = n := ⟨_, rfl⟩
  rw [hn] at hpu ⊢
  obtain ⟨nb, hnb⟩ : ∃ nb, b2 ++ s.extract 0 n = nb := ⟨_, rfl⟩
  rw [hnb] at hpu ⊢
  have hnbs : nb.size ≤ 281474976710656 := by rw [← hnb, ByteArray.size_append, ByteArray.size_extract]; obtain ⟨_, _, _⟩ := okB_parts hok; omega
  rw [hn] at hyes
  clear hn hnb
  go_enter Tryz.func171, Tryz.ntmps171
  have z5 := RowIs.cell (j := 5) R rfl
  have z6 := RowIs.cell (j := 6) R rfl
  have z7 := RowIs.cell (j := 7) R rfl
  have z8 := RowIs.cell (j := 8) R rfl
  have zf := fun j => RowIs.frozen R j
  have zl := R.lt
  go_wp2_with fail
  clear z5 z6 z7 z8 zf zl
  refine (hpu _).mono ?_; rintro x w1 ⟨rfl, hb⟩
  replace R := R.new hb
  replace HB := HB.trans (turn_new hb _ _)
  clear hb
  clear hpu
  have z5 := RowIs.cell (j := 5) R rfl
  have z6 := RowIs.cell (j := 6) R rfl
  have z7 := RowIs.cell (j := 7) R rfl
  have z8 := RowIs.cell (j := 8) R rfl
  have zf := fun j => RowIs.frozen R j
  have zl := R.lt
  go_upto_region 3 with fail
  clear z5 z6 z7 z8 zf zl
  have NR : RowIs ((((w1.setCell ⟨g, 5, none⟩ (.int .i64 r2)).setCell ⟨g, 6, none⟩ (.string nb)).setCell ⟨g, 7, none⟩ (.bool false)).setCell ⟨g, 8, none⟩ (.bool false)) g 202 [.int .i64 r, .string b, .bool e, .bool k, .int .i64 wt, .int .i64 r2, .string nb, .bool false, .bool false, .int .i64 cm] := ((((R.set 5 (.int .i64 r2)).set 6 (.string nb)).set 7 (.bool false)).set 8 (.bool false))
  have NHB : Turn g (g + 1) w ((((w1.setCell ⟨g, 5, none⟩ (.int .i64 r2)).setCell ⟨g, 6, none⟩ (.string nb)).setCell ⟨g, 7, none⟩ (.bool false)).setCell ⟨g, 8, none⟩ (.bool false)) := (Turn.setCell (Turn.setCell (Turn.setCell (Turn.setCell HB (p := ⟨g, 5, none⟩) (.int .i64 r2) (.inl ⟨Nat.le_refl _, Nat.lt_succ_self _⟩)) (p := ⟨g, 6, none⟩) (.string nb) (.inl ⟨Nat.le_refl _, Nat.lt_succ_self _⟩)) (p := ⟨g, 7, none⟩) (.bool false) (.inl ⟨Nat.le_refl _, Nat.lt_succ_self _⟩)) (p := ⟨g, 8, none⟩) (.bool false) (.inl ⟨Nat.le_refl _, Nat.lt_succ_self _⟩))
  generalize hV : ((((w1.setCell ⟨g, 5, none⟩ (.int .i64 r2)).setCell ⟨g, 6, none⟩ (.string nb)).setCell ⟨g, 7, none⟩ (.bool false)).setCell ⟨g, 8, none⟩ (.bool false)) = V2 at *
  clear hV
  clear R
  have R := NR
  clear NR
  clear HB
  have HB := NHB
  clear NHB
  have z5 := RowIs.cell (j := 5) R rfl
  have z6 := RowIs.cell (j := 6) R rfl
  have z7 := RowIs.cell (j := 7) R rfl
  have z8 := RowIs.cell (j := 8) R rfl
  have zf := fun j => RowIs.frozen R j
  have zl := R.lt
  go_wp2_with fail
  clear z5 z6 z7 z8 zf zl
  refine (endP r2 nb false false _ hnbs).mono ?_; rintro x w3 ⟨rfl, hb⟩
  replace R := R.new hb
  replace HB := HB.trans (turn_new hb _ _)
  clear hb
  have z5 := RowIs.cell (j := 5) R rfl
  have z6 := RowIs.cell (j := 6) R rfl
  have z7 := RowIs.cell (j := 7) R rfl
  have z8 := RowIs.cell (j := 8) R rfl
  have zf := fun j => RowIs.frozen R j
  have zl := R.lt
  go_upto_region 5 with fail
  clear z5 z6 z7 z8 zf zl
  have NR : RowIs ((((w3.setCell ⟨g, 5, none⟩ (.int .i64 r2)).setCell ⟨g, 6, none⟩ (.string nb)).setCell ⟨g, 7, none⟩ (.bool true)).setCell ⟨g, 8, none⟩ (.bool false)) g 202 [.int .i64 r, .string b, .bool e, .bool k, .int .i64 wt, .int .i64 r2, .string nb, .bool true, .bool false, .int .i64 cm] := ((((R.set 5 (.int .i64 r2)).set 6 (.string nb)).set 7 (.bool true)).set 8 (.bool false))
  have NHB : Turn g (g + 1) w ((((w3.setCell ⟨g, 5, none⟩ (.int .i64 r2)).setCell ⟨g, 6, none⟩ (.string nb)).setCell ⟨g, 7, none⟩ (.bool true)).setCell ⟨g, 8, none⟩ (.bool false)) := (Turn.setCell (Turn.setCell (Turn.setCell (Turn.setCell HB (p := ⟨g, 5, none⟩) (.int .i64 r2) (.inl ⟨Nat.le_refl _, Nat.lt_succ_self _⟩)) (p := ⟨g, 6, none⟩) (.string nb) (.inl ⟨Nat.le_refl _, Nat.lt_succ_self _⟩)) (p := ⟨g, 7, none⟩) (.bool true) (.inl ⟨Nat.le_refl _, Nat.lt_succ_self _⟩)) (p := ⟨g, 8, none⟩) (.bool false) (.inl ⟨Nat.le_refl _, Nat.lt_succ_self _⟩))
  generalize hV : ((((w3.setCell ⟨g, 5, none⟩ (.int .i64 r2)).setCell ⟨g, 6, none⟩ (.string nb)).setCell ⟨g, 7, none⟩ (.bool true)).setCell ⟨g, 8, none⟩ (.bool false)) = V4 at *
  clear hV
  clear R
  have R := NR
  clear NR
  clear HB
  have HB := NHB
  clear NHB
  go_wp2_with fail
  go_ret
  exact ⟨by rw [hyes]; rfl, R, HB⟩
set_option maxHeartbeats 1000000 in
theorem takeBack16_shut (r : Int) (b : ByteArray) (e k : Bool) (r2 : Int) (b2 : ByteArray) (e2 k2 : Bool) (wt cm : Int) (s : ByteArray) (fin : Bool) (g : Nat) (w : World) (R : RowIs w g 202 [.int .i64 r, .string b, .bool e, .bool k, .int .i64 wt, .int .i64 r2, .string b2, .bool e2, .bool k2, .int .i64 cm]) (hok : okB r2 b2 k2 = true) (hs : s.size ≤ 1048576) (hek : (e2 || k2) = true) (hno : fin = true → s.size ≠ 0 ∨ k2 = true) :
    Calls Tryz.prog 171 #[.pointer (some ⟨g, 5, none⟩), .string s, .bool fin] w fun x w' => x = .returned (.int .i64 0) ∧ RowIs w' g 202 [.int .i64 r, .string b, .bool e, .bool k, .int .i64 wt, .int .i64 r2, .string b2, .bool e2, .bool k2, .int .i64 cm] ∧ Turn g (g + 1) w w' := by
  have HB : Turn g (g + 1) w w := Turn.refl _ _ _
  have hpu := fun (u : World) => push r2 b2 s e2 k2 u hok hs
  simp only [pushedV_shut r2 b2 s e2 k2 hek] at hpu
  cases fin
  · skip
    go_enter Tryz.func171, Tryz.ntmps171
    have z5 := RowIs.cell (j := 5) R rfl
    have z6 := RowIs.cell (j := 6) R rfl
    have z7 := RowIs.cell (j := 7) R rfl
    have z8 := RowIs.cell (j := 8) R rfl
    have zf := fun j => RowIs.frozen R j
    have zl := R.lt
    go_wp2_with fail
    clear z5 z6 z7 z8 zf zl
    refine (hpu _).mono ?_; rintro x w1 ⟨rfl, hb⟩
    replace R := R.new hb
    replace HB := HB.trans (turn_new hb _ _)
    clear hb
    clear hpu
    have z5 := RowIs.cell (j := 5) R rfl
    have z6 := RowIs.cell (j := 6) R rfl
    have z7 := RowIs.cell (j := 7) R rfl
    have z8 := RowIs.cell (j := 8) R rfl
    have zf := fun j => RowIs.frozen R j
    have zl := R.lt
    go_upto_region 3 with fail
    clear z5 z6 z7 z8 zf zl
    have NR : RowIs ((((w1.setCell ⟨g, 5, none⟩ (.int .i64 r2)).setCell ⟨g, 6, none⟩ (.string b2)).setCell ⟨g, 7, none⟩ (.bool e2)).setCell ⟨g, 8, none⟩ (.bool k2)) g 202 [.int .i64 r, .string b, .bool e, .bool k, .int .i64 wt, .int .i64 r2, .string b2, .bool e2, .bool k2, .int .i64 cm] := ((((R.set 5 (.int .i64 r2)).set 6 (.string b2)).set 7 (.bool e2)).set 8 (.bool k2))
    have NHB : Turn g (g + 1) w ((((w1.setCell ⟨g, 5, none⟩ (.int .i64 r2)).setCell ⟨g, 6, none⟩ (.string b2)).setCell ⟨g, 7, none⟩ (.bool e2)).setCell ⟨g, 8, none⟩ (.bool k2)) := (Turn.setCell (Turn.setCell (Turn.setCell (Turn.setCell HB (p := ⟨g, 5, none⟩) (.int .i64 r2) (.inl ⟨Nat.le_refl _, Nat.lt_succ_self _⟩)) (p := ⟨g, 6, none⟩) (.string b2) (.inl ⟨Nat.le_refl _, Nat.lt_succ_self _⟩)) (p := ⟨g, 7, none⟩) (.bool e2) (.inl ⟨Nat.le_refl _, Nat.lt_succ_self _⟩)) (p := ⟨g, 8, none⟩) (.bool k2) (.inl ⟨Nat.le_refl _, Nat.lt_succ_self _⟩))
    generalize hV : ((((w1.setCell ⟨g, 5, none⟩ (.int .i64 r2)).setCell ⟨g, 6, none⟩ (.string b2)).setCell ⟨g, 7, none⟩ (.bool e2)).setCell ⟨g, 8, none⟩ (.bool k2)) = V2 at *
    clear hV
    clear R
    have R := NR
    clear NR
    clear HB
    have HB := NHB
    clear NHB
    have z5 := RowIs.cell (j := 5) R rfl
    have z6 := RowIs.cell (j := 6) R rfl
    have z7 := RowIs.cell (j := 7) R rfl
    have z8 := RowIs.cell (j := 8) R rfl
    have zf := fun j => RowIs.frozen R j
    have zl := R.lt
    go_wp2_with fail
    go_ret
    exact ⟨rfl, R, HB⟩
  by_cases hz : s.size = 0
  · obtain rfl : k2 = true := by rcases hno rfl with h | h; exact absurd hz h; exact h
    have hzI : (s.size : Int) = 0 := by omega
    go_enter Tryz.func171, Tryz.ntmps171
    have z5 := RowIs.cell (j := 5) R rfl
    have z6 := RowIs.cell (j := 6) R rfl
    have z7 := RowIs.cell (j := 7) R rfl
    have z8 := RowIs.cell (j := 8) R rfl
    have zf := fun j => RowIs.frozen R j
    have zl := R.lt
    go_wp2_with fail
    clear z5 z6 z7 z8 zf zl
    refine (hpu _).mono ?_; rintro x w1 ⟨rfl, hb⟩
    replace R := R.new hb
    replace HB := HB.trans (turn_new hb _ _)
    clear hb
    clear hpu
    have z5 := RowIs.cell (j := 5) R rfl
    have z6 := RowIs.cell (j := 6) R rfl
    have z7 := RowIs.cell (j := 7) R rfl
    have z8 := RowIs.cell (j := 8) R rfl
    have zf := fun j => RowIs.frozen R j
    have zl := R.lt
    go_upto_region 3 with fail
    clear z5 z6 z7 z8 zf zl
    have NR : RowIs ((((w1.setCell ⟨g, 5, none⟩ (.int .i64 r2)).setCell ⟨g, 6, none⟩ (.string b2)).setCell ⟨g, 7, none⟩ (.bool e2)).setCell ⟨g, 8, none⟩ (.bool true)) g 202 [.int .i64 r, .string b, .bool e, .bool k, .int .i64 wt, .int .i64 r2, .string b2, .bool e2, .bool true, .int .i64 cm] := ((((R.set 5 (.int .i64 r2)).set 6 (.string b2)).set 7 (.bool e2)).set 8 (.bool true))
    have NHB : Turn g (g + 1) w ((((w1.setCell ⟨g, 5, none⟩ (.int .i64 r2)).setCell ⟨g, 6, none⟩ (.string b2)).setCell ⟨g, 7, none⟩ (.bool e2)).setCell ⟨g, 8, none⟩ (.bool true)) := (Turn.setCell (Turn.setCell (Turn.setCell (Turn.setCell HB (p := ⟨g, 5, none⟩) (.int .i64 r2) (.inl ⟨Nat.le_refl _, Nat.lt_succ_self _⟩)) (p := ⟨g, 6, none⟩) (.string b2) (.inl ⟨Nat.le_refl _, Nat.lt_succ_self _⟩)) (p := ⟨g, 7, none⟩) (.bool e2) (.inl ⟨Nat.le_refl _, Nat.lt_succ_self _⟩)) (p := ⟨g, 8, none⟩) (.bool true) (.inl ⟨Nat.le_refl _, Nat.lt_succ_self _⟩))
    generalize hV : ((((w1.setCell ⟨g, 5, none⟩ (.int .i64 r2)).setCell ⟨g, 6, none⟩ (.string b2)).setCell ⟨g, 7, none⟩ (.bool e2)).setCell ⟨g, 8, none⟩ (.bool true)) = V2 at *
    clear hV
    clear R
    have R := NR
    clear NR
    clear HB
    have HB := NHB
    clear NHB
    have z5 := RowIs.cell (j := 5) R rfl
    have z6 := RowIs.cell (j := 6) R rfl
    have z7 := RowIs.cell (j := 7) R rfl
    have z8 := RowIs.cell (j := 8) R rfl
    have zf := fun j => RowIs.frozen R j
    have zl := R.lt
    go_wp2_with fail
    go_ret
    exact ⟨rfl, R, HB⟩
  have hzI : ¬ ((0 : Int) = (s.size : Int)) := by omega
  go_enter Tryz.func171, Tryz.ntmps171
  have z5 := RowIs.cell (j := 5) R rfl
  have z6 := RowIs.cell (j := 6) R rfl
  have z7 := RowIs.cell (j := 7) R rfl
  have z8 := RowIs.cell (j := 8) R rfl
  have zf := fun j => RowIs.frozen R j
  have zl := R.lt
  go_wp2_with fail
  clear z5 z6 z7 z8 zf zl
  refine (hpu _).mono ?_; rintro x w1 ⟨rfl, hb⟩
  replace R := R.new hb
  replace HB := HB.trans (turn_new hb _ _)
  clear hb
  clear hpu
  have z5 := RowIs.cell (j := 5) R rfl
  have z6 := RowIs.cell (j := 6) R rfl
  have z7 := RowIs.cell (j := 7) R rfl
  have z8 := RowIs.cell (j := 8) R rfl
  have zf := fun j => RowIs.frozen R j
  have zl := R.lt
  go_upto_region 3 with fail
  clear z5 z6 z7 z8 zf zl
  have NR : RowIs ((((w1.setCell ⟨g, 5, none⟩ (.int .i64 r2)).setCell ⟨g, 6, none⟩ (.string b2)).setCell ⟨g, 7, none⟩ (.bool e2)).setCell ⟨g, 8, none⟩ (.bool k2)) g 202 [.int .i64 r, .string b, .bool e, .bool k, .int .i64 wt, .int .i64 r2, .string b2, .bool e2, .bool k2, .int .i64 cm] := ((((R.set 5 (.int .i64 r2)).set 6 (.string b2)).set 7 (.bool e2)).set 8 (.bool k2))
  have NHB : Turn g (g + 1) w ((((w1.setCell ⟨g, 5, none⟩ (.int .i64 r2)).setCell ⟨g, 6, none⟩ (.string b2)).setCell ⟨g, 7, none⟩ (.bool e2)).setCell ⟨g, 8, none⟩ (.bool k2)) := (Turn.setCell (Turn.setCell (Turn.setCell (Turn.setCell HB (p := ⟨g, 5, none⟩) (.int .i64 r2) (.inl ⟨Nat.le_refl _, Nat.lt_succ_self _⟩)) (p := ⟨g, 6, none⟩) (.string b2) (.inl ⟨Nat.le_refl _, Nat.lt_succ_self _⟩)) (p := ⟨g, 7, none⟩) (.bool e2) (.inl ⟨Nat.le_refl _, Nat.lt_succ_self _⟩)) (p := ⟨g, 8, none⟩) (.bool k2) (.inl ⟨Nat.le_refl _, Nat.lt_succ_self _⟩))
  generalize hV : ((((w1.setCell ⟨g, 5, none⟩ (.int .i64 r2)).setCell ⟨g, 6, none⟩ (.string b2)).setCell ⟨g, 7, none⟩ (.bool e2)).setCell ⟨g, 8, none⟩ (.bool k2)) = V2 at *
  clear hV
  clear R
  have R := NR
  clear NR
  clear HB
  have HB := NHB
  clear NHB
  have z5 := RowIs.cell (j := 5) R rfl
  have z6 := RowIs.cell (j := 6) R rfl
  have z7 := RowIs.cell (j := 7) R rfl
  have z8 := RowIs.cell (j := 8) R rfl
  have zf := fun j => RowIs.frozen R j
  have zl := R.lt
  go_wp2_with fail
  go_ret
  exact ⟨rfl, R, HB⟩
set_option maxHeartbeats 1000000 in
theorem takeBack16_shutfin (r : Int) (b : ByteArray) (e k : Bool) (r2 : Int) (b2 : ByteArray) (e2 : Bool) (wt cm : Int) (s : ByteArray) (g : Nat) (w : World) (R : RowIs w g 202 [.int .i64 r, .string b, .bool e, .bool k, .int .i64 wt, .int .i64 r2, .string b2, .bool e2, .bool false, .int .i64 cm]) (hok : okB r2 b2 false = true) (hs : s.size ≤ 1048576) (hek : (e2 || false) = true) (hyes : s.size = 0) :
    Calls Tryz.prog 171 #[.pointer (some ⟨g, 5, none⟩), .string s, .bool true] w fun x w' => x = .returned (.int .i64 0) ∧ RowIs w' g 202 [.int .i64 r, .string b, .bool e, .bool k, .int .i64 wt, .int .i64 r2, .string b2, .bool true, .bool false, .int .i64 cm] ∧ Turn g (g + 1) w w' := by
  have HB : Turn g (g + 1) w w := Turn.refl _ _ _
  have hpu := fun (u : World) => push r2 b2 s e2 false u hok hs
  simp only [pushedV_shut r2 b2 s e2 false hek] at hpu
  have hnbs : b2.size ≤ 281474976710656 := by obtain ⟨_, _, _⟩ := okB_parts hok; omega
  have hzI : (s.size : Int) = 0 := by omega
  go_enter Tryz.func171, Tryz.ntmps171
  have z5 := RowIs.cell (j := 5) R rfl
  have z6 := RowIs.cell (j := 6) R rfl
  have z7 := RowIs.cell (j := 7) R rfl
  have z8 := RowIs.cell (j := 8) R rfl
  have zf := fun j => RowIs.frozen R j
  have zl := R.lt
  go_wp2_with fail
  clear z5 z6 z7 z8 zf zl
  refine (hpu _).mono ?_; rintro x w1 ⟨rfl, hb⟩
  replace R := R.new hb
  replace HB := HB.trans (turn_new hb _ _)
  clear hb
  clear hpu
  have z5 := RowIs.cell (j := 5) R rfl
  have z6 := RowIs.cell (j := 6) R rfl
  have z7 := RowIs.cell (j := 7) R rfl
  have z8 := RowIs.cell (j := 8) R rfl
  have zf := fun j => RowIs.frozen R j
  have zl := R.lt
  go_upto_region 3 with fail
  clear z5 z6 z7 z8 zf zl
  have NR : RowIs ((((w1.setCell ⟨g, 5, none⟩ (.int .i64 r2)).setCell ⟨g, 6, none⟩ (.string b2)).setCell ⟨g, 7, none⟩ (.bool e2)).setCell ⟨g, 8, none⟩ (.bool false)) g 202 [.int .i64 r, .string b, .bool e, .bool k, .int .i64 wt, .int .i64 r2, .string b2, .bool e2, .bool false, .int .i64 cm] := ((((R.set 5 (.int .i64 r2)).set 6 (.string b2)).set 7 (.bool e2)).set 8 (.bool false))
  have NHB : Turn g (g + 1) w ((((w1.setCell ⟨g, 5, none⟩ (.int .i64 r2)).setCell ⟨g, 6, none⟩ (.string b2)).setCell ⟨g, 7, none⟩ (.bool e2)).setCell ⟨g, 8, none⟩ (.bool false)) := (Turn.setCell (Turn.setCell (Turn.setCell (Turn.setCell HB (p := ⟨g, 5, none⟩) (.int .i64 r2) (.inl ⟨Nat.le_refl _, Nat.lt_succ_self _⟩)) (p := ⟨g, 6, none⟩) (.string b2) (.inl ⟨Nat.le_refl _, Nat.lt_succ_self _⟩)) (p := ⟨g, 7, none⟩) (.bool e2) (.inl ⟨Nat.le_refl _, Nat.lt_succ_self _⟩)) (p := ⟨g, 8, none⟩) (.bool false) (.inl ⟨Nat.le_refl _, Nat.lt_succ_self _⟩))
  generalize hV : ((((w1.setCell ⟨g, 5, none⟩ (.int .i64 r2)).setCell ⟨g, 6, none⟩ (.string b2)).setCell ⟨g, 7, none⟩ (.bool e2)).setCell ⟨g, 8, none⟩ (.bool false)) = V2 at *
  clear hV
  clear R
  have R := NR
  clear NR
  clear HB
  have HB := NHB
  clear NHB
  have z5 := RowIs.cell (j := 5) R rfl
  have z6 := RowIs.cell (j := 6) R rfl
  have z7 := RowIs.cell (j := 7) R rfl
  have z8 := RowIs.cell (j := 8) R rfl
  have zf := fun j => RowIs.frozen R j
  have zl := R.lt
  go_wp2_with fail
  clear z5 z6 z7 z8 zf zl
  refine (endP r2 b2 e2 false _ hnbs).mono ?_; rintro x w3 ⟨rfl, hb⟩
  replace R := R.new hb
  replace HB := HB.trans (turn_new hb _ _)
  clear hb
  have z5 := RowIs.cell (j := 5) R rfl
  have z6 := RowIs.cell (j := 6) R rfl
  have z7 := RowIs.cell (j := 7) R rfl
  have z8 := RowIs.cell (j := 8) R rfl
  have zf := fun j => RowIs.frozen R j
  have zl := R.lt
  go_upto_region 5 with fail
  clear z5 z6 z7 z8 zf zl
  have NR : RowIs ((((w3.setCell ⟨g, 5, none⟩ (.int .i64 r2)).setCell ⟨g, 6, none⟩ (.string b2)).setCell ⟨g, 7, none⟩ (.bool true)).setCell ⟨g, 8, none⟩ (.bool false)) g 202 [.int .i64 r, .string b, .bool e, .bool k, .int .i64 wt, .int .i64 r2, .string b2, .bool true, .bool false, .int .i64 cm] := ((((R.set 5 (.int .i64 r2)).set 6 (.string b2)).set 7 (.bool true)).set 8 (.bool false))
  have NHB : Turn g (g + 1) w ((((w3.setCell ⟨g, 5, none⟩ (.int .i64 r2)).setCell ⟨g, 6, none⟩ (.string b2)).setCell ⟨g, 7, none⟩ (.bool true)).setCell ⟨g, 8, none⟩ (.bool false)) := (Turn.setCell (Turn.setCell (Turn.setCell (Turn.setCell HB (p := ⟨g, 5, none⟩) (.int .i64 r2) (.inl ⟨Nat.le_refl _, Nat.lt_succ_self _⟩)) (p := ⟨g, 6, none⟩) (.string b2) (.inl ⟨Nat.le_refl _, Nat.lt_succ_self _⟩)) (p := ⟨g, 7, none⟩) (.bool true) (.inl ⟨Nat.le_refl _, Nat.lt_succ_self _⟩)) (p := ⟨g, 8, none⟩) (.bool false) (.inl ⟨Nat.le_refl _, Nat.lt_succ_self _⟩))
  generalize hV : ((((w3.setCell ⟨g, 5, none⟩ (.int .i64 r2)).setCell ⟨g, 6, none⟩ (.string b2)).setCell ⟨g, 7, none⟩ (.bool true)).setCell ⟨g, 8, none⟩ (.bool false)) = V4 at *
  clear hV
  clear R
  have R := NR
  clear NR
  clear HB
  have HB := NHB
  clear NHB
  go_wp2_with fail
  go_ret
  exact ⟨rfl, R, HB⟩
theorem takeBack16 (t : TuD) (s : ByteArray) (fin : Bool) (g : Nat) (w : World) (ho : okTu t = true) (hs : s.size ≤ 1048576) (R : RowIs w g 202 (lncs t)) :
    Calls Tryz.prog 171 #[.pointer (some ⟨g, 5, none⟩), .string s, .bool fin] w fun x w' => x = .returned (.int .i64 (bckTu t s fin).2) ∧ RowIs w' g 202 (lncs (bckTu t s fin).1) ∧ Turn g (g + 1) w w' := by
  obtain ⟨hu, hd, hw, hm⟩ := okTu_true ho
  have hv : bckTu t s fin = (⟨t.up, ⟨t.dn.r, t.dn.b ++ s.extract 0 (bckN t s), t.dn.e || (fin && decide (bckN t s = s.size) && !t.dn.k), t.dn.k⟩, t.went, t.came⟩, (bckN t s : Int)) := by
    unfold bckTu; rw [if_neg (by rw [ho]; decide)]
  rw [hv]
  clear hv ho hu hw hm
  obtain ⟨⟨r, b, e, k⟩, ⟨r2, b2, e2, k2⟩, wt, cm⟩ := t
  dsimp only [lncs] at *
  have hok : okB r2 b2 k2 = true := hd
  cases hek : (e2 || k2)
  · obtain ⟨rfl, rfl⟩ : e2 = false ∧ k2 = false := by revert hek; cases e2 <;> cases k2 <;> simp
    have hbn : bckN ⟨⟨r, b, e, k⟩, ⟨r2, b2, false, false⟩, wt, cm⟩ s = comes r2 b2 s := by unfold bckN; rw [if_neg (by simp)]
    rw [hbn]
    by_cases hall : fin = true ∧ comes r2 b2 s = s.size
    · obtain ⟨rfl, ha⟩ := hall
      have h := takeBack16_openfin r b e k r2 b2 wt cm s g w R hok hs ha
      simpa [ha] using h
    · have hz : (false || (fin && decide (comes r2 b2 s = s.size) && !false)) = false := by
        cases fin
        · rfl
        · have : comes r2 b2 s ≠ s.size := fun h => hall ⟨rfl, h⟩
          simp [this]
      rw [hz]
      exact takeBack16_open r b e k r2 b2 wt cm s fin g w R hok hs (fun h1 h2 => hall ⟨h1, h2⟩)
  · have hor : e2 = true ∨ k2 = true := by revert hek; cases e2 <;> cases k2 <;> simp
    have hbn : bckN ⟨⟨r, b, e, k⟩, ⟨r2, b2, e2, k2⟩, wt, cm⟩ s = 0 := by unfold bckN; rw [if_pos hor]
    rw [hbn]
    have hex : b2 ++ s.extract 0 0 = b2 := by simp
    rw [hex]
    by_cases hall : fin = true ∧ s.size = 0 ∧ k2 = false
    · obtain ⟨rfl, ha, rfl⟩ := hall
      have h := takeBack16_shutfin r b e k r2 b2 e2 wt cm s g w R hok hs hek ha
      simpa [ha] using h
    · have hz : (e2 || (fin && decide (0 = s.size) && !k2)) = e2 := by
        cases fin
        · simp
        · cases k2
          · have : ¬ (0 = s.size) := fun h => hall ⟨rfl, h.symm, rfl⟩
            simp [this]
          · simp
      rw [hz]
      exact takeBack16_shut r b e k r2 b2 e2 k2 wt cm s fin g w R hok hs hek (fun h1 => by
        cases k2
        · left; intro h2; exact hall ⟨h1, h2, rfl⟩
        · exact .inr rfl)
set_option maxHeartbeats 1000000 in
theorem implTunnelOk (t : TuD) (w : World) (h1 : t.up.b.size ≤ maxLen) (h2 : t.dn.b.size ≤ maxLen) : Calls Tryz.prog 196 #[tuv t] w fun x w' => x = .returned (.bool (okTu t)) ∧ Below w.heap.size w w' := by
  obtain ⟨⟨r, b, e, k⟩, ⟨r2, b2, e2, k2⟩, wt, cm⟩ := t
  dsimp only [tuv] at *
  obtain ⟨W, hW⟩ : ∃ W, (w.alloc (.cells #[.int .i64 r, .string b, .bool e, .bool k, .int .i64 r2, .string b2, .bool e2, .bool k2, .int .i64 wt, .int .i64 cm] 55)) = W := ⟨_, rfl⟩
  have RX : RowIs W w.heap.size 55 [.int .i64 r, .string b, .bool e, .bool k, .int .i64 r2, .string b2, .bool e2, .bool k2, .int .i64 wt, .int .i64 cm] := by rw [← hW]; exact rowIs_new w 55 [.int .i64 r, .string b, .bool e, .bool k, .int .i64 r2, .string b2, .bool e2, .bool k2, .int .i64 wt, .int .i64 cm]
  have HB : Below w.heap.size w W := by rw [← hW]; exact (Below.refl _ _).alloc (Nat.le_refl _) _
  have hri := fun (u : World) => lanesRight16 ⟨⟨r, b, e, k⟩, ⟨r2, b2, e2, k2⟩, wt, cm⟩ u h1 h2
  go_enter Tryz.func196, Tryz.ntmps196
  go_wp2_with (refine wpList_load_row (by rfl) 55 _ (by rfl) w.heap.size (by rfl) [.int .i64 r, .string b, .bool e, .bool k, .int .i64 r2, .string b2, .bool e2, .bool k2, .int .i64 wt, .int .i64 cm] _ 55 RX Tryz.underlying55 rfl (by kernel_rfl) ?_)
  clear hW
  refine (lanes16 ⟨⟨r, b, e, k⟩, ⟨r2, b2, e2, k2⟩, wt, cm⟩ _).mono ?_; rintro x w1 ⟨rfl, hb⟩
  replace RX := RX.new hb
  replace HB := bchain HB hb
  clear hb
  go_wp2_with fail
  refine (hri _).mono ?_; rintro x w2 ⟨rfl, hb⟩
  replace RX := RX.new hb
  replace HB := bchain HB hb
  clear hb
  go_wp2_with fail
  go_ret
  exact ⟨rfl, HB⟩
set_option maxHeartbeats 2000000 in
theorem implBack (t : TuD) (s : ByteArray) (fin : Bool) (w : World) (h1 : t.up.b.size ≤ maxLen) (h2 : t.dn.b.size ≤ maxLen) (hs : s.size ≤ 1048576) : Calls Tryz.prog 91 #[tuv t, .string s, .bool fin] w fun x w' => x = .returned (.tuple #[tuv (bckTu t s fin).1, .int .i64 (bckTu t s fin).2]) ∧ Below w.heap.size w w' := by
  obtain ⟨⟨r, b, e, k⟩, ⟨r2, b2, e2, k2⟩, wt, cm⟩ := t
  dsimp only [tuv] at *
  have hri := fun (u : World) => lanesRight16 ⟨⟨r, b, e, k⟩, ⟨r2, b2, e2, k2⟩, wt, cm⟩ u h1 h2
  cases hk : okTu ⟨⟨r, b, e, k⟩, ⟨r2, b2, e2, k2⟩, wt, cm⟩
  · have hv : bckTu ⟨⟨r, b, e, k⟩, ⟨r2, b2, e2, k2⟩, wt, cm⟩ s fin = (zTu, 0) := by unfold bckTu; rw [if_pos hk]
    rw [hv]
    rw [hk] at hri
    dsimp only [zTu, zPp]
    obtain ⟨W, hW⟩ : ∃ W, ((w.alloc (.cells #[.int .i64 r, .string b, .bool e, .bool k, .int .i64 r2, .string b2, .bool e2, .bool k2, .int .i64 wt, .int .i64 cm] 55)).alloc (.cells #[.int .i64 0, .string ⟨#[]⟩, .bool false, .bool false, .int .i64 0, .string ⟨#[]⟩, .bool false, .bool false, .int .i64 0, .int .i64 0] 55)) = W := ⟨_, rfl⟩
    have RX : RowIs W w.heap.size 55 [.int .i64 r, .string b, .bool e, .bool k, .int .i64 r2, .string b2, .bool e2, .bool k2, .int .i64 wt, .int .i64 cm] := by rw [← hW]; exact (rowIs_new w 55 [.int .i64 r, .string b, .bool e, .bool k, .int .i64 r2, .string b2, .bool e2, .bool k2, .int .i64 wt, .int .i64 cm]).alloc _
    have RY : RowIs W (w.heap.size + 1) 55 [.int .i64 0, .string ⟨#[]⟩, .bool false, .bool false, .int .i64 0, .string ⟨#[]⟩, .bool false, .bool false, .int .i64 0, .int .i64 0] := by have := rowIs_new (w.alloc (.cells #[.int .i64 r, .string b, .bool e, .bool k, .int .i64 r2, .string b2, .bool e2, .bool k2, .int .i64 wt, .int .i64 cm] 55)) 55 [.int .i64 0, .string ⟨#[]⟩, .bool false, .bool false, .int .i64 0, .string ⟨#[]⟩, .bool false, .bool false, .int .i64 0, .int .i64 0]; rw [hW] at this; simpa using this
    have HB : Below w.heap.size w W := by rw [← hW]; exact (((Below.refl _ _).alloc (Nat.le_refl _) _).alloc (by simp) _)
    go_enter Tryz.func91, Tryz.ntmps91
    go_wp2_with (refine wpList_load_row (by rfl) 55 _ (by rfl) w.heap.size (by rfl) [.int .i64 r, .string b, .bool e, .bool k, .int .i64 r2, .string b2, .bool e2, .bool k2, .int .i64 wt, .int .i64 cm] _ 55 RX Tryz.underlying55 rfl (by kernel_rfl) ?_)
    clear hW
    refine (lanes16 ⟨⟨r, b, e, k⟩, ⟨r2, b2, e2, k2⟩, wt, cm⟩ _).mono ?_; rintro x w1 ⟨rfl, hb⟩
    replace RX := RX.new hb
    replace RY := RY.new hb
    replace HB := bchain HB hb
    clear hb
    dsimp only [lnv]
    go_upto_region 2 with (refine wpList_store_row (by rfl) 202 _ _ (by rfl) w1.heap.size [.int .i64 r, .string b, .bool e, .bool k, .int .i64 wt, .int .i64 r2, .string b2, .bool e2, .bool k2, .int .i64 cm] (by rfl) (by rfl) 202 [.int .i64 0, .string ⟨#[]⟩, .bool false, .bool false, .int .i64 0, .int .i64 0, .string ⟨#[]⟩, .bool false, .bool false, .int .i64 0] (rowIs_new w1 202 [.int .i64 0, .string ⟨#[]⟩, .bool false, .bool false, .int .i64 0, .int .i64 0, .string ⟨#[]⟩, .bool false, .bool false, .int .i64 0]) (by kernel_rfl) rfl (by intro u hu; simp at hu; rcases hu with rfl | rfl | rfl | rfl | rfl | rfl | rfl | rfl | rfl | rfl <;> rfl) ?_)
    have RL : RowIs ((w1.alloc (.cells #[.int .i64 0, .string ⟨#[]⟩, .bool false, .bool false, .int .i64 0, .int .i64 0, .string ⟨#[]⟩, .bool false, .bool false, .int .i64 0] 202)).setRow w1.heap.size #[.int .i64 r, .string b, .bool e, .bool k, .int .i64 wt, .int .i64 r2, .string b2, .bool e2, .bool k2, .int .i64 cm]) w1.heap.size 202 [.int .i64 r, .string b, .bool e, .bool k, .int .i64 wt, .int .i64 r2, .string b2, .bool e2, .bool k2, .int .i64 cm] := rowIs_setRow (cs' := [.int .i64 r, .string b, .bool e, .bool k, .int .i64 wt, .int .i64 r2, .string b2, .bool e2, .bool k2, .int .i64 cm]) (rowIs_new w1 202 [.int .i64 0, .string ⟨#[]⟩, .bool false, .bool false, .int .i64 0, .int .i64 0, .string ⟨#[]⟩, .bool false, .bool false, .int .i64 0])
    have hbV : Below w1.heap.size w1 ((w1.alloc (.cells #[.int .i64 0, .string ⟨#[]⟩, .bool false, .bool false, .int .i64 0, .int .i64 0, .string ⟨#[]⟩, .bool false, .bool false, .int .i64 0] 202)).setRow w1.heap.size #[.int .i64 r, .string b, .bool e, .bool k, .int .i64 wt, .int .i64 r2, .string b2, .bool e2, .bool k2, .int .i64 cm]) := below_setRow ((Below.refl _ _).alloc (Nat.le_refl _) _) (Nat.le_refl _) #[.int .i64 r, .string b, .bool e, .bool k, .int .i64 wt, .int .i64 r2, .string b2, .bool e2, .bool k2, .int .i64 cm]
    have hgl : w.heap.size + 1 < w1.heap.size := RY.lt
    replace RX := RX.new hbV
    replace RY := RY.new hbV
    replace HB := bchain HB hbV
    clear hbV
    generalize hV : (w1.alloc (.cells #[.int .i64 0, .string ⟨#[]⟩, .bool false, .bool false, .int .i64 0, .int .i64 0, .string ⟨#[]⟩, .bool false, .bool false, .int .i64 0] 202)).setRow w1.heap.size #[.int .i64 r, .string b, .bool e, .bool k, .int .i64 wt, .int .i64 r2, .string b2, .bool e2, .bool k2, .int .i64 cm] = V0 at *
    clear hV
    generalize w1.heap.size = gL at *
    go_wp2_with (refine wpList_load_row (by rfl) 202 _ (by rfl) gL (by rfl) [.int .i64 r, .string b, .bool e, .bool k, .int .i64 wt, .int .i64 r2, .string b2, .bool e2, .bool k2, .int .i64 cm] _ 202 RL Tryz.underlying202 rfl (by kernel_rfl) ?_)
    refine (hri _).mono ?_; rintro x w2 ⟨rfl, hb⟩
    replace RX := RX.new hb
    replace RY := RY.new hb
    replace RL := RL.new hb
    replace HB := bchain HB hb
    clear hb
    go_wp2_with (refine wpList_store_row (by rfl) 55 _ _ (by rfl) (w.heap.size + 1) [.int .i64 0, .string ⟨#[]⟩, .bool false, .bool false, .int .i64 0, .string ⟨#[]⟩, .bool false, .bool false, .int .i64 0, .int .i64 0] (by rfl) (by rfl) 55 [.int .i64 0, .string ⟨#[]⟩, .bool false, .bool false, .int .i64 0, .string ⟨#[]⟩, .bool false, .bool false, .int .i64 0, .int .i64 0] RY (by kernel_rfl) rfl (by intro u hu; simp at hu; rcases hu with rfl | rfl | rfl | rfl | rfl | rfl | rfl | rfl | rfl | rfl <;> rfl) ?_)
    have NRX := RX.kept (setRow_other w2 (w.heap.size + 1) #[.int .i64 0, .string ⟨#[]⟩, .bool false, .bool false, .int .i64 0, .string ⟨#[]⟩, .bool false, .bool false, .int .i64 0, .int .i64 0] w.heap.size (by omega))
    have NRY : RowIs (w2.setRow (w.heap.size + 1) #[.int .i64 0, .string ⟨#[]⟩, .bool false, .bool false, .int .i64 0, .string ⟨#[]⟩, .bool false, .bool false, .int .i64 0, .int .i64 0]) (w.heap.size + 1) 55 [.int .i64 0, .string ⟨#[]⟩, .bool false, .bool false, .int .i64 0, .string ⟨#[]⟩, .bool false, .bool false, .int .i64 0, .int .i64 0] := rowIs_setRow (cs' := [.int .i64 0, .string ⟨#[]⟩, .bool false, .bool false, .int .i64 0, .string ⟨#[]⟩, .bool false, .bool false, .int .i64 0, .int .i64 0]) RY
    have NRL := RL.kept (setRow_other w2 (w.heap.size + 1) #[.int .i64 0, .string ⟨#[]⟩, .bool false, .bool false, .int .i64 0, .string ⟨#[]⟩, .bool false, .bool false, .int .i64 0, .int .i64 0] gL (by omega))
    have NHB := below_setRow HB (show w.heap.size ≤ (w.heap.size + 1) by omega) #[.int .i64 0, .string ⟨#[]⟩, .bool false, .bool false, .int .i64 0, .string ⟨#[]⟩, .bool false, .bool false, .int .i64 0, .int .i64 0]
    generalize hV : w2.setRow (w.heap.size + 1) #[.int .i64 0, .string ⟨#[]⟩, .bool false, .bool false, .int .i64 0, .string ⟨#[]⟩, .bool false, .bool false, .int .i64 0, .int .i64 0] = V3 at *
    clear hV
    clear RX
    have RX := NRX
    clear NRX
    clear RY
    have RY := NRY
    clear NRY
    clear RL
    have RL := NRL
    clear NRL
    clear HB
    have HB := NHB
    clear NHB
    have y0 := RowIs.cell (j := 0) RY rfl
    have y1 := RowIs.cell (j := 1) RY rfl
    have y2 := RowIs.cell (j := 2) RY rfl
    have y3 := RowIs.cell (j := 3) RY rfl
    have y4 := RowIs.cell (j := 4) RY rfl
    have y5 := RowIs.cell (j := 5) RY rfl
    have y6 := RowIs.cell (j := 6) RY rfl
    have y7 := RowIs.cell (j := 7) RY rfl
    have y8 := RowIs.cell (j := 8) RY rfl
    have y9 := RowIs.cell (j := 9) RY rfl
    have yf := fun j => RowIs.frozen RY j
    have yl := RY.lt
    refine bodyPost_ret (v := .tuple #[.agg #[.int .i64 0, .string ⟨#[]⟩, .bool false, .bool false, .int .i64 0, .string ⟨#[]⟩, .bool false, .bool false, .int .i64 0, .int .i64 0], .int .i64 0]) (by simp [results, Tryz.results91, go_sem, *]) rfl ?_
    exact ⟨rfl, HB⟩
  rw [hk] at hri
  obtain ⟨W, hW⟩ : ∃ W, ((w.alloc (.cells #[.int .i64 r, .string b, .bool e, .bool k, .int .i64 r2, .string b2, .bool e2, .bool k2, .int .i64 wt, .int .i64 cm] 55)).alloc (.cells #[.int .i64 0, .string ⟨#[]⟩, .bool false, .bool false, .int .i64 0, .string ⟨#[]⟩, .bool false, .bool false, .int .i64 0, .int .i64 0] 55)) = W := ⟨_, rfl⟩
  have RX : RowIs W w.heap.size 55 [.int .i64 r, .string b, .bool e, .bool k, .int .i64 r2, .string b2, .bool e2, .bool k2, .int .i64 wt, .int .i64 cm] := by rw [← hW]; exact (rowIs_new w 55 [.int .i64 r, .string b, .bool e, .bool k, .int .i64 r2, .string b2, .bool e2, .bool k2, .int .i64 wt, .int .i64 cm]).alloc _
  have RY : RowIs W (w.heap.size + 1) 55 [.int .i64 0, .string ⟨#[]⟩, .bool false, .bool false, .int .i64 0, .string ⟨#[]⟩, .bool false, .bool false, .int .i64 0, .int .i64 0] := by have := rowIs_new (w.alloc (.cells #[.int .i64 r, .string b, .bool e, .bool k, .int .i64 r2, .string b2, .bool e2, .bool k2, .int .i64 wt, .int .i64 cm] 55)) 55 [.int .i64 0, .string ⟨#[]⟩, .bool false, .bool false, .int .i64 0, .string ⟨#[]⟩, .bool false, .bool false, .int .i64 0, .int .i64 0]; rw [hW] at this; simpa using this
  have HB : Below w.heap.size w W := by rw [← hW]; exact (((Below.refl _ _).alloc (Nat.le_refl _) _).alloc (by simp) _)
  obtain ⟨sz1, sz2⟩ := bckTu_size ⟨⟨r, b, e, k⟩, ⟨r2, b2, e2, k2⟩, wt, cm⟩ s fin hk hs
  have hpt := fun (g : Nat) (u : World) (R : RowIs u g 202 (lncs ⟨⟨r, b, e, k⟩, ⟨r2, b2, e2, k2⟩, wt, cm⟩)) => takeBack16 ⟨⟨r, b, e, k⟩, ⟨r2, b2, e2, k2⟩, wt, cm⟩ s fin g u hk hs R
  obtain ⟨⟨⟨⟨ar, ab, ae, ak⟩, ⟨ar2, ab2, ae2, ak2⟩, awt, acm⟩, z⟩, hv⟩ : ∃ v, bckTu ⟨⟨r, b, e, k⟩, ⟨r2, b2, e2, k2⟩, wt, cm⟩ s fin = v := ⟨_, rfl⟩
  rw [hv] at sz1 sz2 hpt
  rw [hv]
  clear hv
  dsimp only [lncs] at *
  go_enter Tryz.func91, Tryz.ntmps91
  go_wp2_with (refine wpList_load_row (by rfl) 55 _ (by rfl) w.heap.size (by rfl) [.int .i64 r, .string b, .bool e, .bool k, .int .i64 r2, .string b2, .bool e2, .bool k2, .int .i64 wt, .int .i64 cm] _ 55 RX Tryz.underlying55 rfl (by kernel_rfl) ?_)
  clear hW
  refine (lanes16 ⟨⟨r, b, e, k⟩, ⟨r2, b2, e2, k2⟩, wt, cm⟩ _).mono ?_; rintro x w1 ⟨rfl, hb⟩
  replace RX := RX.new hb
  replace RY := RY.new hb
  replace HB := bchain HB hb
  clear hb
  dsimp only [lnv]
  go_upto_region 2 with (refine wpList_store_row (by rfl) 202 _ _ (by rfl) w1.heap.size [.int .i64 r, .string b, .bool e, .bool k, .int .i64 wt, .int .i64 r2, .string b2, .bool e2, .bool k2, .int .i64 cm] (by rfl) (by rfl) 202 [.int .i64 0, .string ⟨#[]⟩, .bool false, .bool false, .int .i64 0, .int .i64 0, .string ⟨#[]⟩, .bool false, .bool false, .int .i64 0] (rowIs_new w1 202 [.int .i64 0, .string ⟨#[]⟩, .bool false, .bool false, .int .i64 0, .int .i64 0, .string ⟨#[]⟩, .bool false, .bool false, .int .i64 0]) (by kernel_rfl) rfl (by intro u hu; simp at hu; rcases hu with rfl | rfl | rfl | rfl | rfl | rfl | rfl | rfl | rfl | rfl <;> rfl) ?_)
  have RL : RowIs ((w1.alloc (.cells #[.int .i64 0, .string ⟨#[]⟩, .bool false, .bool false, .int .i64 0, .int .i64 0, .string ⟨#[]⟩, .bool false, .bool false, .int .i64 0] 202)).setRow w1.heap.size #[.int .i64 r, .string b, .bool e, .bool k, .int .i64 wt, .int .i64 r2, .string b2, .bool e2, .bool k2, .int .i64 cm]) w1.heap.size 202 [.int .i64 r, .string b, .bool e, .bool k, .int .i64 wt, .int .i64 r2, .string b2, .bool e2, .bool k2, .int .i64 cm] := rowIs_setRow (cs' := [.int .i64 r, .string b, .bool e, .bool k, .int .i64 wt, .int .i64 r2, .string b2, .bool e2, .bool k2, .int .i64 cm]) (rowIs_new w1 202 [.int .i64 0, .string ⟨#[]⟩, .bool false, .bool false, .int .i64 0, .int .i64 0, .string ⟨#[]⟩, .bool false, .bool false, .int .i64 0])
  have hbV : Below w1.heap.size w1 ((w1.alloc (.cells #[.int .i64 0, .string ⟨#[]⟩, .bool false, .bool false, .int .i64 0, .int .i64 0, .string ⟨#[]⟩, .bool false, .bool false, .int .i64 0] 202)).setRow w1.heap.size #[.int .i64 r, .string b, .bool e, .bool k, .int .i64 wt, .int .i64 r2, .string b2, .bool e2, .bool k2, .int .i64 cm]) := below_setRow ((Below.refl _ _).alloc (Nat.le_refl _) _) (Nat.le_refl _) #[.int .i64 r, .string b, .bool e, .bool k, .int .i64 wt, .int .i64 r2, .string b2, .bool e2, .bool k2, .int .i64 cm]
  have hgl : w.heap.size + 1 < w1.heap.size := RY.lt
  replace RX := RX.new hbV
  replace RY := RY.new hbV
  replace HB := bchain HB hbV
  clear hbV
  generalize hV : (w1.alloc (.cells #[.int .i64 0, .string ⟨#[]⟩, .bool false, .bool false, .int .i64 0, .int .i64 0, .string ⟨#[]⟩, .bool false, .bool false, .int .i64 0] 202)).setRow w1.heap.size #[.int .i64 r, .string b, .bool e, .bool k, .int .i64 wt, .int .i64 r2, .string b2, .bool e2, .bool k2, .int .i64 cm] = V0 at *
  clear hV
  generalize w1.heap.size = gL at *
  go_wp2_with (refine wpList_load_row (by rfl) 202 _ (by rfl) gL (by rfl) [.int .i64 r, .string b, .bool e, .bool k, .int .i64 wt, .int .i64 r2, .string b2, .bool e2, .bool k2, .int .i64 cm] _ 202 RL Tryz.underlying202 rfl (by kernel_rfl) ?_)
  refine (hri _).mono ?_; rintro x w2 ⟨rfl, hb⟩
  replace RX := RX.new hb
  replace RY := RY.new hb
  replace RL := RL.new hb
  replace HB := bchain HB hb
  clear hb
  go_wp2_with fail
  refine (hpt _ _ RL).mono ?_; rintro x w7 ⟨rfl, hr, ht⟩
  replace RX := RX.kept (ht.block _ RX.lt (by omega))
  replace RY := RY.kept (ht.block _ RY.lt (by omega))
  replace HB := HB.trans (ht.below (show w.heap.size ≤ gL by omega) HB.size)
  clear RL ht hpt
  have RL := hr
  clear hr
  go_wp2_with (refine wpList_load_row (by rfl) 202 _ (by rfl) gL (by rfl) [.int .i64 ar, .string ab, .bool ae, .bool ak, .int .i64 awt, .int .i64 ar2, .string ab2, .bool ae2, .bool ak2, .int .i64 acm] _ 202 RL Tryz.underlying202 rfl (by kernel_rfl) ?_)
  refine (lanesTunnel16 ⟨⟨ar, ab, ae, ak⟩, ⟨ar2, ab2, ae2, ak2⟩, awt, acm⟩ _ (by show ab.size ≤ _; omega) (by show ab2.size ≤ _; omega)).mono ?_; rintro x w3 ⟨rfl, hb⟩
  replace RX := RX.new hb
  replace RY := RY.new hb
  replace RL := RL.new hb
  replace HB := bchain HB hb
  clear hb
  dsimp only [tuv]
  go_wp2_with (refine wpList_store_row (by rfl) 55 _ _ (by rfl) (w.heap.size + 1) [.int .i64 ar, .string ab, .bool ae, .bool ak, .int .i64 ar2, .string ab2, .bool ae2, .bool ak2, .int .i64 awt, .int .i64 acm] (by rfl) (by rfl) 55 [.int .i64 0, .string ⟨#[]⟩, .bool false, .bool false, .int .i64 0, .string ⟨#[]⟩, .bool false, .bool false, .int .i64 0, .int .i64 0] RY (by kernel_rfl) rfl (by intro u hu; simp at hu; rcases hu with rfl | rfl | rfl | rfl | rfl | rfl | rfl | rfl | rfl | rfl <;> rfl) ?_)
  have NRX := RX.kept (setRow_other w3 (w.heap.size + 1) #[.int .i64 ar, .string ab, .bool ae, .bool ak, .int .i64 ar2, .string ab2, .bool ae2, .bool ak2, .int .i64 awt, .int .i64 acm] w.heap.size (by omega))
  have NRY : RowIs (w3.setRow (w.heap.size + 1) #[.int .i64 ar, .string ab, .bool ae, .bool ak, .int .i64 ar2, .string ab2, .bool ae2, .bool ak2, .int .i64 awt, .int .i64 acm]) (w.heap.size + 1) 55 [.int .i64 ar, .string ab, .bool ae, .bool ak, .int .i64 ar2, .string ab2, .bool ae2, .bool ak2, .int .i64 awt, .int .i64 acm] := rowIs_setRow (cs' := [.int .i64 ar, .string ab, .bool ae, .bool ak, .int .i64 ar2, .string ab2, .bool ae2, .bool ak2, .int .i64 awt, .int .i64 acm]) RY
  have NRL := RL.kept (setRow_other w3 (w.heap.size + 1) #[.int .i64 ar, .string ab, .bool ae, .bool ak, .int .i64 ar2, .string ab2, .bool ae2, .bool ak2, .int .i64 awt, .int .i64 acm] gL (by omega))
  have NHB := below_setRow HB (show w.heap.size ≤ (w.heap.size + 1) by omega) #[.int .i64 ar, .string ab, .bool ae, .bool ak, .int .i64 ar2, .string ab2, .bool ae2, .bool ak2, .int .i64 awt, .int .i64 acm]
  generalize hV : w3.setRow (w.heap.size + 1) #[.int .i64 ar, .string ab, .bool ae, .bool ak, .int .i64 ar2, .string ab2, .bool ae2, .bool ak2, .int .i64 awt, .int .i64 acm] = V4 at *
  clear hV
  clear RX
  have RX := NRX
  clear NRX
  clear RY
  have RY := NRY
  clear NRY
  clear RL
  have RL := NRL
  clear NRL
  clear HB
  have HB := NHB
  clear NHB
  have y0 := RowIs.cell (j := 0) RY rfl
  have y1 := RowIs.cell (j := 1) RY rfl
  have y2 := RowIs.cell (j := 2) RY rfl
  have y3 := RowIs.cell (j := 3) RY rfl
  have y4 := RowIs.cell (j := 4) RY rfl
  have y5 := RowIs.cell (j := 5) RY rfl
  have y6 := RowIs.cell (j := 6) RY rfl
  have y7 := RowIs.cell (j := 7) RY rfl
  have y8 := RowIs.cell (j := 8) RY rfl
  have y9 := RowIs.cell (j := 9) RY rfl
  have yf := fun j => RowIs.frozen RY j
  have yl := RY.lt
  refine bodyPost_ret (v := .tuple #[.agg #[.int .i64 ar, .string ab, .bool ae, .bool ak, .int .i64 ar2, .string ab2, .bool ae2, .bool ak2, .int .i64 awt, .int .i64 acm], .int .i64 z]) (by simp [results, Tryz.results91, go_sem, *]) rfl ?_
  exact ⟨rfl, HB⟩
end Go.Proofs.YtfmeinkhdgbgjaaGreat
