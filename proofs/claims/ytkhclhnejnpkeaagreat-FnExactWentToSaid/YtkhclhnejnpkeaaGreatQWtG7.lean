/- Several small texts of one level, one behind the other. -/
import Derived.Test.YtkhclhnejnpkeaaGreatQWtG6
import Derived.Test.YtkhclhnejnpkeaaGreatQWtBase
import Derived.Test.YtkhclhnejnpkeaaGreatQWtG3
import Derived.Test.YtkhclhnejnpkeaaGreatQWtG2
import Derived.Deep.RegionHeld3
import Derived.Test.YtkhclhnejnpkeaaGreatQWtG5
import Derived.Deep.QuietTactic
import Derived.BigQuiet
import Derived.Deep.Cut
import Derived.Deep.DeepCutAuto
import Derived.Deep.DeepMust
import Derived.WideShapes
import Derived.DeepKeys
/- The registry in plain words: which is right, what is opened, what happens, what is swept; a registry stays right, and no number is opened twice. -/
namespace Go.Proofs.YtkhclhnejnpkeaaGreat
open Go.RowKit
set_option maxRecDepth 100000
set_option linter.unusedSimpArgs false
set_option linter.unusedVariables false

/-- An odd number from 1 to 100000. -/
def idB (x : Int) : Bool := decide (1 ≤ x ∧ x ≤ 100000 ∧ x % 2 = 1)
/-- One that is not closed counts 1. -/
def lv1 (e : EntryD) : Int := if e.state = 4 then 0 else 1
theorem lv1_nn (e : EntryD) : 0 ≤ lv1 e := by unfold lv1; split <;> omega
theorem lv1_le (e : EntryD) : lv1 e ≤ 1 := by unfold lv1; split <;> omega
def liveL (L : List EntryD) : Int := sumLs lv1 L
theorem live_le (L : List EntryD) : liveL L ≤ L.length := by
  unfold liveL
  induction L with
  | nil => simp [sumLs]
  | cons e L ih => have := lv1_le e; simp only [sumLs, List.length_cons]; omega
theorem live_nn (L : List EntryD) : 0 ≤ liveL L := sum_nn lv1 lv1_nn L
def entOk (top : Int) (e : EntryD) : Bool := idB e.id && decide (e.id ≤ top) && decide (1 ≤ e.state ∧ e.state ≤ 4)
theorem entOk_iff {top : Int} {e : EntryD} : entOk top e = true ↔ idB e.id = true ∧ e.id ≤ top ∧ 1 ≤ e.state ∧ e.state ≤ 4 := by unfold entOk; simp [and_assoc]
def risB : List EntryD → Bool
  | [] => true
  | [_] => true
  | a :: b :: L => decide (a.id < b.id) && risB (b :: L)
theorem risB_iff : ∀ (L : List EntryD), risB L = true ↔ ∀ i (h : i + 1 < L.length), L[i].id < L[i + 1].id
  | [] => by simp [risB]
  | [_] => by simp [risB]
  | a :: b :: L => by
    simp only [risB, Bool.and_eq_true, decide_eq_true_eq]
    rw [risB_iff (b :: L)]
    constructor
    · rintro ⟨h1, h2⟩ i h
      cases i with
      | zero => exact h1
      | succ i => exact h2 i (by simpa using h)
    · intro h
      exact ⟨h 0 (by simp), fun i hi => h (i + 1) (by simpa using hi)⟩
def okRg (r : RegistryD) : Bool := decide (0 ≤ r.lim ∧ r.lim ≤ 20) && decide (r.top = 0 ∨ idB r.top = true) && decide (r.es.length ≤ 60) && r.es.all (entOk r.top) && risB r.es && decide (liveL r.es ≤ r.lim)
theorem okRg_iff {r : RegistryD} : okRg r = true ↔ (0 ≤ r.lim ∧ r.lim ≤ 20) ∧ (r.top = 0 ∨ idB r.top = true) ∧ r.es.length ≤ 60 ∧ (∀ i (h : i < r.es.length), entOk r.top r.es[i] = true ∧ (0 < i → (r.es[i - 1]'(by omega)).id < r.es[i].id)) ∧ liveL r.es ≤ r.lim := by
  unfold okRg
  simp only [Bool.and_eq_true, decide_eq_true_eq, List.all_eq_true, risB_iff]
  constructor
  · rintro ⟨⟨⟨⟨⟨h1, h2⟩, h3⟩, h4⟩, h5⟩, h6⟩
    refine ⟨h1, h2, h3, fun i hi => ⟨h4 _ (List.getElem_mem hi), fun h0 => ?_⟩, h6⟩
    obtain ⟨j, rfl⟩ : ∃ j, i = j + 1 := ⟨i - 1, by omega⟩
    exact h5 j hi
  · rintro ⟨h1, h2, h3, h4, h6⟩
    refine ⟨⟨⟨⟨⟨h1, h2⟩, h3⟩, fun e he => ?_⟩, fun i hi => (h4 (i + 1) hi).2 (by omega)⟩, h6⟩
    obtain ⟨i, hi, rfl⟩ := List.mem_iff_getElem.1 he
    exact (h4 i hi).1
-- the laws
theorem live_filter (L : List EntryD) : liveL (L.filter fun e => !decide (e.state = 4)) = liveL L ∧ ((L.filter fun e => !decide (e.state = 4)).length : Int) = liveL L := by
  unfold liveL
  induction L with
  | nil => simp [sumLs]
  | cons e L ih =>
    by_cases h : e.state = 4
    · rw [List.filter_cons_of_neg (by simp [h])]
      simp only [sumLs, lv1, h, if_true]; omega
    · rw [List.filter_cons_of_pos (by simp [h])]
      simp only [sumLs, List.length_cons, lv1, h, if_false]; omega
-- sizes
end Go.Proofs.YtkhclhnejnpkeaaGreat
/- The ring's own functions: where a row stands, a row put last, the last one dropped. -/
namespace Go.Proofs.YtkhclhnejnpkeaaGreat
open Go.RowKit
set_option maxRecDepth 100000
set_option linter.unusedSimpArgs false
set_option linter.unusedVariables false

/-- What the loads of a region read. -/
def S3 (b o : Nat) (v : Value) (g : Nat) (x y : Value) (u : World) : Prop := u.cell? ⟨b, o, none⟩ = some v ∧ u.cell? ⟨g, 0, none⟩ = some x ∧ u.cell? ⟨g, 1, none⟩ = some y
theorem slot1 (b first n : Nat) (sl : List Fd) (c g : Int) (w : World) (hs : sl.length = 112) (hr : RowIs w b 193 (rC sl first c g)) (hf : first < 112) (hn : n ≤ 112) :
    Calls Tryz.prog 164 #[.pointer (some ⟨b, 0, none⟩), .int .i64 n] w fun x w' => x = .returned (.pointer (some ⟨b, (first + n) % 112 * 2, none⟩)) ∧ Below w.heap.size w w' := by
  have c0 := hr.cell (rC_num hs first c g).1
  have hi1 : (0 : Int) ≤ ((first : Int) + n) % 112 ∧ ((first : Int) + n) % 112 < 112 := by omega
  have hi2 : (((first : Int) + n) % 112).toNat = (first + n) % 112 := by omega
  go_enter Tryz.func164, Tryz.ntmps164
  go_wp2_with fail
  go_quiet (fail)
  go_wp2_with fail
  go_ret
  exact ⟨rfl, (by repeat' (first | (with_reducible exact Below.refl _ _) | (with_reducible refine Below.drew ?_) | (with_reducible refine bo_drewN _ ?_) | (with_reducible refine bo_alloc ?_ _) | (refine bchain ?_ (by with_reducible assumption)) | (with_reducible refine Below.setCell ?_ ?_ _) | go_size))⟩

set_option maxHeartbeats 2000000 in
theorem putLast1 (b first n : Nat) (sl : List Fd) (g : Int) (f : Fd) (w : World) (hs : sl.length = 112) (hr : RowIs w b 193 (rC sl first n g)) (hf : first < 112) (hn : n ≤ 111) (hff : f.fine) (hg0 : 0 ≤ g) (hg1 : g ≤ 1000000) :
    Calls Tryz.prog 150 #[.pointer (some ⟨b, 0, none⟩), .agg #[.string f.n, .string f.v]] w fun x w' => x = .returned (.tuple #[]) ∧ RowIs w' b 193 (rC (sl.set ((first + n) % 112) f) first ((n + 1 : Nat) : Int) (g + wt f)) ∧ Turn b (b + 1) w w' := by
  have hbw := hr.lt
  go_enter Tryz.func150, Tryz.ntmps150
  go_wp2_with fail
  generalize hV : w.alloc (.cells #[.string f.n, .string f.v] 160) = V; have hbV : Below w.heap.size w V := (by rw [← hV]; exact (Below.refl _ _).alloc (Nat.le_refl _) _); have x0 : World.cell? V ⟨w.heap.size, 0, none⟩ = some (.string f.n) := (by rw [← hV]; simp); have x1 : World.cell? V ⟨w.heap.size, 1, none⟩ = some (.string f.v) := (by rw [← hV]; simp); have hlV : w.heap.size < (World.heap V).size := (by rw [← hV]; simp); clear hV
  have hrV := hr.new hbV
  have hbl : b < V.heap.size := hrV.lt
  have c1 := hrV.cell (rC_num hs first n g).2.1
  have hk : (first + n) % 112 < 112 := by omega
  obtain ⟨k, hkk⟩ : ∃ k, k = (first + n) % 112 := ⟨_, rfl⟩
  rw [← hkk] at hk
  obtain ⟨s0, s1⟩ := rC_slot hs first n g k hk
  have u0 := hrV.cell s0
  have u1 := hrV.cell s1
  have HK := hide hkk
  have z0 := hrV.frozen (k * 2)
  have z1 := hrV.frozen (k * 2 + 1)
  have hne : ¬ b = w.heap.size := by omega
  clear s0 s1 hkk
  have HRV := hide hrV
  clear hr hrV
  have hS0 := And.intro c1 (And.intro x0 x1)
  refine wp_region_held_drew (S := (S3 b 225 (.int .i64 n) w.heap.size (.string f.n) (.string f.v))) (by kernel_rfl) hS0 (fun hS => ?_)
  clear hS0
  refine wpAnyH_take (i := 0) (v := ?_) rfl (by kernel_rfl) (by kernel_rfl) (by kernel_rfl) (fun _ _ _ h => h) (Or.inl ⟨by rfl, ?_⟩) hS ?_; rotate_left; focus (intro w hw; clear hw; go_simp; try with_reducible rfl)
  refine wpAnyH_take (i := 1) (v := ?_) rfl (by kernel_rfl) (by kernel_rfl) (by kernel_rfl) (fun _ _ _ h => h) (Or.inl ⟨by rfl, ?_⟩) hS ?_; rotate_left; focus (intro w hw; clear hw; go_simp; try with_reducible rfl)
  refine wpAnyH_take (i := 2) (v := ?_) rfl (by kernel_rfl) (by kernel_rfl) (by kernel_rfl) (fun _ _ _ h => h) (Or.inl ⟨by rfl, ?_⟩) hS ?_; rotate_left; focus (intro w hw; clear hw; go_simp; try with_reducible rfl)
  refine wpAnyH_take (i := 3) (v := ?_) rfl (by kernel_rfl) (by kernel_rfl) (by kernel_rfl) (fun _ _ _ h => h) (Or.inl ⟨by rfl, ?_⟩) hS ?_; rotate_left; focus (intro w hw; clear hw; go_simp; try with_reducible rfl)
  refine wpAnyH_take (i := 4) (v := ?_) rfl (by kernel_rfl) (by kernel_rfl) (by kernel_rfl) (fun _ _ _ h => h) (Or.inl ⟨by rfl, ?_⟩) hS ?_; rotate_left; focus (intro w hw; obtain ⟨l0, l1, l2⟩ := hw; go_simp; try with_reducible rfl)
  refine wpAnyH_take (i := 6) (v := ?_) rfl (by kernel_rfl) (by kernel_rfl) (by kernel_rfl) (fun _ _ _ h => h) (Or.inl ⟨by rfl, ?_⟩) hS ?_; rotate_left; focus (intro w hw; obtain ⟨l0, l1, l2⟩ := hw; go_simp; try with_reducible rfl)
  refine wpAnyH_ready (rs := [5]) (by kernel_rfl) (by simp) ?_; refine AllReadyH.cons rfl (fun K hK => ?_) AllReadyH.nil; go_simp
  refine (slot1 b first n sl n g _ hs (HRV.out.new (bo_drewN 1 (Below.refl _ _))) hf (by omega)).mono ?_; rw [← HK.out]; rintro x w2 ⟨rfl, hb2⟩
  have hb2' : Below V.heap.size V w2 := bchain (bo_drewN 1 (Below.refl _ _)) hb2
  have c1' := (hb2'.cell (p := ⟨b, 225, none⟩) hbl).trans c1
  have x0' := (hb2'.cell (p := ⟨w.heap.size, 0, none⟩) hlV).trans x0
  have x1' := (hb2'.cell (p := ⟨w.heap.size, 1, none⟩) hlV).trans x1
  have u0' := (hb2'.cell (p := ⟨b, k * 2, none⟩) hbl).trans u0
  have u1' := (hb2'.cell (p := ⟨b, k * 2 + 1, none⟩) hbl).trans u1
  have z0' := (hb2'.frozen (p := ⟨b, k * 2, none⟩) hbl).trans z0
  have z1' := (hb2'.frozen (p := ⟨b, k * 2 + 1, none⟩) hbl).trans z1
  refine hK.out _ _ ⟨c1', x0', x1'⟩ (fun hS => ?_)
  clear hK K c1 u0 u1 z0 z1 hb2
  refine wpAnyH_take (i := 7) (v := ?_) rfl (by kernel_rfl) (by kernel_rfl) (by kernel_rfl) (fun _ _ _ h => h) (Or.inl ⟨by rfl, ?_⟩) hS ?_; rotate_left; focus (intro w hw; clear hw; go_simp; try with_reducible rfl)
  refine wpAnyH_ready (rs := [8]) (by kernel_rfl) (by simp) ?_; refine AllReadyH.cons rfl (fun K hK => ?_) AllReadyH.nil; go_simp
  have hk1 : ¬ k * 2 = 225 := by omega
  have hk2 : ¬ k * 2 + 1 = 225 := by omega
  have hr3 := ((HRV.out.new hb2').set (k * 2) (.string f.n)).set (k * 2 + 1) (.string f.v)
  rw [rC_setF hs _ _ _ k hk f] at hr3
  have hs' : (sl.set k f).length = 112 := by simp [hs]
  have ht3 : Turn b (b + 1) V ((w2.setCell ⟨b, k * 2, none⟩ (.string f.n)).setCell ⟨b, k * 2 + 1, none⟩ (.string f.v)) :=
    ((turn_new hb2' b (b + 1)).setCell _ (.inl ⟨Nat.le_refl _, by simp⟩)).setCell _ (.inl ⟨Nat.le_refl _, by simp⟩)
  generalize (w2.setCell ⟨b, k * 2, none⟩ (.string f.n)).setCell ⟨b, k * 2 + 1, none⟩ (.string f.v) = w3 at *
  have y0 := (ht3.cell w.heap.size 0 hlV (by omega)).trans x0
  have y1 := (ht3.cell w.heap.size 1 hlV (by omega)).trans x1
  have c3 := hr3.cell (rC_num hs' first n g).2.1
  have q3 := hr3.frozen 225
  refine hK.out _ _ ⟨c3, y0, y1⟩ (fun _ => ?_)
  clear hK K hS c1' x0' x1' u0' u1' z0' z1' hb2' w2
  refine wpAnyH_done (by kernel_rfl) ?_ _
  have HR3 := hide hr3
  clear hr3
  go_wp2_with fail
  have hr4 := HR3.out.set 225 (.int .i64 ((n : Int) + 1))
  rw [rC_set225 hs'] at hr4
  have ht4 := ht3.setCell (p := ⟨b, 225, none⟩) (.int .i64 ((n : Int) + 1)) (.inl ⟨Nat.le_refl _, by simp⟩)
  generalize w3.setCell ⟨b, 225, none⟩ (.int .i64 ((n : Int) + 1)) = w4 at *
  replace y0 := (ht4.cell w.heap.size 0 hlV (by omega)).trans x0
  replace y1 := (ht4.cell w.heap.size 1 hlV (by omega)).trans x1
  have d2 := hr4.cell (rC_num hs' first ((n : Int) + 1) g).2.2
  have d3 := hr4.frozen 226
  have hblW := hr4.lt
  have hzr := wt_range f
  obtain ⟨z, hz⟩ : ∃ z, wt f = z := ⟨_, rfl⟩
  rw [hz] at hzr
  have fin : ∀ w5, Below w4.heap.size w4 w5 → RowIs (w5.setCell ⟨b, 226, none⟩ (.int .i64 (g + z))) b 193 (rC (sl.set ((first + n) % 112) f) first ((n + 1 : Nat) : Int) (g + wt f)) ∧ Turn b (b + 1) w (w5.setCell ⟨b, 226, none⟩ (.int .i64 (g + z))) := fun w5 h5 => by
    have hr5 := (hr4.new h5).set 226 (.int .i64 (g + z))
    rw [rC_set226 hs', HK.out] at hr5
    rw [hz]
    refine ⟨hr5, ((turn_new hbV b (b + 1)).trans (ht4.trans (turn_new h5 b (b + 1)))).setCell _ (.inl ⟨Nat.le_refl _, by simp⟩)⟩
  have HZ := hide hz
  clear hz x0 x1 c3 q3 ht4 ht3 hr4 HR3 HRV
  have hzw : IntKind.i64.wrap (g + z) = g + z := by rw [IntKind.wrap_i64]; omega
  refine wp_region_any (by kernel_rfl) ?_; change wpAny _ _ _ _ _ _ _ (World.drew _)
  refine wpAny_take (i := 0) (v := ?_) rfl (by kernel_rfl) (by kernel_rfl) (by kernel_rfl) (fun _ _ _ h => h) (Or.inl ⟨by rfl, ?_⟩) ?_; rotate_left; focus (intro w; go_simp; try with_reducible rfl)
  refine wpAny_take (i := 1) (v := ?_) rfl (by kernel_rfl) (by kernel_rfl) (by kernel_rfl) (fun _ _ _ h => h) (Or.inl ⟨by rfl, ?_⟩) ?_; rotate_left; focus (intro w; go_simp; try with_reducible rfl)
  refine wpAny_take (i := 2) (v := ?_) rfl (by kernel_rfl) (by kernel_rfl) (by kernel_rfl) (fun _ _ _ h => h) (Or.inl ⟨by rfl, ?_⟩) ?_; rotate_left; focus (intro w; go_simp; try with_reducible rfl)
  refine wpAny_ready (rs := [3, 4]) (by kernel_rfl) (by simp) ?_; refine AllReady.cons rfl (fun K hK => ?_) (AllReady.cons rfl (fun K hK => ?_) AllReady.nil)
  · go_simp; refine hK _ _ ?_; clear hK K
    refine wpAny_ready (rs := [4]) (by kernel_rfl) (by simp) ?_; refine AllReady.cons rfl (fun K hK => ?_) AllReady.nil
    go_simp; refine hK _ _ ?_; clear hK K
    refine wpAny_ready (rs := [5]) (by kernel_rfl) (by simp) ?_; refine AllReady.cons rfl (fun K hK => ?_) AllReady.nil
    go_simp
    refine (implWt f _ hff).mono ?_; rw [HZ.out]; rintro x w5 ⟨rfl, hb5⟩
    have hb5' : Below w4.heap.size w4 w5 := bchain (bo_drewN 1 (Below.refl _ _)) hb5
    have e2 := (hb5'.cell (p := ⟨b, 226, none⟩) hblW).trans d2
    have e3 := (hb5'.frozen (p := ⟨b, 226, none⟩) hblW).trans d3
    refine hK _ _ ?_
    clear hK K
    refine wpAny_take (i := 6) (v := ?_) rfl (by kernel_rfl) (by kernel_rfl) (by kernel_rfl) (fun _ _ _ h => h) (Or.inl ⟨by rfl, ?_⟩) ?_; rotate_left; focus (intro w; go_simp; try with_reducible rfl)
    refine wpAny_take (i := 7) (v := ?_) rfl (by kernel_rfl) (by kernel_rfl) (by kernel_rfl) (fun _ _ _ h => h) (Or.inl ⟨by rfl, ?_⟩) ?_; rotate_left; focus (intro w; go_simp; try with_reducible rfl)
    refine wpAny_take (i := 8) (v := ?_) rfl (by kernel_rfl) (by kernel_rfl) (by kernel_rfl) (fun _ _ _ h => h) (Or.inl ⟨by rfl, ?_⟩) ?_; rotate_left; focus (intro w; go_simp; try with_reducible rfl)
    refine wpAny_ready (rs := [9]) (by kernel_rfl) (by simp) ?_; refine AllReady.cons rfl (fun K hK => ?_) AllReady.nil
    go_simp; refine hK _ _ ?_; clear hK K
    refine wpAny_done (by kernel_rfl) ?_ _
    go_wp2_with fail
    refine bodyPost_end (v := .tuple #[]) (by simp [results, Tryz.results150, go_sem]) rfl ?_
    exact ⟨rfl, fin _ hb5'⟩
  · go_simp; refine hK _ _ ?_; clear hK K
    refine wpAny_ready (rs := [3, 5]) (by kernel_rfl) (by simp) ?_; refine AllReady.cons rfl (fun K hK => ?_) (AllReady.cons rfl (fun K hK => ?_) AllReady.nil)
    · go_simp; refine hK _ _ ?_; clear hK K
      refine wpAny_ready (rs := [5]) (by kernel_rfl) (by simp) ?_; refine AllReady.cons rfl (fun K hK => ?_) AllReady.nil
      go_simp
      refine (implWt f _ hff).mono ?_; rw [HZ.out]; rintro x w5 ⟨rfl, hb5⟩
      have hb5' : Below w4.heap.size w4 w5 := bchain (bo_drewN 1 (Below.refl _ _)) hb5
      have e2 := (hb5'.cell (p := ⟨b, 226, none⟩) hblW).trans d2
      have e3 := (hb5'.frozen (p := ⟨b, 226, none⟩) hblW).trans d3
      refine hK _ _ ?_
      clear hK K
      refine wpAny_take (i := 6) (v := ?_) rfl (by kernel_rfl) (by kernel_rfl) (by kernel_rfl) (fun _ _ _ h => h) (Or.inl ⟨by rfl, ?_⟩) ?_; rotate_left; focus (intro w; go_simp; try with_reducible rfl)
      refine wpAny_take (i := 7) (v := ?_) rfl (by kernel_rfl) (by kernel_rfl) (by kernel_rfl) (fun _ _ _ h => h) (Or.inl ⟨by rfl, ?_⟩) ?_; rotate_left; focus (intro w; go_simp; try with_reducible rfl)
      refine wpAny_take (i := 8) (v := ?_) rfl (by kernel_rfl) (by kernel_rfl) (by kernel_rfl) (fun _ _ _ h => h) (Or.inl ⟨by rfl, ?_⟩) ?_; rotate_left; focus (intro w; go_simp; try with_reducible rfl)
      refine wpAny_ready (rs := [9]) (by kernel_rfl) (by simp) ?_; refine AllReady.cons rfl (fun K hK => ?_) AllReady.nil
      go_simp; refine hK _ _ ?_; clear hK K
      refine wpAny_done (by kernel_rfl) ?_ _
      go_wp2_with fail
      refine bodyPost_end (v := .tuple #[]) (by simp [results, Tryz.results150, go_sem]) rfl ?_
      exact ⟨rfl, fin _ hb5'⟩
    · go_simp
      refine (implWt f _ hff).mono ?_; rw [HZ.out]; rintro x w5 ⟨rfl, hb5⟩
      have hb5' : Below w4.heap.size w4 w5 := bchain (bo_drewN 1 (Below.refl _ _)) hb5
      have e2 := (hb5'.cell (p := ⟨b, 226, none⟩) hblW).trans d2
      have e3 := (hb5'.frozen (p := ⟨b, 226, none⟩) hblW).trans d3
      refine hK _ _ ?_
      clear hK K
      refine wpAny_ready (rs := [3]) (by kernel_rfl) (by simp) ?_; refine AllReady.cons rfl (fun K hK => ?_) AllReady.nil
      go_simp; refine hK _ _ ?_; clear hK K
      refine wpAny_take (i := 6) (v := ?_) rfl (by kernel_rfl) (by kernel_rfl) (by kernel_rfl) (fun _ _ _ h => h) (Or.inl ⟨by rfl, ?_⟩) ?_; rotate_left; focus (intro w; go_simp; try with_reducible rfl)
      refine wpAny_take (i := 7) (v := ?_) rfl (by kernel_rfl) (by kernel_rfl) (by kernel_rfl) (fun _ _ _ h => h) (Or.inl ⟨by rfl, ?_⟩) ?_; rotate_left; focus (intro w; go_simp; try with_reducible rfl)
      refine wpAny_take (i := 8) (v := ?_) rfl (by kernel_rfl) (by kernel_rfl) (by kernel_rfl) (fun _ _ _ h => h) (Or.inl ⟨by rfl, ?_⟩) ?_; rotate_left; focus (intro w; go_simp; try with_reducible rfl)
      refine wpAny_ready (rs := [9]) (by kernel_rfl) (by simp) ?_; refine AllReady.cons rfl (fun K hK => ?_) AllReady.nil
      go_simp; refine hK _ _ ?_; clear hK K
      refine wpAny_done (by kernel_rfl) ?_ _
      go_wp2_with fail
      refine bodyPost_end (v := .tuple #[]) (by simp [results, Tryz.results150, go_sem]) rfl ?_
      exact ⟨rfl, fin _ hb5'⟩
end Go.Proofs.YtkhclhnejnpkeaaGreat
/- Tenants in plain words: when a list of them is right, who is found, who is admitted, who reaches a place. -/
namespace Go.Proofs.YtkhclhnejnpkeaaGreat
open Go.RowKit
set_option maxRecDepth 100000
set_option linter.unusedSimpArgs false
set_option linter.unusedVariables false
/-- The order of texts, as the language compares them. -/
def leS (a b : ByteArray) : Bool := Op.bytesLess a.toList b.toList || a.toList == b.toList
def zTn : TenantD := ⟨⟨#[]⟩, ⟨#[]⟩, [], 0⟩
abbrev tn (L : List TenantD) (i : Nat) : TenantD := L.getD i zTn
theorem tn_get {L : List TenantD} {i : Nat} (h : i < L.length) : tn L i = L[i] := by simp [tn, h]
def okTn (x : TenantD) : Bool := nameB x.nm && inB (x.key.size : Int) 1 40 && decide (x.list.length ≤ 20) && inB x.quota 0 20 && x.list.all (fun s => decide (s.size ≤ 60))
theorem okTn_iff {x : TenantD} : okTn x = true ↔ nameB x.nm = true ∧ inB (x.key.size : Int) 1 40 = true ∧ x.list.length ≤ 20 ∧ inB x.quota 0 20 = true ∧ ∀ s ∈ x.list, s.size ≤ 60 := by
  unfold okTn
  simp only [Bool.and_eq_true, decide_eq_true_eq, List.all_eq_true]
  constructor
  · rintro ⟨⟨⟨⟨a, b⟩, c⟩, d⟩, e⟩; exact ⟨a, b, c, d, e⟩
  · rintro ⟨a, b, c, d, e⟩; exact ⟨⟨⟨⟨a, b⟩, c⟩, d⟩, e⟩
def okTs (L : List TenantD) : Bool := decide (L.length ≤ 8) && (List.range L.length).all (fun i => okTn (tn L i) && (decide (i = 0) || !leS (tn L i).nm (tn L (i - 1)).nm))
theorem okTs_iff {L : List TenantD} : okTs L = true ↔ L.length ≤ 8 ∧ ∀ i, i < L.length → okTn (tn L i) = true ∧ (i = 0 ∨ leS (tn L i).nm (tn L (i - 1)).nm = false) := by
  unfold okTs
  simp only [Bool.and_eq_true, decide_eq_true_eq, List.all_eq_true, List.mem_range, Bool.or_eq_true, Bool.not_eq_true']
theorem ts_false {L : List TenantD} (h : ¬ (L.length ≤ 8 ∧ ∀ i, i < L.length → okTn (tn L i) = true ∧ (i = 0 ∨ leS (tn L i).nm (tn L (i - 1)).nm = false))) : okTs L = false := by
  cases e : okTs L
  · rfl
  · exact absurd (okTs_iff.1 e) h
/-- The first of that name, or none. -/
def atF (name : ByteArray) : Nat → List TenantD → Int
  | _, [] => -1
  | i, x :: L => if x.nm = name then (i : Int) else atF name (i + 1) L
def atV (L : List TenantD) (name : ByteArray) : Int := atF name 0 L
theorem atF_at {name : ByteArray} : ∀ (L : List TenantD) (i : Nat), atF name i L = -1 ∨ ∃ k : Nat, ∃ h : k < L.length, atF name i L = ((i + k : Nat) : Int) ∧ L[k].nm = name
  | [], i => .inl rfl
  | x :: L, i => by
    unfold atF
    split
    · rename_i h; exact .inr ⟨0, by simp, by simp, h⟩
    · rcases atF_at L (i + 1) with h | ⟨k, hk, h1, h2⟩
      · exact .inl h
      · exact .inr ⟨k + 1, by simpa using hk, by rw [h1]; congr 1; omega, by simpa using h2⟩
theorem at_found {L : List TenantD} {name : ByteArray} (h : 0 ≤ atV L name) : ∃ k : Nat, k < L.length ∧ atV L name = k ∧ (tn L k).nm = name := by
  rcases atF_at (name := name) L 0 with e | ⟨k, hk, h1, h2⟩
  · unfold atV at h; omega
  · exact ⟨k, hk, by unfold atV; rw [h1]; simp, by rw [tn_get hk]; exact h2⟩
theorem str_eq (a b : ByteArray) : (a.toList == b.toList) = decide (a = b) := by
  by_cases h : a = b
  · subst h; simp
  · have : ¬ a.toList = b.toList := fun e => h (by rw [ByteArray.toList_eq, ByteArray.toList_eq] at e; exact Go.WideShapes.bytes_inj e)
    simp [h, this]
end Go.Proofs.YtkhclhnejnpkeaaGreat
/- Plain and FieldOf, of the program and of the model, in plain words. -/
namespace Go.Proofs.YtkhclhnejnpkeaaGreat
open Go.RowKit
set_option maxRecDepth 100000
set_option linter.unusedSimpArgs false
set_option linter.unusedVariables false

set_option maxHeartbeats 1000000 in
theorem implRights (L : List Fd) (v : Value) (w : World) (hr0 : Reads w v L.length 2 (fv L)) (hf : ∀ f ∈ L, f.fine) :
    Calls Tryz.prog 129 #[v] w fun x w' => x = .returned (.bool (L.all okF)) ∧ Below w.heap.size w w' := by
  obtain ⟨hl, ad, cap, rfl, h1, h2, h3⟩ := hr0
  have H3 := hide h3; have HF := hide hf
  clear h3 hf
  unfold maxLen at h2
  obtain ⟨R, hR⟩ : ∃ R, R = L.all okF := ⟨_, rfl⟩
  rw [← hR]
  have HR := hide hR
  clear hR
  go_enter Tryz.func129, Tryz.ntmps129
  go_wp2_with fail
  go_loopw [7] (fun i wr => ∃ (k : Nat), i = .int .i64 k ∧ k ≤ L.length ∧ (∀ f ∈ L.take k, okF f = true) ∧ Below w.heap.size w wr) (fun i _ => L.length - (intOf i).toNat)
  case atStart => exact ⟨0, rfl, Nat.zero_le _, by simp, Below.refl _ _⟩
  case round =>
    obtain ⟨k, rfl, hk, hall, hb⟩ := hrel
    by_cases hlt : k < L.length
    · obtain ⟨b, o, rfl, hbw, hc⟩ := H3.out (by omega)
      obtain ⟨s0, s1⟩ := fv_get L k hlt
      have hfk := HF.out _ (List.getElem_mem hlt)
      have HA := hide (all_take_succ L k hlt hall)
      have HB : Hid (okF L[k] = false → L.all okF = false) := fun h => by
        cases e : L.all okF
        · rfl
        · have := List.all_eq_true.1 e _ (List.getElem_mem hlt); rw [h] at this; cases this
      obtain ⟨f, hff⟩ : ∃ f, f = L[k] := ⟨_, rfl⟩
      rw [← hff] at s0 s1 hfk HA HB
      have c0 : wr.cell? ⟨b, o + k * 2, none⟩ = some (.string f.n) := by rw [hb.cell (p := ⟨b, o + k * 2, none⟩) hbw]; exact hc _ _ s0
      have c1 : wr.cell? ⟨b, o + k * 2 + 1, none⟩ = some (.string f.v) := by rw [hb.cell (p := ⟨b, o + k * 2 + 1, none⟩) hbw]; exact hc _ _ s1
      clear hc s0 s1 hff hall
      cases hok : okF f
      · have hRf := HR.out.trans (HB.out hok)
        subst hRf
        clear HB HR HA
        go_wp2_with fail
        refine (implRight f _ hfk).mono ?_; rw [hok]; rintro x w1 ⟨rfl, hb1⟩
        go_wp2_with fail
        go_ret
        exact ⟨rfl, bchain (bo_alloc hb _) hb1⟩
      · have HAA := hide (HA.out hok)
        clear HA HB
        go_wp2_with fail
        refine (implRight f _ hfk).mono ?_; rw [hok]; rintro x w1 ⟨rfl, hb1⟩
        go_wp2_with fail
        exact ⟨⟨k + 1, by go_num, by omega, HAA.out, bchain (bo_alloc hb _) hb1⟩, by simp [intOf]; omega⟩
    · obtain rfl : k = L.length := by omega
      rw [List.take_length] at hall
      have hRf := HR.out.trans (List.all_eq_true.2 hall)
      subst hRf
      clear HR hall
      go_wp2_with fail
      go_ret
      exact ⟨rfl, hb⟩
end Go.Proofs.YtkhclhnejnpkeaaGreat
/- The model's Table: copied, shrunk, noted in. -/
namespace Go.Proofs.YtkhclhnejnpkeaaGreat
open Go.RowKit
set_option maxRecDepth 100000
set_option linter.unusedSimpArgs false
set_option linter.unusedVariables false

/-- How many rows it tells that it has. -/
def lenOf (g : Nat) (w : World) : Nat := match w.cell? ⟨g, 1, none⟩ with | some (.slice _ n _) => n | _ => 0

end Go.Proofs.YtkhclhnejnpkeaaGreat
