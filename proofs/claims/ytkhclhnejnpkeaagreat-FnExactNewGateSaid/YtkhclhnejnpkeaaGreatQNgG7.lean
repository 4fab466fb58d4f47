/- Several small texts of one level, one behind the other. -/
import Derived.Test.YtkhclhnejnpkeaaGreatQNgG6
import Derived.Test.YtkhclhnejnpkeaaGreatQNgBase
import Derived.Test.YtkhclhnejnpkeaaGreatQNgG3
import Derived.Test.YtkhclhnejnpkeaaGreatQNgG2
import Derived.Deep.RegionHeld3
import Derived.Test.YtkhclhnejnpkeaaGreatQNgG5
import Derived.Deep.QuietTactic
import Derived.BigQuiet
import Derived.Deep.Cut
import Derived.Deep.DeepCutAuto
import Derived.Deep.DeepMust
import Derived.WideShapes
import Derived.DeepKeys
/- The registry in plain words: which is right, what is opened, what happens, what is swept; a registry stays right, and no number is opened twice. -/
namespace Go.Proofs.YtkhclhnejnpkeaaGreat
open Go.RowKit
set_option maxRecDepth 100000
set_option linter.unusedSimpArgs false
set_option linter.unusedVariables false

/-- An odd number from 1 to 100000. -/
def idB (x : Int) : Bool := decide (1 ≤ x ∧ x ≤ 100000 ∧ x % 2 = 1)
/-- One that is not closed counts 1. -/
def lv1 (e : EntryD) : Int := if e.state = 4 then 0 else 1
def liveL (L : List EntryD) : Int := sumLs lv1 L
def entOk (top : Int) (e : EntryD) : Bool := idB e.id && decide (e.id ≤ top) && decide (1 ≤ e.state ∧ e.state ≤ 4)
def risB : List EntryD → Bool
  | [] => true
  | [_] => true
  | a :: b :: L => decide (a.id < b.id) && risB (b :: L)
theorem risB_iff : ∀ (L : List EntryD), risB L = true ↔ ∀ i (h : i + 1 < L.length), L[i].id < L[i + 1].id
  | [] => by simp [risB]
  | [_] => by simp [risB]
  | a :: b :: L => by
    simp only [risB, Bool.and_eq_true, decide_eq_true_eq]
    rw [risB_iff (b :: L)]
    constructor
    · rintro ⟨h1, h2⟩ i h
      cases i with
      | zero => exact h1
      | succ i => exact h2 i (by simpa using h)
    · intro h
      exact ⟨h 0 (by simp), fun i hi => h (i + 1) (by simpa using hi)⟩
def okRg (r : RegistryD) : Bool := decide (0 ≤ r.lim ∧ r.lim ≤ 20) && decide (r.top = 0 ∨ idB r.top = true) && decide (r.es.length ≤ 60) && r.es.all (entOk r.top) && risB r.es && decide (liveL r.es ≤ r.lim)
theorem okRg_iff {r : RegistryD} : okRg r = true ↔ (0 ≤ r.lim ∧ r.lim ≤ 20) ∧ (r.top = 0 ∨ idB r.top = true) ∧ r.es.length ≤ 60 ∧ (∀ i (h : i < r.es.length), entOk r.top r.es[i] = true ∧ (0 < i → (r.es[i - 1]'(by omega)).id < r.es[i].id)) ∧ liveL r.es ≤ r.lim := by
  unfold okRg
  simp only [Bool.and_eq_true, decide_eq_true_eq, List.all_eq_true, risB_iff]
  constructor
  · rintro ⟨⟨⟨⟨⟨h1, h2⟩, h3⟩, h4⟩, h5⟩, h6⟩
    refine ⟨h1, h2, h3, fun i hi => ⟨h4 _ (List.getElem_mem hi), fun h0 => ?_⟩, h6⟩
    obtain ⟨j, rfl⟩ : ∃ j, i = j + 1 := ⟨i - 1, by omega⟩
    exact h5 j hi
  · rintro ⟨h1, h2, h3, h4, h6⟩
    refine ⟨⟨⟨⟨⟨h1, h2⟩, h3⟩, fun e he => ?_⟩, fun i hi => (h4 (i + 1) hi).2 (by omega)⟩, h6⟩
    obtain ⟨i, hi, rfl⟩ := List.mem_iff_getElem.1 he
    exact (h4 i hi).1
-- the laws
theorem live_filter (L : List EntryD) : liveL (L.filter fun e => !decide (e.state = 4)) = liveL L ∧ ((L.filter fun e => !decide (e.state = 4)).length : Int) = liveL L := by
  unfold liveL
  induction L with
  | nil => simp [sumLs]
  | cons e L ih =>
    by_cases h : e.state = 4
    · rw [List.filter_cons_of_neg (by simp [h])]
      simp only [sumLs, lv1, h, if_true]; omega
    · rw [List.filter_cons_of_pos (by simp [h])]
      simp only [sumLs, List.length_cons, lv1, h, if_false]; omega
-- sizes
end Go.Proofs.YtkhclhnejnpkeaaGreat
/- The ring's own functions: where a row stands, a row put last, the last one dropped. -/
namespace Go.Proofs.YtkhclhnejnpkeaaGreat
open Go.RowKit
set_option maxRecDepth 100000
set_option linter.unusedSimpArgs false
set_option linter.unusedVariables false

/-- What the loads of a region read. -/
def S3 (b o : Nat) (v : Value) (g : Nat) (x y : Value) (u : World) : Prop := u.cell? ⟨b, o, none⟩ = some v ∧ u.cell? ⟨g, 0, none⟩ = some x ∧ u.cell? ⟨g, 1, none⟩ = some y
theorem slot1 (b first n : Nat) (sl : List Fd) (c g : Int) (w : World) (hs : sl.length = 112) (hr : RowIs w b 193 (rC sl first c g)) (hf : first < 112) (hn : n ≤ 112) :
    Calls Tryz.prog 164 #[.pointer (some ⟨b, 0, none⟩), .int .i64 n] w fun x w' => x = .returned (.pointer (some ⟨b, (first + n) % 112 * 2, none⟩)) ∧ Below w.heap.size w w' := by
  have c0 := hr.cell (rC_num hs first c g).1
  have hi1 : (0 : Int) ≤ ((first : Int) + n) % 112 ∧ ((first : Int) + n) % 112 < 112 := by omega
  have hi2 : (((first : Int) + n) % 112).toNat = (first + n) % 112 := by omega
  go_enter Tryz.func164, Tryz.ntmps164
  go_wp2_with fail
  go_quiet (fail)
  go_wp2_with fail
  go_ret
  exact ⟨rfl, (by repeat' (first | (with_reducible exact Below.refl _ _) | (with_reducible refine Below.drew ?_) | (with_reducible refine bo_drewN _ ?_) | (with_reducible refine bo_alloc ?_ _) | (refine bchain ?_ (by with_reducible assumption)) | (with_reducible refine Below.setCell ?_ ?_ _) | go_size))⟩

set_option maxHeartbeats 2000000 in
theorem putLast1 (b first n : Nat) (sl : List Fd) (g : Int) (f : Fd) (w : World) (hs : sl.length = 112) (hr : RowIs w b 193 (rC sl first n g)) (hf : first < 112) (hn : n ≤ 111) (hff : f.fine) (hg0 : 0 ≤ g) (hg1 : g ≤ 1000000) :
    Calls Tryz.prog 150 #[.pointer (some ⟨b, 0, none⟩), .agg #[.string f.n, .string f.v]] w fun x w' => x = .returned (.tuple #[]) ∧ RowIs w' b 193 (rC (sl.set ((first + n) % 112) f) first ((n + 1 : Nat) : Int) (g + wt f)) ∧ Turn b (b + 1) w w' := by
  have hbw := hr.lt
  go_enter Tryz.func150, Tryz.ntmps150
  go_wp2_with fail
  generalize hV : w.alloc (.cells #[.string f.n, .string f.v] 160) = V; have hbV : Below w.heap.size w V := (by rw [← hV]; exact (Below.refl _ _).alloc (Nat.le_refl _) _); have x0 : World.cell? V ⟨w.heap.size, 0, none⟩ = some (.string f.n) := (by rw [← hV]; simp); have x1 : World.cell? V ⟨w.heap.size, 1, none⟩ = some (.string f.v) := (by rw [← hV]; simp); have hlV : w.heap.size < (World.heap V).size := (by rw [← hV]; simp); clear hV
  have hrV := hr.new hbV
  have hbl : b < V.heap.size := hrV.lt
  have c1 := hrV.cell (rC_num hs first n g).2.1
  have hk : (first + n) % 112 < 112 := by omega
  obtain ⟨k, hkk⟩ : ∃ k, k = (first + n) % 112 := ⟨_, rfl⟩
  rw [← hkk] at hk
  obtain ⟨s0, s1⟩ := rC_slot hs first n g k hk
  have u0 := hrV.cell s0
  have u1 := hrV.cell s1
  have HK := hide hkk
  have z0 := hrV.frozen (k * 2)
  have z1 := hrV.frozen (k * 2 + 1)
  have hne : ¬ b = w.heap.size := by omega
  clear s0 s1 hkk
  have HRV := hide hrV
  clear hr hrV
  have hS0 := And.intro c1 (And.intro x0 x1)
  refine wp_region_held_drew (S := (S3 b 225 (.int .i64 n) w.heap.size (.string f.n) (.string f.v))) (by kernel_rfl) hS0 (fun hS => ?_)
  clear hS0
  refine wpAnyH_take (i := 0) (v := ?_) rfl (by kernel_rfl) (by kernel_rfl) (by kernel_rfl) (fun _ _ _ h => h) (Or.inl ⟨by rfl, ?_⟩) hS ?_; rotate_left; focus (intro w hw; clear hw; go_simp; try with_reducible rfl)
  refine wpAnyH_take (i := 1) (v := ?_) rfl (by kernel_rfl) (by kernel_rfl) (by kernel_rfl) (fun _ _ _ h => h) (Or.inl ⟨by rfl, ?_⟩) hS ?_; rotate_left; focus (intro w hw; clear hw; go_simp; try with_reducible rfl)
  refine wpAnyH_take (i := 2) (v := ?_) rfl (by kernel_rfl) (by kernel_rfl) (by kernel_rfl) (fun _ _ _ h => h) (Or.inl ⟨by rfl, ?_⟩) hS ?_; rotate_left; focus (intro w hw; clear hw; go_simp; try with_reducible rfl)
  refine wpAnyH_take (i := 3) (v := ?_) rfl (by kernel_rfl) (by kernel_rfl) (by kernel_rfl) (fun _ _ _ h => h) (Or.inl ⟨by rfl, ?_⟩) hS ?_; rotate_left; focus (intro w hw; clear hw; go_simp; try with_reducible rfl)
  refine wpAnyH_take (i := 4) (v := ?_) rfl (by kernel_rfl) (by kernel_rfl) (by kernel_rfl) (fun _ _ _ h => h) (Or.inl ⟨by rfl, ?_⟩) hS ?_; rotate_left; focus (intro w hw; obtain ⟨l0, l1, l2⟩ := hw; go_simp; try with_reducible rfl)
  refine wpAnyH_take (i := 6) (v := ?_) rfl (by kernel_rfl) (by kernel_rfl) (by kernel_rfl) (fun _ _ _ h => h) (Or.inl ⟨by rfl, ?_⟩) hS ?_; rotate_left; focus (intro w hw; obtain ⟨l0, l1, l2⟩ := hw; go_simp; try with_reducible rfl)
  refine wpAnyH_ready (rs := [5]) (by kernel_rfl) (by simp) ?_; refine AllReadyH.cons rfl (fun K hK => ?_) AllReadyH.nil; go_simp
  refine (slot1 b first n sl n g _ hs (HRV.out.new (bo_drewN 1 (Below.refl _ _))) hf (by omega)).mono ?_; rw [← HK.out]; rintro x w2 ⟨rfl, hb2⟩
  have hb2' : Below V.heap.size V w2 := bchain (bo_drewN 1 (Below.refl _ _)) hb2
  have c1' := (hb2'.cell (p := ⟨b, 225, none⟩) hbl).trans c1
  have x0' := (hb2'.cell (p := ⟨w.heap.size, 0, none⟩) hlV).trans x0
  have x1' := (hb2'.cell (p := ⟨w.heap.size, 1, none⟩) hlV).trans x1
  have u0' := (hb2'.cell (p := ⟨b, k * 2, none⟩) hbl).trans u0
  have u1' := (hb2'.cell (p := ⟨b, k * 2 + 1, none⟩) hbl).trans u1
  have z0' := (hb2'.frozen (p := ⟨b, k * 2, none⟩) hbl).trans z0
  have z1' := (hb2'.frozen (p := ⟨b, k * 2 + 1, none⟩) hbl).trans z1
  refine hK.out _ _ ⟨c1', x0', x1'⟩ (fun hS => ?_)
  clear hK K c1 u0 u1 z0 z1 hb2
  refine wpAnyH_take (i := 7) (v := ?_) rfl (by kernel_rfl) (by kernel_rfl) (by kernel_rfl) (fun _ _ _ h => h) (Or.inl ⟨by rfl, ?_⟩) hS ?_; rotate_left; focus (intro w hw; clear hw; go_simp; try with_reducible rfl)
  refine wpAnyH_ready (rs := [8]) (by kernel_rfl) (by simp) ?_; refine AllReadyH.cons rfl (fun K hK => ?_) AllReadyH.nil; go_simp
  have hk1 : ¬ k * 2 = 225 := by omega
  have hk2 : ¬ k * 2 + 1 = 225 := by omega
  have hr3 := ((HRV.out.new hb2').set (k * 2) (.string f.n)).set (k * 2 + 1) (.string f.v)
  rw [rC_setF hs _ _ _ k hk f] at hr3
  have hs' : (sl.set k f).length = 112 := by simp [hs]
  have ht3 : Turn b (b + 1) V ((w2.setCell ⟨b, k * 2, none⟩ (.string f.n)).setCell ⟨b, k * 2 + 1, none⟩ (.string f.v)) :=
    ((turn_new hb2' b (b + 1)).setCell _ (.inl ⟨Nat.le_refl _, by simp⟩)).setCell _ (.inl ⟨Nat.le_refl _, by simp⟩)
  generalize (w2.setCell ⟨b, k * 2, none⟩ (.string f.n)).setCell ⟨b, k * 2 + 1, none⟩ (.string f.v) = w3 at *
  have y0 := (ht3.cell w.heap.size 0 hlV (by omega)).trans x0
  have y1 := (ht3.cell w.heap.size 1 hlV (by omega)).trans x1
  have c3 := hr3.cell (rC_num hs' first n g).2.1
  have q3 := hr3.frozen 225
  refine hK.out _ _ ⟨c3, y0, y1⟩ (fun _ => ?_)
  clear hK K hS c1' x0' x1' u0' u1' z0' z1' hb2' w2
  refine wpAnyH_done (by kernel_rfl) ?_ _
  have HR3 := hide hr3
  clear hr3
  go_wp2_with fail
  have hr4 := HR3.out.set 225 (.int .i64 ((n : Int) + 1))
  rw [rC_set225 hs'] at hr4
  have ht4 := ht3.setCell (p := ⟨b, 225, none⟩) (.int .i64 ((n : Int) + 1)) (.inl ⟨Nat.le_refl _, by simp⟩)
  generalize w3.setCell ⟨b, 225, none⟩ (.int .i64 ((n : Int) + 1)) = w4 at *
  replace y0 := (ht4.cell w.heap.size 0 hlV (by omega)).trans x0
  replace y1 := (ht4.cell w.heap.size 1 hlV (by omega)).trans x1
  have d2 := hr4.cell (rC_num hs' first ((n : Int) + 1) g).2.2
  have d3 := hr4.frozen 226
  have hblW := hr4.lt
  have hzr := wt_range f
  obtain ⟨z, hz⟩ : ∃ z, wt f = z := ⟨_, rfl⟩
  rw [hz] at hzr
  have fin : ∀ w5, Below w4.heap.size w4 w5 → RowIs (w5.setCell ⟨b, 226, none⟩ (.int .i64 (g + z))) b 193 (rC (sl.set ((first + n) % 112) f) first ((n + 1 : Nat) : Int) (g + wt f)) ∧ Turn b (b + 1) w (w5.setCell ⟨b, 226, none⟩ (.int .i64 (g + z))) := fun w5 h5 => by
    have hr5 := (hr4.new h5).set 226 (.int .i64 (g + z))
    rw [rC_set226 hs', HK.out] at hr5
    rw [hz]
    refine ⟨hr5, ((turn_new hbV b (b + 1)).trans (ht4.trans (turn_new h5 b (b + 1)))).setCell _ (.inl ⟨Nat.le_refl _, by simp⟩)⟩
  have HZ := hide hz
  clear hz x0 x1 c3 q3 ht4 ht3 hr4 HR3 HRV
  have hzw : IntKind.i64.wrap (g + z) = g + z := by rw [IntKind.wrap_i64]; omega
  refine wp_region_any (by kernel_rfl) ?_; change wpAny _ _ _ _ _ _ _ (World.drew _)
  refine wpAny_take (i := 0) (v := ?_) rfl (by kernel_rfl) (by kernel_rfl) (by kernel_rfl) (fun _ _ _ h => h) (Or.inl ⟨by rfl, ?_⟩) ?_; rotate_left; focus (intro w; go_simp; try with_reducible rfl)
  refine wpAny_take (i := 1) (v := ?_) rfl (by kernel_rfl) (by kernel_rfl) (by kernel_rfl) (fun _ _ _ h => h) (Or.inl ⟨by rfl, ?_⟩) ?_; rotate_left; focus (intro w; go_simp; try with_reducible rfl)
  refine wpAny_take (i := 2) (v := ?_) rfl (by kernel_rfl) (by kernel_rfl) (by kernel_rfl) (fun _ _ _ h => h) (Or.inl ⟨by rfl, ?_⟩) ?_; rotate_left; focus (intro w; go_simp; try with_reducible rfl)
  refine wpAny_ready (rs := [3, 4]) (by kernel_rfl) (by simp) ?_; refine AllReady.cons rfl (fun K hK => ?_) (AllReady.cons rfl (fun K hK => ?_) AllReady.nil)
  · go_simp; refine hK _ _ ?_; clear hK K
    refine wpAny_ready (rs := [4]) (by kernel_rfl) (by simp) ?_; refine AllReady.cons rfl (fun K hK => ?_) AllReady.nil
    go_simp; refine hK _ _ ?_; clear hK K
    refine wpAny_ready (rs := [5]) (by kernel_rfl) (by simp) ?_; refine AllReady.cons rfl (fun K hK => ?_) AllReady.nil
    go_simp
    refine (implWt f _ hff).mono ?_; rw [HZ.out]; rintro x w5 ⟨rfl, hb5⟩
    have hb5' : Below w4.heap.size w4 w5 := bchain (bo_drewN 1 (Below.refl _ _)) hb5
    have e2 := (hb5'.cell (p := ⟨b, 226, none⟩) hblW).trans d2
    have e3 := (hb5'.frozen (p := ⟨b, 226, none⟩) hblW).trans d3
    refine hK _ _ ?_
    clear hK K
    refine wpAny_take (i := 6) (v := ?_) rfl (by kernel_rfl) (by kernel_rfl) (by kernel_rfl) (fun _ _ _ h => h) (Or.inl ⟨by rfl, ?_⟩) ?_; rotate_left; focus (intro w; go_simp; try with_reducible rfl)
    refine wpAny_take (i := 7) (v := ?_) rfl (by kernel_rfl) (by kernel_rfl) (by kernel_rfl) (fun _ _ _ h => h) (Or.inl ⟨by rfl, ?_⟩) ?_; rotate_left; focus (intro w; go_simp; try with_reducible rfl)
    refine wpAny_take (i := 8) (v := ?_) rfl (by kernel_rfl) (by kernel_rfl) (by kernel_rfl) (fun _ _ _ h => h) (Or.inl ⟨by rfl, ?_⟩) ?_; rotate_left; focus (intro w; go_simp; try with_reducible rfl)
    refine wpAny_ready (rs := [9]) (by kernel_rfl) (by simp) ?_; refine AllReady.cons rfl (fun K hK => ?_) AllReady.nil
    go_simp; refine hK _ _ ?_; clear hK K
    refine wpAny_done (by kernel_rfl) ?_ _
    go_wp2_with fail
    refine bodyPost_end (v := .tuple #[]) (by simp [results, Tryz.results150, go_sem]) rfl ?_
    exact ⟨rfl, fin _ hb5'⟩
  · go_simp; refine hK _ _ ?_; clear hK K
    refine wpAny_ready (rs := [3, 5]) (by kernel_rfl) (by simp) ?_; refine AllReady.cons rfl (fun K hK => ?_) (AllReady.cons rfl (fun K hK => ?_) AllReady.nil)
    · go_simp; refine hK _ _ ?_; clear hK K
      refine wpAny_ready (rs := [5]) (by kernel_rfl) (by simp) ?_; refine AllReady.cons rfl (fun K hK => ?_) AllReady.nil
      go_simp
      refine (implWt f _ hff).mono ?_; rw [HZ.out]; rintro x w5 ⟨rfl, hb5⟩
      have hb5' : Below w4.heap.size w4 w5 := bchain (bo_drewN 1 (Below.refl _ _)) hb5
      have e2 := (hb5'.cell (p := ⟨b, 226, none⟩) hblW).trans d2
      have e3 := (hb5'.frozen (p := ⟨b, 226, none⟩) hblW).trans d3
      refine hK _ _ ?_
      clear hK K
      refine wpAny_take (i := 6) (v := ?_) rfl (by kernel_rfl) (by kernel_rfl) (by kernel_rfl) (fun _ _ _ h => h) (Or.inl ⟨by rfl, ?_⟩) ?_; rotate_left; focus (intro w; go_simp; try with_reducible rfl)
      refine wpAny_take (i := 7) (v := ?_) rfl (by kernel_rfl) (by kernel_rfl) (by kernel_rfl) (fun _ _ _ h => h) (Or.inl ⟨by rfl, ?_⟩) ?_; rotate_left; focus (intro w; go_simp; try with_reducible rfl)
      refine wpAny_take (i := 8) (v := ?_) rfl (by kernel_rfl) (by kernel_rfl) (by kernel_rfl) (fun _ _ _ h => h) (Or.inl ⟨by rfl, ?_⟩) ?_; rotate_left; focus (intro w; go_simp; try with_reducible rfl)
      refine wpAny_ready (rs := [9]) (by kernel_rfl) (by simp) ?_; refine AllReady.cons rfl (fun K hK => ?_) AllReady.nil
      go_simp; refine hK _ _ ?_; clear hK K
      refine wpAny_done (by kernel_rfl) ?_ _
      go_wp2_with fail
      refine bodyPost_end (v := .tuple #[]) (by simp [results, Tryz.results150, go_sem]) rfl ?_
      exact ⟨rfl, fin _ hb5'⟩
    · go_simp
      refine (implWt f _ hff).mono ?_; rw [HZ.out]; rintro x w5 ⟨rfl, hb5⟩
      have hb5' : Below w4.heap.size w4 w5 := bchain (bo_drewN 1 (Below.refl _ _)) hb5
      have e2 := (hb5'.cell (p := ⟨b, 226, none⟩) hblW).trans d2
      have e3 := (hb5'.frozen (p := ⟨b, 226, none⟩) hblW).trans d3
      refine hK _ _ ?_
      clear hK K
      refine wpAny_ready (rs := [3]) (by kernel_rfl) (by simp) ?_; refine AllReady.cons rfl (fun K hK => ?_) AllReady.nil
      go_simp; refine hK _ _ ?_; clear hK K
      refine wpAny_take (i := 6) (v := ?_) rfl (by kernel_rfl) (by kernel_rfl) (by kernel_rfl) (fun _ _ _ h => h) (Or.inl ⟨by rfl, ?_⟩) ?_; rotate_left; focus (intro w; go_simp; try with_reducible rfl)
      refine wpAny_take (i := 7) (v := ?_) rfl (by kernel_rfl) (by kernel_rfl) (by kernel_rfl) (fun _ _ _ h => h) (Or.inl ⟨by rfl, ?_⟩) ?_; rotate_left; focus (intro w; go_simp; try with_reducible rfl)
      refine wpAny_take (i := 8) (v := ?_) rfl (by kernel_rfl) (by kernel_rfl) (by kernel_rfl) (fun _ _ _ h => h) (Or.inl ⟨by rfl, ?_⟩) ?_; rotate_left; focus (intro w; go_simp; try with_reducible rfl)
      refine wpAny_ready (rs := [9]) (by kernel_rfl) (by simp) ?_; refine AllReady.cons rfl (fun K hK => ?_) AllReady.nil
      go_simp; refine hK _ _ ?_; clear hK K
      refine wpAny_done (by kernel_rfl) ?_ _
      go_wp2_with fail
      refine bodyPost_end (v := .tuple #[]) (by simp [results, Tryz.results150, go_sem]) rfl ?_
      exact ⟨rfl, fin _ hb5'⟩
end Go.Proofs.YtkhclhnejnpkeaaGreat
/- Tenants in plain words: when a list of them is right, who is found, who is admitted, who reaches a place. -/
namespace Go.Proofs.YtkhclhnejnpkeaaGreat
open Go.RowKit
set_option maxRecDepth 100000
set_option linter.unusedSimpArgs false
set_option linter.unusedVariables false
/-- The order of texts, as the language compares them. -/
def leS (a b : ByteArray) : Bool := Op.bytesLess a.toList b.toList || a.toList == b.toList
def zTn : TenantD := ⟨⟨#[]⟩, ⟨#[]⟩, [], 0⟩
abbrev tn (L : List TenantD) (i : Nat) : TenantD := L.getD i zTn
theorem tn_get {L : List TenantD} {i : Nat} (h : i < L.length) : tn L i = L[i] := by simp [tn, h]
def okTn (x : TenantD) : Bool := nameB x.nm && inB (x.key.size : Int) 1 40 && decide (x.list.length ≤ 20) && inB x.quota 0 20 && x.list.all (fun s => decide (s.size ≤ 60))
theorem okTn_iff {x : TenantD} : okTn x = true ↔ nameB x.nm = true ∧ inB (x.key.size : Int) 1 40 = true ∧ x.list.length ≤ 20 ∧ inB x.quota 0 20 = true ∧ ∀ s ∈ x.list, s.size ≤ 60 := by
  unfold okTn
  simp only [Bool.and_eq_true, decide_eq_true_eq, List.all_eq_true]
  constructor
  · rintro ⟨⟨⟨⟨a, b⟩, c⟩, d⟩, e⟩; exact ⟨a, b, c, d, e⟩
  · rintro ⟨a, b, c, d, e⟩; exact ⟨⟨⟨⟨a, b⟩, c⟩, d⟩, e⟩
def okTs (L : List TenantD) : Bool := decide (L.length ≤ 8) && (List.range L.length).all (fun i => okTn (tn L i) && (decide (i = 0) || !leS (tn L i).nm (tn L (i - 1)).nm))
theorem okTs_iff {L : List TenantD} : okTs L = true ↔ L.length ≤ 8 ∧ ∀ i, i < L.length → okTn (tn L i) = true ∧ (i = 0 ∨ leS (tn L i).nm (tn L (i - 1)).nm = false) := by
  unfold okTs
  simp only [Bool.and_eq_true, decide_eq_true_eq, List.all_eq_true, List.mem_range, Bool.or_eq_true, Bool.not_eq_true']
theorem ts_false {L : List TenantD} (h : ¬ (L.length ≤ 8 ∧ ∀ i, i < L.length → okTn (tn L i) = true ∧ (i = 0 ∨ leS (tn L i).nm (tn L (i - 1)).nm = false))) : okTs L = false := by
  cases e : okTs L
  · rfl
  · exact absurd (okTs_iff.1 e) h
end Go.Proofs.YtkhclhnejnpkeaaGreat
/- Plain and FieldOf, of the program and of the model, in plain words. -/
namespace Go.Proofs.YtkhclhnejnpkeaaGreat
open Go.RowKit
set_option maxRecDepth 100000
set_option linter.unusedSimpArgs false
set_option linter.unusedVariables false

set_option maxHeartbeats 1000000 in
theorem implRights (L : List Fd) (v : Value) (w : World) (hr0 : Reads w v L.length 2 (fv L)) (hf : ∀ f ∈ L, f.fine) :
    Calls Tryz.prog 129 #[v] w fun x w' => x = .returned (.bool (L.all okF)) ∧ Below w.heap.size w w' := by
  obtain ⟨hl, ad, cap, rfl, h1, h2, h3⟩ := hr0
  have H3 := hide h3; have HF := hide hf
  clear h3 hf
  unfold maxLen at h2
  obtain ⟨R, hR⟩ : ∃ R, R = L.all okF := ⟨_, rfl⟩
  rw [← hR]
  have HR := hide hR
  clear hR
  go_enter Tryz.func129, Tryz.ntmps129
  go_wp2_with fail
  go_loopw [7] (fun i wr => ∃ (k : Nat), i = .int .i64 k ∧ k ≤ L.length ∧ (∀ f ∈ L.take k, okF f = true) ∧ Below w.heap.size w wr) (fun i _ => L.length - (intOf i).toNat)
  case atStart => exact ⟨0, rfl, Nat.zero_le _, by simp, Below.refl _ _⟩
  case round =>
    obtain ⟨k, rfl, hk, hall, hb⟩ := hrel
    by_cases hlt : k < L.length
    · obtain ⟨b, o, rfl, hbw, hc⟩ := H3.out (by omega)
      obtain ⟨s0, s1⟩ := fv_get L k hlt
      have hfk := HF.out _ (List.getElem_mem hlt)
      have HA := hide (all_take_succ L k hlt hall)
      have HB : Hid (okF L[k] = false → L.all okF = false) := fun h => by
        cases e : L.all okF
        · rfl
        · have := List.all_eq_true.1 e _ (List.getElem_mem hlt); rw [h] at this; cases this
      obtain ⟨f, hff⟩ : ∃ f, f = L[k] := ⟨_, rfl⟩
      rw [← hff] at s0 s1 hfk HA HB
      have c0 : wr.cell? ⟨b, o + k * 2, none⟩ = some (.string f.n) := by rw [hb.cell (p := ⟨b, o + k * 2, none⟩) hbw]; exact hc _ _ s0
      have c1 : wr.cell? ⟨b, o + k * 2 + 1, none⟩ = some (.string f.v) := by rw [hb.cell (p := ⟨b, o + k * 2 + 1, none⟩) hbw]; exact hc _ _ s1
      clear hc s0 s1 hff hall
      cases hok : okF f
      · have hRf := HR.out.trans (HB.out hok)
        subst hRf
        clear HB HR HA
        go_wp2_with fail
        refine (implRight f _ hfk).mono ?_; rw [hok]; rintro x w1 ⟨rfl, hb1⟩
        go_wp2_with fail
        go_ret
        exact ⟨rfl, bchain (bo_alloc hb _) hb1⟩
      · have HAA := hide (HA.out hok)
        clear HA HB
        go_wp2_with fail
        refine (implRight f _ hfk).mono ?_; rw [hok]; rintro x w1 ⟨rfl, hb1⟩
        go_wp2_with fail
        exact ⟨⟨k + 1, by go_num, by omega, HAA.out, bchain (bo_alloc hb _) hb1⟩, by simp [intOf]; omega⟩
    · obtain rfl : k = L.length := by omega
      rw [List.take_length] at hall
      have hRf := HR.out.trans (List.all_eq_true.2 hall)
      subst hRf
      clear HR hall
      go_wp2_with fail
      go_ret
      exact ⟨rfl, hb⟩
end Go.Proofs.YtkhclhnejnpkeaaGreat
/- The model's Table: copied, shrunk, noted in. -/
namespace Go.Proofs.YtkhclhnejnpkeaaGreat
open Go.RowKit
set_option maxRecDepth 100000
set_option linter.unusedSimpArgs false
set_option linter.unusedVariables false

/-- How many rows it tells that it has. -/
def lenOf (g : Nat) (w : World) : Nat := match w.cell? ⟨g, 1, none⟩ with | some (.slice _ n _) => n | _ => 0

end Go.Proofs.YtkhclhnejnpkeaaGreat
/- Rows of Tenants, of Dials, of Flights: read again behind marks (by gen_exactnewgate.py). -/
namespace Go.Proofs.YtkhclhnejnpkeaaGreat
open Go.RowKit
set_option maxRecDepth 100000
set_option linter.unusedSimpArgs false
set_option linter.unusedVariables false
set_option maxHeartbeats 20000000 in
theorem heldTenantS (L : List TenantD) (k : Nat) (v : Value) (w : World) (hr : RdR tenantS w v (mkTenantS L k)) (hk1 : k + cntTenantS L ≤ 1000000000) :
    Calls Tryz.prog 51 #[v, .int .i64 k] w fun x w' => x = .returned (.int .i64 ((k + cntTenantS L : Nat) : Int)) ∧ Below w.heap.size w w' := by
  obtain ⟨ad, cap, rfl, h1, h2⟩ := hr.form
  unfold cntTenantS mkTenantS at *
  rw [mk_len'] at h1 ⊢
  have HR := hide hr
  clear hr
  go_enter Tryz.func51, Tryz.ntmps51
  go_wp2_with fail
  go_loopw [1, 5] (fun kk i wr => ∃ (j : Nat), i = .int .i64 j ∧ kk = .int .i64 ((k + cntLs cntTenant (L.take j) : Nat) : Int) ∧ j ≤ L.length ∧ Hid (Below w.heap.size w wr)) (fun _ i _ => L.length - (intOf i).toNat)
  case atStart => exact ⟨0, rfl, by simp [cntLs], Nat.zero_le _, Below.refl _ _⟩
  case round =>
    obtain ⟨j, rfl, rfl, hj, HB⟩ := hrel
    by_cases hlt : j < L.length
    · have hct := cnt_take cntTenant L j hlt
      have hcl := cnt_le cntTenant L (j + 1)
      have hrk := (HR.out.new HB.out).at j (by rw [mk_len']; exact hlt)
      rw [mk_at _ _ L k j hlt] at hrk
      obtain ⟨d, hd⟩ : ∃ d, d = L[j] := ⟨_, rfl⟩
      rw [← hd] at hct hrk
      obtain ⟨K, hK⟩ : ∃ K : Nat, K = k + cntLs cntTenant (L.take j) := ⟨_, rfl⟩
      rw [← hK] at hrk ⊢
      have hKc : K + cntTenant d = k + cntLs cntTenant (L.take (j + 1)) := by omega
      have HKC := hide hKc
      have hKb : K + cntTenant d ≤ 1000000000 := by omega
      unfold cntTenant at hKb
      clear hct hcl hd hK hKc
      obtain ⟨b, o, cs, rfl, hb1, hrd, hc⟩ := hrk
      obtain ⟨vlist, rfl, _, _, hvlist⟩ := hrd
      have Hvlist : Hid (RdR strS wr vlist (mkStringS d.list (K + 1 + 1))) := hvlist
      obtain ⟨aq, pq, eq, _⟩ := Hvlist.out.form
      clear hvlist
      subst eq
      have c0 : wr.cell? ⟨b, o + j * 4, none⟩ = some (.string (mtx (K))) := hc 0 _ rfl
      have q0 : Hid (∀ u, Below wr.heap.size wr u → u.cell? ⟨b, o + j * 4, none⟩ = some (.string (mtx (K)))) := fun u hu => (hu.cell (p := ⟨b, o + j * 4, none⟩) hb1).trans c0
      clear c0
      have c1 : wr.cell? ⟨b, o + j * 4 + 1, none⟩ = some (.string (mtx (K + 1))) := hc 1 _ rfl
      have q1 : Hid (∀ u, Below wr.heap.size wr u → u.cell? ⟨b, o + j * 4 + 1, none⟩ = some (.string (mtx (K + 1)))) := fun u hu => (hu.cell (p := ⟨b, o + j * 4 + 1, none⟩) hb1).trans c1
      clear c1
      have c2 : wr.cell? ⟨b, o + j * 4 + 2, none⟩ = some (.slice aq (mkStringS d.list (K + 1 + 1)).length pq) := hc 2 _ rfl
      have q2 : Hid (∀ u, Below wr.heap.size wr u → u.cell? ⟨b, o + j * 4 + 2, none⟩ = some (.slice aq (mkStringS d.list (K + 1 + 1)).length pq)) := fun u hu => (hu.cell (p := ⟨b, o + j * 4 + 2, none⟩) hb1).trans c2
      clear c2
      have c3 : wr.cell? ⟨b, o + j * 4 + 3, none⟩ = some (.int .i64 ((K : Int) + 1 + 1 + cntStringS d.list)) := hc 3 _ rfl
      have q3 : Hid (∀ u, Below wr.heap.size wr u → u.cell? ⟨b, o + j * 4 + 3, none⟩ = some (.int .i64 ((K : Int) + 1 + 1 + cntStringS d.list))) := fun u hu => (hu.cell (p := ⟨b, o + j * 4 + 3, none⟩) hb1).trans c3
      clear c3
      clear hc
      have HW : Hid (Below wr.heap.size wr wr) := Below.refl _ _
      go_wp2_with fail
      have qy : ∀ y : Later wr, y.w.cell? ⟨b, o + j * 4, none⟩ = some (.string (mtx (K))) := fun y => q0.out y.w (bchain HW.out y.b)
      have hne : Nonempty (Later wr) := ⟨⟨wr, Below.refl _ _⟩⟩; refine region_later (by kernel_rfl) (by kernel_rfl) ?_
      repeat (go_big_quiet_step (fail))
      go_big_quiet_want; go_big_quiet_op
      refine ⟨.string (mtx (K)), fun y => later_calls (x := y) (show Calls _ _ #[.int .i64 ((K : Int))] _ _ from markTx (K) y.w (by omega)), ?_⟩
      go_big_quiet_on
      repeat (go_big_quiet_step (fail))
      refine wpQuiet_nil ?_; intro _ hw'; obtain ⟨y, hw''⟩ := hw'; subst hw''; have hby := y.b
      clear qy hne
      replace HW := hide (bchain HW.out hby)
      clear hby
      generalize y.w = U0 at *
      go_wp2_with fail
      have qy : ∀ y : Later U0, y.w.cell? ⟨b, o + j * 4 + 1, none⟩ = some (.string (mtx (K + 1))) := fun y => q1.out y.w (bchain HW.out y.b)
      have hne : Nonempty (Later U0) := ⟨⟨U0, Below.refl _ _⟩⟩; refine region_later (by kernel_rfl) (by kernel_rfl) ?_
      repeat (go_big_quiet_step (fail))
      go_big_quiet_want; go_big_quiet_op
      refine ⟨.string (mtx (K + 1)), fun y => later_calls (x := y) (show Calls _ _ #[.int .i64 ((K : Int) + 1)] _ _ from markTx (K + 1) y.w (by omega)), ?_⟩
      go_big_quiet_on
      repeat (go_big_quiet_step (fail))
      refine wpQuiet_nil ?_; intro _ hw'; obtain ⟨y, hw''⟩ := hw'; subst hw''; have hby := y.b
      clear qy hne
      replace HW := hide (bchain HW.out hby)
      clear hby
      generalize y.w = U1 at *
      have c2 := q2.out U1 HW.out
      go_wp2_with fail
      clear c2
      have hcl := heldStringS d.list (K + 1 + 1) _ _ (Hvlist.out.new HW.out) (by omega)
      refine (show Calls _ _ #[.slice aq (mkStringS d.list (K + 1 + 1)).length pq, .int .i64 ((K : Int) + 1 + 1)] _ _ from hcl).mono ?_; clear hcl; rintro x U2 ⟨rfl, hb⟩
      have hpos : ¬ (((K + 1 + 1 + cntStringS d.list : Nat) : Int) < 0) := by omega
      replace HW := hide (bchain HW.out hb)
      clear hb
      have c3 := q3.out U2 HW.out
      go_wp2_with fail
      clear c3
      go_roundw
      case rel => exact ⟨j + 1, by go_num, int_eq (by have h1 := HKC.out; have h2 : cntTenant d = 1 + 1 + cntStringS d.list + 1 := rfl; omega), by omega, hide (bchain HB.out HW.out)⟩
      case measure => simp [intOf]; omega
    · obtain rfl : j = L.length := by omega
      rw [List.take_length]
      go_wp2_with fail
      go_ret
      exact ⟨rfl, HB.out⟩
set_option maxHeartbeats 20000000 in
theorem heldDialS (L : List DlD) (k : Nat) (v : Value) (w : World) (hr : RdR dialS w v (mkDialS L k)) (hk1 : k + cntDialS L ≤ 1000000000) :
    Calls Tryz.prog 53 #[v, .int .i64 k] w fun x w' => x = .returned (.int .i64 ((k + cntDialS L : Nat) : Int)) ∧ Below w.heap.size w w' := by
  obtain ⟨ad, cap, rfl, h1, h2⟩ := hr.form
  unfold cntDialS mkDialS at *
  rw [mk_len'] at h1 ⊢
  have HR := hide hr
  clear hr
  go_enter Tryz.func53, Tryz.ntmps53
  go_wp2_with fail
  go_loopw [1, 5] (fun kk i wr => ∃ (j : Nat), i = .int .i64 j ∧ kk = .int .i64 ((k + cntLs cntDial (L.take j) : Nat) : Int) ∧ j ≤ L.length ∧ Hid (Below w.heap.size w wr)) (fun _ i _ => L.length - (intOf i).toNat)
  case atStart => exact ⟨0, rfl, by simp [cntLs], Nat.zero_le _, Below.refl _ _⟩
  case round =>
    obtain ⟨j, rfl, rfl, hj, HB⟩ := hrel
    by_cases hlt : j < L.length
    · have hct := cnt_take cntDial L j hlt
      have hcl := cnt_le cntDial L (j + 1)
      have hrk := (HR.out.new HB.out).at j (by rw [mk_len']; exact hlt)
      rw [mk_at _ _ L k j hlt] at hrk
      obtain ⟨d, hd⟩ : ∃ d, d = L[j] := ⟨_, rfl⟩
      rw [← hd] at hct hrk
      obtain ⟨K, hK⟩ : ∃ K : Nat, K = k + cntLs cntDial (L.take j) := ⟨_, rfl⟩
      rw [← hK] at hrk ⊢
      have hKc : K + cntDial d = k + cntLs cntDial (L.take (j + 1)) := by omega
      have HKC := hide hKc
      have hKb : K + cntDial d ≤ 1000000000 := by omega
      unfold cntDial at hKb
      clear hct hcl hd hK hKc
      obtain ⟨b, o, cs, rfl, hb1, hrd, hc⟩ := hrk
      obtain ⟨rfl, _⟩ := hrd
      have c0 : wr.cell? ⟨b, o + j * 3, none⟩ = some (.int .i64 ((K : Int))) := hc 0 _ rfl
      have q0 : Hid (∀ u, Below wr.heap.size wr u → u.cell? ⟨b, o + j * 3, none⟩ = some (.int .i64 ((K : Int)))) := fun u hu => (hu.cell (p := ⟨b, o + j * 3, none⟩) hb1).trans c0
      clear c0
      have c1 : wr.cell? ⟨b, o + j * 3 + 1, none⟩ = some (.int .i64 ((K : Int) + 1)) := hc 1 _ rfl
      have q1 : Hid (∀ u, Below wr.heap.size wr u → u.cell? ⟨b, o + j * 3 + 1, none⟩ = some (.int .i64 ((K : Int) + 1))) := fun u hu => (hu.cell (p := ⟨b, o + j * 3 + 1, none⟩) hb1).trans c1
      clear c1
      have c2 : wr.cell? ⟨b, o + j * 3 + 2, none⟩ = some (.string (mtx (K + 1 + 1))) := hc 2 _ rfl
      have q2 : Hid (∀ u, Below wr.heap.size wr u → u.cell? ⟨b, o + j * 3 + 2, none⟩ = some (.string (mtx (K + 1 + 1)))) := fun u hu => (hu.cell (p := ⟨b, o + j * 3 + 2, none⟩) hb1).trans c2
      clear c2
      clear hc
      have HW : Hid (Below wr.heap.size wr wr) := Below.refl _ _
      have c0 := q0.out wr HW.out
      have c1 := q1.out wr HW.out
      go_wp2_with fail
      clear c0 c1
      have qy : ∀ y : Later wr, y.w.cell? ⟨b, o + j * 3 + 2, none⟩ = some (.string (mtx (K + 1 + 1))) := fun y => q2.out y.w (bchain HW.out y.b)
      have hne : Nonempty (Later wr) := ⟨⟨wr, Below.refl _ _⟩⟩; refine region_later (by kernel_rfl) (by kernel_rfl) ?_
      repeat (go_big_quiet_step (fail))
      go_big_quiet_want; go_big_quiet_op
      refine ⟨.string (mtx (K + 1 + 1)), fun y => later_calls (x := y) (show Calls _ _ #[.int .i64 ((K : Int) + 1 + 1)] _ _ from markTx (K + 1 + 1) y.w (by omega)), ?_⟩
      go_big_quiet_on
      repeat (go_big_quiet_step (fail))
      refine wpQuiet_nil ?_; intro _ hw'; obtain ⟨y, hw''⟩ := hw'; subst hw''; have hby := y.b
      clear qy hne
      replace HW := hide (bchain HW.out hby)
      clear hby
      generalize y.w = U2 at *
      go_wp2_with fail
      go_roundw
      case rel => exact ⟨j + 1, by go_num, int_eq (by have h1 := HKC.out; have h2 : cntDial d = 1 + 1 + 1 := rfl; omega), by omega, hide (bchain HB.out HW.out)⟩
      case measure => simp [intOf]; omega
    · obtain rfl : j = L.length := by omega
      rw [List.take_length]
      go_wp2_with fail
      go_ret
      exact ⟨rfl, HB.out⟩
set_option maxHeartbeats 20000000 in
theorem heldFlightS (L : List FgD) (k : Nat) (v : Value) (w : World) (hr : RdR flightS w v (mkFlightS L k)) (hk1 : k + cntFlightS L ≤ 1000000000) :
    Calls Tryz.prog 54 #[v, .int .i64 k] w fun x w' => x = .returned (.int .i64 ((k + cntFlightS L : Nat) : Int)) ∧ Below w.heap.size w w' := by
  obtain ⟨ad, cap, rfl, h1, h2⟩ := hr.form
  unfold cntFlightS mkFlightS at *
  rw [mk_len'] at h1 ⊢
  have HR := hide hr
  clear hr
  go_enter Tryz.func54, Tryz.ntmps54
  go_wp2_with fail
  go_loopw [1, 5] (fun kk i wr => ∃ (j : Nat), i = .int .i64 j ∧ kk = .int .i64 ((k + cntLs cntFlight (L.take j) : Nat) : Int) ∧ j ≤ L.length ∧ Hid (Below w.heap.size w wr)) (fun _ i _ => L.length - (intOf i).toNat)
  case atStart => exact ⟨0, rfl, by simp [cntLs], Nat.zero_le _, Below.refl _ _⟩
  case round =>
    obtain ⟨j, rfl, rfl, hj, HB⟩ := hrel
    by_cases hlt : j < L.length
    · have hct := cnt_take cntFlight L j hlt
      have hcl := cnt_le cntFlight L (j + 1)
      have hrk := (HR.out.new HB.out).at j (by rw [mk_len']; exact hlt)
      rw [mk_at _ _ L k j hlt] at hrk
      obtain ⟨d, hd⟩ : ∃ d, d = L[j] := ⟨_, rfl⟩
      rw [← hd] at hct hrk
      obtain ⟨K, hK⟩ : ∃ K : Nat, K = k + cntLs cntFlight (L.take j) := ⟨_, rfl⟩
      rw [← hK] at hrk ⊢
      have hKc : K + cntFlight d = k + cntLs cntFlight (L.take (j + 1)) := by omega
      have HKC := hide hKc
      have hKb : K + cntFlight d ≤ 1000000000 := by omega
      unfold cntFlight at hKb
      clear hct hcl hd hK hKc
      obtain ⟨b, o, cs, rfl, hb1, hrd, hc⟩ := hrk
      obtain ⟨rfl, _, _⟩ := hrd
      have c0 : wr.cell? ⟨b, o + j * 4, none⟩ = some (.int .i64 ((K : Int))) := hc 0 _ rfl
      have q0 : Hid (∀ u, Below wr.heap.size wr u → u.cell? ⟨b, o + j * 4, none⟩ = some (.int .i64 ((K : Int)))) := fun u hu => (hu.cell (p := ⟨b, o + j * 4, none⟩) hb1).trans c0
      clear c0
      have c1 : wr.cell? ⟨b, o + j * 4 + 1, none⟩ = some (.int .i64 ((K : Int) + 1)) := hc 1 _ rfl
      have q1 : Hid (∀ u, Below wr.heap.size wr u → u.cell? ⟨b, o + j * 4 + 1, none⟩ = some (.int .i64 ((K : Int) + 1))) := fun u hu => (hu.cell (p := ⟨b, o + j * 4 + 1, none⟩) hb1).trans c1
      clear c1
      have c2 : wr.cell? ⟨b, o + j * 4 + 2, none⟩ = some (.string (mtx (K + 1 + 1))) := hc 2 _ rfl
      have q2 : Hid (∀ u, Below wr.heap.size wr u → u.cell? ⟨b, o + j * 4 + 2, none⟩ = some (.string (mtx (K + 1 + 1)))) := fun u hu => (hu.cell (p := ⟨b, o + j * 4 + 2, none⟩) hb1).trans c2
      clear c2
      have c3 : wr.cell? ⟨b, o + j * 4 + 3, none⟩ = some (.string (mtx (K + 1 + 1 + 1))) := hc 3 _ rfl
      have q3 : Hid (∀ u, Below wr.heap.size wr u → u.cell? ⟨b, o + j * 4 + 3, none⟩ = some (.string (mtx (K + 1 + 1 + 1)))) := fun u hu => (hu.cell (p := ⟨b, o + j * 4 + 3, none⟩) hb1).trans c3
      clear c3
      clear hc
      have HW : Hid (Below wr.heap.size wr wr) := Below.refl _ _
      have c0 := q0.out wr HW.out
      have c1 := q1.out wr HW.out
      go_wp2_with fail
      clear c0 c1
      have qy : ∀ y : Later wr, y.w.cell? ⟨b, o + j * 4 + 2, none⟩ = some (.string (mtx (K + 1 + 1))) := fun y => q2.out y.w (bchain HW.out y.b)
      have hne : Nonempty (Later wr) := ⟨⟨wr, Below.refl _ _⟩⟩; refine region_later (by kernel_rfl) (by kernel_rfl) ?_
      repeat (go_big_quiet_step (fail))
      go_big_quiet_want; go_big_quiet_op
      refine ⟨.string (mtx (K + 1 + 1)), fun y => later_calls (x := y) (show Calls _ _ #[.int .i64 ((K : Int) + 1 + 1)] _ _ from markTx (K + 1 + 1) y.w (by omega)), ?_⟩
      go_big_quiet_on
      repeat (go_big_quiet_step (fail))
      refine wpQuiet_nil ?_; intro _ hw'; obtain ⟨y, hw''⟩ := hw'; subst hw''; have hby := y.b
      clear qy hne
      replace HW := hide (bchain HW.out hby)
      clear hby
      generalize y.w = U2 at *
      go_wp2_with fail
      have qy : ∀ y : Later U2, y.w.cell? ⟨b, o + j * 4 + 3, none⟩ = some (.string (mtx (K + 1 + 1 + 1))) := fun y => q3.out y.w (bchain HW.out y.b)
      have hne : Nonempty (Later U2) := ⟨⟨U2, Below.refl _ _⟩⟩; refine region_later (by kernel_rfl) (by kernel_rfl) ?_
      repeat (go_big_quiet_step (fail))
      go_big_quiet_want; go_big_quiet_op
      refine ⟨.string (mtx (K + 1 + 1 + 1)), fun y => later_calls (x := y) (show Calls _ _ #[.int .i64 ((K : Int) + 1 + 1 + 1)] _ _ from markTx (K + 1 + 1 + 1) y.w (by omega)), ?_⟩
      go_big_quiet_on
      repeat (go_big_quiet_step (fail))
      refine wpQuiet_nil ?_; intro _ hw'; obtain ⟨y, hw''⟩ := hw'; subst hw''; have hby := y.b
      clear qy hne
      replace HW := hide (bchain HW.out hby)
      clear hby
      generalize y.w = U3 at *
      go_wp2_with fail
      go_roundw
      case rel => exact ⟨j + 1, by go_num, int_eq (by have h1 := HKC.out; have h2 : cntFlight d = 1 + 1 + 1 + 1 := rfl; omega), by omega, hide (bchain HB.out HW.out)⟩
      case measure => simp [intOf]; omega
    · obtain rfl : j = L.length := by omega
      rw [List.take_length]
      go_wp2_with fail
      go_ret
      exact ⟨rfl, HB.out⟩
end Go.Proofs.YtkhclhnejnpkeaaGreat
