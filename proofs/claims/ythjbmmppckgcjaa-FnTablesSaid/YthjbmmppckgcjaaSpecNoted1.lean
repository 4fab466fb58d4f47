/- The model's Table: copied, shrunk, noted in. -/
import Derived.Test.YthjbmmppckgcjaaNotedD
import Derived.Test.YthjbmmppckgcjaaAppRows
import Derived.DeepKeys
import Derived.Deep.Cut
import Derived.Deep.RegionHeld3



namespace Go.Proofs.Ythjbmmppckgcjaa
open Go.RowKit
set_option linter.unusedSimpArgs false
set_option linter.unusedVariables false

theorem owns_none (w : World) (e : TypeId) : (w.alloc (.cells #[] e)).ownsRow w.heap.size e 2 (.slice (some ⟨w.heap.size, 0, none⟩) 0 0) 0 [] :=
  ⟨rfl, .inr ⟨w.heap.size, 0, #[], rfl, Nat.le_refl _, heap_alloc_last w _, Nat.le_refl _, Nat.zero_le _, rfl, rfl⟩⟩
theorem owns_two (w : World) (e : TypeId) (f : Fd) : (w.alloc (.cells #[.string f.n, .string f.v] e)).ownsRow w.heap.size e 2 (.slice (some ⟨w.heap.size, 0, none⟩) 1 1) 1 (fv [f]) :=
  ⟨rfl, .inr ⟨w.heap.size, 1, #[.string f.n, .string f.v], rfl, Nat.le_refl _, heap_alloc_last w _, Nat.le_refl _, by unfold maxLen; omega, rfl, rfl⟩⟩
theorem owns_short {w : World} {base : Nat} {e : TypeId} {size n k cap : Nat} {ad : Option Addr} {xs : List Value} (h : w.ownsRow base e size (.slice ad n cap) n xs) (hk : k ≤ n) (h0 : 0 < n) : w.ownsRow base e size (.slice ad k cap) k (xs.take (k * size)) := by
  have hm : k * size ≤ n * size := Nat.mul_le_mul_right _ hk
  refine ⟨by rw [List.length_take, h.1]; omega, ?_⟩
  rcases h.2 with ⟨_, rfl⟩ | ⟨g, cap', cur, e1, hb, hg, h1, h2, h3, h4⟩
  · omega
  · simp only [Value.slice.injEq] at e1
    obtain ⟨rfl, _, rfl⟩ := e1
    exact .inr ⟨g, cap, cur, rfl, hb, hg, by omega, h2, h3, by rw [← h4, List.take_take, Nat.min_eq_left hm]⟩

set_option maxHeartbeats 2000000 in
theorem copy1 (L : List Fd) (room : Int) (v : Value) (w : World) (hr0 : Reads w v L.length 2 (fv L)) (hL : L.length ≤ 1000) :
    Calls Try.prog 50 #[.agg #[.int .i64 room, v]] w fun x w' => ∃ v', x = .returned (.agg #[.int .i64 room, v']) ∧ w'.ownsRow w.heap.size 28 2 v' L.length (fv L) ∧ Below w.heap.size w w' := by
  have HR := hide hr0
  obtain ⟨hl, ad, cap, rfl, h1, h2, h3⟩ := hr0
  clear h3
  go_enter Try.func50, Try.ntmps50
  go_wp2_with fail
  generalize hV : (w.alloc (.cells #[.int .i64 room, .slice ad L.length cap] 26)).alloc (.cells #[.int .i64 0, .slice none 0 0] 26) = V
  have hbV : Below w.heap.size w V := by rw [← hV]; exact bo_alloc ((Below.refl _ _).alloc (Nat.le_refl _) _) _
  have hX : RowIs V w.heap.size 26 [.int .i64 room, .slice ad L.length cap] := by rw [← hV]; exact (rowIs_new w 26 [.int .i64 room, .slice ad L.length cap]).alloc _
  have hRR : RowIs V (w.heap.size + 1) 26 [.int .i64 0, .slice none 0 0] := by rw [← hV]; simpa using rowIs_new (w.alloc (.cells #[.int .i64 room, .slice ad L.length cap] 26)) 26 [.int .i64 0, .slice none 0 0]
  clear hV
  have HX := hide hX; have HRR := hide hRR
  have hlV := hRR.lt
  have x0 := hX.cell (j := 0) rfl
  have x1 := hX.cell (j := 1) rfl
  clear hX hRR
  have hS0 := And.intro x0 x1
  refine wp_region_held_drew (S := (fun u => u.cell? ⟨w.heap.size, 0, none⟩ = some (.int .i64 room) ∧ u.cell? ⟨w.heap.size, 1, none⟩ = some (.slice ad L.length cap))) (by kernel_rfl) hS0 (fun hS => ?_)
  refine wpAnyH_take (i := 0) (v := ?_) rfl (by kernel_rfl) (by kernel_rfl) (by kernel_rfl) (fun _ _ _ h => h) (Or.inl ⟨by rfl, ?_⟩) hS ?_; rotate_left; focus (intro w hw; clear hw; go_simp; try with_reducible rfl)
  refine wpAnyH_take (i := 3) (v := ?_) rfl (by kernel_rfl) (by kernel_rfl) (by kernel_rfl) (fun _ _ _ h => h) (Or.inl ⟨by rfl, ?_⟩) hS ?_; rotate_left; focus (intro w hw; clear hw; go_simp; try with_reducible rfl)
  refine wpAnyH_take (i := 1) (v := ?_) rfl (by kernel_rfl) (by kernel_rfl) (by kernel_rfl) (fun _ _ _ h => h) (Or.inl ⟨by rfl, ?_⟩) hS ?_; rotate_left; focus (intro w hw; obtain ⟨l0, l1⟩ := hw; go_simp; try with_reducible rfl)
  refine wpAnyH_take (i := 4) (v := ?_) rfl (by kernel_rfl) (by kernel_rfl) (by kernel_rfl) (fun _ _ _ h => h) (Or.inl ⟨by rfl, ?_⟩) hS ?_; rotate_left; focus (intro w hw; obtain ⟨l0, l1⟩ := hw; go_simp; try with_reducible rfl)
  refine wpAnyH_ready (rs := [2]) (by kernel_rfl) (by simp) ?_; refine AllReadyH.cons rfl (fun K hK => ?_) AllReadyH.nil; go_simp
  have hbA : Below V.heap.size V ((World.drew V).alloc (.cells #[] 28)) := bo_alloc (bo_drewN 1 (Below.refl _ _)) _
  have hoA := owns_none (World.drew V) 28
  have hrA := (HR.out.new hbV).new hbA
  refine hK.out _ _ ⟨(HX.out.new hbA).cell (j := 0) rfl, (HX.out.new hbA).cell (j := 1) rfl⟩ (fun hS => ?_)
  clear hK K
  refine wpAnyH_ready (rs := [5]) (by kernel_rfl) (by simp) ?_
  refine AllReadyH.cons rfl (fun K hK => ?_) AllReadyH.nil
  refine step_app _ (by rfl) _ _ 24 (by rfl) 28 (.agg #[.string ⟨#[]⟩, .string ⟨#[]⟩]) 2 32 Try.underlying24 (by kernel_rfl) rfl (by decide) V.heap.size _ 0 [] (by rfl) hoA _ L.length (fv L) (by rfl) hrA (fv_one _) (by omega) (by decide) hbA.size ?_
  intro ad5 cap5 w5 hown5 hgrow5 hat5
  have hb5 : Below V.heap.size V w5 := ⟨hgrow5.os.trans hbA.os, hgrow5.tape.trans hbA.tape, hgrow5.output.trans hbA.output, Nat.le_trans hbA.size hgrow5.size, fun k hk => (hgrow5.block k (Nat.lt_of_lt_of_le hk hbA.size) (fun e => absurd (show V.heap.size ≤ k from (hoA.lt k e.symm).1) (Nat.not_le_of_lt hk))).trans (hbA.block k hk)⟩
  refine hK.out _ _ ⟨(HX.out.new hb5).cell (j := 0) rfl, (HX.out.new hb5).cell (j := 1) rfl⟩ (fun hS => ?_)
  clear hK K hat5 hgrow5 hoA hrA hbA
  rw [Nat.zero_add] at hown5 ⊢
  rw [List.nil_append] at hown5
  have hRR5 := HRR.out.new hb5
  have r0 := hRR5.cell (j := 0) rfl
  have r1 := hRR5.cell (j := 1) rfl
  have r2 := hRR5.frozen 0
  have r3 := hRR5.frozen 1
  have HO := hide hown5
  clear hown5 hRR5
  refine wpAnyH_take (i := 6) (v := ?_) rfl (by kernel_rfl) (by kernel_rfl) (by kernel_rfl) (fun _ _ _ h => h) (Or.inl ⟨by rfl, ?_⟩) hS ?_; rotate_left; focus (intro w hw; clear hw; go_simp; try with_reducible rfl)
  refine wpAnyH_ready (rs := [7]) (by kernel_rfl) (by simp) ?_; refine AllReadyH.cons rfl (fun K hK => ?_) AllReadyH.nil; go_simp
  refine hK.out _ _ ⟨(World.cell?_setCell_other _ _ _ _ (by simp)).trans ((World.cell?_setCell_other _ _ _ _ (by simp)).trans ((HX.out.new hb5).cell (j := 0) rfl)), (World.cell?_setCell_other _ _ _ _ (by simp)).trans ((World.cell?_setCell_other _ _ _ _ (by simp)).trans ((HX.out.new hb5).cell (j := 1) rfl))⟩ (fun _ => ?_)
  clear hK K
  refine wpAnyH_done (by kernel_rfl) ?_ _
  go_wp2_with fail
  refine bodyPost_ret (v := (.agg #[.int .i64 room, .slice ad5 L.length cap5])) (by simp [results, Try.results50, go_sem, *]) rfl ?_
  have hov : ∀ q, (Value.slice ad5 L.length cap5).ownBlock = some q → w.heap.size + 2 ≤ q := fun q hq => by have := (HO.out.lt q hq).1; omega
  exact ⟨_, rfl, owns_base (owns_far (w.heap.size + 2) (owns_far (w.heap.size + 2) HO.out hov _ _ (show w.heap.size + 1 < w.heap.size + 2 by omega)) hov _ _ (show w.heap.size + 1 < w.heap.size + 2 by omega)) (fun q hq => by have := hov q hq; omega), ((hbV.trans (hb5.mono hbV.size)).setCell (show w.heap.size ≤ w.heap.size + 1 by omega) _).setCell (show w.heap.size ≤ w.heap.size + 1 by omega) _⟩

/-- A Table in block g whose rows are owned, in blocks apart from it. -/
structure TabAt (w : World) (g base : Nat) (room : Int) (L : List Fd) : Prop where
  ex : ∃ ad cap, RowIs w g 26 [.int .i64 room, .slice ad L.length cap] ∧ w.ownsRow base 28 2 (.slice ad L.length cap) L.length (fv L) ∧ (Value.slice ad L.length cap).ownBlock ≠ some g
/-- How many rows it tells that it has. -/
def lenOf (g : Nat) (w : World) : Nat := match w.cell? ⟨g, 1, none⟩ with | some (.slice _ n _) => n | _ => 0

set_option maxHeartbeats 2000000 in
theorem shrink1 (g base : Nat) (room : Int) (L : List Fd) (w : World) (h : TabAt w g base room L) (hok : ∀ f ∈ L, okF f = true) (hroom : 0 ≤ room) (hL : L.length ≤ 200) :
    Calls Try.prog 55 #[.pointer (some ⟨g, 0, none⟩)] w fun x w' => x = .returned (.tuple #[]) ∧ TabAt w' g base room (shr room L) ∧ Turn g (g + 1) w w' := by
  obtain ⟨R, hR⟩ : ∃ R, R = shr room L := ⟨_, rfl⟩
  rw [← hR]
  have H0 := hide h; have HOK := hide hok; have HRR := hide hR
  clear h hok hR
  go_enter Try.func55, Try.ntmps55
  go_wp2_with fail
  go_loopw [] (fun wr => ∃ L' : List Fd, TabAt wr g base room L' ∧ (∀ f ∈ L', okF f = true) ∧ R = shr room L' ∧ L'.length ≤ 200 ∧ Turn g (g + 1) w wr) (fun wr => lenOf g wr)
  case atStart => exact ⟨L, H0.out, HOK.out, HRR.out, hL, Turn.refl _ _ _⟩
  case round =>
    obtain ⟨L', hta, hok', hR', hL', ht⟩ := hrel
    obtain ⟨ad, cap, hrow, hown, hap⟩ := hta.ex
    have HAP := hide hap
    clear hap
    have hlen : lenOf g wr = L'.length := by have := hrow.cell (j := 1) rfl; simp [lenOf, this]
    have x0 := hrow.cell (j := 0) rfl
    have x1 := hrow.cell (j := 1) rfl
    have x2 := hrow.frozen 1
    have hgl := hrow.lt
    have hcc : L'.length ≤ cap ∧ cap ≤ maxLen := by
      obtain ⟨_, _, e, h1, h2⟩ := owns_form hown
      simp only [Value.slice.injEq] at e
      obtain ⟨_, _, rfl⟩ := e
      exact ⟨h1, h2⟩
    obtain ⟨hc1, hc2⟩ := hcc
    unfold maxLen at hc2
    have HROW := hide hrow; have HOWN := hide hown; have HO := hide hok'; have HT := hide ht; have HR' := hide hR'; have HLEN := hide hlen
    clear hrow hown hok' ht hR' hta hlen
    go_wp2_with fail
    have q0 : ∀ y : Later wr, y.w.cell? ⟨g, 0, none⟩ = some (.int .i64 room) := fun y => (y.b.cell (p := ⟨g, 0, none⟩) hgl).trans x0
    have q1 : ∀ y : Later wr, y.w.cell? ⟨g, 1, none⟩ = some (.slice ad L'.length cap) := fun y => (y.b.cell (p := ⟨g, 1, none⟩) hgl).trans x1
    have hcall : ∀ y : Later wr, Calls Try.prog 54 #[.slice ad L'.length cap] y.w (fun e w' => e = .returned (.int .i64 (sumW L')) ∧ Below y.w.heap.size y.w w') := fun y => specSum L' _ y.w ((reads_of_owns HOWN.out).new y.b) (fun f hf => fine_of (HO.out f hf)) (by omega)
    obtain ⟨sm, hsm⟩ : ∃ sm, sumW L' = sm := ⟨_, rfl⟩
    rw [hsm] at hcall
    have HSM := hide hsm
    have HCALL := hide hcall
    clear hsm hcall
    have hne : Nonempty (Later wr) := ⟨⟨wr, Below.refl _ _⟩⟩; refine region_later (by kernel_rfl) (by kernel_rfl) ?_
    repeat (go_big_quiet_step (fail))
    go_big_quiet_want; go_big_quiet_op; refine ⟨.int .i64 sm, fun y => later_calls (x := y) ((fun _ => HCALL.out y) y.w), ?_⟩; go_big_quiet_on
    repeat (go_big_quiet_step (fail))
    refine wpQuiet_nil ?_; intro _ hw'; obtain ⟨y, hw''⟩ := hw'; subst hw''; have hby := y.b
    clear q0 q1 hne HCALL
    obtain ⟨wy, hwy⟩ : ∃ wy, wy = y.w := ⟨_, rfl⟩
    rw [← hwy] at hby ⊢
    clear hwy y
    replace HROW := hide (HROW.out.new hby)
    replace HOWN := hide (owns_new HOWN.out hby)
    replace HT := hide (HT.out.trans (turn_new hby g (g + 1)))
    clear x0 x1 x2
    have x1 := HROW.out.cell (j := 1) rfl
    have x0 := HROW.out.cell (j := 0) rfl
    have x2 := HROW.out.frozen 1
    by_cases hgt0 : room < sm
    · have hgt : room < sumW L' := by rw [HSM.out]; exact hgt0
      have hpos : 0 < L'.length := by
        rcases Nat.eq_zero_or_pos L'.length with h0 | h0
        · have : L' = [] := List.length_eq_zero_iff.1 h0
          subst this
          simp [sumW] at hgt; omega
        · exact h0
      obtain ⟨n, hn⟩ : ∃ n, L'.length = n + 1 := ⟨L'.length - 1, by omega⟩
      have HD := hide (HR'.out.trans (shr_go hgt))
      have hdn : L'.dropLast.length = n := by rw [List.length_dropLast]; omega
      have hfv : (fv L').take (n * 2) = fv L'.dropLast := by
        rw [List.dropLast_eq_take, show L'.length - 1 = n by omega]
        conv => lhs; rw [← List.take_append_drop n L', fv_app, List.take_append_of_le_length (by rw [fv_len, List.length_take]; omega), List.take_of_length_le (by rw [fv_len, List.length_take]; omega)]
      have FIN : Hid (TabAt ((World.drew wy).setCell ⟨g, 1, none⟩ (.slice ad n cap)) g base room L'.dropLast ∧ Turn g (g + 1) w ((World.drew wy).setCell ⟨g, 1, none⟩ (.slice ad n cap)) ∧ lenOf g ((World.drew wy).setCell ⟨g, 1, none⟩ (.slice ad n cap)) = n) := by
        have h1 := (HROW.out.drewN 1).set 1 (.slice ad n cap)
        have h2 := owns_short HOWN.out (show n ≤ L'.length by omega) hpos
        rw [hfv] at h2
        have h2' : (World.drew wy).ownsRow base 28 2 (.slice ad n cap) n (fv L'.dropLast) := h2
        refine ⟨⟨⟨ad, cap, by rw [hdn]; exact h1, by rw [hdn]; exact owns_apart h2' ⟨g, 1, none⟩ _ (by have := HAP.out; cases ad <;> exact this), by have := HAP.out; cases ad <;> exact this⟩⟩, (HT.out.drewN 1).setCell (p := ⟨g, 1, none⟩) _ (.inl ⟨Nat.le_refl _, Nat.lt_succ_self _⟩), ?_⟩
        have := h1.cell (j := 1) rfl
        have h3 : ((World.drew wy).setCell ⟨g, 1, none⟩ (.slice ad n cap)).cell? ⟨g, 1, none⟩ = some (.slice ad n cap) := this
        simp [lenOf, h3]
      clear hfv
      go_wp2_with fail
      refine wp_region_any (by kernel_rfl) ?_; change wpAny _ _ _ _ _ _ _ (World.drew _)
      refine wpAny_take (i := 0) (v := ?_) rfl (by kernel_rfl) (by kernel_rfl) (by kernel_rfl) (fun _ _ _ h => h) (Or.inl ⟨by rfl, ?_⟩) ?_; rotate_left; focus (intro w; go_simp; try with_reducible rfl)
      refine wpAny_take (i := 1) (v := ?_) rfl (by kernel_rfl) (by kernel_rfl) (by kernel_rfl) (fun _ _ _ h => h) (Or.inl ⟨by rfl, ?_⟩) ?_; rotate_left; focus (intro w; go_simp; try with_reducible rfl)
      refine wpAny_take (i := 2) (v := ?_) rfl (by kernel_rfl) (by kernel_rfl) (by kernel_rfl) (fun _ _ _ h => h) (Or.inl ⟨by rfl, ?_⟩) ?_; rotate_left; focus (intro w; go_simp; try with_reducible rfl)
      refine wpAny_take (i := 3) (v := ?_) rfl (by kernel_rfl) (by kernel_rfl) (by kernel_rfl) (fun _ _ _ h => h) (Or.inl ⟨by rfl, ?_⟩) ?_; rotate_left; focus (intro w; go_simp; try with_reducible rfl)
      refine wpAny_take (i := 5) (v := ?_) rfl (by kernel_rfl) (by kernel_rfl) (by kernel_rfl) (fun _ _ _ h => h) (Or.inl ⟨by rfl, ?_⟩) ?_; rotate_left; focus (intro w; go_simp; try with_reducible rfl)
      refine wpAny_take (i := 6) (v := ?_) rfl (by kernel_rfl) (by kernel_rfl) (by kernel_rfl) (fun _ _ _ h => h) (Or.inl ⟨by rfl, ?_⟩) ?_; rotate_left; focus (intro w; go_simp; try with_reducible rfl)
      refine wpAny_take (i := 7) (v := ?_) rfl (by kernel_rfl) (by kernel_rfl) (by kernel_rfl) (fun _ _ _ h => h) (Or.inl ⟨by rfl, ?_⟩) ?_; rotate_left; focus (intro w; go_simp; try with_reducible rfl)
      have hwn : IntKind.i64.wrap (n : Int) = n := by rw [IntKind.wrap_i64]; omega
      have hn0 : (0 : Int) ≤ (n : Int) := by omega
      have hn1 : (n : Int) ≤ (cap : Int) := by omega
      refine wpAny_ready (rs := [4, 8]) (by kernel_rfl) (by simp) ?_; refine AllReady.cons rfl (fun K hK => ?_) (AllReady.cons rfl (fun K hK => ?_) AllReady.nil)
      · go_simp; refine hK _ _ ?_; clear hK K
        refine wpAny_ready (rs := [8]) (by kernel_rfl) (by simp) ?_; refine AllReady.cons rfl (fun K hK => ?_) AllReady.nil
        go_simp; refine hK _ _ ?_; clear hK K
        refine wpAny_take (i := 9) (v := ?_) rfl (by kernel_rfl) (by kernel_rfl) (by kernel_rfl) (fun _ _ _ h => h) (Or.inl ⟨by rfl, ?_⟩) ?_; rotate_left; focus (intro w; go_simp; try with_reducible rfl)
        refine wpAny_take (i := 10) (v := ?_) rfl (by kernel_rfl) (by kernel_rfl) (by kernel_rfl) (fun _ _ _ h => h) (Or.inl ⟨by rfl, ?_⟩) ?_; rotate_left; focus (intro w; go_simp; try with_reducible rfl)
        refine wpAny_take (i := 11) (v := ?_) rfl (by kernel_rfl) (by kernel_rfl) (by kernel_rfl) (fun _ _ _ h => h) (Or.inl ⟨by rfl, ?_⟩) ?_; rotate_left; focus (intro w; go_simp; try with_reducible rfl)
        refine wpAny_take (i := 12) (v := ?_) rfl (by kernel_rfl) (by kernel_rfl) (by kernel_rfl) (fun _ _ _ h => h) (Or.inl ⟨by rfl, ?_⟩) ?_; rotate_left; focus (intro w; go_simp; try with_reducible rfl)
        refine wpAny_take (i := 13) (v := ?_) rfl (by kernel_rfl) (by kernel_rfl) (by kernel_rfl) (fun _ _ _ h => h) (Or.inl ⟨by rfl, ?_⟩) ?_; rotate_left; focus (intro w; go_simp; try with_reducible rfl)
        refine wpAny_ready (rs := [14]) (by kernel_rfl) (by simp) ?_; refine AllReady.cons rfl (fun K hK => ?_) AllReady.nil
        go_simp; refine hK _ _ ?_; clear hK K
        refine wpAny_done (by kernel_rfl) ?_ _
        go_wp2_with fail
        exact ⟨⟨L'.dropLast, FIN.out.1, fun f hf => HO.out f ((List.dropLast_sublist _).subset hf), HD.out, by rw [List.length_dropLast]; omega, FIN.out.2.1⟩, by show lenOf g ((World.drew wy).setCell ⟨g, 1, none⟩ (.slice ad n cap)) < lenOf g wr; rw [FIN.out.2.2, HLEN.out]; omega⟩
      · go_simp; refine hK _ _ ?_; clear hK K
        refine wpAny_take (i := 9) (v := ?_) rfl (by kernel_rfl) (by kernel_rfl) (by kernel_rfl) (fun _ _ _ h => h) (Or.inl ⟨by rfl, ?_⟩) ?_; rotate_left; focus (intro w; go_simp; try with_reducible rfl)
        refine wpAny_take (i := 10) (v := ?_) rfl (by kernel_rfl) (by kernel_rfl) (by kernel_rfl) (fun _ _ _ h => h) (Or.inl ⟨by rfl, ?_⟩) ?_; rotate_left; focus (intro w; go_simp; try with_reducible rfl)
        refine wpAny_ready (rs := [4]) (by kernel_rfl) (by simp) ?_; refine AllReady.cons rfl (fun K hK => ?_) AllReady.nil
        go_simp; refine hK _ _ ?_; clear hK K
        refine wpAny_take (i := 11) (v := ?_) rfl (by kernel_rfl) (by kernel_rfl) (by kernel_rfl) (fun _ _ _ h => h) (Or.inl ⟨by rfl, ?_⟩) ?_; rotate_left; focus (intro w; go_simp; try with_reducible rfl)
        refine wpAny_take (i := 12) (v := ?_) rfl (by kernel_rfl) (by kernel_rfl) (by kernel_rfl) (fun _ _ _ h => h) (Or.inl ⟨by rfl, ?_⟩) ?_; rotate_left; focus (intro w; go_simp; try with_reducible rfl)
        refine wpAny_take (i := 13) (v := ?_) rfl (by kernel_rfl) (by kernel_rfl) (by kernel_rfl) (fun _ _ _ h => h) (Or.inl ⟨by rfl, ?_⟩) ?_; rotate_left; focus (intro w; go_simp; try with_reducible rfl)
        refine wpAny_ready (rs := [14]) (by kernel_rfl) (by simp) ?_; refine AllReady.cons rfl (fun K hK => ?_) AllReady.nil
        go_simp; refine hK _ _ ?_; clear hK K
        refine wpAny_done (by kernel_rfl) ?_ _
        go_wp2_with fail
        exact ⟨⟨L'.dropLast, FIN.out.1, fun f hf => HO.out f ((List.dropLast_sublist _).subset hf), HD.out, by rw [List.length_dropLast]; omega, FIN.out.2.1⟩, by show lenOf g ((World.drew wy).setCell ⟨g, 1, none⟩ (.slice ad n cap)) < lenOf g wr; rw [FIN.out.2.2, HLEN.out]; omega⟩
    · have HD := hide (HR'.out.trans (shr_stop (by rw [HSM.out]; exact hgt0)))
      go_wp2_with fail
      refine bodyPost_end (v := .tuple #[]) (by simp [results, Try.results55, go_sem]) rfl ?_
      exact ⟨rfl, by rw [HD.out]; exact ⟨⟨ad, cap, HROW.out, HOWN.out, HAP.out⟩⟩, HT.out⟩
set_option maxHeartbeats 4000000 in
theorem note1 (g base : Nat) (room : Int) (L : List Fd) (f : Fd) (w : World) (h : TabAt w g base room L) (hok : ∀ f ∈ L, okF f = true) (hf : okF f = true) (hroom : 0 ≤ room) (hL : L.length ≤ 190) (hbs : base ≤ w.heap.size) :
    Calls Try.prog 52 #[.pointer (some ⟨g, 0, none⟩), .agg #[.string f.n, .string f.v]] w fun x w' => x = .returned (.tuple #[]) ∧ TabAt w' g base room (shr room (f :: L)) ∧ Turn g (g + 1) w w' := by
  obtain ⟨ad, cap, hrow, hown, _⟩ := h.ex
  have HALL : Hid (∀ u ∈ f :: L, okF u = true) := fun u hu => by rcases List.mem_cons.1 hu with rfl | hu; exact hf; exact hok u hu
  obtain ⟨R, hR⟩ : ∃ R, R = shr room (f :: L) := ⟨_, rfl⟩
  have hgl := hrow.lt
  have HROW0 := hide hrow; have HOWN0 := hide hown
  clear h hrow hown hok
  go_enter Try.func52, Try.ntmps52
  go_wp2_with fail
  generalize hV : w.alloc (.cells #[.string f.n, .string f.v] 28) = V
  have hbV : Below w.heap.size w V := by rw [← hV]; exact (Below.refl _ _).alloc (Nat.le_refl _) _
  have x0 : V.cell? ⟨w.heap.size, 0, none⟩ = some (.string f.n) := by rw [← hV]; simp
  have x1 : V.cell? ⟨w.heap.size, 1, none⟩ = some (.string f.v) := by rw [← hV]; simp
  have hlV : w.heap.size < V.heap.size := by rw [← hV]; simp
  clear hV
  have HROW := hide (HROW0.out.new hbV)
  have HOWN := hide (owns_new HOWN0.out hbV)
  have y1 := HROW.out.cell (j := 1) rfl
  have hglV : g < V.heap.size := Nat.lt_of_lt_of_le hgl hbV.size
  have hbA : Below V.heap.size V ((World.drew V).alloc (.cells #[.string f.n, .string f.v] 28)) := bo_alloc (bo_drewN 1 (Below.refl _ _)) _
  have hoA := owns_two (World.drew V) 28 f
  have hrA := (reads_of_owns HOWN.out).new hbA
  refine wp_region_any (by kernel_rfl) ?_; change wpAny _ _ _ _ _ _ _ (World.drew _)
  refine wpAny_take (i := 0) (v := ?_) rfl (by kernel_rfl) (by kernel_rfl) (by kernel_rfl) (fun _ _ _ h => h) (Or.inl ⟨by rfl, ?_⟩) ?_; rotate_left; focus (intro w; go_simp; try with_reducible rfl)
  refine wpAny_take (i := 3) (v := ?_) rfl (by kernel_rfl) (by kernel_rfl) (by kernel_rfl) (fun _ _ _ h => h) (Or.inl ⟨by rfl, ?_⟩) ?_; rotate_left; focus (intro w; go_simp; try with_reducible rfl)
  refine wpAny_take (i := 4) (v := ?_) rfl (by kernel_rfl) (by kernel_rfl) (by kernel_rfl) (fun _ _ _ h => h) (Or.inl ⟨by rfl, ?_⟩) ?_; rotate_left; focus (intro w; go_simp; try with_reducible rfl)
  refine wpAny_take (i := 5) (v := ?_) rfl (by kernel_rfl) (by kernel_rfl) (by kernel_rfl) (fun _ _ _ h => h) (Or.inl ⟨by rfl, ?_⟩) ?_; rotate_left; focus (intro w; go_simp; try with_reducible rfl)
  refine wpAny_ready (rs := [1, 6]) (by kernel_rfl) (by simp) ?_; refine AllReady.cons rfl (fun K hK => ?_) (AllReady.cons rfl (fun K hK => ?_) AllReady.nil)
  · go_simp; refine hK _ _ ?_; clear hK K
    refine wpAny_ready (rs := [2, 6]) (by kernel_rfl) (by simp) ?_; refine AllReady.cons rfl (fun K hK => ?_) (AllReady.cons rfl (fun K hK => ?_) AllReady.nil)
    · go_simp; refine hK _ _ ?_; clear hK K
      refine wpAny_ready (rs := [6]) (by kernel_rfl) (by simp) ?_; refine AllReady.cons rfl (fun K hK => ?_) AllReady.nil
      go_simp; refine hK _ _ ?_; clear hK K
      refine wpAny_ready (rs := [7]) (by kernel_rfl) (by simp) ?_; refine AllReady.cons rfl (fun K hK => ?_) AllReady.nil
      refine step_app _ (by rfl) _ _ 24 (by rfl) 28 (.agg #[.string ⟨#[]⟩, .string ⟨#[]⟩]) 2 32 Try.underlying24 (by kernel_rfl) rfl (by decide) V.heap.size _ 1 (fv [f]) (by rfl) hoA _ L.length (fv L) (by rfl) hrA (fv_one _) (by omega) (by decide) hbA.size ?_
      intro ad5 cap5 w5 hown5 hgrow5 hat5
      have hb5 : Below V.heap.size V w5 := ⟨hgrow5.os.trans hbA.os, hgrow5.tape.trans hbA.tape, hgrow5.output.trans hbA.output, Nat.le_trans hbA.size hgrow5.size, fun k hk => (hgrow5.block k (Nat.lt_of_lt_of_le hk hbA.size) (fun e => absurd (show V.heap.size ≤ k from (hoA.lt k e.symm).1) (Nat.not_le_of_lt hk))).trans (hbA.block k hk)⟩
      refine hK _ _ ?_
      clear hK K hat5 hgrow5
      have hrow5 := HROW.out.new hb5
      have g0 := hrow5.cell (j := 1) rfl
      have g1 := hrow5.frozen 1
      have HROW5 := hide hrow5; have HOWN5 := hide hown5
      clear hrow5 hown5 x0 x1 y1
      refine wpAny_take (i := 8) (v := ?_) rfl (by kernel_rfl) (by kernel_rfl) (by kernel_rfl) (fun _ _ _ h => h) (Or.inl ⟨by rfl, ?_⟩) ?_; rotate_left; focus (intro w; go_simp; try with_reducible rfl)
      refine wpAny_take (i := 9) (v := ?_) rfl (by kernel_rfl) (by kernel_rfl) (by kernel_rfl) (fun _ _ _ h => h) (Or.inl ⟨by rfl, ?_⟩) ?_; rotate_left; focus (intro w; go_simp; try with_reducible rfl)
      refine wpAny_ready (rs := [10]) (by kernel_rfl) (by simp) ?_; refine AllReady.cons rfl (fun K hK => ?_) AllReady.nil
      go_simp; refine hK _ _ ?_; clear hK K
      refine wpAny_done (by kernel_rfl) ?_ _
      have hta : TabAt (w5.setCell ⟨g, 1, none⟩ (.slice ad5 (1 + L.length) cap5)) g base room (f :: L) := by
        have e1 : (f :: L).length = 1 + L.length := by simp; omega
        refine ⟨⟨ad5, cap5, by rw [e1]; exact HROW5.out.set 1 _, ?_, ?_⟩⟩
        · rw [e1, show fv (f :: L) = fv [f] ++ fv L from fv_app [f] L]
          exact owns_base (owns_apart HOWN5.out ⟨g, 1, none⟩ _ (fun hq => by have := (HOWN5.out.lt g hq).1; have := hbV.size; omega)) (fun q hq => by have := (HOWN5.out.lt q hq).1; have := hbV.size; omega)
        · rw [e1]; exact fun hq => by have := (HOWN5.out.lt g hq).1; have := hbV.size; omega
      have ht5 : Turn g (g + 1) w (w5.setCell ⟨g, 1, none⟩ (.slice ad5 (1 + L.length) cap5)) := ((turn_new hbV g (g + 1)).trans (turn_new hb5 g (g + 1))).setCell (p := ⟨g, 1, none⟩) _ (.inl ⟨Nat.le_refl _, Nat.lt_succ_self _⟩)
      have HTA := hide hta; have HT5 := hide ht5
      clear hta ht5
      generalize w5.setCell ⟨g, 1, none⟩ (.slice ad5 (1 + L.length) cap5) = w6 at *
      go_wp2_with fail
      refine (shrink1 g base room (f :: L) _ HTA.out HALL.out hroom (by simp only [List.length_cons]; omega)).mono ?_; rintro x w7 ⟨rfl, hta7, ht7⟩
      have HTA7 := hide hta7
      clear hta7
      go_wp2_with fail
      refine bodyPost_end (v := .tuple #[]) (by simp [results, Try.results52, go_sem]) rfl ?_
      exact ⟨rfl, HTA7.out, HT5.out.trans ht7⟩
    · go_simp; refine hK _ _ ?_; clear hK K
      refine wpAny_ready (rs := [2]) (by kernel_rfl) (by simp) ?_; refine AllReady.cons rfl (fun K hK => ?_) AllReady.nil
      go_simp; refine hK _ _ ?_; clear hK K
      refine wpAny_ready (rs := [7]) (by kernel_rfl) (by simp) ?_; refine AllReady.cons rfl (fun K hK => ?_) AllReady.nil
      refine step_app _ (by rfl) _ _ 24 (by rfl) 28 (.agg #[.string ⟨#[]⟩, .string ⟨#[]⟩]) 2 32 Try.underlying24 (by kernel_rfl) rfl (by decide) V.heap.size _ 1 (fv [f]) (by rfl) hoA _ L.length (fv L) (by rfl) hrA (fv_one _) (by omega) (by decide) hbA.size ?_
      intro ad5 cap5 w5 hown5 hgrow5 hat5
      have hb5 : Below V.heap.size V w5 := ⟨hgrow5.os.trans hbA.os, hgrow5.tape.trans hbA.tape, hgrow5.output.trans hbA.output, Nat.le_trans hbA.size hgrow5.size, fun k hk => (hgrow5.block k (Nat.lt_of_lt_of_le hk hbA.size) (fun e => absurd (show V.heap.size ≤ k from (hoA.lt k e.symm).1) (Nat.not_le_of_lt hk))).trans (hbA.block k hk)⟩
      refine hK _ _ ?_
      clear hK K hat5 hgrow5
      have hrow5 := HROW.out.new hb5
      have g0 := hrow5.cell (j := 1) rfl
      have g1 := hrow5.frozen 1
      have HROW5 := hide hrow5; have HOWN5 := hide hown5
      clear hrow5 hown5 x0 x1 y1
      refine wpAny_take (i := 8) (v := ?_) rfl (by kernel_rfl) (by kernel_rfl) (by kernel_rfl) (fun _ _ _ h => h) (Or.inl ⟨by rfl, ?_⟩) ?_; rotate_left; focus (intro w; go_simp; try with_reducible rfl)
      refine wpAny_take (i := 9) (v := ?_) rfl (by kernel_rfl) (by kernel_rfl) (by kernel_rfl) (fun _ _ _ h => h) (Or.inl ⟨by rfl, ?_⟩) ?_; rotate_left; focus (intro w; go_simp; try with_reducible rfl)
      refine wpAny_ready (rs := [10]) (by kernel_rfl) (by simp) ?_; refine AllReady.cons rfl (fun K hK => ?_) AllReady.nil
      go_simp; refine hK _ _ ?_; clear hK K
      refine wpAny_done (by kernel_rfl) ?_ _
      have hta : TabAt (w5.setCell ⟨g, 1, none⟩ (.slice ad5 (1 + L.length) cap5)) g base room (f :: L) := by
        have e1 : (f :: L).length = 1 + L.length := by simp; omega
        refine ⟨⟨ad5, cap5, by rw [e1]; exact HROW5.out.set 1 _, ?_, ?_⟩⟩
        · rw [e1, show fv (f :: L) = fv [f] ++ fv L from fv_app [f] L]
          exact owns_base (owns_apart HOWN5.out ⟨g, 1, none⟩ _ (fun hq => by have := (HOWN5.out.lt g hq).1; have := hbV.size; omega)) (fun q hq => by have := (HOWN5.out.lt q hq).1; have := hbV.size; omega)
        · rw [e1]; exact fun hq => by have := (HOWN5.out.lt g hq).1; have := hbV.size; omega
      have ht5 : Turn g (g + 1) w (w5.setCell ⟨g, 1, none⟩ (.slice ad5 (1 + L.length) cap5)) := ((turn_new hbV g (g + 1)).trans (turn_new hb5 g (g + 1))).setCell (p := ⟨g, 1, none⟩) _ (.inl ⟨Nat.le_refl _, Nat.lt_succ_self _⟩)
      have HTA := hide hta; have HT5 := hide ht5
      clear hta ht5
      generalize w5.setCell ⟨g, 1, none⟩ (.slice ad5 (1 + L.length) cap5) = w6 at *
      go_wp2_with fail
      refine (shrink1 g base room (f :: L) _ HTA.out HALL.out hroom (by simp only [List.length_cons]; omega)).mono ?_; rintro x w7 ⟨rfl, hta7, ht7⟩
      have HTA7 := hide hta7
      clear hta7
      go_wp2_with fail
      refine bodyPost_end (v := .tuple #[]) (by simp [results, Try.results52, go_sem]) rfl ?_
      exact ⟨rfl, HTA7.out, HT5.out.trans ht7⟩
  · go_simp; refine hK _ _ ?_; clear hK K
    refine wpAny_ready (rs := [1]) (by kernel_rfl) (by simp) ?_; refine AllReady.cons rfl (fun K hK => ?_) AllReady.nil
    go_simp; refine hK _ _ ?_; clear hK K
    refine wpAny_ready (rs := [2]) (by kernel_rfl) (by simp) ?_; refine AllReady.cons rfl (fun K hK => ?_) AllReady.nil
    go_simp; refine hK _ _ ?_; clear hK K
    refine wpAny_ready (rs := [7]) (by kernel_rfl) (by simp) ?_; refine AllReady.cons rfl (fun K hK => ?_) AllReady.nil
    refine step_app _ (by rfl) _ _ 24 (by rfl) 28 (.agg #[.string ⟨#[]⟩, .string ⟨#[]⟩]) 2 32 Try.underlying24 (by kernel_rfl) rfl (by decide) V.heap.size _ 1 (fv [f]) (by rfl) hoA _ L.length (fv L) (by rfl) hrA (fv_one _) (by omega) (by decide) hbA.size ?_
    intro ad5 cap5 w5 hown5 hgrow5 hat5
    have hb5 : Below V.heap.size V w5 := ⟨hgrow5.os.trans hbA.os, hgrow5.tape.trans hbA.tape, hgrow5.output.trans hbA.output, Nat.le_trans hbA.size hgrow5.size, fun k hk => (hgrow5.block k (Nat.lt_of_lt_of_le hk hbA.size) (fun e => absurd (show V.heap.size ≤ k from (hoA.lt k e.symm).1) (Nat.not_le_of_lt hk))).trans (hbA.block k hk)⟩
    refine hK _ _ ?_
    clear hK K hat5 hgrow5
    have hrow5 := HROW.out.new hb5
    have g0 := hrow5.cell (j := 1) rfl
    have g1 := hrow5.frozen 1
    have HROW5 := hide hrow5; have HOWN5 := hide hown5
    clear hrow5 hown5 x0 x1 y1
    refine wpAny_take (i := 8) (v := ?_) rfl (by kernel_rfl) (by kernel_rfl) (by kernel_rfl) (fun _ _ _ h => h) (Or.inl ⟨by rfl, ?_⟩) ?_; rotate_left; focus (intro w; go_simp; try with_reducible rfl)
    refine wpAny_take (i := 9) (v := ?_) rfl (by kernel_rfl) (by kernel_rfl) (by kernel_rfl) (fun _ _ _ h => h) (Or.inl ⟨by rfl, ?_⟩) ?_; rotate_left; focus (intro w; go_simp; try with_reducible rfl)
    refine wpAny_ready (rs := [10]) (by kernel_rfl) (by simp) ?_; refine AllReady.cons rfl (fun K hK => ?_) AllReady.nil
    go_simp; refine hK _ _ ?_; clear hK K
    refine wpAny_done (by kernel_rfl) ?_ _
    have hta : TabAt (w5.setCell ⟨g, 1, none⟩ (.slice ad5 (1 + L.length) cap5)) g base room (f :: L) := by
      have e1 : (f :: L).length = 1 + L.length := by simp; omega
      refine ⟨⟨ad5, cap5, by rw [e1]; exact HROW5.out.set 1 _, ?_, ?_⟩⟩
      · rw [e1, show fv (f :: L) = fv [f] ++ fv L from fv_app [f] L]
        exact owns_base (owns_apart HOWN5.out ⟨g, 1, none⟩ _ (fun hq => by have := (HOWN5.out.lt g hq).1; have := hbV.size; omega)) (fun q hq => by have := (HOWN5.out.lt q hq).1; have := hbV.size; omega)
      · rw [e1]; exact fun hq => by have := (HOWN5.out.lt g hq).1; have := hbV.size; omega
    have ht5 : Turn g (g + 1) w (w5.setCell ⟨g, 1, none⟩ (.slice ad5 (1 + L.length) cap5)) := ((turn_new hbV g (g + 1)).trans (turn_new hb5 g (g + 1))).setCell (p := ⟨g, 1, none⟩) _ (.inl ⟨Nat.le_refl _, Nat.lt_succ_self _⟩)
    have HTA := hide hta; have HT5 := hide ht5
    clear hta ht5
    generalize w5.setCell ⟨g, 1, none⟩ (.slice ad5 (1 + L.length) cap5) = w6 at *
    go_wp2_with fail
    refine (shrink1 g base room (f :: L) _ HTA.out HALL.out hroom (by simp only [List.length_cons]; omega)).mono ?_; rintro x w7 ⟨rfl, hta7, ht7⟩
    have HTA7 := hide hta7
    clear hta7
    go_wp2_with fail
    refine bodyPost_end (v := .tuple #[]) (by simp [results, Try.results52, go_sem]) rfl ?_
    exact ⟨rfl, HTA7.out, HT5.out.trans ht7⟩
end Go.Proofs.Ythjbmmppckgcjaa
