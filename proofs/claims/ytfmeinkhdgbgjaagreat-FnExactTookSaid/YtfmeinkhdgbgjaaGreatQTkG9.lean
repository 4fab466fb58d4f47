/- Several small texts of one level, one behind the other. -/
import Derived.Test.YtfmeinkhdgbgjaaGreatQTkRing2
import Derived.Test.YtfmeinkhdgbgjaaGreatQTkG2
import Derived.Test.YtfmeinkhdgbgjaaGreatQTkG3
import Derived.Test.YtfmeinkhdgbgjaaGreatQTkG8
import Derived.Test.YtfmeinkhdgbgjaaGreatQTkG5
import Derived.Deep.RegionHeld3
/- The ring's own functions: it is made to fit, and its rows are laid out as a Table. -/
namespace Go.Proofs.YtfmeinkhdgbgjaaGreat
open Go.RowKit
set_option maxRecDepth 100000
set_option linter.unusedSimpArgs false
set_option linter.unusedVariables false

theorem box_frozen (u : World) (s : Nat) (h : u.heap.size = s) (x y : Value) (t : TypeId) (j : Nat) : (u.alloc (.cells #[x, y] t)).frozen? ⟨s, j, none⟩ = false := by subst h; exact (rowIs_new u t [x, y]).frozen j
/-- A ring whose rows are L. -/
structure RingAt (w : World) (b first : Nat) (L : List Fd) : Prop where
  fst : first < 112
  len : L.length ≤ 112
  row : RowIs w b 229 (rC (ringS first L) first L.length (sumW L))
theorem RingAt.new {w w' : World} {b first : Nat} {L : List Fd} (h : RingAt w b first L) (hb : Below w.heap.size w w') : RingAt w' b first L := ⟨h.fst, h.len, h.row.new hb⟩
theorem RingAt.turn {w w' : World} {b first : Nat} {L : List Fd} (h : RingAt w b first L) {lo hi : Nat} (ht : Turn lo hi w w') (hk : b < lo ∨ hi ≤ b) : RingAt w' b first L := ⟨h.fst, h.len, h.row.kept (ht.block b h.row.lt hk)⟩
/-- How many rows a ring tells that it has. -/
def cntOf (b : Nat) (w : World) : Nat := match w.cell? ⟨b, 225, none⟩ with | some (.int _ c) => c.toNat | _ => 0
theorem RingAt.cnt {w : World} {b first : Nat} {L : List Fd} (h : RingAt w b first L) : cntOf b w = L.length := by
  have := h.row.cell (rC_num (ringS_len first L) first L.length (sumW L)).2.1
  simp [cntOf, this]
theorem RingAt.wgt {w : World} {b first : Nat} {L : List Fd} (h : RingAt w b first L) : w.cell? ⟨b, 226, none⟩ = some (.int .i64 (sumW L)) := h.row.cell (rC_num (ringS_len first L) first L.length (sumW L)).2.2
theorem RingAt.count {w : World} {b first : Nat} {L : List Fd} (h : RingAt w b first L) : w.cell? ⟨b, 225, none⟩ = some (.int .i64 L.length) := h.row.cell (rC_num (ringS_len first L) first L.length (sumW L)).2.1
theorem sumW_dropLast {L : List Fd} (h : 0 < L.length) : sumW L.dropLast = sumW L - wt (L[L.length - 1]'(by omega)) := by
  have hne : L ≠ [] := fun e => by subst e; simp at h
  have h1 := List.dropLast_concat_getLast hne
  have h2 : sumW L = sumW (L.dropLast ++ [L.getLast hne]) := by rw [h1]
  rw [sumW_app, List.getLast_eq_getElem] at h2
  simp only [sumW] at h2
  omega

theorem drop2 (b first : Nat) (L : List Fd) (w : World) (h : RingAt w b first L) (h0 : 0 < L.length) (hok : ∀ f ∈ L, okF f = true) :
    Calls Tryz.prog 280 #[.pointer (some ⟨b, 0, none⟩)] w fun x w' => x = .returned (.tuple #[]) ∧ RingAt w' b first L.dropLast ∧ Turn b (b + 1) w w' := by
  obtain ⟨n, hn⟩ : ∃ n, L.length = n + 1 := ⟨L.length - 1, by omega⟩
  have hln := h.len
  have hlt : n < L.length := by omega
  have hr := h.row
  rw [hn] at hr
  have hrg := sumW_range L
  refine (dropLast1 b first n (ringS first L) (sumW L) L[n] w (ringS_len _ _) hr h.fst (by omega) (ringS_at h.fst hln n hlt) (fine_of (hok _ (List.getElem_mem hlt))) hrg.1 (by omega)).mono ?_
  rintro x w' ⟨rfl, hr', ht⟩
  refine ⟨rfl, ⟨h.fst, by rw [List.length_dropLast]; omega, ?_⟩, ht⟩
  have e1 := ringS_drop (first := first) (L := L) h.fst h0 hln
  rw [show L.length - 1 = n by omega] at e1
  have e2 := sumW_dropLast h0
  simp only [show L.length - 1 = n by omega] at e2
  rw [List.length_dropLast, show L.length - 1 = n by omega, e2, ← e1]
  exact hr'

set_option maxHeartbeats 1000000 in
theorem fit1 (b first : Nat) (L : List Fd) (room : Int) (w : World) (h : RingAt w b first L) (hok : ∀ f ∈ L, okF f = true) (hroom : 0 ≤ room) :
    Calls Tryz.prog 256 #[.pointer (some ⟨b, 0, none⟩), .int .i64 room] w fun x w' => x = .returned (.tuple #[]) ∧ RingAt w' b first (shr room L) ∧ Turn b (b + 1) w w' := by
  obtain ⟨R, hR⟩ : ∃ R, R = shr room L := ⟨_, rfl⟩
  rw [← hR]
  have H0 := hide h; have HOK := hide hok; have HRR := hide hR
  clear h hok hR
  go_enter Tryz.func256, Tryz.ntmps256
  go_wp2_with fail
  go_loopw [] (fun wr => ∃ L' : List Fd, RingAt wr b first L' ∧ (∀ f ∈ L', okF f = true) ∧ R = shr room L' ∧ Turn b (b + 1) w wr) (fun wr => cntOf b wr)
  case atStart => exact ⟨L, H0.out, HOK.out, HRR.out, Turn.refl _ _ _⟩
  case round =>
    obtain ⟨L', hra, hok', hR', ht⟩ := hrel
    have c6 := hra.wgt
    by_cases hgt : room < sumW L'
    · have hpos : 0 < L'.length := by
        rcases Nat.eq_zero_or_pos L'.length with h0 | h0
        · have : L' = [] := List.length_eq_zero_iff.1 h0
          subst this
          simp [sumW] at hgt; omega
        · exact h0
      have HD := hide (hR'.trans (shr_go hgt))
      have HA := hide hra; have HO := hide hok'; have HT := hide ht
      clear hR' hra hok' ht
      go_wp2_with fail
      refine (drop2 b first L' _ HA.out hpos HO.out).mono ?_; rintro x w1 ⟨rfl, hra1, ht1⟩
      have hc1 := hra1.cnt
      have hc0 := HA.out.cnt
      rw [List.length_dropLast] at hc1
      have HA1 := hide hra1
      have HC0 := hide hc0; have HC1 := hide hc1
      clear hra1 hc0 hc1
      go_wp2_with fail
      exact ⟨⟨L'.dropLast, HA1.out, fun f hf => HO.out f ((List.dropLast_sublist _).subset hf), HD.out, HT.out.trans ht1⟩, by have := HC0.out; have := HC1.out; omega⟩
    · have HD := hide (hR'.trans (shr_stop hgt))
      have HA := hide hra; have HT := hide ht
      clear hR' hra hok' ht
      go_wp2_with fail
      refine bodyPost_end (v := .tuple #[]) (by simp [results, Tryz.results256, go_sem]) rfl ?_
      exact ⟨rfl, by rw [HD.out]; exact HA.out, HT.out⟩

set_option maxHeartbeats 1000000 in
theorem apart1 (f : Fd) (w : World) (hf : okF f = true) :
    Calls Tryz.prog 284 #[.agg #[.string f.n, .string f.v]] w fun x w' => x = .returned (.agg #[.string f.n, .string f.v]) ∧ Below w.heap.size w w' := by
  obtain ⟨p1, p2, p3⟩ := okF_parts hf
  go_enter Tryz.func284, Tryz.ntmps284
  go_wp2_with fail
  generalize hV : (w.alloc (.cells #[.string f.n, .string f.v] 163)).alloc (.cells #[.string ⟨#[]⟩, .string ⟨#[]⟩] 163) = V
  have hbV : Below w.heap.size w V := by rw [← hV]; exact bo_alloc ((Below.refl _ _).alloc (Nat.le_refl _) _) _
  have x0 : V.cell? ⟨w.heap.size, 0, none⟩ = some (.string f.n) := by rw [← hV]; simp
  have x1 : V.cell? ⟨w.heap.size, 1, none⟩ = some (.string f.v) := by rw [← hV]; simp
  have r0 : V.cell? ⟨w.heap.size + 1, 0, none⟩ = some (.string ⟨#[]⟩) := by rw [← hV]; exact box_cell0 _ _ (by simp) _ _ _
  have r1 : V.cell? ⟨w.heap.size + 1, 1, none⟩ = some (.string ⟨#[]⟩) := by rw [← hV]; exact box_cell1 _ _ (by simp) _ _ _
  have f0 : V.frozen? ⟨w.heap.size + 1, 0, none⟩ = false := by rw [← hV]; exact box_frozen _ _ (by simp) _ _ _ _
  have f1 : V.frozen? ⟨w.heap.size + 1, 1, none⟩ = false := by rw [← hV]; exact box_frozen _ _ (by simp) _ _ _ _
  have hlV : w.heap.size + 1 < V.heap.size := by rw [← hV]; simp
  have hlV0 : w.heap.size < V.heap.size := by omega
  clear hV
  have hS0 := And.intro x0 x1
  refine wp_region_held_drew (S := (fun u => u.cell? ⟨w.heap.size, 0, none⟩ = some (.string f.n) ∧ u.cell? ⟨w.heap.size, 1, none⟩ = some (.string f.v))) (by kernel_rfl) hS0 (fun hS => ?_)
  refine wpAnyH_take (i := 0) (v := ?_) rfl (by kernel_rfl) (by kernel_rfl) (by kernel_rfl) (fun _ _ _ h => h) (Or.inl ⟨by rfl, ?_⟩) hS ?_; rotate_left; focus (intro w hw; clear hw; go_simp; try with_reducible rfl)
  refine wpAnyH_take (i := 3) (v := ?_) rfl (by kernel_rfl) (by kernel_rfl) (by kernel_rfl) (fun _ _ _ h => h) (Or.inl ⟨by rfl, ?_⟩) hS ?_; rotate_left; focus (intro w hw; clear hw; go_simp; try with_reducible rfl)
  refine wpAnyH_take (i := 1) (v := ?_) rfl (by kernel_rfl) (by kernel_rfl) (by kernel_rfl) (fun _ _ _ h => h) (Or.inl ⟨by rfl, ?_⟩) hS ?_; rotate_left; focus (intro w hw; obtain ⟨l0, l1⟩ := hw; go_simp; try with_reducible rfl)
  refine wpAnyH_take (i := 4) (v := ?_) rfl (by kernel_rfl) (by kernel_rfl) (by kernel_rfl) (fun _ _ _ h => h) (Or.inl ⟨by rfl, ?_⟩) hS ?_; rotate_left; focus (intro w hw; obtain ⟨l0, l1⟩ := hw; go_simp; try with_reducible rfl)
  refine wpAnyH_ready (rs := [2]) (by kernel_rfl) (by simp) ?_; refine AllReadyH.cons rfl (fun K hK => ?_) AllReadyH.nil; go_simp
  refine (clone f.n _ (by omega)).mono ?_; rintro x w2 ⟨rfl, hb2⟩
  have hb2' : Below V.heap.size V w2 := bchain (bo_drewN 1 (Below.refl _ _)) hb2
  refine hK.out _ _ ⟨(hb2'.cell (p := ⟨w.heap.size, 0, none⟩) hlV0).trans x0, (hb2'.cell (p := ⟨w.heap.size, 1, none⟩) hlV0).trans x1⟩ (fun hS => ?_)
  clear hK K
  refine wpAnyH_ready (rs := [5]) (by kernel_rfl) (by simp) ?_; refine AllReadyH.cons rfl (fun K hK => ?_) AllReadyH.nil; go_simp
  refine (clone f.v _ (by omega)).mono ?_; rintro x w3 ⟨rfl, hb3⟩
  have hb3' : Below V.heap.size V w3 := bchain hb2' hb3
  refine hK.out _ _ ⟨(hb3'.cell (p := ⟨w.heap.size, 0, none⟩) hlV0).trans x0, (hb3'.cell (p := ⟨w.heap.size, 1, none⟩) hlV0).trans x1⟩ (fun hS => ?_)
  clear hK K
  have g0 := (hb3'.cell (p := ⟨w.heap.size + 1, 0, none⟩) hlV).trans r0
  have g1 := (hb3'.cell (p := ⟨w.heap.size + 1, 1, none⟩) hlV).trans r1
  have g2 := (hb3'.frozen (p := ⟨w.heap.size + 1, 0, none⟩) hlV).trans f0
  have g3 := (hb3'.frozen (p := ⟨w.heap.size + 1, 1, none⟩) hlV).trans f1
  refine wpAnyH_take (i := 6) (v := ?_) rfl (by kernel_rfl) (by kernel_rfl) (by kernel_rfl) (fun _ _ _ h => h) (Or.inl ⟨by rfl, ?_⟩) hS ?_; rotate_left; focus (intro w hw; clear hw; go_simp; try with_reducible rfl)
  refine wpAnyH_ready (rs := [7]) (by kernel_rfl) (by simp) ?_; refine AllReadyH.cons rfl (fun K hK => ?_) AllReadyH.nil; go_simp
  have hw := hbV.trans (hb3'.mono hbV.size)
  refine hK.out _ _ ⟨(World.cell?_setCell_other _ _ _ _ (by simp)).trans ((World.cell?_setCell_other _ _ _ _ (by simp)).trans ((hb3'.cell (p := ⟨w.heap.size, 0, none⟩) hlV0).trans x0)), (World.cell?_setCell_other _ _ _ _ (by simp)).trans ((World.cell?_setCell_other _ _ _ _ (by simp)).trans ((hb3'.cell (p := ⟨w.heap.size, 1, none⟩) hlV0).trans x1))⟩ (fun _ => ?_)
  clear hK K
  refine wpAnyH_done (by kernel_rfl) ?_ _
  go_wp2_with fail
  refine bodyPost_ret (v := .agg #[.string f.n, .string f.v]) (by simp [results, Tryz.results284, go_sem, *]) rfl ?_
  exact ⟨rfl, (hw.setCell (by simp) _).setCell (by simp) _⟩
end Go.Proofs.YtfmeinkhdgbgjaaGreat
/- Chapter 10's model, what it makes: a copy, one opened, what happens, what is swept. -/
namespace Go.Proofs.YtfmeinkhdgbgjaaGreat
open Go.RowKit
set_option maxRecDepth 100000
set_option linter.unusedSimpArgs false
set_option linter.unusedVariables false
set_option maxHeartbeats 1000000 in
theorem copyReg (d : RegistryD) (v : Value) (w : World) (hr0 : RdR entryS w v d.es) (hL : d.es.length ≤ 1000) :
    Calls Tryz.prog 112 #[.agg #[.int .i64 d.lim, .int .i64 d.top, v]] w fun x w' => ∃ v', x = .returned (.agg #[.int .i64 d.lim, .int .i64 d.top, v']) ∧ w'.ownsRow w.heap.size 101 2 v' d.es.length (ev d.es) ∧ Below w.heap.size w w' := by
  obtain ⟨ad, cap, rfl, h1, h2⟩ := hr0.form
  have HR := hide (rd_ev hr0)
  clear hr0
  go_enter Tryz.func112, Tryz.ntmps112
  go_wp2_with fail
  generalize hV : (w.alloc (.cells #[.int .i64 d.lim, .int .i64 d.top, .slice ad d.es.length cap] 26)).alloc (.cells #[.int .i64 0, .int .i64 0, .slice none 0 0] 26) = V
  have hbV : Below w.heap.size w V := by rw [← hV]; exact bo_alloc ((Below.refl _ _).alloc (Nat.le_refl _) _) _
  have hX : RowIs V w.heap.size 26 [.int .i64 d.lim, .int .i64 d.top, .slice ad d.es.length cap] := by rw [← hV]; exact (rowIs_new w 26 [.int .i64 d.lim, .int .i64 d.top, .slice ad d.es.length cap]).alloc _
  have hRR : RowIs V (w.heap.size + 1) 26 [.int .i64 0, .int .i64 0, .slice none 0 0] := by rw [← hV]; simpa using rowIs_new (w.alloc (.cells #[.int .i64 d.lim, .int .i64 d.top, .slice ad d.es.length cap] 26)) 26 [.int .i64 0, .int .i64 0, .slice none 0 0]
  clear hV
  have HX := hide hX; have HRR := hide hRR
  have hlV := hRR.lt
  have x0 := hX.cell (j := 0) rfl
  have x1 := hX.cell (j := 1) rfl
  have x2 := hX.cell (j := 2) rfl
  clear hX hRR
  have hS0 := And.intro x0 (And.intro x1 x2)
  refine wp_region_held_drew (S := (fun u => u.cell? ⟨w.heap.size, 0, none⟩ = some (.int .i64 d.lim) ∧ u.cell? ⟨w.heap.size, 1, none⟩ = some (.int .i64 d.top) ∧ u.cell? ⟨w.heap.size, 2, none⟩ = some (.slice ad d.es.length cap))) (by kernel_rfl) hS0 (fun hS => ?_)
  refine wpAnyH_take (i := 0) (v := ?_) rfl (by kernel_rfl) (by kernel_rfl) (by kernel_rfl) (fun _ _ _ h => h) (Or.inl ⟨by rfl, ?_⟩) hS ?_; rotate_left; focus (intro w hw; clear hw; go_simp; try with_reducible rfl)
  refine wpAnyH_take (i := 2) (v := ?_) rfl (by kernel_rfl) (by kernel_rfl) (by kernel_rfl) (fun _ _ _ h => h) (Or.inl ⟨by rfl, ?_⟩) hS ?_; rotate_left; focus (intro w hw; clear hw; go_simp; try with_reducible rfl)
  refine wpAnyH_take (i := 5) (v := ?_) rfl (by kernel_rfl) (by kernel_rfl) (by kernel_rfl) (fun _ _ _ h => h) (Or.inl ⟨by rfl, ?_⟩) hS ?_; rotate_left; focus (intro w hw; clear hw; go_simp; try with_reducible rfl)
  refine wpAnyH_take (i := 1) (v := ?_) rfl (by kernel_rfl) (by kernel_rfl) (by kernel_rfl) (fun _ _ _ h => h) (Or.inl ⟨by rfl, ?_⟩) hS ?_; rotate_left; focus (intro w hw; obtain ⟨l0, l1, l2⟩ := hw; go_simp; try with_reducible rfl)
  refine wpAnyH_take (i := 3) (v := ?_) rfl (by kernel_rfl) (by kernel_rfl) (by kernel_rfl) (fun _ _ _ h => h) (Or.inl ⟨by rfl, ?_⟩) hS ?_; rotate_left; focus (intro w hw; obtain ⟨l0, l1, l2⟩ := hw; go_simp; try with_reducible rfl)
  refine wpAnyH_take (i := 6) (v := ?_) rfl (by kernel_rfl) (by kernel_rfl) (by kernel_rfl) (fun _ _ _ h => h) (Or.inl ⟨by rfl, ?_⟩) hS ?_; rotate_left; focus (intro w hw; obtain ⟨l0, l1, l2⟩ := hw; go_simp; try with_reducible rfl)
  refine wpAnyH_ready (rs := [4]) (by kernel_rfl) (by simp) ?_; refine AllReadyH.cons rfl (fun K hK => ?_) AllReadyH.nil; go_simp
  have hbA : Below V.heap.size V ((World.drew V).alloc (.cells #[] 101)) := bo_alloc (bo_drewN 1 (Below.refl _ _)) _
  have hoA : ((World.drew V).alloc (.cells #[] 101)).ownsRow V.heap.size 101 2 (.slice (some ⟨V.heap.size, 0, none⟩) 0 0) 0 [] := owns_lit (World.drew V) 101 2 0 #[] rfl (by omega)
  have hrA := (HR.out.new hbV).new hbA
  refine hK.out _ _ ⟨(HX.out.new hbA).cell (j := 0) rfl, (HX.out.new hbA).cell (j := 1) rfl, (HX.out.new hbA).cell (j := 2) rfl⟩ (fun hS => ?_)
  clear hK K
  refine wpAnyH_ready (rs := [7]) (by kernel_rfl) (by simp) ?_
  refine AllReadyH.cons rfl (fun K hK => ?_) AllReadyH.nil
  refine step_app _ (by rfl) _ _ 24 (by rfl) 101 (.agg #[.int .i64 0, .int .i64 0]) 2 16 Tryz.underlying24 (by kernel_rfl) rfl (by decide) V.heap.size _ 0 [] (by rfl) hoA _ d.es.length (ev d.es) (by rfl) hrA (ev_one _) (by omega) (by decide) hbA.size ?_
  intro ad5 cap5 w5 hown5 hgrow5 hat5
  have hb5 : Below V.heap.size V w5 := ⟨hgrow5.os.trans hbA.os, hgrow5.tape.trans hbA.tape, hgrow5.output.trans hbA.output, Nat.le_trans hbA.size hgrow5.size, fun k hk => (hgrow5.block k (Nat.lt_of_lt_of_le hk hbA.size) (fun e => absurd (show V.heap.size ≤ k from (hoA.lt k e.symm).1) (Nat.not_le_of_lt hk))).trans (hbA.block k hk)⟩
  refine hK.out _ _ ⟨(HX.out.new hb5).cell (j := 0) rfl, (HX.out.new hb5).cell (j := 1) rfl, (HX.out.new hb5).cell (j := 2) rfl⟩ (fun hS => ?_)
  clear hK K hat5 hgrow5 hoA hrA hbA
  rw [Nat.zero_add] at hown5 ⊢
  rw [List.nil_append] at hown5
  have hRR5 := HRR.out.new hb5
  have r0 := hRR5.cell (j := 0) rfl
  have r1 := hRR5.cell (j := 1) rfl
  have r2 := hRR5.cell (j := 2) rfl
  have r3 := hRR5.frozen 0
  have r4 := hRR5.frozen 1
  have r5 := hRR5.frozen 2
  have HO := hide hown5
  clear hown5 hRR5
  refine wpAnyH_take (i := 8) (v := ?_) rfl (by kernel_rfl) (by kernel_rfl) (by kernel_rfl) (fun _ _ _ h => h) (Or.inl ⟨by rfl, ?_⟩) hS ?_; rotate_left; focus (intro w hw; clear hw; go_simp; try with_reducible rfl)
  refine wpAnyH_ready (rs := [9]) (by kernel_rfl) (by simp) ?_; refine AllReadyH.cons rfl (fun K hK => ?_) AllReadyH.nil; go_simp
  have hcx : ∀ j u, ([.int .i64 d.lim, .int .i64 d.top, .slice ad d.es.length cap] : List Value)[j]? = some u → (((w5.setCell ⟨w.heap.size + 1, 0, none⟩ (.int .i64 d.lim)).setCell ⟨w.heap.size + 1, 1, none⟩ (.int .i64 d.top)).setCell ⟨w.heap.size + 1, 2, none⟩ (.slice ad5 d.es.length cap5)).cell? ⟨w.heap.size, j, none⟩ = some u := fun j u hu => ((((HX.out.new hb5).far ⟨w.heap.size + 1, 0, none⟩ (.int .i64 d.lim) (by simp)).far ⟨w.heap.size + 1, 1, none⟩ (.int .i64 d.top) (by simp)).far ⟨w.heap.size + 1, 2, none⟩ (.slice ad5 d.es.length cap5) (by simp)).cell hu
  refine hK.out _ _ ⟨hcx 0 _ rfl, hcx 1 _ rfl, hcx 2 _ rfl⟩ (fun _ => ?_)
  clear hK K
  refine wpAnyH_done (by kernel_rfl) ?_ _
  go_wp2_with fail
  refine bodyPost_ret (v := (.agg #[.int .i64 d.lim, .int .i64 d.top, .slice ad5 d.es.length cap5])) (by simp [results, Tryz.results112, go_sem, *]) rfl ?_
  have hov : ∀ q, (Value.slice ad5 d.es.length cap5).ownBlock = some q → w.heap.size + 2 ≤ q := fun q hq => by have := (HO.out.lt q hq).1; omega
  have hlt1 : w.heap.size + 1 < w.heap.size + 2 := by omega
  exact ⟨_, rfl, owns_base (owns_far (w.heap.size + 2) (owns_far (w.heap.size + 2) (owns_far (w.heap.size + 2) HO.out hov _ _ hlt1) hov _ _ hlt1) hov _ _ hlt1) (fun q hq => by have := hov q hq; omega), (((hbV.trans (hb5.mono hbV.size)).setCell (show w.heap.size ≤ w.heap.size + 1 by omega) _).setCell (show w.heap.size ≤ w.heap.size + 1 by omega) _).setCell (show w.heap.size ≤ w.heap.size + 1 by omega) _⟩
/-- A Registry in block g whose entries are owned, in a block apart from it. -/
structure RegAt (w : World) (g base : Nat) (d : RegistryD) : Prop where
  ex : ∃ ad cap, RowIs w g 26 [.int .i64 d.lim, .int .i64 d.top, .slice ad d.es.length cap] ∧ w.ownsRow base 101 2 (.slice ad d.es.length cap) d.es.length (ev d.es) ∧ (Value.slice ad d.es.length cap).ownBlock ≠ some g
theorem RegAt.new {w w' : World} {g base : Nat} {d : RegistryD} (h : RegAt w g base d) (hb : Below w.heap.size w w') : RegAt w' g base d := by
  obtain ⟨ad, cap, h1, h2, h3⟩ := h.ex
  exact ⟨ad, cap, h1.new hb, owns_new h2 hb, h3⟩
theorem ev_set (L : List EntryD) (k : Nat) (hk : k < L.length) (s : Int) : (ev L).set (k * 2 + 1) (.int .i64 s) = ev (L.set k ⟨L[k].id, s⟩) := flat_set EntryD.cs 2 (fun _ => rfl) L k hk 1 (by decide) (.int .i64 s) ⟨L[k].id, s⟩ rfl
end Go.Proofs.YtfmeinkhdgbgjaaGreat
