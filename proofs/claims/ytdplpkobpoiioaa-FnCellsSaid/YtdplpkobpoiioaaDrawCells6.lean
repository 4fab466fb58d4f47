/- What FnCells draws. -/
import Derived.Test.YtdplpkobpoiioaaDrawCells5
import Derived.Test.YtdplpkobpoiioaaOpenCode
import Derived.Test.YtdplpkobpoiioaaCellsOk2


namespace Go.Proofs.Ytdplpkobpoiioaa
open Go.RowKit
set_option linter.unusedSimpArgs false
set_option linter.unusedVariables false

theorem ReadM.turn {lo hi : Nat} {w w' : World} {m : Mm} (h : ReadM w m) (ht : Turn lo hi w w') (hk : ∀ u ∈ m.cv :: m.tv :: m.ths.map Th.sv, ∀ k, u.ownBlock = some k → k < lo ∨ hi ≤ k) : ReadM w' m :=
  ⟨h.cel.turn ht (hk _ (by simp)), ⟨h.ths.row.turn ht (hk _ (by simp)), fun t hm => (h.ths.st t hm).turn ht (hk t.sv (by simp only [List.mem_cons]; exact .inr (.inr (List.mem_map_of_mem hm))))⟩⟩

set_option maxHeartbeats 4000000 in
theorem drawPlayed (a : Option Addr) (len cap : Nat) (w : World) (hl : len ≤ 4096) (hcode : CodeAt w a len w.heap.size) :
    Calls Try.prog 10 #[.slice a len cap] w fun e w' => ∃ (m : Mm) (pv : Value) (L : List Int), e = .returned (.tuple #[.agg #[m.cv, m.tv], pv]) ∧ ReadM w' m ∧ Reads w' pv L.length 1 (iv L) ∧ L.length ≤ 201 ∧ Below w.heap.size w w' := by
  go_enter Try.func10, Try.ntmps10
  go_wp2_with fail
  refine (new1 a len cap _ hl (hcode.behind ((Below.refl _ _).alloc (Nat.le_refl _) _))).mono ?_; rintro x w1 ⟨g, rfl, hg, hc1, hb1⟩
  simp only [World.size_alloc] at hg hc1 hb1
  have hs1 := hb1.size
  simp only [World.size_alloc] at hs1
  have hg1 := hc1.lt
  go_wp2_with fail
  refine (drawAny g _ _ hc1).mono ?_; rintro x w2 ⟨m, rfl, hR, hO, hpl, hc2, hm2⟩
  have hs2 := hm2.size
  have hB1 : Below w.heap.size w w1 := ((Below.refl w.heap.size w).alloc (Nat.le_refl _) _).trans (hb1.mono (by omega))
  have hB2 : Below w.heap.size w w2 := hB1.trans (hm2.below (by omega) hB1.size)
  have rr : ∀ o, w2.cell? ⟨w.heap.size, o, none⟩ = (w.alloc (.cells #[.slice none 0 0, .slice none 0 0] 27)).cell? ⟨w.heap.size, o, none⟩ := fun o => (hm2.cell w.heap.size o (by omega) (by omega)).trans (hb1.cell (p := ⟨w.heap.size, o, none⟩) (by simp))
  have rff : ∀ o, w2.frozen? ⟨w.heap.size, o, none⟩ = (w.alloc (.cells #[.slice none 0 0, .slice none 0 0] 27)).frozen? ⟨w.heap.size, o, none⟩ := fun o => (hm2.frozen w.heap.size o (by omega) (by omega)).trans (hb1.frozen (p := ⟨w.heap.size, o, none⟩) (by simp))
  have r0 : w2.cell? ⟨w.heap.size, 0, none⟩ = some (.slice none 0 0) := by rw [rr]; simp [go_sem]
  have r1 : w2.cell? ⟨w.heap.size, 1, none⟩ = some (.slice none 0 0) := by rw [rr]; simp [go_sem]
  have rf0 : w2.frozen? ⟨w.heap.size, 0, none⟩ = false := by rw [rff]; simp [go_sem]
  have rf1 : w2.frozen? ⟨w.heap.size, 1, none⟩ = false := by rw [rff]; simp [go_sem]
  obtain ⟨cv, Cc, tvv, T⟩ := m
  obtain ⟨ad1, cap1, hcv, _⟩ := hR.cel.2
  obtain ⟨ad2, cap2, htv, _⟩ := hR.ths.row.2
  simp only at hcv htv
  subst hcv htv
  have HR := hide hR; have HPL := hide hpl; have HB2 := hide hB2; have HOO := hide hO
  clear rr rff hR hO hpl hb1 hm2 hc1 hcode
  have hc3 : Cur (w2.alloc (.cells #[.slice ad1 Cc.length cap1, .slice ad2 T.length cap2] 27)) g (w.heap.size + 1) := hc2.alloc _
  have hb3 : Below w2.heap.size w2 (w2.alloc (.cells #[.slice ad1 Cc.length cap1, .slice ad2 T.length cap2] 27)) := (Below.refl _ _).alloc (Nat.le_refl _) _
  have b0 : (w2.alloc (.cells #[.slice ad1 Cc.length cap1, .slice ad2 T.length cap2] 27)).cell? ⟨w2.heap.size, 0, none⟩ = some (.slice ad1 Cc.length cap1) := by simp [go_sem]
  have b1 : (w2.alloc (.cells #[.slice ad1 Cc.length cap1, .slice ad2 T.length cap2] 27)).cell? ⟨w2.heap.size, 1, none⟩ = some (.slice ad2 T.length cap2) := by simp [go_sem]
  have t0 := (hb3.cell (p := ⟨w.heap.size, 0, none⟩) (by show w.heap.size < w2.heap.size; omega)).trans r0
  have t1 := (hb3.cell (p := ⟨w.heap.size, 1, none⟩) (by show w.heap.size < w2.heap.size; omega)).trans r1
  have u0 := (hb3.frozen (p := ⟨w.heap.size, 0, none⟩) (by show w.heap.size < w2.heap.size; omega)).trans rf0
  have u1 := (hb3.frozen (p := ⟨w.heap.size, 1, none⟩) (by show w.heap.size < w2.heap.size; omega)).trans rf1
  have hs3 : (w2.alloc (.cells #[.slice ad1 Cc.length cap1, .slice ad2 T.length cap2] 27)).heap.size = w2.heap.size + 1 := by simp
  go_wp2_with fail
  generalize (w2.alloc (.cells #[.slice ad1 Cc.length cap1, .slice ad2 T.length cap2] 27)) = w3 at *
  clear r0 r1 rf0 rf1 hc2
  refine wp_region_any (by kernel_rfl) ?_
  change wpAny _ _ _ _ _ _ _ (World.drew _)
  have hcd : Cur (World.drew w3) g (w.heap.size + 1) := hc3.drew
  have bd0 : (World.drew w3).cell? ⟨w2.heap.size, 0, none⟩ = some (.slice ad1 Cc.length cap1) := b0
  have bd1 : (World.drew w3).cell? ⟨w2.heap.size, 1, none⟩ = some (.slice ad2 T.length cap2) := b1
  refine wpAny_take (i := 1) (v := ?_) rfl (by kernel_rfl) (by kernel_rfl) (by kernel_rfl) (fun _ _ _ h => h) (Or.inl ⟨by rfl, ?_⟩) ?_; rotate_left; focus (intro w; go_simp; try with_reducible rfl)
  refine wpAny_ready (rs := [0, 2]) (by kernel_rfl) (by simp) ?_
  refine AllReady.cons rfl (fun K hK => ?_) (AllReady.cons rfl (fun K hK => ?_) AllReady.nil)
  · go_simp
    refine hK _ _ ?_; clear hK K
    refine wpAny_ready (rs := [2]) (by kernel_rfl) (by simp) ?_
    refine AllReady.cons rfl (fun K hK => ?_) AllReady.nil
    go_simp
    refine (picks1 g _ _ hcd).mono ?_; rintro e w4 ⟨pv, L, rfl, hown, hL, hc4, hm4⟩
    obtain ⟨adp, capp, rfl, _, _⟩ := owns_form hown
    have hs4 : w3.heap.size ≤ w4.heap.size := hm4.size
    have v0 : w4.cell? ⟨w2.heap.size, 0, none⟩ = some (.slice ad1 Cc.length cap1) := (hm4.cell w2.heap.size 0 (by show w2.heap.size < w3.heap.size; omega) (by omega)).trans b0
    have v1 : w4.cell? ⟨w2.heap.size, 1, none⟩ = some (.slice ad2 T.length cap2) := (hm4.cell w2.heap.size 1 (by show w2.heap.size < w3.heap.size; omega) (by omega)).trans b1
    have y0 : w4.cell? ⟨w.heap.size, 0, none⟩ = some (.slice none 0 0) := (hm4.cell w.heap.size 0 (by show w.heap.size < w3.heap.size; omega) (by omega)).trans t0
    have y1 : w4.cell? ⟨w.heap.size, 1, none⟩ = some (.slice none 0 0) := (hm4.cell w.heap.size 1 (by show w.heap.size < w3.heap.size; omega) (by omega)).trans t1
    have yf0 : w4.frozen? ⟨w.heap.size, 0, none⟩ = false := (hm4.frozen w.heap.size 0 (by show w.heap.size < w3.heap.size; omega) (by omega)).trans u0
    have yf1 : w4.frozen? ⟨w.heap.size, 1, none⟩ = false := (hm4.frozen w.heap.size 1 (by show w.heap.size < w3.heap.size; omega) (by omega)).trans u1
    refine hK _ _ ?_; clear hK K
    refine wpAny_ready (rs := [3]) (by kernel_rfl) (by simp) ?_; refine AllReady.cons rfl (fun K hK => ?_) AllReady.nil; go_simp; refine hK _ _ ?_; clear hK K
    refine wpAny_ready (rs := [4]) (by kernel_rfl) (by simp) ?_; refine AllReady.cons rfl (fun K hK => ?_) AllReady.nil; go_simp; refine hK _ _ ?_; clear hK K
    refine wpAny_done (by kernel_rfl) ?_ _
    have hm34 : Moves g w3 w4 := ((Moves.refl g w3).drew).trans hm4
    have hT5 : Turn w.heap.size (w.heap.size + 1) w4 ((w4.setCell ⟨w.heap.size, 0, none⟩ (.slice ad1 Cc.length cap1)).setCell ⟨w.heap.size, 1, none⟩ (.slice ad2 T.length cap2)) := ((Turn.refl _ _ _).setCell _ (.inl (by simp))).setCell _ (.inl (by simp))
    have HR5 := hide (((HR.out.new hb3).turn hm34.turn (fun u hu k hk => .inr (by have := HPL.out u hu k hk; omega))).turn hT5 (fun u hu k hk => .inr (by have := HPL.out u hu k hk; omega)))
    have HB5 : Hid (Below w.heap.size w ((w4.setCell ⟨w.heap.size, 0, none⟩ (.slice ad1 Cc.length cap1)).setCell ⟨w.heap.size, 1, none⟩ (.slice ad2 T.length cap2))) := (((HB2.out.trans (hb3.mono (by omega))).trans (hm34.below (by omega) (by omega))).trans (hT5.below (Nat.le_refl _) (by omega)))
    have HP5 := hide ((reads_of_owns hown).turn hT5 (fun k hk => .inr (by have h := (hown.lt k hk).1; have h' : w3.heap.size ≤ k := h; omega)))
    clear hT5 hown
    go_wp2_with fail
    refine bodyPost_ret (v := .tuple #[.agg #[.slice ad1 Cc.length cap1, .slice ad2 T.length cap2], .slice adp L.length capp]) (by simp [results, Try.results10, go_sem, *]) rfl ?_
    exact ⟨⟨_, _, _, _⟩, _, L, rfl, HR5.out, HP5.out, hL, HB5.out⟩
  · go_simp
    refine (picks1 g _ _ hcd).mono ?_; rintro e w4 ⟨pv, L, rfl, hown, hL, hc4, hm4⟩
    obtain ⟨adp, capp, rfl, _, _⟩ := owns_form hown
    have hs4 : w3.heap.size ≤ w4.heap.size := hm4.size
    have v0 : w4.cell? ⟨w2.heap.size, 0, none⟩ = some (.slice ad1 Cc.length cap1) := (hm4.cell w2.heap.size 0 (by show w2.heap.size < w3.heap.size; omega) (by omega)).trans b0
    have v1 : w4.cell? ⟨w2.heap.size, 1, none⟩ = some (.slice ad2 T.length cap2) := (hm4.cell w2.heap.size 1 (by show w2.heap.size < w3.heap.size; omega) (by omega)).trans b1
    have y0 : w4.cell? ⟨w.heap.size, 0, none⟩ = some (.slice none 0 0) := (hm4.cell w.heap.size 0 (by show w.heap.size < w3.heap.size; omega) (by omega)).trans t0
    have y1 : w4.cell? ⟨w.heap.size, 1, none⟩ = some (.slice none 0 0) := (hm4.cell w.heap.size 1 (by show w.heap.size < w3.heap.size; omega) (by omega)).trans t1
    have yf0 : w4.frozen? ⟨w.heap.size, 0, none⟩ = false := (hm4.frozen w.heap.size 0 (by show w.heap.size < w3.heap.size; omega) (by omega)).trans u0
    have yf1 : w4.frozen? ⟨w.heap.size, 1, none⟩ = false := (hm4.frozen w.heap.size 1 (by show w.heap.size < w3.heap.size; omega) (by omega)).trans u1
    refine hK _ _ ?_; clear hK K
    refine wpAny_ready (rs := [0]) (by kernel_rfl) (by simp) ?_; refine AllReady.cons rfl (fun K hK => ?_) AllReady.nil; go_simp; refine hK _ _ ?_; clear hK K
    refine wpAny_ready (rs := [3]) (by kernel_rfl) (by simp) ?_; refine AllReady.cons rfl (fun K hK => ?_) AllReady.nil; go_simp; refine hK _ _ ?_; clear hK K
    refine wpAny_ready (rs := [4]) (by kernel_rfl) (by simp) ?_; refine AllReady.cons rfl (fun K hK => ?_) AllReady.nil; go_simp; refine hK _ _ ?_; clear hK K
    refine wpAny_done (by kernel_rfl) ?_ _
    have hm34 : Moves g w3 w4 := ((Moves.refl g w3).drew).trans hm4
    have hT5 : Turn w.heap.size (w.heap.size + 1) w4 ((w4.setCell ⟨w.heap.size, 0, none⟩ (.slice ad1 Cc.length cap1)).setCell ⟨w.heap.size, 1, none⟩ (.slice ad2 T.length cap2)) := ((Turn.refl _ _ _).setCell _ (.inl (by simp))).setCell _ (.inl (by simp))
    have HR5 := hide (((HR.out.new hb3).turn hm34.turn (fun u hu k hk => .inr (by have := HPL.out u hu k hk; omega))).turn hT5 (fun u hu k hk => .inr (by have := HPL.out u hu k hk; omega)))
    have HB5 : Hid (Below w.heap.size w ((w4.setCell ⟨w.heap.size, 0, none⟩ (.slice ad1 Cc.length cap1)).setCell ⟨w.heap.size, 1, none⟩ (.slice ad2 T.length cap2))) := (((HB2.out.trans (hb3.mono (by omega))).trans (hm34.below (by omega) (by omega))).trans (hT5.below (Nat.le_refl _) (by omega)))
    have HP5 := hide ((reads_of_owns hown).turn hT5 (fun k hk => .inr (by have h := (hown.lt k hk).1; have h' : w3.heap.size ≤ k := h; omega)))
    clear hT5 hown
    go_wp2_with fail
    refine bodyPost_ret (v := .tuple #[.agg #[.slice ad1 Cc.length cap1, .slice ad2 T.length cap2], .slice adp L.length capp]) (by simp [results, Try.results10, go_sem, *]) rfl ?_
    exact ⟨⟨_, _, _, _⟩, _, L, rfl, HR5.out, HP5.out, hL, HB5.out⟩

set_option maxHeartbeats 4000000 in
theorem drawPicked (a : Option Addr) (len cap : Nat) (w : World) (hl : len ≤ 4096) (hcode : CodeAt w a len w.heap.size) :
    Calls Try.prog 12 #[.slice a len cap] w fun e w' => ∃ (m : Mm) (i : Int), e = .returned (.tuple #[.agg #[m.cv, m.tv], .int .i64 i]) ∧ ReadM w' m ∧ Below w.heap.size w w' := by
  go_enter Try.func12, Try.ntmps12
  go_wp2_with fail
  refine (new1 a len cap _ hl (hcode.behind ((Below.refl _ _).alloc (Nat.le_refl _) _))).mono ?_; rintro x w1 ⟨g, rfl, hg, hc1, hb1⟩
  simp only [World.size_alloc] at hg hc1 hb1
  have hs1 := hb1.size
  simp only [World.size_alloc] at hs1
  have hg1 := hc1.lt
  go_wp2_with fail
  refine (drawAny g _ _ hc1).mono ?_; rintro x w2 ⟨m, rfl, hR, hO, hpl, hc2, hm2⟩
  have hs2 := hm2.size
  have hB1 : Below w.heap.size w w1 := ((Below.refl w.heap.size w).alloc (Nat.le_refl _) _).trans (hb1.mono (by omega))
  have hB2 : Below w.heap.size w w2 := hB1.trans (hm2.below (by omega) hB1.size)
  have rr : ∀ o, w2.cell? ⟨w.heap.size, o, none⟩ = (w.alloc (.cells #[.slice none 0 0, .slice none 0 0] 27)).cell? ⟨w.heap.size, o, none⟩ := fun o => (hm2.cell w.heap.size o (by omega) (by omega)).trans (hb1.cell (p := ⟨w.heap.size, o, none⟩) (by simp))
  have rff : ∀ o, w2.frozen? ⟨w.heap.size, o, none⟩ = (w.alloc (.cells #[.slice none 0 0, .slice none 0 0] 27)).frozen? ⟨w.heap.size, o, none⟩ := fun o => (hm2.frozen w.heap.size o (by omega) (by omega)).trans (hb1.frozen (p := ⟨w.heap.size, o, none⟩) (by simp))
  have r0 : w2.cell? ⟨w.heap.size, 0, none⟩ = some (.slice none 0 0) := by rw [rr]; simp [go_sem]
  have r1 : w2.cell? ⟨w.heap.size, 1, none⟩ = some (.slice none 0 0) := by rw [rr]; simp [go_sem]
  have rf0 : w2.frozen? ⟨w.heap.size, 0, none⟩ = false := by rw [rff]; simp [go_sem]
  have rf1 : w2.frozen? ⟨w.heap.size, 1, none⟩ = false := by rw [rff]; simp [go_sem]
  obtain ⟨cv, Cc, tvv, T⟩ := m
  obtain ⟨ad1, cap1, hcv, _⟩ := hR.cel.2
  obtain ⟨ad2, cap2, htv, _⟩ := hR.ths.row.2
  simp only at hcv htv
  subst hcv htv
  have HR := hide hR; have HPL := hide hpl; have HB2 := hide hB2; have HOO := hide hO
  clear rr rff hR hO hpl hb1 hm2 hc1 hcode
  have hc3 : Cur (w2.alloc (.cells #[.slice ad1 Cc.length cap1, .slice ad2 T.length cap2] 27)) g (w.heap.size + 1) := hc2.alloc _
  have hb3 : Below w2.heap.size w2 (w2.alloc (.cells #[.slice ad1 Cc.length cap1, .slice ad2 T.length cap2] 27)) := (Below.refl _ _).alloc (Nat.le_refl _) _
  have b0 : (w2.alloc (.cells #[.slice ad1 Cc.length cap1, .slice ad2 T.length cap2] 27)).cell? ⟨w2.heap.size, 0, none⟩ = some (.slice ad1 Cc.length cap1) := by simp [go_sem]
  have b1 : (w2.alloc (.cells #[.slice ad1 Cc.length cap1, .slice ad2 T.length cap2] 27)).cell? ⟨w2.heap.size, 1, none⟩ = some (.slice ad2 T.length cap2) := by simp [go_sem]
  have t0 := (hb3.cell (p := ⟨w.heap.size, 0, none⟩) (by show w.heap.size < w2.heap.size; omega)).trans r0
  have t1 := (hb3.cell (p := ⟨w.heap.size, 1, none⟩) (by show w.heap.size < w2.heap.size; omega)).trans r1
  have u0 := (hb3.frozen (p := ⟨w.heap.size, 0, none⟩) (by show w.heap.size < w2.heap.size; omega)).trans rf0
  have u1 := (hb3.frozen (p := ⟨w.heap.size, 1, none⟩) (by show w.heap.size < w2.heap.size; omega)).trans rf1
  have hs3 : (w2.alloc (.cells #[.slice ad1 Cc.length cap1, .slice ad2 T.length cap2] 27)).heap.size = w2.heap.size + 1 := by simp
  go_wp2_with fail
  generalize (w2.alloc (.cells #[.slice ad1 Cc.length cap1, .slice ad2 T.length cap2] 27)) = w3 at *
  clear r0 r1 rf0 rf1 hc2
  refine wp_region_any (by kernel_rfl) ?_
  change wpAny _ _ _ _ _ _ _ (World.drew _)
  have hcd : Cur (World.drew w3) g (w.heap.size + 1) := hc3.drew
  have bd0 : (World.drew w3).cell? ⟨w2.heap.size, 0, none⟩ = some (.slice ad1 Cc.length cap1) := b0
  have bd1 : (World.drew w3).cell? ⟨w2.heap.size, 1, none⟩ = some (.slice ad2 T.length cap2) := b1
  refine wpAny_take (i := 1) (v := ?_) rfl (by kernel_rfl) (by kernel_rfl) (by kernel_rfl) (fun _ _ _ h => h) (Or.inl ⟨by rfl, ?_⟩) ?_; rotate_left; focus (intro w; go_simp; try with_reducible rfl)
  refine wpAny_ready (rs := [0, 2]) (by kernel_rfl) (by simp) ?_
  refine AllReady.cons rfl (fun K hK => ?_) (AllReady.cons rfl (fun K hK => ?_) AllReady.nil)
  · go_simp
    refine hK _ _ ?_; clear hK K
    refine wpAny_ready (rs := [2]) (by kernel_rfl) (by simp) ?_
    refine AllReady.cons rfl (fun K hK => ?_) AllReady.nil
    go_simp
    refine (from1 g _ (-1) 7 _ hcd (by omega) (by omega) (by omega)).mono ?_; rintro e w4 ⟨i, i0, i1, rfl, hc4, hm4⟩
    have hs4 : w3.heap.size ≤ w4.heap.size := hm4.size
    have v0 : w4.cell? ⟨w2.heap.size, 0, none⟩ = some (.slice ad1 Cc.length cap1) := (hm4.cell w2.heap.size 0 (by show w2.heap.size < w3.heap.size; omega) (by omega)).trans b0
    have v1 : w4.cell? ⟨w2.heap.size, 1, none⟩ = some (.slice ad2 T.length cap2) := (hm4.cell w2.heap.size 1 (by show w2.heap.size < w3.heap.size; omega) (by omega)).trans b1
    have y0 : w4.cell? ⟨w.heap.size, 0, none⟩ = some (.slice none 0 0) := (hm4.cell w.heap.size 0 (by show w.heap.size < w3.heap.size; omega) (by omega)).trans t0
    have y1 : w4.cell? ⟨w.heap.size, 1, none⟩ = some (.slice none 0 0) := (hm4.cell w.heap.size 1 (by show w.heap.size < w3.heap.size; omega) (by omega)).trans t1
    have yf0 : w4.frozen? ⟨w.heap.size, 0, none⟩ = false := (hm4.frozen w.heap.size 0 (by show w.heap.size < w3.heap.size; omega) (by omega)).trans u0
    have yf1 : w4.frozen? ⟨w.heap.size, 1, none⟩ = false := (hm4.frozen w.heap.size 1 (by show w.heap.size < w3.heap.size; omega) (by omega)).trans u1
    refine hK _ _ ?_; clear hK K
    refine wpAny_ready (rs := [3]) (by kernel_rfl) (by simp) ?_; refine AllReady.cons rfl (fun K hK => ?_) AllReady.nil; go_simp; refine hK _ _ ?_; clear hK K
    refine wpAny_ready (rs := [4]) (by kernel_rfl) (by simp) ?_; refine AllReady.cons rfl (fun K hK => ?_) AllReady.nil; go_simp; refine hK _ _ ?_; clear hK K
    refine wpAny_done (by kernel_rfl) ?_ _
    have hm34 : Moves g w3 w4 := ((Moves.refl g w3).drew).trans hm4
    have hT5 : Turn w.heap.size (w.heap.size + 1) w4 ((w4.setCell ⟨w.heap.size, 0, none⟩ (.slice ad1 Cc.length cap1)).setCell ⟨w.heap.size, 1, none⟩ (.slice ad2 T.length cap2)) := ((Turn.refl _ _ _).setCell _ (.inl (by simp))).setCell _ (.inl (by simp))
    have HR5 := hide (((HR.out.new hb3).turn hm34.turn (fun u hu k hk => .inr (by have := HPL.out u hu k hk; omega))).turn hT5 (fun u hu k hk => .inr (by have := HPL.out u hu k hk; omega)))
    have HB5 : Hid (Below w.heap.size w ((w4.setCell ⟨w.heap.size, 0, none⟩ (.slice ad1 Cc.length cap1)).setCell ⟨w.heap.size, 1, none⟩ (.slice ad2 T.length cap2))) := (((HB2.out.trans (hb3.mono (by omega))).trans (hm34.below (by omega) (by omega))).trans (hT5.below (Nat.le_refl _) (by omega)))
    clear hT5
    go_wp2_with fail
    refine bodyPost_ret (v := .tuple #[.agg #[.slice ad1 Cc.length cap1, .slice ad2 T.length cap2], .int .i64 i]) (by simp [results, Try.results12, go_sem, *]) rfl ?_
    exact ⟨⟨_, _, _, _⟩, i, rfl, HR5.out, HB5.out⟩
  · go_simp
    refine (from1 g _ (-1) 7 _ hcd (by omega) (by omega) (by omega)).mono ?_; rintro e w4 ⟨i, i0, i1, rfl, hc4, hm4⟩
    have hs4 : w3.heap.size ≤ w4.heap.size := hm4.size
    have v0 : w4.cell? ⟨w2.heap.size, 0, none⟩ = some (.slice ad1 Cc.length cap1) := (hm4.cell w2.heap.size 0 (by show w2.heap.size < w3.heap.size; omega) (by omega)).trans b0
    have v1 : w4.cell? ⟨w2.heap.size, 1, none⟩ = some (.slice ad2 T.length cap2) := (hm4.cell w2.heap.size 1 (by show w2.heap.size < w3.heap.size; omega) (by omega)).trans b1
    have y0 : w4.cell? ⟨w.heap.size, 0, none⟩ = some (.slice none 0 0) := (hm4.cell w.heap.size 0 (by show w.heap.size < w3.heap.size; omega) (by omega)).trans t0
    have y1 : w4.cell? ⟨w.heap.size, 1, none⟩ = some (.slice none 0 0) := (hm4.cell w.heap.size 1 (by show w.heap.size < w3.heap.size; omega) (by omega)).trans t1
    have yf0 : w4.frozen? ⟨w.heap.size, 0, none⟩ = false := (hm4.frozen w.heap.size 0 (by show w.heap.size < w3.heap.size; omega) (by omega)).trans u0
    have yf1 : w4.frozen? ⟨w.heap.size, 1, none⟩ = false := (hm4.frozen w.heap.size 1 (by show w.heap.size < w3.heap.size; omega) (by omega)).trans u1
    refine hK _ _ ?_; clear hK K
    refine wpAny_ready (rs := [0]) (by kernel_rfl) (by simp) ?_; refine AllReady.cons rfl (fun K hK => ?_) AllReady.nil; go_simp; refine hK _ _ ?_; clear hK K
    refine wpAny_ready (rs := [3]) (by kernel_rfl) (by simp) ?_; refine AllReady.cons rfl (fun K hK => ?_) AllReady.nil; go_simp; refine hK _ _ ?_; clear hK K
    refine wpAny_ready (rs := [4]) (by kernel_rfl) (by simp) ?_; refine AllReady.cons rfl (fun K hK => ?_) AllReady.nil; go_simp; refine hK _ _ ?_; clear hK K
    refine wpAny_done (by kernel_rfl) ?_ _
    have hm34 : Moves g w3 w4 := ((Moves.refl g w3).drew).trans hm4
    have hT5 : Turn w.heap.size (w.heap.size + 1) w4 ((w4.setCell ⟨w.heap.size, 0, none⟩ (.slice ad1 Cc.length cap1)).setCell ⟨w.heap.size, 1, none⟩ (.slice ad2 T.length cap2)) := ((Turn.refl _ _ _).setCell _ (.inl (by simp))).setCell _ (.inl (by simp))
    have HR5 := hide (((HR.out.new hb3).turn hm34.turn (fun u hu k hk => .inr (by have := HPL.out u hu k hk; omega))).turn hT5 (fun u hu k hk => .inr (by have := HPL.out u hu k hk; omega)))
    have HB5 : Hid (Below w.heap.size w ((w4.setCell ⟨w.heap.size, 0, none⟩ (.slice ad1 Cc.length cap1)).setCell ⟨w.heap.size, 1, none⟩ (.slice ad2 T.length cap2))) := (((HB2.out.trans (hb3.mono (by omega))).trans (hm34.below (by omega) (by omega))).trans (hT5.below (Nat.le_refl _) (by omega)))
    clear hT5
    go_wp2_with fail
    refine bodyPost_ret (v := .tuple #[.agg #[.slice ad1 Cc.length cap1, .slice ad2 T.length cap2], .int .i64 i]) (by simp [results, Try.results12, go_sem, *]) rfl ?_
    exact ⟨⟨_, _, _, _⟩, i, rfl, HR5.out, HB5.out⟩

set_option maxHeartbeats 4000000 in
theorem drawOk (a : Option Addr) (len cap : Nat) (w : World) (hl : len ≤ 4096) (hcode : CodeAt w a len w.heap.size) :
    Calls Try.prog 41 #[.slice a len cap] w fun e w' => ∃ m : Mm, e = .returned (.agg #[m.cv, m.tv]) ∧ ReadM w' m ∧ (∀ u ∈ m.cv :: m.tv :: m.ths.map Th.sv, ∀ k, u.ownBlock = some k → w.heap.size ≤ k) ∧ Below w.heap.size w w' := by
  go_enter Try.func41, Try.ntmps41
  go_wp2_with fail
  refine (new1 a len cap _ hl (hcode.behind ((Below.refl _ _).alloc (Nat.le_refl _) _))).mono ?_; rintro x w1 ⟨g, rfl, hg, hc1, hb1⟩
  simp only [World.size_alloc] at hg hc1 hb1
  have hs1 := hb1.size
  simp only [World.size_alloc] at hs1
  have hg1 := hc1.lt
  go_wp2_with fail
  refine (drawAny g _ _ hc1).mono ?_; rintro x w2 ⟨m, rfl, hR, hO, hpl, hc2, hm2⟩
  have hs2 := hm2.size
  have hB1 : Below w.heap.size w w1 := ((Below.refl w.heap.size w).alloc (Nat.le_refl _) _).trans (hb1.mono (by omega))
  have hB2 : Below w.heap.size w w2 := hB1.trans (hm2.below (by omega) hB1.size)
  have rr : ∀ o, w2.cell? ⟨w.heap.size, o, none⟩ = (w.alloc (.cells #[.slice none 0 0, .slice none 0 0] 27)).cell? ⟨w.heap.size, o, none⟩ := fun o => (hm2.cell w.heap.size o (by omega) (by omega)).trans (hb1.cell (p := ⟨w.heap.size, o, none⟩) (by simp))
  have rff : ∀ o, w2.frozen? ⟨w.heap.size, o, none⟩ = (w.alloc (.cells #[.slice none 0 0, .slice none 0 0] 27)).frozen? ⟨w.heap.size, o, none⟩ := fun o => (hm2.frozen w.heap.size o (by omega) (by omega)).trans (hb1.frozen (p := ⟨w.heap.size, o, none⟩) (by simp))
  have r0 : w2.cell? ⟨w.heap.size, 0, none⟩ = some (.slice none 0 0) := by rw [rr]; simp [go_sem]
  have r1 : w2.cell? ⟨w.heap.size, 1, none⟩ = some (.slice none 0 0) := by rw [rr]; simp [go_sem]
  have rf0 : w2.frozen? ⟨w.heap.size, 0, none⟩ = false := by rw [rff]; simp [go_sem]
  have rf1 : w2.frozen? ⟨w.heap.size, 1, none⟩ = false := by rw [rff]; simp [go_sem]
  obtain ⟨cv, Cc, tvv, T⟩ := m
  obtain ⟨ad1, cap1, hcv, _⟩ := hR.cel.2
  obtain ⟨ad2, cap2, htv, _⟩ := hR.ths.row.2
  simp only at hcv htv
  subst hcv htv
  have HR := hide hR; have HPL := hide hpl; have HB2 := hide hB2; have HOO := hide hO
  clear rr rff hR hO hpl hb1 hm2 hc1 hcode
  have hT5 : Turn w.heap.size (w.heap.size + 1) w2 ((w2.setCell ⟨w.heap.size, 0, none⟩ (.slice ad1 Cc.length cap1)).setCell ⟨w.heap.size, 1, none⟩ (.slice ad2 T.length cap2)) := ((Turn.refl _ _ _).setCell _ (.inl (by simp))).setCell _ (.inl (by simp))
  have HR5 := hide (HR.out.turn hT5 (fun u hu k hk => .inr (by have := HPL.out u hu k hk; omega)))
  have HB5 : Hid (Below w.heap.size w ((w2.setCell ⟨w.heap.size, 0, none⟩ (.slice ad1 Cc.length cap1)).setCell ⟨w.heap.size, 1, none⟩ (.slice ad2 T.length cap2))) := HB2.out.trans (hT5.below (Nat.le_refl _) (by omega))
  clear hT5
  go_wp2_with fail
  refine bodyPost_ret (v := .agg #[.slice ad1 Cc.length cap1, .slice ad2 T.length cap2]) (by simp [results, Try.results41, go_sem, *]) rfl ?_
  exact ⟨⟨_, _, _, _⟩, rfl, HR5.out, fun u hu k hk => by have := HPL.out u hu k hk; omega, HB5.out⟩

set_option maxHeartbeats 1000000 in
theorem drawWins (a : Option Addr) (len cap : Nat) (w : World) (hl : len ≤ 4096) (hcode : CodeAt w a len w.heap.size) :
    Calls Try.prog 14 #[.slice a len cap] w fun e w' => ∃ m : Mm, e = .returned (.agg #[m.cv, m.tv]) ∧ ReadM w' m ∧ Below w.heap.size w w' := by
  go_enter Try.func14, Try.ntmps14
  go_wp2_with fail
  refine (drawOk a len cap _ hl (hcode.behind ((Below.refl _ _).alloc (Nat.le_refl _) _))).mono ?_; rintro x w2 ⟨m, rfl, hR, hpl, hb1⟩
  simp only [World.size_alloc] at hpl hb1
  have hs2 := hb1.size
  simp only [World.size_alloc] at hs2
  have hB2 : Below w.heap.size w w2 := ((Below.refl w.heap.size w).alloc (Nat.le_refl _) _).trans (hb1.mono (by omega))
  have r0 : w2.cell? ⟨w.heap.size, 0, none⟩ = some (.slice none 0 0) := (hb1.cell (p := ⟨w.heap.size, 0, none⟩) (by simp)).trans (by simp [go_sem])
  have r1 : w2.cell? ⟨w.heap.size, 1, none⟩ = some (.slice none 0 0) := (hb1.cell (p := ⟨w.heap.size, 1, none⟩) (by simp)).trans (by simp [go_sem])
  have rf0 : w2.frozen? ⟨w.heap.size, 0, none⟩ = false := (hb1.frozen (p := ⟨w.heap.size, 0, none⟩) (by simp)).trans (by simp [go_sem])
  have rf1 : w2.frozen? ⟨w.heap.size, 1, none⟩ = false := (hb1.frozen (p := ⟨w.heap.size, 1, none⟩) (by simp)).trans (by simp [go_sem])
  obtain ⟨cv, Cc, tvv, T⟩ := m
  obtain ⟨ad1, cap1, hcv, _⟩ := hR.cel.2
  obtain ⟨ad2, cap2, htv, _⟩ := hR.ths.row.2
  simp only at hcv htv
  subst hcv htv
  have hT5 : Turn w.heap.size (w.heap.size + 1) w2 ((w2.setCell ⟨w.heap.size, 0, none⟩ (.slice ad1 Cc.length cap1)).setCell ⟨w.heap.size, 1, none⟩ (.slice ad2 T.length cap2)) := ((Turn.refl _ _ _).setCell _ (.inl (by simp))).setCell _ (.inl (by simp))
  have HR5 := hide (hR.turn hT5 (fun u hu k hk => .inr (hpl u hu k hk)))
  have HB5 : Hid (Below w.heap.size w ((w2.setCell ⟨w.heap.size, 0, none⟩ (.slice ad1 Cc.length cap1)).setCell ⟨w.heap.size, 1, none⟩ (.slice ad2 T.length cap2))) := hB2.trans (hT5.below (Nat.le_refl _) (by omega))
  clear hT5 hR hpl hb1 hcode
  go_wp2_with fail
  refine bodyPost_ret (v := .agg #[.slice ad1 Cc.length cap1, .slice ad2 T.length cap2]) (by simp [results, Try.results14, go_sem, *]) rfl ?_
  exact ⟨⟨_, _, _, _⟩, rfl, HR5.out, HB5.out⟩
end Go.Proofs.Ytdplpkobpoiioaa
