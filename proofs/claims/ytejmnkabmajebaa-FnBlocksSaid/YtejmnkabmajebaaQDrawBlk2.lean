/- What the laws of blocks draw: lists, a list and a Name, a table and a list. -/
import Derived.Test.YtejmnkabmajebaaQDrawBlk1
import Derived.Test.YtejmnkabmajebaaQDrawTabs
namespace Go.Proofs.Ytejmnkabmajebaa
open Go.RowKit
set_option maxRecDepth 100000
set_option linter.unusedSimpArgs false
set_option linter.unusedVariables false

set_option maxHeartbeats 1000000 in
theorem drawPlain (a : Option Addr) (len cap : Nat) (w : World) (hl : len ≤ 4096) (hcode : CodeAt w a len w.heap.size) :
    Calls Try.prog 14 #[.slice a len cap] w fun e w' => ∃ (v : Value) (l : List Fd), e = .returned v ∧ Reads w' v l.length 2 (fv l) ∧ (∀ f ∈ l, f.small) ∧ l.length ≤ 21 ∧ Below w.heap.size w w' := by
  go_enter Try.func14, Try.ntmps14
  go_wp2_with fail
  refine (new1 a len cap _ hl hcode).mono ?_; rintro x w1 ⟨g, rfl, hg, hc1, hb1⟩
  go_wp2_with fail
  refine (drawList g _ _ hc1).mono ?_; rintro x w2 ⟨v, l, rfl, ho, hsm, h21, hc2, hm2⟩
  obtain ⟨la, lp, rfl, _⟩ := owns_form ho
  have HB := hide (hb1.trans (hm2.below hg hb1.size))
  have HO := hide (reads_of_owns ho); have HSM := hide hsm
  clear ho hsm hb1 hm2
  go_wp2_with fail
  go_ret
  first | exact ⟨_, l, rfl, HO.out, HSM.out, h21, HB.out⟩ | exact ⟨_, rfl, l, HO.out, HSM.out, h21, HB.out⟩

set_option maxHeartbeats 2000000 in
theorem drawFieldOf (a : Option Addr) (len cap : Nat) (w : World) (hl : len ≤ 4096) (hcode : CodeAt w a len w.heap.size) :
    Calls Try.prog 15 #[.slice a len cap] w fun e w' => ∃ (v : Value) (l : List Fd) (nm : ByteArray), e = .returned (.tuple #[v, .string nm]) ∧ Reads w' v l.length 2 (fv l) ∧ (∀ f ∈ l, f.small) ∧ l.length ≤ 21 ∧ Below w.heap.size w w' := by
  go_enter Try.func15, Try.ntmps15
  go_wp2_with fail
  refine (new1 a len cap _ hl hcode).mono ?_; rintro x w1 ⟨g, rfl, hg, hc1, hb1⟩
  go_wp2_with fail
  refine (drawList g _ _ hc1).mono ?_; rintro x w2 ⟨v, l, rfl, ho, hsm, h21, hc2, hm2⟩
  obtain ⟨la, lp, rfl, _⟩ := owns_form ho
  have HB := hide (hb1.trans (hm2.below hg hb1.size))
  have hgw := hc1.lt
  have hsz := hm2.size
  have hsz1 := hb1.size
  have HO := hide ho; have HSM := hide hsm
  clear ho hsm hb1 hm2 hc1
  go_upto_region 3 with fail
  obtain ⟨OB, hOB⟩ : ∃ O : Obj, O = .cells #[.string ⟨#[116, 111]⟩, .string ⟨#[116, 111, 107, 101, 110]⟩, .string ⟨#[120]⟩] 9 := ⟨_, rfl⟩
  go_wp2_with fail
  refine wp_region_any (by kernel_rfl) ?_; change wpAny _ _ _ _ _ _ _ (World.drew _)
  refine wpAny_take (i := 0) (v := ?_) rfl (by kernel_rfl) (by kernel_rfl) (by kernel_rfl) (fun _ _ _ h => h) (Or.inl ⟨by rfl, ?_⟩) ?_; rotate_left; focus (intro w; go_simp; try with_reducible rfl)
  refine wpAny_take (i := 2) (v := ?_) rfl (by kernel_rfl) (by kernel_rfl) (by kernel_rfl) (fun _ _ _ h => h) (Or.inl ⟨by rfl, ?_⟩) ?_; rotate_left; focus (intro w; go_simp; try with_reducible rfl)
  refine wpAny_ready (rs := [1, 3]) (by kernel_rfl) (by simp) ?_; refine AllReady.cons rfl (fun K hK => ?_) (AllReady.cons rfl (fun K hK => ?_) AllReady.nil)
  · go_simp; refine hK _ _ ?_; clear hK K
    have hX : Below w2.heap.size w2 (World.drew (w2.alloc (.cells #[.string ⟨#[116, 111]⟩, .string ⟨#[116, 111, 107, 101, 110]⟩, .string ⟨#[120]⟩] 9))) := Below.drew (bo_alloc (Below.refl _ _) _)
    have hRow : RowIs (World.drew (w2.alloc (.cells #[.string ⟨#[116, 111]⟩, .string ⟨#[116, 111, 107, 101, 110]⟩, .string ⟨#[120]⟩] 9))) w2.heap.size 9 [.string ⟨#[116, 111]⟩, .string ⟨#[116, 111, 107, 101, 110]⟩, .string ⟨#[120]⟩] := (rowIs_new w2 9 _).kept rfl
    have hcX := hc2.below hX
    have hoX := owns_new HO.out hX
    have hBX := bchain HB.out hX
    have hsX := hX.size
    clear HO HB hc2 hX
    refine wpAny_ready (rs := [3]) (by kernel_rfl) (by simp) ?_; refine AllReady.cons rfl (fun K hK => ?_) AllReady.nil
    go_simp
    refine (below1 g _ 3 _ hcX (by omega)).mono ?_; rintro e w5 ⟨z, z0, z1, _, rfl, hc5, hm5⟩
    refine hK _ _ ?_; clear hK K
    have z3 := z1 (by omega)
    have hr5 := hRow.moves hm5 (by omega)
    have HO5 := hide (reads_of_owns (owns_moves hoX hm5 hgw))
    have HB5 := hide (hBX.trans (hm5.below (by omega) (by omega)))
    have k0 := hr5.cell (j := 0) rfl
    have k1 := hr5.cell (j := 1) rfl
    have k2 := hr5.cell (j := 2) rfl
    clear hRow hcX hoX hBX hm5 hr5
    have hz : z = 0 ∨ z = 1 ∨ z = 2 := by omega
    rcases hz with rfl | rfl | rfl
    · refine wpAny_take (i := 6) (v := ?_) rfl (by kernel_rfl) (by kernel_rfl) (by kernel_rfl) (fun _ _ _ h => h) (Or.inl ⟨by rfl, ?_⟩) ?_; rotate_left; focus (intro w; go_simp; try with_reducible rfl)
      refine wpAny_ready (rs := [4]) (by kernel_rfl) (by simp) ?_; refine AllReady.cons rfl (fun K hK => ?_) AllReady.nil
      go_simp; refine hK _ _ ?_; clear hK K
      refine wpAny_ready (rs := [5]) (by kernel_rfl) (by simp) ?_; refine AllReady.cons rfl (fun K hK => ?_) AllReady.nil
      go_simp; refine hK _ _ ?_; clear hK K
      refine wpAny_take (i := 7) (v := ?_) rfl (by kernel_rfl) (by kernel_rfl) (by kernel_rfl) (fun _ _ _ h => h) (Or.inl ⟨by rfl, ?_⟩) ?_; rotate_left; focus (intro w; go_simp; try with_reducible rfl)
      refine wpAny_done (by kernel_rfl) ?_ _
      go_wp2_with fail
      go_ret2
      first | exact ⟨_, ⟨_, rfl⟩, l, HO5.out, HSM.out, h21, HB5.out⟩ | exact ⟨_, l, _, rfl, HO5.out, HSM.out, h21, HB5.out⟩
    · refine wpAny_take (i := 6) (v := ?_) rfl (by kernel_rfl) (by kernel_rfl) (by kernel_rfl) (fun _ _ _ h => h) (Or.inl ⟨by rfl, ?_⟩) ?_; rotate_left; focus (intro w; go_simp; try with_reducible rfl)
      refine wpAny_ready (rs := [4]) (by kernel_rfl) (by simp) ?_; refine AllReady.cons rfl (fun K hK => ?_) AllReady.nil
      go_simp; refine hK _ _ ?_; clear hK K
      refine wpAny_ready (rs := [5]) (by kernel_rfl) (by simp) ?_; refine AllReady.cons rfl (fun K hK => ?_) AllReady.nil
      go_simp; refine hK _ _ ?_; clear hK K
      refine wpAny_take (i := 7) (v := ?_) rfl (by kernel_rfl) (by kernel_rfl) (by kernel_rfl) (fun _ _ _ h => h) (Or.inl ⟨by rfl, ?_⟩) ?_; rotate_left; focus (intro w; go_simp; try with_reducible rfl)
      refine wpAny_done (by kernel_rfl) ?_ _
      go_wp2_with fail
      go_ret2
      first | exact ⟨_, ⟨_, rfl⟩, l, HO5.out, HSM.out, h21, HB5.out⟩ | exact ⟨_, l, _, rfl, HO5.out, HSM.out, h21, HB5.out⟩
    · refine wpAny_take (i := 6) (v := ?_) rfl (by kernel_rfl) (by kernel_rfl) (by kernel_rfl) (fun _ _ _ h => h) (Or.inl ⟨by rfl, ?_⟩) ?_; rotate_left; focus (intro w; go_simp; try with_reducible rfl)
      refine wpAny_ready (rs := [4]) (by kernel_rfl) (by simp) ?_; refine AllReady.cons rfl (fun K hK => ?_) AllReady.nil
      go_simp; refine hK _ _ ?_; clear hK K
      refine wpAny_ready (rs := [5]) (by kernel_rfl) (by simp) ?_; refine AllReady.cons rfl (fun K hK => ?_) AllReady.nil
      go_simp; refine hK _ _ ?_; clear hK K
      refine wpAny_take (i := 7) (v := ?_) rfl (by kernel_rfl) (by kernel_rfl) (by kernel_rfl) (fun _ _ _ h => h) (Or.inl ⟨by rfl, ?_⟩) ?_; rotate_left; focus (intro w; go_simp; try with_reducible rfl)
      refine wpAny_done (by kernel_rfl) ?_ _
      go_wp2_with fail
      go_ret2
      first | exact ⟨_, ⟨_, rfl⟩, l, HO5.out, HSM.out, h21, HB5.out⟩ | exact ⟨_, l, _, rfl, HO5.out, HSM.out, h21, HB5.out⟩
  · go_simp
    refine (below1 g _ 3 _ hc2.drew (by omega)).mono ?_; rintro e w5 ⟨z, z0, z1, _, rfl, hc5, hm5⟩
    refine hK _ _ ?_; clear hK K
    replace hm5 : Moves g w2 w5 := ((Moves.refl g w2).drew).trans hm5
    have z3 := z1 (by omega)
    have ho5 := owns_moves HO.out hm5 hgw
    have hB5 := HB.out.trans (hm5.below (by omega) (by omega))
    have hs5 := hm5.size
    refine wpAny_take (i := 6) (v := ?_) rfl (by kernel_rfl) (by kernel_rfl) (by kernel_rfl) (fun _ _ _ h => h) (Or.inl ⟨by rfl, ?_⟩) ?_; rotate_left; focus (intro w; go_simp; try with_reducible rfl)
    refine wpAny_ready (rs := [1]) (by kernel_rfl) (by simp) ?_; refine AllReady.cons rfl (fun K hK => ?_) AllReady.nil
    go_simp; refine hK _ _ ?_; clear hK K
    have hX : Below w5.heap.size w5 (w5.alloc (.cells #[.string ⟨#[116, 111]⟩, .string ⟨#[116, 111, 107, 101, 110]⟩, .string ⟨#[120]⟩] 9)) := bo_alloc (Below.refl _ _) _
    have hr5 : RowIs (w5.alloc (.cells #[.string ⟨#[116, 111]⟩, .string ⟨#[116, 111, 107, 101, 110]⟩, .string ⟨#[120]⟩] 9)) w5.heap.size 9 [.string ⟨#[116, 111]⟩, .string ⟨#[116, 111, 107, 101, 110]⟩, .string ⟨#[120]⟩] := rowIs_new w5 9 _
    have HO5 := hide (reads_of_owns (owns_new ho5 hX))
    have HB5 := hide (bchain hB5 hX)
    have k0 := hr5.cell (j := 0) rfl
    have k1 := hr5.cell (j := 1) rfl
    have k2 := hr5.cell (j := 2) rfl
    clear hc2 ho5 hB5 hm5 hr5 hX HO HB
    have hz : z = 0 ∨ z = 1 ∨ z = 2 := by omega
    rcases hz with rfl | rfl | rfl
    · refine wpAny_ready (rs := [4]) (by kernel_rfl) (by simp) ?_; refine AllReady.cons rfl (fun K hK => ?_) AllReady.nil
      go_simp; refine hK _ _ ?_; clear hK K
      refine wpAny_ready (rs := [5]) (by kernel_rfl) (by simp) ?_; refine AllReady.cons rfl (fun K hK => ?_) AllReady.nil
      go_simp; refine hK _ _ ?_; clear hK K
      refine wpAny_take (i := 7) (v := ?_) rfl (by kernel_rfl) (by kernel_rfl) (by kernel_rfl) (fun _ _ _ h => h) (Or.inl ⟨by rfl, ?_⟩) ?_; rotate_left; focus (intro w; go_simp; try with_reducible rfl)
      refine wpAny_done (by kernel_rfl) ?_ _
      go_wp2_with fail
      go_ret2
      first | exact ⟨_, ⟨_, rfl⟩, l, HO5.out, HSM.out, h21, HB5.out⟩ | exact ⟨_, l, _, rfl, HO5.out, HSM.out, h21, HB5.out⟩
    · refine wpAny_ready (rs := [4]) (by kernel_rfl) (by simp) ?_; refine AllReady.cons rfl (fun K hK => ?_) AllReady.nil
      go_simp; refine hK _ _ ?_; clear hK K
      refine wpAny_ready (rs := [5]) (by kernel_rfl) (by simp) ?_; refine AllReady.cons rfl (fun K hK => ?_) AllReady.nil
      go_simp; refine hK _ _ ?_; clear hK K
      refine wpAny_take (i := 7) (v := ?_) rfl (by kernel_rfl) (by kernel_rfl) (by kernel_rfl) (fun _ _ _ h => h) (Or.inl ⟨by rfl, ?_⟩) ?_; rotate_left; focus (intro w; go_simp; try with_reducible rfl)
      refine wpAny_done (by kernel_rfl) ?_ _
      go_wp2_with fail
      go_ret2
      first | exact ⟨_, ⟨_, rfl⟩, l, HO5.out, HSM.out, h21, HB5.out⟩ | exact ⟨_, l, _, rfl, HO5.out, HSM.out, h21, HB5.out⟩
    · refine wpAny_ready (rs := [4]) (by kernel_rfl) (by simp) ?_; refine AllReady.cons rfl (fun K hK => ?_) AllReady.nil
      go_simp; refine hK _ _ ?_; clear hK K
      refine wpAny_ready (rs := [5]) (by kernel_rfl) (by simp) ?_; refine AllReady.cons rfl (fun K hK => ?_) AllReady.nil
      go_simp; refine hK _ _ ?_; clear hK K
      refine wpAny_take (i := 7) (v := ?_) rfl (by kernel_rfl) (by kernel_rfl) (by kernel_rfl) (fun _ _ _ h => h) (Or.inl ⟨by rfl, ?_⟩) ?_; rotate_left; focus (intro w; go_simp; try with_reducible rfl)
      refine wpAny_done (by kernel_rfl) ?_ _
      go_wp2_with fail
      go_ret2
      first | exact ⟨_, ⟨_, rfl⟩, l, HO5.out, HSM.out, h21, HB5.out⟩ | exact ⟨_, l, _, rfl, HO5.out, HSM.out, h21, HB5.out⟩

set_option maxHeartbeats 2000000 in
theorem drawEncoded (a : Option Addr) (len cap : Nat) (w : World) (hl : len ≤ 4096) (hcode : CodeAt w a len w.heap.size) :
    Calls Try.prog 10 #[.slice a len cap] w fun e w' => ∃ (room : Int) (v lv : Value) (L l : List Fd), e = .returned (.tuple #[.agg #[.int .i64 room, v], lv]) ∧ Reads w' v L.length 2 (fv L) ∧ Reads w' lv l.length 2 (fv l) ∧ (∀ f ∈ L, f.small) ∧ (∀ f ∈ l, f.small) ∧ L.length ≤ 7 ∧ l.length ≤ 21 ∧ Below w.heap.size w w' := by
  go_enter Try.func10, Try.ntmps10
  go_wp2_with fail
  obtain ⟨w0, hw0⟩ : ∃ w0, w.alloc (.cells #[.int .i64 0, .slice none 0 0] 26) = w0 := ⟨_, rfl⟩
  have hB0 : Below w.heap.size w w0 := by rw [← hw0]; exact (Below.refl _ _).alloc (Nat.le_refl _) _
  have HR0 : RowIs w0 w.heap.size 26 [.int .i64 0, .slice none 0 0] := by rw [← hw0]; exact rowIs_new w 26 [.int .i64 0, .slice none 0 0]
  have hs0 : w0.heap.size = w.heap.size + 1 := by rw [← hw0]; simp
  rw [hw0]
  clear hw0
  refine (new1 a len cap _ hl (hcode.behind hB0)).mono ?_; rintro x w1 ⟨g, rfl, hg, hc1, hb1⟩
  replace HR0 := HR0.new hb1
  have HBW := bchain hB0 hb1
  have hg1 := hc1.lt
  have hs1 := hb1.size
  clear hb1 hB0 hcode
  go_wp2_with fail
  refine (drawAny g _ _ hc1).mono ?_; rintro x w2 ⟨room, v, L, rfl, hown, hsm, hLL, hc2, hm2⟩
  obtain ⟨aa, pp, rfl, _⟩ := owns_form hown
  replace HR0 := HR0.moves hm2 (by omega)
  replace HBW := HBW.trans (hm2.below (by omega) (by omega))
  have hs2 := hm2.size
  have HSM := hide hsm
  clear hm2 hc1 hsm
  go_upto_region 3 with fail
  have hA2 : Below w2.heap.size w2 (w2.alloc (.cells #[.int .i64 room, .slice aa L.length pp] 26)) := (Below.refl _ _).alloc (Nat.le_refl _) _
  have HT := rowIs_new w2 26 [.int .i64 room, .slice aa L.length pp]
  replace HR0 := HR0.new hA2
  replace HBW := bchain HBW hA2
  replace hc2 := hc2.below hA2
  replace hown := owns_new hown hA2
  have hs3 : w2.heap.size < (w2.alloc (.cells #[.int .i64 room, .slice aa L.length pp] 26)).heap.size := HT.lt
  clear hA2
  change RowIs (w2.alloc (.cells #[.int .i64 room, .slice aa L.length pp] 26)) _ _ _ at HT
  generalize w2.alloc (.cells #[.int .i64 room, .slice aa L.length pp] 26) = w3 at *
  have t0 := HT.cell (j := 0) rfl
  have t1 := HT.cell (j := 1) rfl
  go_wp2_with fail
  refine wp_region_any (by kernel_rfl) ?_; change wpAny _ _ _ _ _ _ _ (World.drew _)
  refine wpAny_take (i := 1) (v := ?_) rfl (by kernel_rfl) (by kernel_rfl) (by kernel_rfl) (fun _ _ _ h => h) (Or.inl ⟨by rfl, ?_⟩) ?_; rotate_left; focus (intro w; go_simp; try with_reducible rfl)
  refine wpAny_ready (rs := [0, 2]) (by kernel_rfl) (by simp) ?_; refine AllReady.cons rfl (fun K hK => ?_) (AllReady.cons rfl (fun K hK => ?_) AllReady.nil)
  · go_simp; refine hK _ _ ?_; clear hK K
    refine wpAny_ready (rs := [2]) (by kernel_rfl) (by simp) ?_; refine AllReady.cons rfl (fun K hK => ?_) AllReady.nil
    go_simp
    refine (drawList g _ _ hc2.drew).mono ?_; rintro e w5 ⟨lv, l, rfl, ho5, hsm5, h21, hc5, hm5⟩
    refine hK _ _ ?_; clear hK K
    replace hm5 : Moves g w3 w5 := ((Moves.refl g w3).drew).trans hm5
    obtain ⟨la, lp, rfl, _⟩ := owns_form ho5
    replace HR0 := HR0.moves hm5 (by omega)
    have hown5 := owns_moves hown hm5 (by omega)
    have HB5 := HBW.trans (hm5.below (by omega) (by omega))
    have hs5 := hm5.size
    have HSM5 := hide hsm5
    have HA := hide (reads_of_owns (owns_far (w2.heap.size) (owns_far (w2.heap.size) ho5 (fun k hk => by have := (ho5.lt k hk).1; simp at this; omega) ⟨w.heap.size, 0, none⟩ (.int .i64 room) (by show w.heap.size < w2.heap.size; omega)) (fun k hk => by have := (ho5.lt k hk).1; simp at this; omega) ⟨w.heap.size, 1, none⟩ (.slice aa L.length pp) (by show w.heap.size < w2.heap.size; omega)))
    have HC := hide (reads_of_owns (owns_far (w1.heap.size + 1) (owns_far (w1.heap.size + 1) hown5 (fun k hk => by have := (hown5.lt k hk).1; omega) ⟨w.heap.size, 0, none⟩ (.int .i64 room) (by show w.heap.size < w1.heap.size + 1; omega)) (fun k hk => by have := (hown5.lt k hk).1; omega) ⟨w.heap.size, 1, none⟩ (.slice aa L.length pp) (by show w.heap.size < w1.heap.size + 1; omega)))
    have HBF := hide ((HB5.setCell (p := ⟨w.heap.size, 0, none⟩) (Nat.le_refl _) (.int .i64 room)).setCell (p := ⟨w.heap.size, 1, none⟩) (Nat.le_refl _) (.slice aa L.length pp))
    have r0 := HR0.cell (j := 0) rfl
    have r1 := HR0.cell (j := 1) rfl
    have p0 := HR0.frozen 0
    have p1 := HR0.frozen 1
    clear ho5 hown5 hm5 hsm5 HB5 hc5
    refine wpAny_ready (rs := [3]) (by kernel_rfl) (by simp) ?_; refine AllReady.cons rfl (fun K hK => ?_) AllReady.nil
    go_simp; refine hK _ _ ?_; clear hK K
    refine wpAny_take (i := 4) (v := ?_) rfl (by kernel_rfl) (by kernel_rfl) (by kernel_rfl) (fun _ _ _ h => h) (Or.inl ⟨by rfl, ?_⟩) ?_; rotate_left; focus (intro w; go_simp; try with_reducible rfl)
    refine wpAny_done (by kernel_rfl) ?_ _
    go_wp2_with fail
    refine bodyPost_ret (v := (.tuple #[.agg #[.int .i64 room, .slice aa L.length pp], .slice la l.length lp])) (by simp [results, Try.results10, go_sem, *]) rfl ?_
    exact ⟨room, _, _, L, l, rfl, HC.out, HA.out, HSM.out, HSM5.out, hLL, h21, HBF.out⟩
  · go_simp
    refine (drawList g _ _ hc2.drew).mono ?_; rintro e w5 ⟨lv, l, rfl, ho5, hsm5, h21, hc5, hm5⟩
    refine hK _ _ ?_; clear hK K
    replace hm5 : Moves g w3 w5 := ((Moves.refl g w3).drew).trans hm5
    replace HT := HT.moves hm5 (by omega)
    have t0' := HT.cell (j := 0) rfl
    have t1' := HT.cell (j := 1) rfl
    refine wpAny_ready (rs := [0]) (by kernel_rfl) (by simp) ?_; refine AllReady.cons rfl (fun K hK => ?_) AllReady.nil
    go_simp; refine hK _ _ ?_; clear hK K
    obtain ⟨la, lp, rfl, _⟩ := owns_form ho5
    replace HR0 := HR0.moves hm5 (by omega)
    have hown5 := owns_moves hown hm5 (by omega)
    have HB5 := HBW.trans (hm5.below (by omega) (by omega))
    have hs5 := hm5.size
    have HSM5 := hide hsm5
    have HA := hide (reads_of_owns (owns_far (w2.heap.size) (owns_far (w2.heap.size) ho5 (fun k hk => by have := (ho5.lt k hk).1; simp at this; omega) ⟨w.heap.size, 0, none⟩ (.int .i64 room) (by show w.heap.size < w2.heap.size; omega)) (fun k hk => by have := (ho5.lt k hk).1; simp at this; omega) ⟨w.heap.size, 1, none⟩ (.slice aa L.length pp) (by show w.heap.size < w2.heap.size; omega)))
    have HC := hide (reads_of_owns (owns_far (w1.heap.size + 1) (owns_far (w1.heap.size + 1) hown5 (fun k hk => by have := (hown5.lt k hk).1; omega) ⟨w.heap.size, 0, none⟩ (.int .i64 room) (by show w.heap.size < w1.heap.size + 1; omega)) (fun k hk => by have := (hown5.lt k hk).1; omega) ⟨w.heap.size, 1, none⟩ (.slice aa L.length pp) (by show w.heap.size < w1.heap.size + 1; omega)))
    have HBF := hide ((HB5.setCell (p := ⟨w.heap.size, 0, none⟩) (Nat.le_refl _) (.int .i64 room)).setCell (p := ⟨w.heap.size, 1, none⟩) (Nat.le_refl _) (.slice aa L.length pp))
    have r0 := HR0.cell (j := 0) rfl
    have r1 := HR0.cell (j := 1) rfl
    have p0 := HR0.frozen 0
    have p1 := HR0.frozen 1
    clear ho5 hown5 hm5 hsm5 HB5 hc5
    refine wpAny_ready (rs := [3]) (by kernel_rfl) (by simp) ?_; refine AllReady.cons rfl (fun K hK => ?_) AllReady.nil
    go_simp; refine hK _ _ ?_; clear hK K
    refine wpAny_take (i := 4) (v := ?_) rfl (by kernel_rfl) (by kernel_rfl) (by kernel_rfl) (fun _ _ _ h => h) (Or.inl ⟨by rfl, ?_⟩) ?_; rotate_left; focus (intro w; go_simp; try with_reducible rfl)
    refine wpAny_done (by kernel_rfl) ?_ _
    go_wp2_with fail
    refine bodyPost_ret (v := (.tuple #[.agg #[.int .i64 room, .slice aa L.length pp], .slice la l.length lp])) (by simp [results, Try.results10, go_sem, *]) rfl ?_
    exact ⟨room, _, _, L, l, rfl, HC.out, HA.out, HSM.out, HSM5.out, hLL, h21, HBF.out⟩
end Go.Proofs.Ytejmnkabmajebaa
