/- What FnTables draws. -/
import Derived.Test.YthjbmmppckgcjaaDrawTabAny
import Derived.Test.YthjbmmppckgcjaaOpenCode



namespace Go.Proofs.Ythjbmmppckgcjaa
open Go.RowKit
set_option linter.unusedSimpArgs false
set_option linter.unusedVariables false

/-- Of the blocks from lo on only g has turned. -/
def Keeps (lo g : Nat) (u u' : World) : Prop := ∀ k, lo ≤ k → k < u.heap.size → k ≠ g → u'.heap[k]? = u.heap[k]?
def IntR (g lo : Nat) (u : World) (x : Value) : Prop := ∃ (b : Nat) (s0 s1 s2 s3 : Int), x = .slice (some ⟨b, 0, none⟩) 4 4 ∧ b ≠ g ∧ lo ≤ b ∧ RowIs u b 2 [.int .i64 s0, .int .i64 s1, .int .i64 s2, .int .i64 s3]
theorem IntR.keeps {g lo : Nat} {u u' : World} {x : Value} (h : IntR g lo u x) (hk : Keeps lo g u u') : IntR g lo u' x := by
  obtain ⟨b, s0, s1, s2, s3, rfl, hg, hl, hr⟩ := h
  exact ⟨b, s0, s1, s2, s3, rfl, hg, hl, hr.kept (hk b hl hr.lt hg)⟩
def IntC (g lo : Nat) (u : World) (x : Value) : Prop := ∃ (b k : Nat) (s : Int), x = .pointer (some ⟨b, k, none⟩) ∧ b ≠ g ∧ lo ≤ b ∧ u.cell? ⟨b, k, none⟩ = some (.int .i64 s)
theorem IntC.keeps {g lo : Nat} {u u' : World} {x : Value} (h : IntC g lo u x) (hk : Keeps lo g u u') : IntC g lo u' x := by
  obtain ⟨b, k, s, rfl, hg, hl, hc⟩ := h
  exact ⟨b, k, s, rfl, hg, hl, (World.cell?_of_block (w := u) (hk b hl (World.block_lt_of_cell? u ⟨b, k, none⟩ hc) hg)).trans hc⟩
def Int1 (x : Value) : Prop := ∃ s : Int, x = .int .i64 s
/-- A Table's block; d: it has been written. -/
def TabR (q : Nat) (u : World) (r s : Value) (d : Prop) : Prop := ∃ v0 v1, RowIs u q 26 [v0, v1] ∧ (d → v0 = r ∧ v1 = s)
theorem TabR.keep {q : Nat} {u u' : World} {r s : Value} {d d' : Prop} (h : TabR q u r s d) (hk : u'.heap[q]? = u.heap[q]?) (hd : d' → d) : TabR q u' r s d' := by
  obtain ⟨v0, v1, h1, h2⟩ := h
  exact ⟨v0, v1, h1.kept hk, fun k => h2 (hd k)⟩
theorem Cur.low {w : World} {g B : Nat} (h : Cur w g B) (p : Addr) (v : Value) (h1 : B ≤ p.block) (h2 : p.block ≠ g) : Cur (w.setCell p v) g B := by
  obtain ⟨h0, a, len, cap, i, hh, q1, q2, q3, hg⟩ := h
  exact ⟨h0, a, len, cap, i, hh, q1, q2, q3.kept ((Below.refl B w).setCell h1 v), by rw [Below.heap_setCell w p v g (fun e => h2 e.symm)]; exact hg⟩

set_option maxHeartbeats 2000000 in
theorem drawNoted (a : Option Addr) (len cap : Nat) (w : World) (hl : len ≤ 4096) (hcode : CodeAt w a len w.heap.size) :
    Calls Try.prog 10 #[.slice a len cap] w fun e w' => ∃ (room : Int) (v : Value) (L : List Fd) (f : Fd), e = .returned (.tuple #[.agg #[.int .i64 room, v], .agg #[.string f.n, .string f.v]]) ∧ Reads w' v L.length 2 (fv L) ∧ (∀ f ∈ L, f.small) ∧ f.small ∧ L.length ≤ 7 ∧ (∀ k, v.ownBlock = some k → w.heap.size ≤ k) ∧ Below w.heap.size w w' := by
  go_enter Try.func10, Try.ntmps10
  go_wp2_with fail
  generalize hw0 : (w.alloc (.cells #[.int .i64 0, .slice none 0 0] 26)).alloc (.cells #[.string ⟨#[]⟩, .string ⟨#[]⟩] 28) = w0
  have hB0 : Below w.heap.size w w0 := by rw [← hw0]; exact bo_alloc ((Below.refl _ _).alloc (Nat.le_refl _) _) _
  have HR0 : RowIs w0 w.heap.size 26 [.int .i64 0, .slice none 0 0] := by rw [← hw0]; exact (rowIs_new w 26 [.int .i64 0, .slice none 0 0]).alloc _
  have HR1 : RowIs w0 (w.heap.size + 1) 28 [.string ⟨#[]⟩, .string ⟨#[]⟩] := by rw [← hw0]; simpa using rowIs_new (w.alloc (.cells #[.int .i64 0, .slice none 0 0] 26)) 28 [.string ⟨#[]⟩, .string ⟨#[]⟩]
  have hs0 : w0.heap.size = w.heap.size + 2 := by rw [← hw0]; simp
  clear hw0
  refine (new1 a len cap _ hl (hcode.behind hB0)).mono ?_; rintro x w1 ⟨g, rfl, hg, hc1, hb1⟩
  replace HR0 := HR0.new hb1
  replace HR1 := HR1.new hb1
  have HBW := bchain hB0 hb1
  have hg1 := hc1.lt
  have hs1 := hb1.size
  clear hb1 hB0 hcode
  go_wp2_with fail
  refine (drawAny g _ _ hc1).mono ?_; rintro x w2 ⟨room, v, L, rfl, hown, hsm, hLL, hc2, hm2⟩
  obtain ⟨aa, pp, rfl, _⟩ := owns_form hown
  replace HR0 := HR0.moves hm2 (by omega)
  replace HR1 := HR1.moves hm2 (by omega)
  replace HBW := HBW.trans (hm2.below (by omega) (by omega))
  have hs2 := hm2.size
  have HSM := hide hsm
  clear hm2 hc1 hsm
  have hA2 : Below w2.heap.size w2 (w2.alloc (.cells #[.int .i64 room, .slice aa L.length pp] 26)) := (Below.refl _ _).alloc (Nat.le_refl _) _
  have HT := rowIs_new w2 26 [.int .i64 room, .slice aa L.length pp]
  replace HR0 := HR0.new hA2
  replace HR1 := HR1.new hA2
  replace HBW := bchain HBW hA2
  have HO := owns_new hown hA2
  have hc3 := hc2.below hA2
  have hs3 : (w2.alloc (.cells #[.int .i64 room, .slice aa L.length pp] 26)).heap.size = w2.heap.size + 1 := by simp
  go_upto_region 3 with fail
  clear hA2 hown hc2
  obtain ⟨b, hb⟩ : ∃ b, b = w2.heap.size := ⟨_, rfl⟩
  rw [← hb] at HT hs3
  rw [← hb]
  change RowIs (w2.alloc (.cells #[.int .i64 room, .slice aa L.length pp] 26)) b 26 [.int .i64 room, .slice aa L.length pp] at HT
  generalize (w2.alloc (.cells #[.int .i64 room, .slice aa L.length pp] 26)) = w3 at *
  have hb1 : w1.heap.size ≤ b := by omega
  clear hb hs2
  have t0 := HT.cell (j := 0) rfl
  have t1 := HT.cell (j := 1) rfl
  refine wp_region_any (by kernel_rfl) ?_; change wpAny _ _ _ _ _ _ _ (World.drew _)
  refine wpAny_take (i := 1) (v := ?_) rfl (by kernel_rfl) (by kernel_rfl) (by kernel_rfl) (fun _ _ _ h => h) (Or.inl ⟨by rfl, ?_⟩) ?_; rotate_left; focus (intro w; go_simp; try with_reducible rfl)
  refine wpAny_ready (rs := [0, 2]) (by kernel_rfl) (by simp) ?_; refine AllReady.cons rfl (fun K hK => ?_) (AllReady.cons rfl (fun K hK => ?_) AllReady.nil)
  · go_simp; refine hK _ _ ?_; clear hK K
    refine wpAny_ready (rs := [2]) (by kernel_rfl) (by simp) ?_; refine AllReady.cons rfl (fun K hK => ?_) AllReady.nil
    go_simp
    refine (drawField g _ _ hc3.drew).mono ?_; rintro e w4 ⟨f, hn, hv, rfl, hc4, hm4⟩
    refine hK _ _ ?_; clear hK K
    replace hm4 : Moves g w3 w4 := ((Moves.refl g w3).drew).trans hm4
    replace HR0 := HR0.moves hm4 (by omega)
    replace HT := HT.moves hm4 (by omega)
    replace HO := ownsRow_moves HO hm4 (by omega)
    replace HBW := HBW.trans (hm4.below (by omega) HBW.size)
    replace HR1 := HR1.moves hm4 (by omega)
    have r0 := HR0.cell (j := 0) rfl
    have r1 := HR0.cell (j := 1) rfl
    have p0 := HR0.frozen 0
    have p1 := HR0.frozen 1
    have hwb := HR0.lt
    have s0 := HR1.cell (j := 0) rfl
    have s1 := HR1.cell (j := 1) rfl
    have q0 := HR1.frozen 0
    have q1 := HR1.frozen 1
    have hwb1 := HR1.lt
    refine wpAny_ready (rs := [3]) (by kernel_rfl) (by simp) ?_; refine AllReady.cons rfl (fun K hK => ?_) AllReady.nil
    go_simp; refine hK _ _ ?_; clear hK K
    refine wpAny_ready (rs := [4]) (by kernel_rfl) (by simp) ?_; refine AllReady.cons rfl (fun K hK => ?_) AllReady.nil
    go_simp; refine hK _ _ ?_; clear hK K
    refine wpAny_done (by kernel_rfl) ?_ _
    have hT5 : Turn w.heap.size (w.heap.size + 2) w4 ((((w4.setCell ⟨w.heap.size, 0, none⟩ (.int .i64 room)).setCell ⟨w.heap.size, 1, none⟩ (.slice aa L.length pp)).setCell ⟨w.heap.size + 1, 0, none⟩ (.string f.n)).setCell ⟨w.heap.size + 1, 1, none⟩ (.string f.v)) := ((((Turn.refl _ _ _).setCell _ (.inl (by show w.heap.size ≤ w.heap.size ∧ w.heap.size < w.heap.size + 2; omega))).setCell _ (.inl (by show w.heap.size ≤ w.heap.size ∧ w.heap.size < w.heap.size + 2; omega))).setCell _ (.inl (by show w.heap.size ≤ w.heap.size + 1 ∧ w.heap.size + 1 < w.heap.size + 2; omega))).setCell _ (.inl (by show w.heap.size ≤ w.heap.size + 1 ∧ w.heap.size + 1 < w.heap.size + 2; omega))
    have HRD := hide ((reads_of_owns HO).turn hT5 (fun k hk => .inr (by have := (HO.lt k hk).1; omega)))
    have HB5 := hide (HBW.trans (hT5.below (Nat.le_refl _) HBW.size))
    have HNB : Hid (∀ k, (Value.slice aa L.length pp).ownBlock = some k → w.heap.size ≤ k) := fun k hk => by have := (HO.lt k hk).1; omega
    clear hT5 HO HT
    go_wp2_with fail
    refine bodyPost_ret (v := .tuple #[.agg #[.int .i64 room, .slice aa L.length pp], .agg #[.string f.n, .string f.v]]) (by simp [results, Try.results10, go_sem, *]) rfl ?_
    exact ⟨room, _, L, f, rfl, HRD.out, HSM.out, ⟨hn, hv⟩, hLL, HNB.out, HB5.out⟩
  · go_simp
    refine (drawField g _ _ hc3.drew).mono ?_; rintro e w4 ⟨f, hn, hv, rfl, hc4, hm4⟩
    refine hK _ _ ?_; clear hK K
    replace hm4 : Moves g w3 w4 := ((Moves.refl g w3).drew).trans hm4
    replace HR0 := HR0.moves hm4 (by omega)
    replace HT := HT.moves hm4 (by omega)
    replace HO := ownsRow_moves HO hm4 (by omega)
    replace HBW := HBW.trans (hm4.below (by omega) HBW.size)
    replace HR1 := HR1.moves hm4 (by omega)
    have t0 := HT.cell (j := 0) rfl
    have t1 := HT.cell (j := 1) rfl
    refine wpAny_ready (rs := [0]) (by kernel_rfl) (by simp) ?_; refine AllReady.cons rfl (fun K hK => ?_) AllReady.nil
    go_simp; refine hK _ _ ?_; clear hK K
    have r0 := HR0.cell (j := 0) rfl
    have r1 := HR0.cell (j := 1) rfl
    have p0 := HR0.frozen 0
    have p1 := HR0.frozen 1
    have hwb := HR0.lt
    have s0 := HR1.cell (j := 0) rfl
    have s1 := HR1.cell (j := 1) rfl
    have q0 := HR1.frozen 0
    have q1 := HR1.frozen 1
    have hwb1 := HR1.lt
    refine wpAny_ready (rs := [3]) (by kernel_rfl) (by simp) ?_; refine AllReady.cons rfl (fun K hK => ?_) AllReady.nil
    go_simp; refine hK _ _ ?_; clear hK K
    refine wpAny_ready (rs := [4]) (by kernel_rfl) (by simp) ?_; refine AllReady.cons rfl (fun K hK => ?_) AllReady.nil
    go_simp; refine hK _ _ ?_; clear hK K
    refine wpAny_done (by kernel_rfl) ?_ _
    have hT5 : Turn w.heap.size (w.heap.size + 2) w4 ((((w4.setCell ⟨w.heap.size, 0, none⟩ (.int .i64 room)).setCell ⟨w.heap.size, 1, none⟩ (.slice aa L.length pp)).setCell ⟨w.heap.size + 1, 0, none⟩ (.string f.n)).setCell ⟨w.heap.size + 1, 1, none⟩ (.string f.v)) := ((((Turn.refl _ _ _).setCell _ (.inl (by show w.heap.size ≤ w.heap.size ∧ w.heap.size < w.heap.size + 2; omega))).setCell _ (.inl (by show w.heap.size ≤ w.heap.size ∧ w.heap.size < w.heap.size + 2; omega))).setCell _ (.inl (by show w.heap.size ≤ w.heap.size + 1 ∧ w.heap.size + 1 < w.heap.size + 2; omega))).setCell _ (.inl (by show w.heap.size ≤ w.heap.size + 1 ∧ w.heap.size + 1 < w.heap.size + 2; omega))
    have HRD := hide ((reads_of_owns HO).turn hT5 (fun k hk => .inr (by have := (HO.lt k hk).1; omega)))
    have HB5 := hide (HBW.trans (hT5.below (Nat.le_refl _) HBW.size))
    have HNB : Hid (∀ k, (Value.slice aa L.length pp).ownBlock = some k → w.heap.size ≤ k) := fun k hk => by have := (HO.lt k hk).1; omega
    clear hT5 HO HT
    go_wp2_with fail
    refine bodyPost_ret (v := .tuple #[.agg #[.int .i64 room, .slice aa L.length pp], .agg #[.string f.n, .string f.v]]) (by simp [results, Try.results10, go_sem, *]) rfl ?_
    exact ⟨room, _, L, f, rfl, HRD.out, HSM.out, ⟨hn, hv⟩, hLL, HNB.out, HB5.out⟩

set_option maxHeartbeats 2000000 in
theorem drawLookup (a : Option Addr) (len cap : Nat) (w : World) (hl : len ≤ 4096) (hcode : CodeAt w a len w.heap.size) :
    Calls Try.prog 16 #[.slice a len cap] w fun e w' => ∃ (room : Int) (v : Value) (L : List Fd) (f : Fd), e = .returned (.tuple #[.agg #[.int .i64 room, v], .agg #[.string f.n, .string f.v]]) ∧ Reads w' v L.length 2 (fv L) ∧ (∀ f ∈ L, f.small) ∧ f.small ∧ L.length ≤ 7 ∧ (∀ k, v.ownBlock = some k → w.heap.size ≤ k) ∧ Below w.heap.size w w' := by
  go_enter Try.func16, Try.ntmps16
  go_wp2_with fail
  generalize hw0 : (w.alloc (.cells #[.int .i64 0, .slice none 0 0] 26)).alloc (.cells #[.string ⟨#[]⟩, .string ⟨#[]⟩] 28) = w0
  have hB0 : Below w.heap.size w w0 := by rw [← hw0]; exact bo_alloc ((Below.refl _ _).alloc (Nat.le_refl _) _) _
  have HR0 : RowIs w0 w.heap.size 26 [.int .i64 0, .slice none 0 0] := by rw [← hw0]; exact (rowIs_new w 26 [.int .i64 0, .slice none 0 0]).alloc _
  have HR1 : RowIs w0 (w.heap.size + 1) 28 [.string ⟨#[]⟩, .string ⟨#[]⟩] := by rw [← hw0]; simpa using rowIs_new (w.alloc (.cells #[.int .i64 0, .slice none 0 0] 26)) 28 [.string ⟨#[]⟩, .string ⟨#[]⟩]
  have hs0 : w0.heap.size = w.heap.size + 2 := by rw [← hw0]; simp
  clear hw0
  refine (drawNoted a len cap _ hl (hcode.behind hB0)).mono ?_; rintro x w4 ⟨room, v, L, f, rfl, hrd, hsm, hff, hLL, hnb, hb4⟩
  replace HR0 := HR0.new hb4
  replace HR1 := HR1.new hb4
  have HBW := bchain hB0 hb4
  obtain ⟨aa, pp, rfl, _⟩ := hrd.2
  have HSM := hide hsm
  have hT5 : Turn w.heap.size (w.heap.size + 2) w4 ((((w4.setCell ⟨w.heap.size, 0, none⟩ (.int .i64 room)).setCell ⟨w.heap.size, 1, none⟩ (.slice aa L.length pp)).setCell ⟨w.heap.size + 1, 0, none⟩ (.string f.n)).setCell ⟨w.heap.size + 1, 1, none⟩ (.string f.v)) := ((((Turn.refl _ _ _).setCell _ (.inl (by show w.heap.size ≤ w.heap.size ∧ w.heap.size < w.heap.size + 2; omega))).setCell _ (.inl (by show w.heap.size ≤ w.heap.size ∧ w.heap.size < w.heap.size + 2; omega))).setCell _ (.inl (by show w.heap.size ≤ w.heap.size + 1 ∧ w.heap.size + 1 < w.heap.size + 2; omega))).setCell _ (.inl (by show w.heap.size ≤ w.heap.size + 1 ∧ w.heap.size + 1 < w.heap.size + 2; omega))
  have HRD := hide (hrd.turn hT5 (fun k hk => .inr (by have := hnb k hk; omega)))
  have HB5 := hide (HBW.trans (hT5.below (Nat.le_refl _) HBW.size))
  have HNB : Hid (∀ k, (Value.slice aa L.length pp).ownBlock = some k → w.heap.size ≤ k) := fun k hk => by have := hnb k hk; omega
  clear hT5 hrd hsm hnb hb4 hB0
  have r0 := HR0.cell (j := 0) rfl
  have r1 := HR0.cell (j := 1) rfl
  have p0 := HR0.frozen 0
  have p1 := HR0.frozen 1
  have hwb := HR0.lt
  have s0 := HR1.cell (j := 0) rfl
  have s1 := HR1.cell (j := 1) rfl
  have q0 := HR1.frozen 0
  have q1 := HR1.frozen 1
  have hwb1 := HR1.lt
  go_wp2_with fail
  refine bodyPost_ret (v := .tuple #[.agg #[.int .i64 room, .slice aa L.length pp], .agg #[.string f.n, .string f.v]]) (by simp [results, Try.results16, go_sem, *]) rfl ?_
  exact ⟨room, _, L, f, rfl, HRD.out, HSM.out, hff, hLL, HNB.out, HB5.out⟩

set_option maxHeartbeats 2000000 in
theorem drawRowAt (a : Option Addr) (len cap : Nat) (w : World) (hl : len ≤ 4096) (hcode : CodeAt w a len w.heap.size) :
    Calls Try.prog 14 #[.slice a len cap] w fun e w' => ∃ (room : Int) (v : Value) (L : List Fd) (r : Int), e = .returned (.tuple #[.agg #[.int .i64 room, v], .int .i64 r]) ∧ Reads w' v L.length 2 (fv L) ∧ (∀ f ∈ L, f.small) ∧ L.length ≤ 7 ∧ Below w.heap.size w w' := by
  go_enter Try.func14, Try.ntmps14
  go_wp2_with fail
  generalize hw0 : (w.alloc (.cells #[.int .i64 0, .slice none 0 0] 26)) = w0
  have hB0 : Below w.heap.size w w0 := by rw [← hw0]; exact (Below.refl _ _).alloc (Nat.le_refl _) _
  have HR0 : RowIs w0 w.heap.size 26 [.int .i64 0, .slice none 0 0] := by rw [← hw0]; exact (rowIs_new w 26 [.int .i64 0, .slice none 0 0])
  have hs0 : w0.heap.size = w.heap.size + 1 := by rw [← hw0]; simp
  clear hw0
  refine (new1 a len cap _ hl (hcode.behind hB0)).mono ?_; rintro x w1 ⟨g, rfl, hg, hc1, hb1⟩
  replace HR0 := HR0.new hb1
  have HBW := bchain hB0 hb1
  have hg1 := hc1.lt
  have hs1 := hb1.size
  clear hb1 hB0 hcode
  go_wp2_with fail
  refine (drawAny g _ _ hc1).mono ?_; rintro x w2 ⟨room, v, L, rfl, hown, hsm, hLL, hc2, hm2⟩
  obtain ⟨aa, pp, rfl, _⟩ := owns_form hown
  replace HR0 := HR0.moves hm2 (by omega)
  replace HBW := HBW.trans (hm2.below (by omega) (by omega))
  have hs2 := hm2.size
  have HSM := hide hsm
  clear hm2 hc1 hsm
  have hA2 : Below w2.heap.size w2 (w2.alloc (.cells #[.int .i64 room, .slice aa L.length pp] 26)) := (Below.refl _ _).alloc (Nat.le_refl _) _
  have HT := rowIs_new w2 26 [.int .i64 room, .slice aa L.length pp]
  replace HR0 := HR0.new hA2
  replace HBW := bchain HBW hA2
  have HO := owns_new hown hA2
  have hc3 := hc2.below hA2
  have hs3 : (w2.alloc (.cells #[.int .i64 room, .slice aa L.length pp] 26)).heap.size = w2.heap.size + 1 := by simp
  go_upto_region 3 with fail
  clear hA2 hown hc2
  obtain ⟨b, hb⟩ : ∃ b, b = w2.heap.size := ⟨_, rfl⟩
  rw [← hb] at HT hs3
  rw [← hb]
  change RowIs (w2.alloc (.cells #[.int .i64 room, .slice aa L.length pp] 26)) b 26 [.int .i64 room, .slice aa L.length pp] at HT
  generalize (w2.alloc (.cells #[.int .i64 room, .slice aa L.length pp] 26)) = w3 at *
  have hb1 : w1.heap.size ≤ b := by omega
  clear hb hs2
  have t0 := HT.cell (j := 0) rfl
  have t1 := HT.cell (j := 1) rfl
  refine wp_region_any (by kernel_rfl) ?_; change wpAny _ _ _ _ _ _ _ (World.drew _)
  refine wpAny_take (i := 1) (v := ?_) rfl (by kernel_rfl) (by kernel_rfl) (by kernel_rfl) (fun _ _ _ h => h) (Or.inl ⟨by rfl, ?_⟩) ?_; rotate_left; focus (intro w; go_simp; try with_reducible rfl)
  refine wpAny_ready (rs := [0, 2]) (by kernel_rfl) (by simp) ?_; refine AllReady.cons rfl (fun K hK => ?_) (AllReady.cons rfl (fun K hK => ?_) AllReady.nil)
  · go_simp; refine hK _ _ ?_; clear hK K
    refine wpAny_ready (rs := [2]) (by kernel_rfl) (by simp) ?_; refine AllReady.cons rfl (fun K hK => ?_) AllReady.nil
    go_simp
    refine (from1 g _ (-1) 7 _ hc3.drew (by omega) (by omega) (by omega)).mono ?_; rintro e w4 ⟨r, _, _, rfl, hc4, hm4⟩
    refine hK _ _ ?_; clear hK K
    replace hm4 : Moves g w3 w4 := ((Moves.refl g w3).drew).trans hm4
    replace HR0 := HR0.moves hm4 (by omega)
    replace HT := HT.moves hm4 (by omega)
    replace HO := ownsRow_moves HO hm4 (by omega)
    replace HBW := HBW.trans (hm4.below (by omega) HBW.size)
    have r0 := HR0.cell (j := 0) rfl
    have r1 := HR0.cell (j := 1) rfl
    have p0 := HR0.frozen 0
    have p1 := HR0.frozen 1
    have hwb := HR0.lt
    refine wpAny_ready (rs := [3]) (by kernel_rfl) (by simp) ?_; refine AllReady.cons rfl (fun K hK => ?_) AllReady.nil
    go_simp; refine hK _ _ ?_; clear hK K
    refine wpAny_ready (rs := [4]) (by kernel_rfl) (by simp) ?_; refine AllReady.cons rfl (fun K hK => ?_) AllReady.nil
    go_simp; refine hK _ _ ?_; clear hK K
    refine wpAny_done (by kernel_rfl) ?_ _
    have hT5 : Turn w.heap.size (w.heap.size + 2) w4 ((w4.setCell ⟨w.heap.size, 0, none⟩ (.int .i64 room)).setCell ⟨w.heap.size, 1, none⟩ (.slice aa L.length pp)) := ((Turn.refl _ _ _).setCell _ (.inl (by show w.heap.size ≤ w.heap.size ∧ w.heap.size < w.heap.size + 2; omega))).setCell _ (.inl (by show w.heap.size ≤ w.heap.size ∧ w.heap.size < w.heap.size + 2; omega))
    have HRD := hide ((reads_of_owns HO).turn hT5 (fun k hk => .inr (by have := (HO.lt k hk).1; omega)))
    have HB5 := hide (HBW.trans (hT5.below (Nat.le_refl _) HBW.size))
    clear hT5 HO HT
    go_wp2_with fail
    refine bodyPost_ret (v := .tuple #[.agg #[.int .i64 room, .slice aa L.length pp], .int .i64 r]) (by simp [results, Try.results14, go_sem, *]) rfl ?_
    exact ⟨room, _, L, r, rfl, HRD.out, HSM.out, hLL, HB5.out⟩
  · go_simp
    refine (from1 g _ (-1) 7 _ hc3.drew (by omega) (by omega) (by omega)).mono ?_; rintro e w4 ⟨r, _, _, rfl, hc4, hm4⟩
    refine hK _ _ ?_; clear hK K
    replace hm4 : Moves g w3 w4 := ((Moves.refl g w3).drew).trans hm4
    replace HR0 := HR0.moves hm4 (by omega)
    replace HT := HT.moves hm4 (by omega)
    replace HO := ownsRow_moves HO hm4 (by omega)
    replace HBW := HBW.trans (hm4.below (by omega) HBW.size)
    have t0 := HT.cell (j := 0) rfl
    have t1 := HT.cell (j := 1) rfl
    refine wpAny_ready (rs := [0]) (by kernel_rfl) (by simp) ?_; refine AllReady.cons rfl (fun K hK => ?_) AllReady.nil
    go_simp; refine hK _ _ ?_; clear hK K
    have r0 := HR0.cell (j := 0) rfl
    have r1 := HR0.cell (j := 1) rfl
    have p0 := HR0.frozen 0
    have p1 := HR0.frozen 1
    have hwb := HR0.lt
    refine wpAny_ready (rs := [3]) (by kernel_rfl) (by simp) ?_; refine AllReady.cons rfl (fun K hK => ?_) AllReady.nil
    go_simp; refine hK _ _ ?_; clear hK K
    refine wpAny_ready (rs := [4]) (by kernel_rfl) (by simp) ?_; refine AllReady.cons rfl (fun K hK => ?_) AllReady.nil
    go_simp; refine hK _ _ ?_; clear hK K
    refine wpAny_done (by kernel_rfl) ?_ _
    have hT5 : Turn w.heap.size (w.heap.size + 2) w4 ((w4.setCell ⟨w.heap.size, 0, none⟩ (.int .i64 room)).setCell ⟨w.heap.size, 1, none⟩ (.slice aa L.length pp)) := ((Turn.refl _ _ _).setCell _ (.inl (by show w.heap.size ≤ w.heap.size ∧ w.heap.size < w.heap.size + 2; omega))).setCell _ (.inl (by show w.heap.size ≤ w.heap.size ∧ w.heap.size < w.heap.size + 2; omega))
    have HRD := hide ((reads_of_owns HO).turn hT5 (fun k hk => .inr (by have := (HO.lt k hk).1; omega)))
    have HB5 := hide (HBW.trans (hT5.below (Nat.le_refl _) HBW.size))
    clear hT5 HO HT
    go_wp2_with fail
    refine bodyPost_ret (v := .tuple #[.agg #[.int .i64 room, .slice aa L.length pp], .int .i64 r]) (by simp [results, Try.results14, go_sem, *]) rfl ?_
    exact ⟨room, _, L, r, rfl, HRD.out, HSM.out, hLL, HB5.out⟩

set_option maxHeartbeats 2000000 in
theorem drawResized (a : Option Addr) (len cap : Nat) (w : World) (hl : len ≤ 4096) (hcode : CodeAt w a len w.heap.size) :
    Calls Try.prog 12 #[.slice a len cap] w fun e w' => ∃ (room : Int) (v : Value) (L : List Fd) (r : Int), e = .returned (.tuple #[.agg #[.int .i64 room, v], .int .i64 r]) ∧ Reads w' v L.length 2 (fv L) ∧ (∀ f ∈ L, f.small) ∧ L.length ≤ 7 ∧ Below w.heap.size w w' := by
  go_enter Try.func12, Try.ntmps12
  go_wp2_with fail
  generalize hw0 : (w.alloc (.cells #[.int .i64 0, .slice none 0 0] 26)) = w0
  have hB0 : Below w.heap.size w w0 := by rw [← hw0]; exact (Below.refl _ _).alloc (Nat.le_refl _) _
  have HR0 : RowIs w0 w.heap.size 26 [.int .i64 0, .slice none 0 0] := by rw [← hw0]; exact (rowIs_new w 26 [.int .i64 0, .slice none 0 0])
  have hs0 : w0.heap.size = w.heap.size + 1 := by rw [← hw0]; simp
  clear hw0
  refine (new1 a len cap _ hl (hcode.behind hB0)).mono ?_; rintro x w1 ⟨g, rfl, hg, hc1, hb1⟩
  replace HR0 := HR0.new hb1
  have HBW := bchain hB0 hb1
  have hg1 := hc1.lt
  have hs1 := hb1.size
  clear hb1 hB0 hcode
  go_wp2_with fail
  refine (drawAny g _ _ hc1).mono ?_; rintro x w2 ⟨room, v, L, rfl, hown, hsm, hLL, hc2, hm2⟩
  obtain ⟨aa, pp, rfl, _⟩ := owns_form hown
  replace HR0 := HR0.moves hm2 (by omega)
  replace HBW := HBW.trans (hm2.below (by omega) (by omega))
  have hs2 := hm2.size
  have HSM := hide hsm
  clear hm2 hc1 hsm
  have hA2 : Below w2.heap.size w2 (w2.alloc (.cells #[.int .i64 room, .slice aa L.length pp] 26)) := (Below.refl _ _).alloc (Nat.le_refl _) _
  have HT := rowIs_new w2 26 [.int .i64 room, .slice aa L.length pp]
  replace HR0 := HR0.new hA2
  replace HBW := bchain HBW hA2
  have HO := owns_new hown hA2
  have hc3 := hc2.below hA2
  have hs3 : (w2.alloc (.cells #[.int .i64 room, .slice aa L.length pp] 26)).heap.size = w2.heap.size + 1 := by simp
  go_upto_region 3 with fail
  clear hA2 hown hc2
  obtain ⟨b, hb⟩ : ∃ b, b = w2.heap.size := ⟨_, rfl⟩
  rw [← hb] at HT hs3
  rw [← hb]
  change RowIs (w2.alloc (.cells #[.int .i64 room, .slice aa L.length pp] 26)) b 26 [.int .i64 room, .slice aa L.length pp] at HT
  generalize (w2.alloc (.cells #[.int .i64 room, .slice aa L.length pp] 26)) = w3 at *
  have hb1 : w1.heap.size ≤ b := by omega
  clear hb hs2
  go_wp2_with fail
  refine (once1 g _ 8 _ hc3 (by omega)).mono ?_; rintro e w4 ⟨v4, rfl, hc4, hm4⟩
  replace HR0 := HR0.moves hm4 (by omega)
  replace HT := HT.moves hm4 (by omega)
  replace HO := ownsRow_moves HO hm4 (by omega)
  replace HBW := HBW.trans (hm4.below (by omega) (by omega))
  clear hm4 hc3
  cases v4
  · go_wp2_with fail
    have t0 := HT.cell (j := 0) rfl
    have t1 := HT.cell (j := 1) rfl
    refine wp_region_any (by kernel_rfl) ?_; change wpAny _ _ _ _ _ _ _ (World.drew _)
    refine wpAny_take (i := 1) (v := ?_) rfl (by kernel_rfl) (by kernel_rfl) (by kernel_rfl) (fun _ _ _ h => h) (Or.inl ⟨by rfl, ?_⟩) ?_; rotate_left; focus (intro w; go_simp; try with_reducible rfl)
    refine wpAny_ready (rs := [0, 2]) (by kernel_rfl) (by simp) ?_; refine AllReady.cons rfl (fun K hK => ?_) (AllReady.cons rfl (fun K hK => ?_) AllReady.nil)
    · go_simp; refine hK _ _ ?_; clear hK K
      refine wpAny_ready (rs := [2]) (by kernel_rfl) (by simp) ?_; refine AllReady.cons rfl (fun K hK => ?_) AllReady.nil
      go_simp
      refine (below1 g _ 100 _ hc4.drew (by omega)).mono ?_; rintro e w5 ⟨r, _, _, _, rfl, hc5, hm5⟩
      refine hK _ _ ?_; clear hK K
      replace hm5 : Moves g w4 w5 := ((Moves.refl g w4).drew).trans hm5
      replace HR0 := HR0.moves hm5 (by omega)
      replace HT := HT.moves hm5 (by omega)
      replace HO := ownsRow_moves HO hm5 (by omega)
      replace HBW := HBW.trans (hm5.below (by omega) HBW.size)
      have r0 := HR0.cell (j := 0) rfl
      have r1 := HR0.cell (j := 1) rfl
      have p0 := HR0.frozen 0
      have p1 := HR0.frozen 1
      have hwb := HR0.lt
      refine wpAny_ready (rs := [3]) (by kernel_rfl) (by simp) ?_; refine AllReady.cons rfl (fun K hK => ?_) AllReady.nil
      go_simp; refine hK _ _ ?_; clear hK K
      refine wpAny_ready (rs := [4]) (by kernel_rfl) (by simp) ?_; refine AllReady.cons rfl (fun K hK => ?_) AllReady.nil
      go_simp; refine hK _ _ ?_; clear hK K
      refine wpAny_done (by kernel_rfl) ?_ _
      have hT5 : Turn w.heap.size (w.heap.size + 2) w5 ((w5.setCell ⟨w.heap.size, 0, none⟩ (.int .i64 room)).setCell ⟨w.heap.size, 1, none⟩ (.slice aa L.length pp)) := ((Turn.refl _ _ _).setCell _ (.inl (by show w.heap.size ≤ w.heap.size ∧ w.heap.size < w.heap.size + 2; omega))).setCell _ (.inl (by show w.heap.size ≤ w.heap.size ∧ w.heap.size < w.heap.size + 2; omega))
      have HRD := hide ((reads_of_owns HO).turn hT5 (fun k hk => .inr (by have := (HO.lt k hk).1; omega)))
      have HB5 := hide (HBW.trans (hT5.below (Nat.le_refl _) HBW.size))
      clear hT5 HO HT
      go_wp2_with fail
      refine bodyPost_ret (v := .tuple #[.agg #[.int .i64 room, .slice aa L.length pp], .int .i64 r]) (by simp [results, Try.results12, go_sem, *]) rfl ?_
      exact ⟨room, _, L, r, rfl, HRD.out, HSM.out, hLL, HB5.out⟩
    · go_simp
      refine (below1 g _ 100 _ hc4.drew (by omega)).mono ?_; rintro e w5 ⟨r, _, _, _, rfl, hc5, hm5⟩
      refine hK _ _ ?_; clear hK K
      replace hm5 : Moves g w4 w5 := ((Moves.refl g w4).drew).trans hm5
      replace HR0 := HR0.moves hm5 (by omega)
      replace HT := HT.moves hm5 (by omega)
      replace HO := ownsRow_moves HO hm5 (by omega)
      replace HBW := HBW.trans (hm5.below (by omega) HBW.size)
      have t0 := HT.cell (j := 0) rfl
      have t1 := HT.cell (j := 1) rfl
      refine wpAny_ready (rs := [0]) (by kernel_rfl) (by simp) ?_; refine AllReady.cons rfl (fun K hK => ?_) AllReady.nil
      go_simp; refine hK _ _ ?_; clear hK K
      have r0 := HR0.cell (j := 0) rfl
      have r1 := HR0.cell (j := 1) rfl
      have p0 := HR0.frozen 0
      have p1 := HR0.frozen 1
      have hwb := HR0.lt
      refine wpAny_ready (rs := [3]) (by kernel_rfl) (by simp) ?_; refine AllReady.cons rfl (fun K hK => ?_) AllReady.nil
      go_simp; refine hK _ _ ?_; clear hK K
      refine wpAny_ready (rs := [4]) (by kernel_rfl) (by simp) ?_; refine AllReady.cons rfl (fun K hK => ?_) AllReady.nil
      go_simp; refine hK _ _ ?_; clear hK K
      refine wpAny_done (by kernel_rfl) ?_ _
      have hT5 : Turn w.heap.size (w.heap.size + 2) w5 ((w5.setCell ⟨w.heap.size, 0, none⟩ (.int .i64 room)).setCell ⟨w.heap.size, 1, none⟩ (.slice aa L.length pp)) := ((Turn.refl _ _ _).setCell _ (.inl (by show w.heap.size ≤ w.heap.size ∧ w.heap.size < w.heap.size + 2; omega))).setCell _ (.inl (by show w.heap.size ≤ w.heap.size ∧ w.heap.size < w.heap.size + 2; omega))
      have HRD := hide ((reads_of_owns HO).turn hT5 (fun k hk => .inr (by have := (HO.lt k hk).1; omega)))
      have HB5 := hide (HBW.trans (hT5.below (Nat.le_refl _) HBW.size))
      clear hT5 HO HT
      go_wp2_with fail
      refine bodyPost_ret (v := .tuple #[.agg #[.int .i64 room, .slice aa L.length pp], .int .i64 r]) (by simp [results, Try.results12, go_sem, *]) rfl ?_
      exact ⟨room, _, L, r, rfl, HRD.out, HSM.out, hLL, HB5.out⟩
  · go_wp2_with fail
    refine region_inv (by kernel_rfl) (fun (l : Array Bool) (ac : Act) (u : World) => ∃ x3 x12 x13 x14 x15 x16 x17, ac = ⟨#[.slice a len cap, undef, .pointer (some ⟨w.heap.size, 0, none⟩), x3, .pointer (some ⟨g, 0, none⟩), .pointer (some ⟨b, 0, none⟩), .slice a len cap, .pointer (some ⟨g, 0, none⟩), .pointer (some ⟨g, 0, none⟩), .agg #[.int .i64 room, .slice aa L.length pp], .pointer (some ⟨g, 0, none⟩), .bool true, x12, x13, x14, x15, x16, x17, undef, undef, undef], []⟩ ∧ (l.getD 3 false = false → Cur u g w0.heap.size) ∧ Below w.heap.size w u ∧ RowIs u b 26 [.int .i64 room, .slice aa L.length pp] ∧ u.ownsRow (w1.heap.size + 1) 28 2 (.slice aa L.length pp) L.length (fv L) ∧ (l.getD 0 false = true → x12 = .agg #[.int .i64 room, .slice aa L.length pp]) ∧ (l.getD 1 false = true → IntR g (w.heap.size + 1) u x13) ∧ (l.getD 2 false = true → x14 = .pointer (some ⟨g, 0, none⟩)) ∧ (l.getD 3 false = true → Num4 x15) ∧ (l.getD 4 false = true → IntC g (w.heap.size + 1) u x16) ∧ (l.getD 5 false = true → Int1 x17) ∧ (l.getD 7 false = true → Int1 x3) ∧ TabR w.heap.size u (.int .i64 room) (.slice aa L.length pp) (l.getD 6 false = true)) ?h0 ?hs ?he
    case h0 => exact ⟨.int .i64 0, undef, undef, undef, undef, undef, undef, rfl, fun _ => hc4.drew, HBW.trans ⟨rfl, rfl, rfl, Nat.le_refl _, fun _ _ => rfl⟩, HT, HO, by simp, by simp, by simp, by simp, by simp, by simp, by simp, ⟨_, _, HR0, by simp⟩⟩
    case he =>
      rintro l ac u ⟨x3, x12, x13, x14, x15, x16, x17, rfl, hcu, hbu, hru, hou, f0, f1, f2, f3, f4, f5, f7, f6⟩ hl hr
      have hall := all_listed hl (by kernel_rfl) hr
      obtain ⟨r, rfl⟩ := f7 (hall 7 (by decide))
      obtain ⟨v0, v1, hrow, hv⟩ := f6
      obtain ⟨rfl, rfl⟩ := hv (hall 6 (by decide))
      have r0 := hrow.cell (j := 0) rfl
      have r1 := hrow.cell (j := 1) rfl
      have HRD := hide (reads_of_owns hou)
      have HB5 := hide hbu
      clear f0 f1 f2 f3 f4 f5 f7 hcu hbu hou hv hall
      go_wp2_with fail
      refine bodyPost_ret (v := .tuple #[.agg #[.int .i64 room, .slice aa L.length pp], .int .i64 r]) (by simp [results, Try.results12, go_sem, *]) rfl ?_
      exact ⟨room, _, L, r, rfl, HRD.out, HSM.out, hLL, HB5.out⟩
    case hs =>
      rintro l ac u i ⟨x3, x12, x13, x14, x15, x16, x17, rfl, hcu, hbu, hru, hou, f0, f1, f2, f3, f4, f5, f7, f6⟩ hl hr
      have hsu := hbu.size
      have hub := hru.lt
      have hlt := ready_lt hr
      match i, hlt, hr with
      | 0, _, hr =>
        have t0 := hru.cell (j := 0) rfl
        have t1 := hru.cell (j := 1) rfl
        refine wpOp_step (o := _) rfl (fun K hK => ?_)
        go_simp
        refine hK _ _ ?_; clear hK K
        exact ⟨_, _, _, _, _, _, _, rfl, fun h => hcu (set_same h), hbu, hru, hou, fun _ => rfl, fun h => f1 (set_or h (by decide)), fun h => f2 (set_or h (by decide)), fun h => f3 (set_or h (by decide)), fun h => f4 (set_or h (by decide)), fun h => f5 (set_or h (by decide)), fun h => f7 (set_or h (by decide)), f6.keep rfl (fun k => set_or k (by decide))⟩
      | 1, _, hr =>
        refine wpOp_step (o := _) rfl (fun K hK => ?_)
        go_simp
        refine hK _ _ ?_; clear hK K
        have hA : Below u.heap.size u (u.alloc (.cells #[.int .i64 (-1), .int .i64 0, .int .i64 1000, .int .i64 1001] 2)) := (Below.refl _ _).alloc (Nat.le_refl _) _
        have HK : Keeps (w.heap.size + 1) g u (u.alloc (.cells #[.int .i64 (-1), .int .i64 0, .int .i64 1000, .int .i64 1001] 2)) := fun k _ h _ => hA.block k h
        exact ⟨_, _, _, _, _, _, _, rfl, fun h => (hcu (set_same h)).alloc _, bchain hbu hA, hru.kept (HK b (by omega) hub (by omega)), owns_kept hou (fun k hk hlt => HK k (by have := (hou.lt k hk).1; omega) hlt (by have := (hou.lt k hk).1; omega)), fun h => f0 (set_or h (by decide)), fun _ => ⟨u.heap.size, _, _, _, _, rfl, by omega, by omega, rowIs_new u 2 [.int .i64 (-1), .int .i64 0, .int .i64 1000, .int .i64 1001]⟩, fun h => f2 (set_or h (by decide)), fun h => f3 (set_or h (by decide)), fun h => (f4 (set_or h (by decide))).keeps HK, fun h => f5 (set_or h (by decide)), fun h => f7 (set_or h (by decide)), f6.keep (hA.block _ (by omega)) (fun k => set_or k (by decide))⟩
      | 2, _, hr =>
        refine wpOp_step (o := _) rfl (fun K hK => ?_)
        go_simp
        refine hK _ _ ?_; clear hK K
        exact ⟨_, _, _, _, _, _, _, rfl, fun h => hcu (set_same h), hbu, hru, hou, fun h => f0 (set_or h (by decide)), fun h => f1 (set_or h (by decide)), fun _ => rfl, fun h => f3 (set_or h (by decide)), fun h => f4 (set_or h (by decide)), fun h => f5 (set_or h (by decide)), fun h => f7 (set_or h (by decide)), f6.keep rfl (fun k => set_or k (by decide))⟩
      | 3, _, hr =>
        obtain rfl := f2 (ready_waits hr (j := 2) (by kernel_rfl))
        have hcu0 := hcu (ready_new hr hl).1
        refine wpOp_step (o := _) rfl (fun K hK => ?_)
        go_simp
        refine (below1 g _ 4 _ hcu0 (by omega)).mono ?_; rintro e u1 ⟨z, z0, z1, _, rfl, hc2, hm2⟩
        have z4 : z < 4 := z1 (by omega)
        refine hK _ _ ?_; clear hK K
        have HK : Keeps (w.heap.size + 1) g u u1 := fun k _ h hg => hm2.block k h hg
        exact ⟨_, _, _, _, _, _, _, rfl, fun _ => hc2, hbu.trans (hm2.below (by omega) (by omega)), hru.kept (HK b (by omega) hub (by omega)), owns_kept hou (fun k hk hlt => HK k (by have := (hou.lt k hk).1; omega) hlt (by have := (hou.lt k hk).1; omega)), fun h => f0 (set_or h (by decide)), fun h => (f1 (set_or h (by decide))).keeps HK, fun h => f2 (set_or h (by decide)), fun _ => ⟨z, rfl, z0, z4⟩, fun h => (f4 (set_or h (by decide))).keeps HK, fun h => f5 (set_or h (by decide)), fun h => f7 (set_or h (by decide)), f6.keep (hm2.block _ (by omega) (by omega)) (fun k => set_or k (by decide))⟩
      | 4, _, hr =>
        obtain ⟨b4, s0, s1, s2, s3, rfl, hbg, hbl, hrow⟩ := f1 (ready_waits hr (j := 1) (by kernel_rfl))
        obtain ⟨z, rfl, z0, z4⟩ := f3 (ready_waits hr (j := 3) (by kernel_rfl))
        obtain ⟨k, rfl⟩ : ∃ k : Nat, z = k := ⟨z.toNat, by omega⟩
        have hk : k < 4 := by omega
        obtain ⟨s, hcell⟩ := cellI4 hrow k hk
        refine wpOp_step (o := _) rfl (fun K hK => ?_)
        go_simp
        refine hK _ _ ?_; clear hK K
        exact ⟨_, _, _, _, _, _, _, rfl, fun h => hcu (set_same h), hbu, hru, hou, fun h => f0 (set_or h (by decide)), fun h => f1 (set_or h (by decide)), fun h => f2 (set_or h (by decide)), fun h => f3 (set_or h (by decide)), fun _ => ⟨b4, k, s, by first | rfl | simp, hbg, hbl, hcell⟩, fun h => f5 (set_or h (by decide)), fun h => f7 (set_or h (by decide)), f6.keep rfl (fun k => set_or k (by decide))⟩
      | 5, _, hr =>
        obtain ⟨b4, k, s, rfl, hbg, hbl, hcell⟩ := f4 (ready_waits hr (j := 4) (by kernel_rfl))
        refine wpOp_step (o := _) rfl (fun K hK => ?_)
        go_simp
        refine hK _ _ ?_; clear hK K
        exact ⟨_, _, _, _, _, _, _, rfl, fun h => hcu (set_same h), hbu, hru, hou, fun h => f0 (set_or h (by decide)), fun h => f1 (set_or h (by decide)), fun h => f2 (set_or h (by decide)), fun h => f3 (set_or h (by decide)), fun h => f4 (set_or h (by decide)), fun _ => ⟨s, rfl⟩, fun h => f7 (set_or h (by decide)), f6.keep rfl (fun k => set_or k (by decide))⟩
      | 6, _, hr =>
        obtain rfl := f0 (ready_waits hr (j := 0) (by kernel_rfl))
        obtain ⟨v0, v1, hrow, _⟩ := f6
        have c0 := hrow.cell (j := 0) rfl
        have c1 := hrow.cell (j := 1) rfl
        have e0 := hrow.frozen 0
        have e1 := hrow.frozen 1
        have hd3 := ready_waits hr (j := 3) (by kernel_rfl)
        refine wpOp_step (o := _) rfl (fun K hK => ?_)
        go_simp
        refine hK _ _ ?_; clear hK K
        have HK : Keeps (w.heap.size + 1) g u ((u.setCell ⟨w.heap.size, 0, none⟩ (.int .i64 room)).setCell ⟨w.heap.size, 1, none⟩ (.slice aa L.length pp)) := fun k h1 _ _ => (Below.heap_setCell _ ⟨w.heap.size, 1, none⟩ _ k (by show k ≠ w.heap.size; omega)).trans (Below.heap_setCell _ ⟨w.heap.size, 0, none⟩ _ k (by show k ≠ w.heap.size; omega))
        exact ⟨_, _, _, _, _, _, _, rfl, fun h => (by rw [set_same h] at hd3; cases hd3), (hbu.setCell (p := ⟨w.heap.size, 0, none⟩) (Nat.le_refl w.heap.size) _).setCell (p := ⟨w.heap.size, 1, none⟩) (Nat.le_refl w.heap.size) _, hru.kept (HK b (by omega) hub (by omega)), owns_kept hou (fun k hk hlt => HK k (by have := (hou.lt k hk).1; omega) hlt (by have := (hou.lt k hk).1; omega)), fun h => f0 (set_or h (by decide)), fun h => (f1 (set_or h (by decide))).keeps HK, fun h => f2 (set_or h (by decide)), fun h => f3 (set_or h (by decide)), fun h => (f4 (set_or h (by decide))).keeps HK, fun h => f5 (set_or h (by decide)), fun h => f7 (set_or h (by decide)), ⟨_, _, (hrow.set 0 _).set 1 _, fun _ => ⟨rfl, rfl⟩⟩⟩
      | 7, _, hr =>
        obtain ⟨s, rfl⟩ := f5 (ready_waits hr (j := 5) (by kernel_rfl))
        refine wpOp_step (o := _) rfl (fun K hK => ?_)
        go_simp
        refine hK _ _ ?_; clear hK K
        exact ⟨_, _, _, _, _, _, _, rfl, fun h => hcu (set_same h), hbu, hru, hou, fun h => f0 (set_or h (by decide)), fun h => f1 (set_or h (by decide)), fun h => f2 (set_or h (by decide)), fun h => f3 (set_or h (by decide)), fun h => f4 (set_or h (by decide)), fun h => f5 (set_or h (by decide)), fun _ => ⟨s, rfl⟩, f6.keep rfl (fun k => set_or k (by decide))⟩
      | n + 8, h, _ => exact absurd h (by show ¬ n + 8 < 8; omega)
end Go.Proofs.Ythjbmmppckgcjaa
