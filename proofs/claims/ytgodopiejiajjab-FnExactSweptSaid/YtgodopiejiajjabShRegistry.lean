/- Registry in memory: its datum, its make; counted, copied, held against each other, marked, read again (by gen_shape.py). -/
import Derived.Test.YtgodopiejiajjabShape2
import Derived.Test.YtgodopiejiajjabLater
import Derived.Test.YtgodopiejiajjabShOpen
import Derived.Test.YtgodopiejiajjabShEntry

namespace Go.Proofs.Ytgodopiejiajjab
open Go.RowKit
set_option maxRecDepth 100000
set_option linter.unusedSimpArgs false
set_option linter.unusedVariables false

/-- What a Registry holds. -/
structure RegistryD where
  lim : Int
  top : Int
  es : List EntryD
def registryS : Shp RegistryD where
  size := 3
  ty := 28
  rd := fun w cs d => ∃ ves : Value, cs = [.int .i64 d.lim, .int .i64 d.top, ves] ∧ RdR entryS w ves d.es
  own := fun w cs d bs => ∃ (ves : Value) (b0 : List Nat), cs = [.int .i64 d.lim, .int .i64 d.top, ves] ∧ OwR entryS w ves d.es b0 ∧ bs = b0
  pos := by decide
  rd_len := fun h => by obtain ⟨ves, rfl, _⟩ := h; rfl
  rd_one := fun h u hu => by
    obtain ⟨ves, rfl, h0⟩ := h
    obtain ⟨_, _, rfl, _⟩ := h0.form
    simp only [List.mem_cons, List.not_mem_nil, or_false] at hu
    rcases hu with rfl | rfl | rfl <;> rfl
  rd_new := fun h hb => by obtain ⟨ves, rfl, h0⟩ := h; exact ⟨ves, rfl, h0.new hb⟩
  own_rd := fun h => by obtain ⟨ves, b0, rfl, h0, rfl⟩ := h; exact ⟨ves, rfl, h0.rd⟩
  own_keep := fun h hs hk => by obtain ⟨ves, b0, rfl, h0, rfl⟩ := h; exact ⟨ves, _, rfl, h0.keep hs (fun b hb => hk b (by simp [hb])), rfl⟩
  own_lt := fun h b hb => by obtain ⟨ves, b0, rfl, h0, rfl⟩ := h; exact h0.lt b hb
/-- How much it holds, as the laws count. -/
def szRegistry (d : RegistryD) : Int := szEntryS d.es
theorem szRegistry_nn (d : RegistryD) : 0 ≤ szRegistry d := by unfold szRegistry; have := szEntryS_nn d.es; omega
def szRegistryS (L : List RegistryD) : Int := L.length + sumLs szRegistry L
theorem szRegistryS_nn (L : List RegistryD) : 0 ≤ szRegistryS L := by unfold szRegistryS; have := sum_nn szRegistry szRegistry_nn L; omega
theorem szRegistryS_mem {L : List RegistryD} {d : RegistryD} (h : d ∈ L) : szRegistry d ≤ szRegistryS L := by unfold szRegistryS; have := sum_mem szRegistry szRegistry_nn L d h; omega
theorem szRegistryS_len (L : List RegistryD) : (L.length : Int) ≤ szRegistryS L := by unfold szRegistryS; have := sum_nn szRegistry szRegistry_nn L; omega
/-- The marks of one in a row, from k on; how many; and of a row. -/
def mkRegistry (d : RegistryD) (k : Nat) : RegistryD := ⟨((k : Nat) : Int), ((k + 1 : Nat) : Int), mkEntryS d.es (k + 1 + 1)⟩
def cntRegistry (d : RegistryD) : Nat := 1 + 1 + cntEntryS d.es
def mkRegistryS (L : List RegistryD) (k : Nat) : List RegistryD := mkLs mkRegistry cntRegistry L k
def cntRegistryS (L : List RegistryD) : Nat := cntLs cntRegistry L
set_option maxHeartbeats 1000000 in
theorem toRegistry1 (d : RegistryD) (ves : Value) (w : World) (hves : RdR entryS w ves d.es) (hs : szRegistry d ≤ 1048576) :
    Calls Try.prog 6 #[.agg #[.int .i64 d.lim, .int .i64 d.top, ves]] w fun x w' => ∃ ves' : Value, x = .returned (.agg #[.int .i64 d.lim, .int .i64 d.top, ves']) ∧ OwX entryS w' w.heap.size w'.heap.size ves' d.es ∧ Below w.heap.size w w' := by
  have Hves := hide hves
  obtain ⟨aves, pves, rfl, _⟩ := hves.form
  clear hves
  have hz : szEntryS d.es ≤ 1048576 := by unfold szRegistry at hs; omega
  go_enter Try.func6, Try.ntmps6
  go_wp2_with fail
  refine (toEntryS d.es _ _ ?c1 hz).mono ?_
  case c1 => exact Hves.out.new (by repeat' (first | (with_reducible exact Below.refl _ _) | (with_reducible refine Below.drew ?_) | (with_reducible refine bo_drewN _ ?_) | (with_reducible refine bo_alloc ?_ _) | (refine bchain ?_ (by with_reducible assumption)) | (with_reducible refine Below.setCell ?_ ?_ _) | go_size))
  rintro x w1 ⟨v1, rfl, ho, hb1⟩; have hz1 := hb1.size; (try simp at hz1); have hc1 := fun o => hb1.cell (p := ⟨w.heap.size, o, none⟩) (by first | (simp; done) | (simp; omega) | omega); have hf1 := fun o => hb1.frozen (p := ⟨w.heap.size, o, none⟩) (by first | (simp; done) | (simp; omega) | omega); have hcn1 := fun o => hb1.cell (p := ⟨w.heap.size + 1, o, none⟩) (by first | (simp; done) | (simp; omega) | omega); have hfn1 := fun o => hb1.frozen (p := ⟨w.heap.size + 1, o, none⟩) (by first | (simp; done) | (simp; omega) | omega); have hcm1 := fun o => hb1.cell (p := ⟨w.heap.size + 2, o, none⟩) (by first | (simp; done) | (simp; omega) | omega); have hfm1 := fun o => hb1.frozen (p := ⟨w.heap.size + 2, o, none⟩) (by first | (simp; done) | (simp; omega) | omega)
  have hbw : Below w.heap.size w w1 := (by repeat' (first | (with_reducible exact Below.refl _ _) | (with_reducible refine Below.drew ?_) | (with_reducible refine bo_drewN _ ?_) | (with_reducible refine bo_alloc ?_ _) | (refine bchain ?_ (by with_reducible assumption)) | (with_reducible refine Below.setCell ?_ ?_ _) | go_size))
  obtain ⟨ad1, cap1, rfl, _⟩ := ho.form
  have HO := hide ho
  clear ho
  go_wp2_with fail
  refine bodyPost_ret (v := .agg #[.int .i64 d.lim, .int .i64 d.top, .slice ad1 d.es.length cap1]) (by simp [results, Try.results6, go_sem, *]) rfl ?_
  refine ⟨_, rfl, ?_, (by repeat' (first | (with_reducible exact Below.refl _ _) | (with_reducible refine Below.drew ?_) | (with_reducible refine bo_drewN _ ?_) | (with_reducible refine bo_alloc ?_ _) | (refine bchain ?_ (by with_reducible assumption)) | (with_reducible refine Below.setCell ?_ ?_ _) | go_size))⟩
  refine (OwX.wide (lo' := w.heap.size) ?_ (Nat.le_refl _) (Nat.le_refl _))
  have ho := HO.out.wide (lo' := w.heap.size + 3) (by simp) (Nat.le_refl _)
  have hz1 := HO.out
  refine OwX.top (hi := w1.heap.size) ?_
  refine OwX.wide (lo := w.heap.size + 3) ?_ (by omega) (Nat.le_refl _)
  (repeat' (first | (with_reducible exact ho) | (with_reducible refine OwX.far ?_ _ _ ?_) | (simp; done) | (simp; omega)))
set_option maxHeartbeats 1000000 in
theorem eqRegistry1 (d : RegistryD) (ves : Value) (uves : Value) (w : World) (hves : RdR entryS w ves d.es) (huves : RdR entryS w uves d.es) :
    Calls Try.prog 8 #[.agg #[.int .i64 d.lim, .int .i64 d.top, ves], .agg #[.int .i64 d.lim, .int .i64 d.top, uves]] w fun x w' => x = .returned (.bool true) ∧ Below w.heap.size w w' := by
  have Hves := hide hves
  obtain ⟨aves, pves, rfl, _⟩ := hves.form
  clear hves
  have Huves := hide huves
  obtain ⟨auves, puves, rfl, _⟩ := huves.form
  clear huves
  go_enter Try.func8, Try.ntmps8
  go_wp2_with fail
  refine (eqEntryS d.es _ _ _ ?c1 ?c2).mono ?_
  case c1 => exact Hves.out.new (by repeat' (first | (with_reducible exact Below.refl _ _) | (with_reducible refine Below.drew ?_) | (with_reducible refine bo_drewN _ ?_) | (with_reducible refine bo_alloc ?_ _) | (refine bchain ?_ (by with_reducible assumption)) | (with_reducible refine Below.setCell ?_ ?_ _) | go_size))
  case c2 => exact Huves.out.new (by repeat' (first | (with_reducible exact Below.refl _ _) | (with_reducible refine Below.drew ?_) | (with_reducible refine bo_drewN _ ?_) | (with_reducible refine bo_alloc ?_ _) | (refine bchain ?_ (by with_reducible assumption)) | (with_reducible refine Below.setCell ?_ ?_ _) | go_size))
  rintro x w1 ⟨rfl, hb1⟩; have hz1 := hb1.size; (try simp at hz1); have hc1 := fun o => hb1.cell (p := ⟨w.heap.size, o, none⟩) (by first | (simp; done) | (simp; omega) | omega); have hf1 := fun o => hb1.frozen (p := ⟨w.heap.size, o, none⟩) (by first | (simp; done) | (simp; omega) | omega); have hcn1 := fun o => hb1.cell (p := ⟨w.heap.size + 1, o, none⟩) (by first | (simp; done) | (simp; omega) | omega); have hfn1 := fun o => hb1.frozen (p := ⟨w.heap.size + 1, o, none⟩) (by first | (simp; done) | (simp; omega) | omega)
  go_wp2_with fail
  go_ret
  exact ⟨rfl, (by repeat' (first | (with_reducible exact Below.refl _ _) | (with_reducible refine Below.drew ?_) | (with_reducible refine bo_drewN _ ?_) | (with_reducible refine bo_alloc ?_ _) | (refine bchain ?_ (by with_reducible assumption)) | (with_reducible refine Below.setCell ?_ ?_ _) | go_size))⟩
set_option maxHeartbeats 1000000 in
theorem szRegistry1 (d : RegistryD) (ves : Value) (left : Int) (w : World) (hves : RdR entryS w ves d.es) (h0 : 0 ≤ left) (h1 : left ≤ 1048576) :
    Calls Try.prog 4 #[.agg #[.int .i64 d.lim, .int .i64 d.top, ves], .int .i64 left] w fun x w' => (x = .returned (.int .i64 (-1)) ∨ (x = .returned (.int .i64 (left - szRegistry d)) ∧ 0 ≤ left - szRegistry d)) ∧ Below w.heap.size w w' := by
  have Hves := hide hves
  obtain ⟨aves, pves, rfl, _⟩ := hves.form
  clear hves
  unfold szRegistry
  obtain ⟨R, hR⟩ : ∃ R, left - szEntryS d.es = R := ⟨_, rfl⟩
  rw [hR]
  have hcall := fun v w h => szEntryS1 d.es v left w h h0 h1
  rw [hR] at hcall
  clear hR
  go_enter Try.func4, Try.ntmps4
  go_wp2_with fail
  refine (hcall _ _ ?c1).mono ?_
  case c1 => exact Hves.out.new (by repeat' (first | (with_reducible exact Below.refl _ _) | (with_reducible refine Below.drew ?_) | (with_reducible refine bo_drewN _ ?_) | (with_reducible refine bo_alloc ?_ _) | (refine bchain ?_ (by with_reducible assumption)) | (with_reducible refine Below.setCell ?_ ?_ _) | go_size))
  rintro x w1 ⟨rfl | ⟨rfl, hp⟩, hb1⟩
  · go_wp2_with fail
    go_ret
    exact ⟨.inl rfl, (by repeat' (first | (with_reducible exact Below.refl _ _) | (with_reducible refine Below.drew ?_) | (with_reducible refine bo_drewN _ ?_) | (with_reducible refine bo_alloc ?_ _) | (refine bchain ?_ (by with_reducible assumption)) | (with_reducible refine Below.setCell ?_ ?_ _) | go_size))⟩
  · have hp' : ¬ R < 0 := by omega
    go_wp2_with fail
    go_ret
    exact ⟨.inr ⟨rfl, hp⟩, (by repeat' (first | (with_reducible exact Below.refl _ _) | (with_reducible refine Below.drew ?_) | (with_reducible refine bo_drewN _ ?_) | (with_reducible refine bo_alloc ?_ _) | (refine bchain ?_ (by with_reducible assumption)) | (with_reducible refine Below.setCell ?_ ?_ _) | go_size))⟩
set_option maxHeartbeats 1000000 in
theorem markRegistry1 (d : RegistryD) (ves : Value) (k : Nat) (bs : List Nat) (w : World) (ho : OwR entryS w ves d.es bs) (hn : bs.Nodup) (hk1 : k + cntEntryS d.es ≤ 1000000000) :
    Calls Try.prog 9 #[.agg #[.int .i64 d.lim, .int .i64 d.top, ves], .int .i64 k] w fun x w' => x = .returned (.int .i64 ((k + cntEntryS d.es : Nat) : Int)) ∧ OwR entryS w' ves (mkEntryS d.es k) bs ∧ TurnB bs w w' := by
  obtain ⟨ad, cap, rfl, h1, h2⟩ := ho.rd.form
  have HO := hide ho
  clear ho
  obtain ⟨K, hK⟩ : ∃ K : Nat, K = k + cntEntryS d.es := ⟨_, rfl⟩
  rw [← hK]
  have HK := hide hK
  clear hK
  go_enter Try.func9, Try.ntmps9
  go_wp2_with fail
  have hbx : Below w.heap.size w (w.alloc (.cells #[.int .i64 d.lim, .int .i64 d.top, .slice ad d.es.length cap] 28)) := (Below.refl _ _).alloc (Nat.le_refl _) _
  refine (markEntryS d.es k _ bs _ (HO.out.keep hbx.size (fun b hb => hbx.block b (HO.out.lt b hb))) hn hk1).mono ?_
  rw [← HK.out]
  rintro x w1 ⟨rfl, ho1, ht1⟩
  have HO1 := hide ho1
  have HT1 := hide ((TurnB.new (bs := bs) hbx).trans ht1)
  clear ho1 ht1
  go_wp2_with fail
  go_ret
  exact ⟨rfl, HO1.out, HT1.out⟩
set_option maxHeartbeats 1000000 in
theorem heldRegistry1 (d : RegistryD) (ves : Value) (k : Nat) (w : World) (L : List EntryD) (hr : RdR entryS w ves (mkEntryS L k)) (hk1 : k + cntEntryS L ≤ 1000000000) :
    Calls Try.prog 10 #[.agg #[.int .i64 d.lim, .int .i64 d.top, ves], .int .i64 k] w fun x w' => x = .returned (.int .i64 ((k + cntEntryS L : Nat) : Int)) ∧ Below w.heap.size w w' := by
  obtain ⟨ad, cap, rfl, h1, h2⟩ := hr.form
  have HR := hide hr
  clear hr
  obtain ⟨K, hK⟩ : ∃ K : Nat, K = k + cntEntryS L := ⟨_, rfl⟩
  rw [← hK]
  have HK := hide hK
  clear hK
  go_enter Try.func10, Try.ntmps10
  go_wp2_with fail
  refine (heldEntryS L k _ _ ?c1 hk1).mono ?_
  case c1 => exact HR.out.new (by repeat' (first | (with_reducible exact Below.refl _ _) | (with_reducible refine Below.drew ?_) | (with_reducible refine bo_drewN _ ?_) | (with_reducible refine bo_alloc ?_ _) | (refine bchain ?_ (by with_reducible assumption)) | (with_reducible refine Below.setCell ?_ ?_ _) | go_size))
  rw [← HK.out]
  rintro x w1 ⟨rfl, hb1⟩
  go_wp2_with fail
  go_ret
  exact ⟨rfl, (by repeat' (first | (with_reducible exact Below.refl _ _) | (with_reducible refine Below.drew ?_) | (with_reducible refine bo_drewN _ ?_) | (with_reducible refine bo_alloc ?_ _) | (refine bchain ?_ (by with_reducible assumption)) | (with_reducible refine Below.setCell ?_ ?_ _) | go_size))⟩
open Go.ChangeShapes Go.WideShapes Go.ChangeAt Go.Joins in
theorem open_Registry {H : Type} {enc : TypeId × Value → H} {W : World} {base : Nat} {v : Value} {d : DataW H} {p : List MemPlace} (hv : Value.okWide Try.prog W .any base 24 v)
    (h : DataW.Trod enc Try.prog W 0 (fun _ => true) true 24 v d p) : ∃ (d : RegistryD) (ves : Value), v = .agg #[.int .i64 d.lim, .int .i64 d.top, ves] ∧ RdR entryS W ves d.es := by
  obtain ⟨c0, c1, c2, y0, y1, y2, n, rfl, _, _, h0, h1, h2⟩ := open_agg3 Try.underlying24 (by kernel_rfl) (by kernel_rfl) hv h
  obtain ⟨i0, e0, _⟩ := DataW.trod_int Try.underlying2 h0
  simp only [List.cons.injEq, and_true] at e0
  subst e0
  obtain ⟨i1, e1, _⟩ := DataW.trod_int Try.underlying2 h1
  simp only [List.cons.injEq, and_true] at e1
  subst e1
  obtain ⟨L2, hL2⟩ := open_shape (E := entryS) ⟨0, 0⟩ Try.underlying22 (by kernel_rfl) (fun cs n y hy => open_cellsEntry hy) h2
  exact ⟨⟨i0, i1, L2⟩, c2, rfl, hL2⟩

end Go.Proofs.Ytgodopiejiajjab
