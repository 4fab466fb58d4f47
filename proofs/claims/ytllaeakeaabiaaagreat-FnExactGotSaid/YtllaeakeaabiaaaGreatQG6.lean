/- Several small texts of one level, one behind the other. -/
import Derived.Test.YtllaeakeaabiaaaGreatQG4
import Derived.Test.YtllaeakeaabiaaaGreatQG2
import Derived.Test.YtllaeakeaabiaaaGreatQG5
import Derived.Lib.EndianBits
import Derived.Handy
import Derived.Deep.Cut
import Derived.Deep.DeepCutAuto
/- Registry in memory: its datum, its make; counted, copied, held against each other, marked, read again (by gen_shape.py). -/
namespace Go.Proofs.YtllaeakeaabiaaaGreat
open Go.RowKit
set_option maxRecDepth 100000
set_option linter.unusedSimpArgs false
set_option linter.unusedVariables false

/-- What a Registry holds. -/
structure RegistryD where
  lim : Int
  top : Int
  es : List EntryD
def registryS : Shp RegistryD where
  size := 3
  ty := 37
  rd := fun w cs d => ∃ ves : Value, cs = [.int .i64 d.lim, .int .i64 d.top, ves] ∧ RdR entryS w ves d.es
  own := fun w cs d bs => ∃ (ves : Value) (b0 : List Nat), cs = [.int .i64 d.lim, .int .i64 d.top, ves] ∧ OwR entryS w ves d.es b0 ∧ bs = b0
  pos := by decide
  rd_len := fun h => by obtain ⟨ves, rfl, _⟩ := h; rfl
  rd_one := fun h u hu => by
    obtain ⟨ves, rfl, h0⟩ := h
    obtain ⟨_, _, rfl, _⟩ := h0.form
    simp only [List.mem_cons, List.not_mem_nil, or_false] at hu
    rcases hu with rfl | rfl | rfl <;> rfl
  rd_new := fun h hb => by obtain ⟨ves, rfl, h0⟩ := h; exact ⟨ves, rfl, h0.new hb⟩
  own_rd := fun h => by obtain ⟨ves, b0, rfl, h0, rfl⟩ := h; exact ⟨ves, rfl, h0.rd⟩
  own_keep := fun h hs hk => by obtain ⟨ves, b0, rfl, h0, rfl⟩ := h; exact ⟨ves, _, rfl, h0.keep hs (fun b hb => hk b (by simp [hb])), rfl⟩
  own_lt := fun h b hb => by obtain ⟨ves, b0, rfl, h0, rfl⟩ := h; exact h0.lt b hb
/-- How much it holds, as the laws count. -/
def szRegistry (d : RegistryD) : Int := szEntryS d.es
theorem szRegistry_nn (d : RegistryD) : 0 ≤ szRegistry d := by unfold szRegistry; have := szEntryS_nn d.es; omega
def szRegistryS (L : List RegistryD) : Int := L.length + sumLs szRegistry L
theorem szRegistryS_nn (L : List RegistryD) : 0 ≤ szRegistryS L := by unfold szRegistryS; have := sum_nn szRegistry szRegistry_nn L; omega
theorem szRegistryS_mem {L : List RegistryD} {d : RegistryD} (h : d ∈ L) : szRegistry d ≤ szRegistryS L := by unfold szRegistryS; have := sum_mem szRegistry szRegistry_nn L d h; omega
theorem szRegistryS_len (L : List RegistryD) : (L.length : Int) ≤ szRegistryS L := by unfold szRegistryS; have := sum_nn szRegistry szRegistry_nn L; omega
/-- The marks of one in a row, from k on; how many; and of a row. -/
def mkRegistry (d : RegistryD) (k : Nat) : RegistryD := ⟨((k : Nat) : Int), ((k + 1 : Nat) : Int), mkEntryS d.es (k + 1 + 1)⟩
def cntRegistry (d : RegistryD) : Nat := 1 + 1 + cntEntryS d.es
def mkRegistryS (L : List RegistryD) (k : Nat) : List RegistryD := mkLs mkRegistry cntRegistry L k
def cntRegistryS (L : List RegistryD) : Nat := cntLs cntRegistry L
set_option maxHeartbeats 1000000 in
theorem toRegistry1 (d : RegistryD) (ves : Value) (w : World) (hves : RdR entryS w ves d.es) (hs : szRegistry d ≤ 1048576) :
    Calls Tryz.prog 26 #[.agg #[.int .i64 d.lim, .int .i64 d.top, ves]] w fun x w' => ∃ ves' : Value, x = .returned (.agg #[.int .i64 d.lim, .int .i64 d.top, ves']) ∧ OwX entryS w' w.heap.size w'.heap.size ves' d.es ∧ Below w.heap.size w w' := by
  have Hves := hide hves
  obtain ⟨aves, pves, rfl, _⟩ := hves.form
  clear hves
  have hz : szEntryS d.es ≤ 1048576 := by unfold szRegistry at hs; omega
  go_enter Tryz.func26, Tryz.ntmps26
  go_wp2_with fail
  refine (toEntryS d.es _ _ ?c1 hz).mono ?_
  case c1 => exact Hves.out.new (by repeat' (first | (with_reducible exact Below.refl _ _) | (with_reducible refine Below.drew ?_) | (with_reducible refine bo_drewN _ ?_) | (with_reducible refine bo_alloc ?_ _) | (refine bchain ?_ (by with_reducible assumption)) | (with_reducible refine Below.setCell ?_ ?_ _) | go_size))
  rintro x w1 ⟨v1, rfl, ho, hb1⟩; have hz1 := hb1.size; (try simp at hz1); have hc1 := fun o => hb1.cell (p := ⟨w.heap.size, o, none⟩) (by first | (simp; done) | (simp; omega) | omega); have hf1 := fun o => hb1.frozen (p := ⟨w.heap.size, o, none⟩) (by first | (simp; done) | (simp; omega) | omega); have hcn1 := fun o => hb1.cell (p := ⟨w.heap.size + 1, o, none⟩) (by first | (simp; done) | (simp; omega) | omega); have hfn1 := fun o => hb1.frozen (p := ⟨w.heap.size + 1, o, none⟩) (by first | (simp; done) | (simp; omega) | omega); have hcm1 := fun o => hb1.cell (p := ⟨w.heap.size + 2, o, none⟩) (by first | (simp; done) | (simp; omega) | omega); have hfm1 := fun o => hb1.frozen (p := ⟨w.heap.size + 2, o, none⟩) (by first | (simp; done) | (simp; omega) | omega)
  have hbw : Below w.heap.size w w1 := (by repeat' (first | (with_reducible exact Below.refl _ _) | (with_reducible refine Below.drew ?_) | (with_reducible refine bo_drewN _ ?_) | (with_reducible refine bo_alloc ?_ _) | (refine bchain ?_ (by with_reducible assumption)) | (with_reducible refine Below.setCell ?_ ?_ _) | go_size))
  obtain ⟨ad1, cap1, rfl, _⟩ := ho.form
  have HO := hide ho
  clear ho
  go_wp2_with fail
  refine bodyPost_ret (v := .agg #[.int .i64 d.lim, .int .i64 d.top, .slice ad1 d.es.length cap1]) (by simp [results, Tryz.results26, go_sem, *]) rfl ?_
  refine ⟨_, rfl, ?_, (by repeat' (first | (with_reducible exact Below.refl _ _) | (with_reducible refine Below.drew ?_) | (with_reducible refine bo_drewN _ ?_) | (with_reducible refine bo_alloc ?_ _) | (refine bchain ?_ (by with_reducible assumption)) | (with_reducible refine Below.setCell ?_ ?_ _) | go_size))⟩
  refine (OwX.wide (lo' := w.heap.size) ?_ (Nat.le_refl _) (Nat.le_refl _))
  have ho := HO.out.wide (lo' := w.heap.size + 3) (by simp) (Nat.le_refl _)
  have hz1 := HO.out
  refine OwX.top (hi := w1.heap.size) ?_
  refine OwX.wide (lo := w.heap.size + 3) ?_ (by omega) (Nat.le_refl _)
  (repeat' (first | (with_reducible exact ho) | (with_reducible refine OwX.far ?_ _ _ ?_) | (simp; done) | (simp; omega)))
set_option maxHeartbeats 1000000 in
theorem eqRegistry1 (d : RegistryD) (ves : Value) (uves : Value) (w : World) (hves : RdR entryS w ves d.es) (huves : RdR entryS w uves d.es) :
    Calls Tryz.prog 32 #[.agg #[.int .i64 d.lim, .int .i64 d.top, ves], .agg #[.int .i64 d.lim, .int .i64 d.top, uves]] w fun x w' => x = .returned (.bool true) ∧ Below w.heap.size w w' := by
  have Hves := hide hves
  obtain ⟨aves, pves, rfl, _⟩ := hves.form
  clear hves
  have Huves := hide huves
  obtain ⟨auves, puves, rfl, _⟩ := huves.form
  clear huves
  go_enter Tryz.func32, Tryz.ntmps32
  go_wp2_with fail
  refine (eqEntryS d.es _ _ _ ?c1 ?c2).mono ?_
  case c1 => exact Hves.out.new (by repeat' (first | (with_reducible exact Below.refl _ _) | (with_reducible refine Below.drew ?_) | (with_reducible refine bo_drewN _ ?_) | (with_reducible refine bo_alloc ?_ _) | (refine bchain ?_ (by with_reducible assumption)) | (with_reducible refine Below.setCell ?_ ?_ _) | go_size))
  case c2 => exact Huves.out.new (by repeat' (first | (with_reducible exact Below.refl _ _) | (with_reducible refine Below.drew ?_) | (with_reducible refine bo_drewN _ ?_) | (with_reducible refine bo_alloc ?_ _) | (refine bchain ?_ (by with_reducible assumption)) | (with_reducible refine Below.setCell ?_ ?_ _) | go_size))
  rintro x w1 ⟨rfl, hb1⟩; have hz1 := hb1.size; (try simp at hz1); have hc1 := fun o => hb1.cell (p := ⟨w.heap.size, o, none⟩) (by first | (simp; done) | (simp; omega) | omega); have hf1 := fun o => hb1.frozen (p := ⟨w.heap.size, o, none⟩) (by first | (simp; done) | (simp; omega) | omega); have hcn1 := fun o => hb1.cell (p := ⟨w.heap.size + 1, o, none⟩) (by first | (simp; done) | (simp; omega) | omega); have hfn1 := fun o => hb1.frozen (p := ⟨w.heap.size + 1, o, none⟩) (by first | (simp; done) | (simp; omega) | omega)
  go_wp2_with fail
  go_ret
  exact ⟨rfl, (by repeat' (first | (with_reducible exact Below.refl _ _) | (with_reducible refine Below.drew ?_) | (with_reducible refine bo_drewN _ ?_) | (with_reducible refine bo_alloc ?_ _) | (refine bchain ?_ (by with_reducible assumption)) | (with_reducible refine Below.setCell ?_ ?_ _) | go_size))⟩
set_option maxHeartbeats 1000000 in
theorem szRegistry1 (d : RegistryD) (ves : Value) (left : Int) (w : World) (hves : RdR entryS w ves d.es) (h0 : 0 ≤ left) (h1 : left ≤ 1048576) :
    Calls Tryz.prog 19 #[.agg #[.int .i64 d.lim, .int .i64 d.top, ves], .int .i64 left] w fun x w' => (x = .returned (.int .i64 (-1)) ∨ (x = .returned (.int .i64 (left - szRegistry d)) ∧ 0 ≤ left - szRegistry d)) ∧ Below w.heap.size w w' := by
  have Hves := hide hves
  obtain ⟨aves, pves, rfl, _⟩ := hves.form
  clear hves
  unfold szRegistry
  obtain ⟨R, hR⟩ : ∃ R, left - szEntryS d.es = R := ⟨_, rfl⟩
  rw [hR]
  have hcall := fun v w h => szEntryS1 d.es v left w h h0 h1
  rw [hR] at hcall
  clear hR
  go_enter Tryz.func19, Tryz.ntmps19
  go_wp2_with fail
  refine (hcall _ _ ?c1).mono ?_
  case c1 => exact Hves.out.new (by repeat' (first | (with_reducible exact Below.refl _ _) | (with_reducible refine Below.drew ?_) | (with_reducible refine bo_drewN _ ?_) | (with_reducible refine bo_alloc ?_ _) | (refine bchain ?_ (by with_reducible assumption)) | (with_reducible refine Below.setCell ?_ ?_ _) | go_size))
  rintro x w1 ⟨rfl | ⟨rfl, hp⟩, hb1⟩
  · go_wp2_with fail
    go_ret
    exact ⟨.inl rfl, (by repeat' (first | (with_reducible exact Below.refl _ _) | (with_reducible refine Below.drew ?_) | (with_reducible refine bo_drewN _ ?_) | (with_reducible refine bo_alloc ?_ _) | (refine bchain ?_ (by with_reducible assumption)) | (with_reducible refine Below.setCell ?_ ?_ _) | go_size))⟩
  · have hp' : ¬ R < 0 := by omega
    go_wp2_with fail
    go_ret
    exact ⟨.inr ⟨rfl, hp⟩, (by repeat' (first | (with_reducible exact Below.refl _ _) | (with_reducible refine Below.drew ?_) | (with_reducible refine bo_drewN _ ?_) | (with_reducible refine bo_alloc ?_ _) | (refine bchain ?_ (by with_reducible assumption)) | (with_reducible refine Below.setCell ?_ ?_ _) | go_size))⟩
set_option maxHeartbeats 1000000 in
theorem markRegistry1 (d : RegistryD) (ves : Value) (k : Nat) (bs : List Nat) (w : World) (ho : OwR entryS w ves d.es bs) (hn : bs.Nodup) (hk1 : k + cntEntryS d.es ≤ 1000000000) :
    Calls Tryz.prog 36 #[.agg #[.int .i64 d.lim, .int .i64 d.top, ves], .int .i64 k] w fun x w' => x = .returned (.int .i64 ((k + cntEntryS d.es : Nat) : Int)) ∧ OwR entryS w' ves (mkEntryS d.es k) bs ∧ TurnB bs w w' := by
  obtain ⟨ad, cap, rfl, h1, h2⟩ := ho.rd.form
  have HO := hide ho
  clear ho
  obtain ⟨K, hK⟩ : ∃ K : Nat, K = k + cntEntryS d.es := ⟨_, rfl⟩
  rw [← hK]
  have HK := hide hK
  clear hK
  go_enter Tryz.func36, Tryz.ntmps36
  go_wp2_with fail
  have hbx : Below w.heap.size w (w.alloc (.cells #[.int .i64 d.lim, .int .i64 d.top, .slice ad d.es.length cap] 37)) := (Below.refl _ _).alloc (Nat.le_refl _) _
  refine (markEntryS d.es k _ bs _ (HO.out.keep hbx.size (fun b hb => hbx.block b (HO.out.lt b hb))) hn hk1).mono ?_
  rw [← HK.out]
  rintro x w1 ⟨rfl, ho1, ht1⟩
  have HO1 := hide ho1
  have HT1 := hide ((TurnB.new (bs := bs) hbx).trans ht1)
  clear ho1 ht1
  go_wp2_with fail
  go_ret
  exact ⟨rfl, HO1.out, HT1.out⟩
set_option maxHeartbeats 1000000 in
theorem heldRegistry1 (d : RegistryD) (ves : Value) (k : Nat) (w : World) (L : List EntryD) (hr : RdR entryS w ves (mkEntryS L k)) (hk1 : k + cntEntryS L ≤ 1000000000) :
    Calls Tryz.prog 40 #[.agg #[.int .i64 d.lim, .int .i64 d.top, ves], .int .i64 k] w fun x w' => x = .returned (.int .i64 ((k + cntEntryS L : Nat) : Int)) ∧ Below w.heap.size w w' := by
  obtain ⟨ad, cap, rfl, h1, h2⟩ := hr.form
  have HR := hide hr
  clear hr
  obtain ⟨K, hK⟩ : ∃ K : Nat, K = k + cntEntryS L := ⟨_, rfl⟩
  rw [← hK]
  have HK := hide hK
  clear hK
  go_enter Tryz.func40, Tryz.ntmps40
  go_wp2_with fail
  refine (heldEntryS L k _ _ ?c1 hk1).mono ?_
  case c1 => exact HR.out.new (by repeat' (first | (with_reducible exact Below.refl _ _) | (with_reducible refine Below.drew ?_) | (with_reducible refine bo_drewN _ ?_) | (with_reducible refine bo_alloc ?_ _) | (refine bchain ?_ (by with_reducible assumption)) | (with_reducible refine Below.setCell ?_ ?_ _) | go_size))
  rw [← HK.out]
  rintro x w1 ⟨rfl, hb1⟩
  go_wp2_with fail
  go_ret
  exact ⟨rfl, (by repeat' (first | (with_reducible exact Below.refl _ _) | (with_reducible refine Below.drew ?_) | (with_reducible refine bo_drewN _ ?_) | (with_reducible refine bo_alloc ?_ _) | (refine bchain ?_ (by with_reducible assumption)) | (with_reducible refine Below.setCell ?_ ?_ _) | go_size))⟩
open Go.ChangeShapes Go.WideShapes Go.ChangeAt Go.Joins in
theorem open_Registry {H : Type} {enc : TypeId × Value → H} {W : World} {base : Nat} {v : Value} {d : DataW H} {p : List MemPlace} (hv : Value.okWide Tryz.prog W .any base 24 v)
    (h : DataW.Trod enc Tryz.prog W 0 (fun _ => true) true 24 v d p) : ∃ (d : RegistryD) (ves : Value), v = .agg #[.int .i64 d.lim, .int .i64 d.top, ves] ∧ RdR entryS W ves d.es := by
  obtain ⟨c0, c1, c2, y0, y1, y2, n, rfl, _, _, h0, h1, h2⟩ := open_agg3 Tryz.underlying24 (by kernel_rfl) (by kernel_rfl) hv h
  obtain ⟨i0, e0, _⟩ := DataW.trod_int Tryz.underlying2 h0
  simp only [List.cons.injEq, and_true] at e0
  subst e0
  obtain ⟨i1, e1, _⟩ := DataW.trod_int Tryz.underlying2 h1
  simp only [List.cons.injEq, and_true] at e1
  subst e1
  obtain ⟨L2, hL2⟩ := open_shape (E := entryS) ⟨0, 0⟩ Tryz.underlying22 (by kernel_rfl) (fun cs n y hy => open_cellsEntry hy) h2
  exact ⟨⟨i0, i1, L2⟩, c2, rfl, hL2⟩

end Go.Proofs.YtllaeakeaabiaaaGreat
/- Chapter 3's Prefixed, of the program and of the model. -/
namespace Go.Proofs.YtllaeakeaabiaaaGreat
open Go.RowKit Go.Shelf
attribute [local go_sem] Oper.semAt_some
set_option linter.unusedSimpArgs false
set_option linter.unusedVariables false

/-- Are all three in range? -/
def okP (n b h : Int) : Bool := okN n b && inB h 0 255 && decide (h % pw b = 0)
/-- What Prefixed answers. -/
def preV (n b h : Int) : ByteArray := if okP n b h = true then strOf (addHead h (bytesOf n (pw b - 1))) else ⟨#[]⟩

theorem okP_true {n b h : Int} (k : okP n b h = true) : (0 ≤ n ∧ n ≤ 268435456 ∧ 1 ≤ b ∧ b ≤ 8) ∧ (0 ≤ h ∧ h ≤ 255) ∧ h % pw b = 0 ∧ h + (pw b - 1) ≤ 255 := by
  simp only [okP, Bool.and_eq_true] at k
  have k1 := okN_true k.1.1
  have k2 := inB_true k.1.2
  have k3 : h % pw b = 0 := of_decide_eq_true k.2
  have k4 := pw_cases k1.2.2.1 k1.2.2.2
  refine ⟨k1, k2, k3, ?_⟩
  rcases k4 with e | e | e | e | e | e | e | e <;> rw [e] at k3 ⊢ <;> omega

theorem and_all : ∀ k : Fin 256, (bits .and .i64 (k.val : Int) 1 = (k.val : Int) % 2 ∧ bits .and .i64 (k.val : Int) 3 = (k.val : Int) % 4 ∧ bits .and .i64 (k.val : Int) 7 = (k.val : Int) % 8
    ∧ bits .and .i64 (k.val : Int) 15 = (k.val : Int) % 16) ∧ (bits .and .i64 (k.val : Int) 31 = (k.val : Int) % 32 ∧ bits .and .i64 (k.val : Int) 63 = (k.val : Int) % 64
    ∧ bits .and .i64 (k.val : Int) 127 = (k.val : Int) % 128 ∧ bits .and .i64 (k.val : Int) 255 = (k.val : Int) % 256) := by decide +kernel

theorem and_pw {x b : Int} (h0 : 0 ≤ x) (h1 : x ≤ 255) (hb1 : 1 ≤ b) (hb8 : b ≤ 8) : bits .and .i64 x (pw b - 1) = x % pw b := by
  obtain ⟨⟨a1, a2, a3, a4⟩, a5, a6, a7, a8⟩ := and_all ⟨x.toNat, by omega⟩
  have e : ((x.toNat : Nat) : Int) = x := by omega
  simp only [e] at a1 a2 a3 a4 a5 a6 a7 a8
  rcases bits8 hb1 hb8 with rfl | rfl | rfl | rfl | rfl | rfl | rfl | rfl <;> simpa [pw] using (by assumption)

theorem or_pw {x h b : Int} (hx0 : 0 ≤ x) (hx1 : x < pw b) (h0 : 0 ≤ h) (h1 : h ≤ 255) (hm : h % pw b = 0) (hb1 : 1 ≤ b) (hb8 : b ≤ 8) : bits .or .u8 x h = h + x := by
  have hp := (pw_lo hb1 hb8).2
  rw [bits_join_low .u8 8 (by decide) (fun n h₀ h₁ => by rw [IntKind.wrap_u8]; omega) b.toNat x h hx0 hx1 (by omega) h0 hm (by omega)]
  omega

end Go.Proofs.YtllaeakeaabiaaaGreat
/- Chapter 3's Width of the program: how many bytes the iterator gives. -/
namespace Go.Proofs.YtllaeakeaabiaaaGreat
open Go.RowKit Go.Shelf
attribute [local go_sem] Oper.semAt_some
set_option linter.unusedSimpArgs false
set_option linter.unusedVariables false

set_option maxRecDepth 100000 in
set_option maxHeartbeats 2000000 in
theorem implWidth (n b : Int) (w : World) : Calls Tryz.prog 250 #[.int .i64 n, .int .i64 b] w fun e w' => e = .returned (.int .i64 (wdV n b)) ∧ Below w.heap.size w w' := by
  cases hok : okN n b
  · have hv : wdV n b = 0 := by simp [wdV, hok]
    rw [hv]
    go_enter Tryz.func250, Tryz.ntmps250
    go_wp2_with (go_at_call 257; refine (implPrefixable _ _ _).mono ?_; rw [hok]; rintro e w' ⟨rfl, rfl⟩)
    go_ret
    exact ⟨rfl, Below.refl _ _⟩
  · have hv : wdV n b = ((bytesOf n (pw b - 1)).length : Int) := by simp [wdV, hok]
    rw [hv]
    obtain ⟨hn0, hn, h1, h8⟩ := okN_true hok
    have hlen := (bytesOf_len n (pw b - 1)).2
    refine (callsIn_wide (n := 4)).1 ?_
    refine callsIn_of_wp_marks Tryz.func250 rfl trivial ?_ rfl
    simp only [Tryz.ntmps250, List.size_toArray, List.length_cons, List.length_nil, Nat.reduceAdd, Nat.reduceSub, Array.replicate_succ, Array.replicate_zero, List.push_toArray, List.append_toArray, List.nil_append, List.cons_append]
    gi_wp2_with (first | (refine ⟨trivial, ?_⟩; gi_at_call 257; refine (callsIn_wide.2 (implPrefixable n b _)).mono ?_; rw [hok]; rintro e w0 ⟨rfl, rfl⟩) | (refine ⟨trivial, ?_⟩; gi_at_call 258; refine (prefixBytes_in _ n b _).mono ?_; rintro e w' ⟨rfl, rfl⟩))
    have bC := Boxed.new w0 2 (.int .i64 0)
    have bN := Boxed.new (w0.alloc (.cells #[.int .i64 0] 2)) 2 (.int .i64 n)
    have bB := Boxed.new ((w0.alloc (.cells #[.int .i64 0] 2)).alloc (.cells #[.int .i64 n] 2)) 2 (.int .i64 b)
    simp only [World.size_alloc] at bN bB
    have hB0 : Below w0.heap.size w0 (((w0.alloc (.cells #[.int .i64 0] 2)).alloc (.cells #[.int .i64 n] 2)).alloc (.cells #[.int .i64 b] 2)) := (((Below.refl _ w0).alloc (Nat.le_refl _) _).alloc (by simp) _).alloc (by simp; omega) _
    refine wpIn_rangeFunc_ownF rfl (by omega) (gf := 260) (lb := #[.pointer (some ⟨w0.heap.size + 1 + 1, 0, none⟩), .pointer (some ⟨w0.heap.size + 1, 0, none⟩)]) rfl trivial (enters_of Tryz.func260 (by kernel_rfl) rfl)
      (bytes_stops _ (by omega) (w0.heap.size + 1) (w0.heap.size + 1 + 1) n b hn0 hn h1 h8 _ (bN.alloc _) bB) kept2_t (kept2_b (by simp) (by simp)) (Below.refl _ _) (fun _ => rfl)
      (fun pre W => Boxed W w0.heap.size 2 (.int .i64 (pre.length : Int)) ∧ Below w0.heap.size w0 W)
      (fun _ _ _ => False)
      (OwnFrom.and (Own.from (boxed_own _ _ _) _) (ownFrom_below (Nat.le_refl _) (by simp; omega)))
      (fun _ _ _ _ _ hs _ _ => hs)
      ⟨(bC.alloc _).alloc _, hB0⟩
      (fun x => { tmps := #[.int .i64 n, .int .i64 b, undef, undef, .int .i64 0, .pointer (some ⟨w0.heap.size, 0, none⟩), .int .i64 n, .int .i64 b, .bool true, .bool false, .int .i64 n, .int .i64 b, .func (.func 260) #[] #[.pointer (some ⟨w0.heap.size + 1 + 1, 0, none⟩), .pointer (some ⟨w0.heap.size + 1, 0, none⟩)], .int .u8 x, undef, undef, undef], defers := [] }) ?assign ?body ?done ?stop
    case assign =>
      intro l x W K hK
      gi_wp2
      simpa using hK
    case body =>
      rintro l pre x W ⟨hc, hB⟩ hpl
      have hcc := hc.cell
      have hcf := hc.frozen
      gi_wp2
      exact ⟨KeepsOthers.setCell _ _ _, ⟨Below.heap_setCell _ _ _ _ (by simp), Below.heap_setCell _ _ _ _ (by simp; omega)⟩, by simpa using hc.set _, hB.setCell (p := ⟨w0.heap.size, 0, none⟩) (Nat.le_refl _) _⟩
    case done =>
      rintro D ys W hD rfl ⟨hc, hB⟩ hK
      have hcc := hc.cell
      gi_wp2
      refine ⟨by simp, .inl ⟨_, _, rfl, run_takeDeferred hK, ?_⟩⟩
      exact ⟨_, results_tmp rfl _ _ _, rfl, hB.trans (belowK_b (w := w0) (Nat.le_refl _) W D _ _ (by simp at hD; omega) hK rfl rfl)⟩
    case stop =>
      rintro D c pre W _ _ h _
      exact h.elim
end Go.Proofs.YtllaeakeaabiaaaGreat
/- The ring in plain words: 112 slots, the newest row at first, the older ones behind it, round the end. -/
namespace Go.Proofs.YtllaeakeaabiaaaGreat
open Go.RowKit
set_option maxRecDepth 100000
set_option linter.unusedSimpArgs false
set_option linter.unusedVariables false

def zF : Fd := ⟨⟨#[]⟩, ⟨#[]⟩⟩
/-- The slots of a ring whose rows are L. -/
def ringS (first : Nat) (L : List Fd) : List Fd := (List.range 112).map fun k => L.getD ((k + 112 - first) % 112) zF
theorem ringS_len (first : Nat) (L : List Fd) : (ringS first L).length = 112 := by simp [ringS]
theorem ringS_get (first : Nat) (L : List Fd) (k : Nat) (hk : k < (ringS first L).length) : (ringS first L)[k] = L.getD ((k + 112 - first) % 112) zF := by simp [ringS]
theorem ringS_at {first : Nat} {L : List Fd} (hf : first < 112) (hL : L.length ≤ 112) (n : Nat) (hn : n < L.length) : (ringS first L)[(first + n) % 112]'(by rw [ringS_len]; omega) = L[n] := by
  rw [ringS_get, show ((first + n) % 112 + 112 - first) % 112 = n by omega]
  simp [hn]
theorem ringS_last {first : Nat} {L : List Fd} (f : Fd) (hf : first < 112) (hL : L.length < 112) : (ringS first L).set ((first + L.length) % 112) f = ringS first (L ++ [f]) := by
  refine List.ext_getElem (by simp [ringS_len]) fun k h1 h2 => ?_
  have hk : k < 112 := by rw [ringS_len] at h2; exact h2
  rw [List.getElem_set, ringS_get, ringS_get]
  split
  · rename_i e
    rw [show (k + 112 - first) % 112 = L.length by omega]
    simp
  · rename_i e
    have : (k + 112 - first) % 112 ≠ L.length := by omega
    generalize (k + 112 - first) % 112 = i at *
    simp only [List.getD_eq_getElem?_getD, List.getElem?_append]
    split
    · rfl
    · rw [List.getElem?_eq_none (by omega), List.getElem?_eq_none (by simp; omega)]
theorem ringS_first {first : Nat} {L : List Fd} (f : Fd) (hf : first < 112) (hL : L.length < 112) : (ringS first L).set ((first + 111) % 112) f = ringS ((first + 111) % 112) (f :: L) := by
  refine List.ext_getElem (by simp [ringS_len]) fun k h1 h2 => ?_
  have hk : k < 112 := by rw [ringS_len] at h2; exact h2
  rw [List.getElem_set, ringS_get, ringS_get]
  split
  · rename_i e
    rw [show (k + 112 - (first + 111) % 112) % 112 = 0 by omega]
    simp
  · rename_i e
    have h0 : (k + 112 - (first + 111) % 112) % 112 = (k + 112 - first) % 112 + 1 ∨ ((k + 112 - first) % 112 = 111 ∧ (k + 112 - (first + 111) % 112) % 112 = 0) := by omega
    rcases h0 with h0 | ⟨h0, h3⟩
    · rw [h0]; simp
    · omega
theorem ringS_drop {first : Nat} {L : List Fd} (hf : first < 112) (h0 : 0 < L.length) (hL : L.length ≤ 112) : (ringS first L).set ((first + (L.length - 1)) % 112) zF = ringS first L.dropLast := by
  refine List.ext_getElem (by simp [ringS_len]) fun k h1 h2 => ?_
  have hk : k < 112 := by rw [ringS_len] at h2; exact h2
  rw [List.getElem_set, ringS_get, ringS_get]
  split
  · rename_i e
    rw [show (k + 112 - first) % 112 = L.length - 1 by omega]
    simp [List.getD_eq_getElem?_getD, List.getElem?_dropLast]
  · rename_i e
    have : (k + 112 - first) % 112 ≠ L.length - 1 := by omega
    generalize (k + 112 - first) % 112 = i at *
    simp only [List.getD_eq_getElem?_getD, List.getElem?_dropLast]
    split
    · rfl
    · rw [List.getElem?_eq_none (by omega)]
theorem okF_zF : okF zF = false := by decide
/-- Where no row of the longer one is the zero Field, slots alike have rows alike. -/
theorem ringS_eq {L : List Fd} {j : Nat} (hL : L.length ≤ 112) (hok : ∀ f ∈ L, okF f = true) (h : ringS 0 (L.take j) = ringS 0 L) : L.take j = L := by
  by_cases hj : j < L.length
  · have h1 := ringS_at (first := 0) (L := L) (by omega) hL j hj
    have h2 : (ringS 0 (L.take j))[(0 + j) % 112]'(by rw [ringS_len]; omega) = zF := by
      rw [ringS_get, show ((0 + j) % 112 + 112 - 0) % 112 = j by omega, List.getD_eq_getElem?_getD, List.getElem?_eq_none (by simp; omega)]
      rfl
    have h3 : L[j] = zF := by rw [← h1, ← h2]; congr 1; exact h.symm
    have h4 := hok L[j] (List.getElem_mem hj)
    rw [h3, okF_zF] at h4
    cases h4
  · exact List.take_of_length_le (by omega)
theorem shr_take (room : Int) (L : List Fd) : ∃ j, shr room L = L.take j := by
  have : ∀ n (L : List Fd), ∃ j, shrN room n L = L.take j := fun n => by
    induction n with
    | zero => intro L; exact ⟨L.length, by simp [shrN]⟩
    | succ n ih =>
      intro L
      rw [shrN]
      split
      · obtain ⟨j, hj⟩ := ih L.dropLast
        refine ⟨min j (L.length - 1), ?_⟩
        rw [hj, List.dropLast_eq_take, List.take_take]
      · exact ⟨L.length, by simp⟩
  exact this _ _
theorem shr_sum {room : Int} (h : 0 ≤ room) (L : List Fd) : sumW (shr room L) ≤ room := by
  have : ∀ n (L : List Fd), L.length ≤ n → sumW (shrN room n L) ≤ room := fun n => by
    induction n with
    | zero =>
      intro L hL
      have : L = [] := List.length_eq_zero_iff.1 (by omega)
      subst this
      simpa [shrN, sumW] using h
    | succ n ih =>
      intro L hL
      rw [shrN]
      split
      · exact ih _ (by rw [List.length_dropLast]; omega)
      · omega
  exact this _ _ (Nat.le_refl _)
/-- The slots are alike just where nothing went. -/
theorem ring_fits {room : Int} {L : List Fd} (h : 0 ≤ room) (hL : L.length ≤ 112) (hok : ∀ f ∈ L, okF f = true) : (ringS 0 (shr room L) = ringS 0 L) ↔ sumW L ≤ room := by
  constructor
  · intro e
    obtain ⟨j, hj⟩ := shr_take room L
    rw [hj] at e
    have h1 := ringS_eq hL hok e
    have h2 := shr_sum h L
    rw [hj, h1] at h2
    exact h2
  · intro e
    rw [shr_stop (by omega)]

/-- The cells of a ring. -/
def rC (sl : List Fd) (first count g : Int) : List Value := fv sl ++ [.int .i64 first, .int .i64 count, .int .i64 g]
theorem rC_len {sl : List Fd} (h : sl.length = 112) (f c g : Int) : (rC sl f c g).length = 227 := by simp [rC, fv_len, h]
theorem rC_one (sl : List Fd) (f c g : Int) : ∀ u ∈ rC sl f c g, u.oneCell' = true := by
  intro u hu
  rcases List.mem_append.1 hu with h | h
  · exact fv_one sl u h
  · simp only [List.mem_cons, List.not_mem_nil, or_false] at h
    rcases h with rfl | rfl | rfl <;> rfl
theorem rC_slot {sl : List Fd} (h : sl.length = 112) (f c g : Int) (k : Nat) (hk : k < 112) : (rC sl f c g)[k * 2]? = some (.string (sl[k]'(by omega)).n) ∧ (rC sl f c g)[k * 2 + 1]? = some (.string (sl[k]'(by omega)).v) := by
  have := fv_get sl k (by omega)
  unfold rC
  rw [List.getElem?_append_left (by rw [fv_len]; omega), List.getElem?_append_left (by rw [fv_len]; omega)]
  exact this
theorem rC_num {sl : List Fd} (h : sl.length = 112) (f c g : Int) : (rC sl f c g)[224]? = some (.int .i64 f) ∧ (rC sl f c g)[225]? = some (.int .i64 c) ∧ (rC sl f c g)[226]? = some (.int .i64 g) := by
  unfold rC
  rw [List.getElem?_append_right (by rw [fv_len]; omega), List.getElem?_append_right (by rw [fv_len]; omega), List.getElem?_append_right (by rw [fv_len]; omega), fv_len, h]
  exact ⟨rfl, rfl, rfl⟩
theorem rC_set224 {sl : List Fd} (h : sl.length = 112) (f c g f' : Int) : (rC sl f c g).set 224 (.int .i64 f') = rC sl f' c g := by
  unfold rC; rw [List.set_append_right _ _ (by rw [fv_len]; omega), fv_len, h]; rfl
theorem rC_set225 {sl : List Fd} (h : sl.length = 112) (f c g c' : Int) : (rC sl f c g).set 225 (.int .i64 c') = rC sl f c' g := by
  unfold rC; rw [List.set_append_right _ _ (by rw [fv_len]; omega), fv_len, h]; rfl
theorem rC_set226 {sl : List Fd} (h : sl.length = 112) (f c g g' : Int) : (rC sl f c g).set 226 (.int .i64 g') = rC sl f c g' := by
  unfold rC; rw [List.set_append_right _ _ (by rw [fv_len]; omega), fv_len, h]; rfl
theorem rC_setF {sl : List Fd} (h : sl.length = 112) (f c g : Int) (k : Nat) (hk : k < 112) (x : Fd) : ((rC sl f c g).set (k * 2) (.string x.n)).set (k * 2 + 1) (.string x.v) = rC (sl.set k x) f c g := by
  unfold rC
  rw [List.set_append_left _ _ (by rw [fv_len]; omega), List.set_append_left _ _ (by rw [List.length_set, fv_len]; omega)]
  congr 1
  have h1 := flat_set Fd.cs 2 fcs_len sl k (by omega) 0 (by omega) (.string x.n) ⟨x.n, (sl[k]'(by omega)).v⟩ rfl
  have h2 := flat_set Fd.cs 2 fcs_len (sl.set k ⟨x.n, (sl[k]'(by omega)).v⟩) k (by simp; omega) 1 (by omega) (.string x.v) x (by simp [Fd.cs])
  unfold fv
  rw [show k * 2 = k * 2 + 0 from rfl, h1, show k * 2 + 0 + 1 = k * 2 + 1 from rfl, h2, List.set_set]
end Go.Proofs.YtllaeakeaabiaaaGreat
/- The model's word on a Table. -/
namespace Go.Proofs.YtllaeakeaabiaaaGreat
open Go.RowKit
set_option maxRecDepth 100000
set_option linter.unusedSimpArgs false
set_option linter.unusedVariables false

theorem all_take_succ (L : List Fd) (k : Nat) (h : k < L.length) (ha : ∀ f ∈ L.take k, okF f = true) (hk : okF L[k] = true) : ∀ f ∈ L.take (k + 1), okF f = true := by
  rw [List.take_succ_eq_append_getElem h]
  intro f hf
  rcases List.mem_append.1 hf with h | h
  · exact ha f h
  · simp only [List.mem_singleton] at h; rw [h]; exact hk
theorem okT_room {room : Int} {L : List Fd} (h : inB room 0 1000 = false) : okT room L = false := by simp [okT, h]
theorem okT_long {room : Int} {L : List Fd} (h : 111 < L.length) : okT room L = false := by
  cases he : okT room L
  · rfl
  · have := (okT_parts he).2.2.2.2; omega
theorem okT_bad {room : Int} {L : List Fd} (k : Nat) (hk : k < L.length) (h : okF L[k] = false) : okT room L = false := by
  cases he : okT room L
  · rfl
  · have := (okT_parts he).2.2.1 _ (List.getElem_mem hk); rw [h] at this; cases this
theorem okT_sum {room : Int} {L : List Fd} (h1 : inB room 0 1000 = true) (h2 : ∀ f ∈ L, okF f = true) : okT room L = decide (sumW L ≤ room) := by
  have : L.all okF = true := List.all_eq_true.2 h2
  simp [okT, h1, this]

set_option maxHeartbeats 1000000 in
theorem specTOk (L : List Fd) (room : Int) (v : Value) (w : World) (hr0 : Reads w v L.length 2 (fv L)) (hf : ∀ f ∈ L, f.fine) :
    Calls Tryz.prog 49 #[.agg #[.int .i64 room, v]] w fun x w' => x = .returned (.bool (okT room L)) ∧ Below w.heap.size w w' := by
  have HR := hide hr0; have HF := hide hf
  obtain ⟨hl, ad, cap, rfl, h1, h2, h3⟩ := hr0
  have H3 := hide h3
  clear h3 hf
  unfold maxLen at h2
  cases hrm : inB room 0 1000
  · rw [okT_room hrm]
    go_enter Tryz.func49, Tryz.ntmps49
    go_wp2_with fail
    refine (specIn _ _ _ _).mono ?_; rw [hrm]; rintro e w1 ⟨rfl, rfl⟩
    go_wp2_with fail
    go_ret
    exact ⟨rfl, (by repeat' (first | (with_reducible exact Below.refl _ _) | (with_reducible refine Below.drew ?_) | (with_reducible refine bo_drewN _ ?_) | (with_reducible refine bo_alloc ?_ _) | (refine bchain ?_ (by with_reducible assumption)) | (with_reducible refine Below.setCell ?_ ?_ _) | go_size))⟩
  · by_cases hlen : (200 : Int) < L.length
    · rw [okT_long (by omega)]
      go_enter Tryz.func49, Tryz.ntmps49
      go_wp2_with fail
      refine (specIn _ _ _ _).mono ?_; rw [hrm]; rintro e w1 ⟨rfl, rfl⟩
      go_wp2_with fail
      go_ret
      exact ⟨rfl, (by repeat' (first | (with_reducible exact Below.refl _ _) | (with_reducible refine Below.drew ?_) | (with_reducible refine bo_drewN _ ?_) | (with_reducible refine bo_alloc ?_ _) | (refine bchain ?_ (by with_reducible assumption)) | (with_reducible refine Below.setCell ?_ ?_ _) | go_size))⟩
    · obtain ⟨R, hR⟩ : ∃ R, R = okT room L := ⟨_, rfl⟩
      rw [← hR]
      have HRR := hide hR
      clear hR
      go_enter Tryz.func49, Tryz.ntmps49
      go_wp2_with fail
      refine (specIn _ _ _ _).mono ?_; rw [hrm]; rintro e w1 ⟨rfl, rfl⟩
      go_wp2_with fail
      generalize hV : w.alloc (.cells #[.int .i64 room, .slice ad L.length cap] 40) = V
      have hbV : Below w.heap.size w V := by rw [← hV]; exact (Below.refl _ _).alloc (Nat.le_refl _) _
      have x0 : V.cell? ⟨w.heap.size, 0, none⟩ = some (.int .i64 room) := by rw [← hV]; simp
      have x1 : V.cell? ⟨w.heap.size, 1, none⟩ = some (.slice ad L.length cap) := by rw [← hV]; simp
      have hlV : w.heap.size < V.heap.size := by rw [← hV]; simp
      clear hV
      go_loopw [3] (fun i wr => ∃ (k : Nat), i = .int .i64 k ∧ k ≤ L.length ∧ (∀ f ∈ L.take k, okF f = true) ∧ Below V.heap.size V wr) (fun i _ => L.length - (intOf i).toNat)
      case atStart => exact ⟨0, rfl, Nat.zero_le _, by simp, Below.refl _ _⟩
      case round =>
        obtain ⟨k, rfl, hk, hall, hb⟩ := hrel
        have y0 := (hb.cell (p := ⟨w.heap.size, 0, none⟩) hlV).trans x0
        have y1 := (hb.cell (p := ⟨w.heap.size, 1, none⟩) hlV).trans x1
        have hly : w.heap.size < wr.heap.size := Nat.lt_of_lt_of_le hlV hb.size
        clear x0 x1
        by_cases hlt : k < L.length
        · obtain ⟨b, o, rfl, hbw, hc⟩ := H3.out (by omega)
          obtain ⟨s0, s1⟩ := fv_get L k hlt
          have hfk := HF.out _ (List.getElem_mem hlt)
          have hbr := hbV.trans (hb.mono hbV.size)
          have HA := hide (all_take_succ L k hlt hall)
          have HB := hide (okT_bad (room := room) k hlt)
          obtain ⟨f, hff⟩ : ∃ f, f = L[k] := ⟨_, rfl⟩
          rw [← hff] at s0 s1 hfk HA HB
          have c0 : wr.cell? ⟨b, o + k * 2, none⟩ = some (.string f.n) := by rw [hbr.cell (p := ⟨b, o + k * 2, none⟩) hbw]; exact hc _ _ s0
          have c1 : wr.cell? ⟨b, o + k * 2 + 1, none⟩ = some (.string f.v) := by rw [hbr.cell (p := ⟨b, o + k * 2 + 1, none⟩) hbw]; exact hc _ _ s1
          clear hc s0 s1 hff hall hbr
          cases hok : okF f
          · have hRf := HRR.out.trans (HB.out hok)
            subst hRf
            clear HB HRR HA
            go_wp2_with fail
            refine (specField f _ hfk).mono ?_; rw [hok]; rintro x w1 ⟨rfl, hb1⟩
            go_wp2_with fail
            go_ret
            exact ⟨rfl, (hbV.trans (hb.mono hbV.size)).trans (hb1.mono (by have := hb.size; have := hbV.size; omega))⟩
          · go_wp2_with fail
            refine (specField f _ hfk).mono ?_; rw [hok]; rintro x w1 ⟨rfl, hb1⟩
            have hy' := (hb1.cell (p := ⟨w.heap.size, 1, none⟩) hly).trans y1
            go_wp2_with fail
            exact ⟨⟨k + 1, by go_num, by omega, HA.out hok, bchain hb hb1⟩, by simp [intOf]; omega⟩
        · obtain rfl : k = L.length := by omega
          rw [List.take_length] at hall
          have hRf := HRR.out.trans (okT_sum hrm hall)
          subst hRf
          clear HRR hall H3
          have HR' := hide (HR.out.new (hbV.trans (hb.mono hbV.size)))
          have hsl := Nat.le_trans hbV.size hb.size
          go_wp2_with fail
          have q0 : ∀ y : Later wr, y.w.cell? ⟨w.heap.size, 0, none⟩ = some (.int .i64 room) := fun y => (y.b.cell (p := ⟨w.heap.size, 0, none⟩) hly).trans y0
          have q1 : ∀ y : Later wr, y.w.cell? ⟨w.heap.size, 1, none⟩ = some (.slice ad L.length cap) := fun y => (y.b.cell (p := ⟨w.heap.size, 1, none⟩) hly).trans y1
          have hne : Nonempty (Later wr) := ⟨⟨wr, Below.refl _ _⟩⟩; refine region_later (by kernel_rfl) (by kernel_rfl) ?_
          repeat (go_big_quiet_step (fail))
          go_big_quiet_want; go_big_quiet_op; refine ⟨.int .i64 (sumW L), fun y => later_calls (x := y) ((fun _ => specSum L _ y.w (HR'.out.new y.b) HF.out (by omega)) y.w), ?_⟩; go_big_quiet_on
          repeat (go_big_quiet_step (fail))
          refine wpQuiet_nil ?_; intro _ hw'; obtain ⟨y, hw''⟩ := hw'; subst hw''; have hby := y.b
          go_wp2_with fail
          go_ret
          exact ⟨rfl, (hbV.trans (hb.mono hbV.size)).trans (hby.mono hsl)⟩
end Go.Proofs.YtllaeakeaabiaaaGreat
/- What the Go functions of chapter 1 that push answer at every argument. -/
namespace Go.Proofs.YtllaeakeaabiaaaGreat
open Go.RowKit
set_option maxRecDepth 100000
set_option linter.unusedSimpArgs false
set_option linter.unusedVariables false

theorem push1_shut (r : Int) (b : ByteArray) (e k : Bool) (s : ByteArray) (g : Nat) (w : World) (hek : (e || k) = true)
    (hg2 : w.cell? ⟨g, 2, none⟩ = some (.bool e)) (hg3 : w.cell? ⟨g, 3, none⟩ = some (.bool k)) :
    Calls Tryz.prog 157 #[.pointer (some ⟨g, 0, none⟩), .string s] w fun x w' => x = .returned (.int .i64 0) ∧ w' = w := by
  cases e
  · cases k
    · cases hek
    · go_enter Tryz.func157, Tryz.ntmps157
      go_wp2_with fail
      go_ret
      exact ⟨rfl, rfl⟩
  · go_enter Tryz.func157, Tryz.ntmps157
    go_wp2_with fail
    go_ret
    exact ⟨rfl, rfl⟩

theorem push1_open (r : Int) (b : ByteArray) (s : ByteArray) (g : Nat) (w : World) (hs : s.size ≤ 1048576) (hr : r ≤ 2000) (hb : (b.size : Int) ≤ r)
    (n : Nat) (hn : min (s.size : Int) (r - b.size) = n)
    (hg0 : w.cell? ⟨g, 0, none⟩ = some (.int .i64 r)) (hg1 : w.cell? ⟨g, 1, none⟩ = some (.string b)) (hg2 : w.cell? ⟨g, 2, none⟩ = some (.bool false)) (hg3 : w.cell? ⟨g, 3, none⟩ = some (.bool false))
    (hf : w.frozen? ⟨g, 1, none⟩ = false) :
    Calls Tryz.prog 157 #[.pointer (some ⟨g, 0, none⟩), .string s] w fun x w' => x = .returned (.int .i64 n) ∧ ∃ q, w' = (w.drewN q).setCell ⟨g, 1, none⟩ (.string (b ++ s.extract 0 n)) := by
  have hns : n ≤ s.size := by omega
  go_enter Tryz.func157, Tryz.ntmps157
  go_wp2_with fail
  go_quiet ((go_at_call 85; exact Calls.quiet_of_same (min1 _ _ _)))
  go_wp2_with fail
  go_region
  go_wp2_with fail
  go_ret
  exact ⟨congrArg (fun z => Ending.returned (.int .i64 z)) hn, _, rfl⟩

theorem push_shut (r : Int) (b : ByteArray) (e k : Bool) (s : ByteArray) (w : World) (hb : b.size ≤ 2000) (hek : (e || k) = true) :
    Calls Tryz.prog 247 #[.agg #[.int .i64 r, .string b, .bool e, .bool k], .string s] w fun x w' => x = .returned (.tuple #[.agg #[.int .i64 r, .string b, .bool e, .bool k], .int .i64 0]) ∧ Below w.heap.size w w' := by
  go_enter Tryz.func247, Tryz.ntmps247
  go_wp2_with fail
  refine (shut r b e k _).mono ?_; rw [hek]; rintro x w1 ⟨rfl, hb1⟩; have hz1 := hb1.size; (try simp at hz1); have hc1 := fun o => hb1.cell (p := ⟨w.heap.size, o, none⟩) (by first | (simp; done) | (simp; omega) | omega); have hf1 := fun o => hb1.frozen (p := ⟨w.heap.size, o, none⟩) (by first | (simp; done) | (simp; omega) | omega); have hcn1 := fun o => hb1.cell (p := ⟨w.heap.size + 1, o, none⟩) (by first | (simp; done) | (simp; omega) | omega); have hfn1 := fun o => hb1.frozen (p := ⟨w.heap.size + 1, o, none⟩) (by first | (simp; done) | (simp; omega) | omega)
  go_wp2_with fail
  refine (apart r b e k _ (by omega)).mono ?_; rintro x w2 ⟨rfl, hb2⟩; have hz2 := hb2.size; (try simp at hz2); have hc2 := fun o => hb2.cell (p := ⟨w.heap.size, o, none⟩) (by first | (simp; done) | (simp; omega) | omega); have hf2 := fun o => hb2.frozen (p := ⟨w.heap.size, o, none⟩) (by first | (simp; done) | (simp; omega) | omega); have hcn2 := fun o => hb2.cell (p := ⟨w.heap.size + 1, o, none⟩) (by first | (simp; done) | (simp; omega) | omega); have hfn2 := fun o => hb2.frozen (p := ⟨w.heap.size + 1, o, none⟩) (by first | (simp; done) | (simp; omega) | omega)
  go_wp2_with fail
  refine bodyPost_ret (v := .tuple #[.agg #[.int .i64 r, .string b, .bool e, .bool k], .int .i64 0]) (by simp [results, Tryz.results247, go_sem, *]) rfl ?_
  exact ⟨rfl, (by repeat' (first | (with_reducible exact Below.refl _ _) | (with_reducible refine Below.drew ?_) | (with_reducible refine bo_drewN _ ?_) | (with_reducible refine bo_alloc ?_ _) | (refine bchain ?_ (by with_reducible assumption)) | (with_reducible refine Below.setCell ?_ ?_ _) | go_size))⟩

theorem push_open (R : Nat) (b : ByteArray) (s : ByteArray) (w : World) (hR : R ≤ 2000) (hb : b.size < R) (hs : s.size ≤ 1048576) (n : Nat) (hn : Nat.min s.size (R - b.size) = n) :
    Calls Tryz.prog 247 #[.agg #[.int .i64 (R : Int), .string b, .bool false, .bool false], .string s] w fun x w' => x = .returned (.tuple #[.agg #[.int .i64 (R : Int), .string (b ++ s.extract 0 n), .bool false, .bool false], .int .i64 n]) ∧ Below w.heap.size w w' := by
  have hns : n ≤ s.size := by rw [← hn]; exact Nat.min_le_left _ _
  have hnd : n ≤ R - b.size := by rw [← hn]; exact Nat.min_le_right _ _
  have hsz : (b ++ s.extract 0 n).size = b.size + n := by rw [ByteArray.size_append, extract_size s n hns]
  go_enter Tryz.func247, Tryz.ntmps247
  go_wp2_with fail
  refine (shut R b false false _).mono ?_; rintro x w1 ⟨rfl, hb1⟩; have hz1 := hb1.size; (try simp at hz1); have hc1 := fun o => hb1.cell (p := ⟨w.heap.size, o, none⟩) (by first | (simp; done) | (simp; omega) | omega); have hf1 := fun o => hb1.frozen (p := ⟨w.heap.size, o, none⟩) (by first | (simp; done) | (simp; omega) | omega); have hcn1 := fun o => hb1.cell (p := ⟨w.heap.size + 1, o, none⟩) (by first | (simp; done) | (simp; omega) | omega); have hfn1 := fun o => hb1.frozen (p := ⟨w.heap.size + 1, o, none⟩) (by first | (simp; done) | (simp; omega) | omega)
  obtain ⟨W1, W2, W3, e1, e2, e3, b1, b2, b3, z3, hy⟩ := push_rows w1 R b s hb hR n hn
  have c1 := fun o => b1.cell (p := ⟨w.heap.size, o, none⟩) (by simp; omega)
  have c2 := fun o => b2.cell (p := ⟨w.heap.size, o, none⟩) (by simp; omega)
  have c3 := fun o => b3.cell (p := ⟨w.heap.size, o, none⟩) (by simp; omega)
  have d3 := fun o => b3.cell (p := ⟨w.heap.size + 1, o, none⟩) (by simp; omega)
  have f3 := fun o => b3.frozen (p := ⟨w.heap.size, o, none⟩) (by simp; omega)
  have g3 := fun o => b3.frozen (p := ⟨w.heap.size + 1, o, none⟩) (by simp; omega)
  have hcv := Lib.run_convert_whole (P := Tryz.prog) W3 131 5 9 Tryz.underlying131 Tryz.underlying5 Tryz.underlying9 w1.heap.size 0 _ hy (b.size + n)
  rw [hsz] at hcv
  go_wp2_with fail
  refine bodyPost_ret (v := .tuple #[.agg #[.int .i64 (R : Int), .string (b ++ s.extract 0 n), .bool false, .bool false], .int .i64 n]) (by simp [results, Tryz.results247, go_sem, *]) rfl ?_
  exact ⟨rfl, (by repeat' (first | (with_reducible exact Below.refl _ _) | (with_reducible refine Below.drew ?_) | (with_reducible refine bo_drewN _ ?_) | (with_reducible refine bo_alloc ?_ _) | (refine bchain ?_ (by with_reducible assumption)) | (with_reducible refine Below.setCell ?_ ?_ _) | go_size))⟩

theorem push_fullP (R : Nat) (b : ByteArray) (s : ByteArray) (w : World) (hR : R ≤ 2000) (hb : b.size = R) (hs : s.size ≤ 1048576) :
    Calls Tryz.prog 247 #[.agg #[.int .i64 (R : Int), .string b, .bool false, .bool false], .string s] w fun x w' => x = .returned (.tuple #[.agg #[.int .i64 (R : Int), .string b, .bool false, .bool false], .int .i64 0]) ∧ Below w.heap.size w w' := by
  subst hb
  go_enter Tryz.func247, Tryz.ntmps247
  go_wp2_with fail
  refine (shut b.size b false false _).mono ?_; rintro x w1 ⟨rfl, hb1⟩; have hz1 := hb1.size; (try simp at hz1); have hc1 := fun o => hb1.cell (p := ⟨w.heap.size, o, none⟩) (by first | (simp; done) | (simp; omega) | omega); have hf1 := fun o => hb1.frozen (p := ⟨w.heap.size, o, none⟩) (by first | (simp; done) | (simp; omega) | omega); have hcn1 := fun o => hb1.cell (p := ⟨w.heap.size + 1, o, none⟩) (by first | (simp; done) | (simp; omega) | omega); have hfn1 := fun o => hb1.frozen (p := ⟨w.heap.size + 1, o, none⟩) (by first | (simp; done) | (simp; omega) | omega)
  obtain ⟨W1, W2, e1, e2, e3, b1, b2, z2, hy⟩ := push_full w1 b.size b s rfl hR
  have c1 := fun o => b1.cell (p := ⟨w.heap.size, o, none⟩) (by simp; omega)
  have c2 := fun o => b2.cell (p := ⟨w.heap.size, o, none⟩) (by simp; omega)
  have d2 := fun o => b2.cell (p := ⟨w.heap.size + 1, o, none⟩) (by simp; omega)
  have f2 := fun o => b2.frozen (p := ⟨w.heap.size, o, none⟩) (by simp; omega)
  have g2 := fun o => b2.frozen (p := ⟨w.heap.size + 1, o, none⟩) (by simp; omega)
  have hcv := Lib.run_convert_whole (P := Tryz.prog) W2 131 5 9 Tryz.underlying131 Tryz.underlying5 Tryz.underlying9 w1.heap.size 0 _ hy b.size
  go_wp2_with fail
  refine bodyPost_ret (v := .tuple #[.agg #[.int .i64 (b.size : Int), .string b, .bool false, .bool false], .int .i64 0]) (by simp [results, Tryz.results247, go_sem, *]) rfl ?_
  exact ⟨rfl, (by repeat' (first | (with_reducible exact Below.refl _ _) | (with_reducible refine Below.drew ?_) | (with_reducible refine bo_drewN _ ?_) | (with_reducible refine bo_alloc ?_ _) | (refine bchain ?_ (by with_reducible assumption)) | (with_reducible refine Below.setCell ?_ ?_ _) | go_size))⟩

/-- What a push into a right pipe answers. -/
def pushedV (r : Int) (b s : ByteArray) (e k : Bool) : Value := if e || k then .tuple #[.agg #[.int .i64 r, .string b, .bool e, .bool k], .int .i64 0] else .tuple #[.agg #[.int .i64 r, .string (b ++ s.extract 0 (comes r b s)), .bool e, .bool k], .int .i64 (comes r b s)]

theorem okB_parts {r : Int} {b : ByteArray} {k : Bool} (h : okB r b k = true) : 1 ≤ r ∧ r ≤ 2000 ∧ (b.size : Int) ≤ r := by
  by_cases h1 : 1 ≤ r ∧ r ≤ 2000 ∧ (b.size : Int) ≤ r
  · exact h1
  · rw [okB_low h1] at h; cases h

theorem push (r : Int) (b s : ByteArray) (e k : Bool) (w : World) (hv : okB r b k = true) (hs : s.size ≤ 1048576) :
    Calls Tryz.prog 247 #[.agg #[.int .i64 r, .string b, .bool e, .bool k], .string s] w fun x w' => x = .returned (pushedV r b s e k) ∧ Below w.heap.size w w' := by
  obtain ⟨h1, h2, h3⟩ := okB_parts hv
  cases hek : (e || k)
  · obtain ⟨rfl, rfl⟩ : e = false ∧ k = false := by revert hek; cases e <;> cases k <;> simp
    obtain ⟨R, rfl⟩ : ∃ R : Nat, r = R := ⟨r.toNat, by omega⟩
    have hcn : comes (R : Int) b s = Nat.min s.size (R - b.size) := by
      have h5 : Nat.min s.size (R - b.size) = min s.size (R - b.size) := rfl
      rw [h5]; unfold comes; omega
    by_cases hfull : b.size = R
    · have h0 : comes (R : Int) b s = 0 := by unfold comes; omega
      refine (push_fullP R b s w (by omega) hfull hs).mono ?_
      rintro x w1 ⟨rfl, hb1⟩
      refine ⟨?_, hb1⟩
      simp only [pushedV, h0, Bool.or_self, if_false]
      simp
    · refine (push_open R b s w (by omega) (by omega) hs _ rfl).mono ?_
      rintro x w1 ⟨rfl, hb1⟩
      refine ⟨?_, hb1⟩
      rw [← hcn]
      rfl
  · refine (push_shut r b e k s w (by omega) hek).mono ?_
    rintro x w1 ⟨rfl, hb1⟩
    refine ⟨?_, hb1⟩
    rw [pushedV, hek]
    rfl

theorem pushedV_shut (r : Int) (b s : ByteArray) (e k : Bool) (h : (e || k) = true) : pushedV r b s e k = .tuple #[.agg #[.int .i64 r, .string b, .bool e, .bool k], .int .i64 0] := by rw [pushedV, h]; rfl
theorem pushedV_open (r : Int) (b s : ByteArray) (e k : Bool) (h : (e || k) = false) : pushedV r b s e k = .tuple #[.agg #[.int .i64 r, .string (b ++ s.extract 0 (comes r b s)), .bool e, .bool k], .int .i64 (comes r b s)] := by rw [pushedV, h]; rfl


end Go.Proofs.YtllaeakeaabiaaaGreat
/- Chapter 7's heads: may a frame begin so? The program's words for it and the model's. -/
namespace Go.Proofs.YtllaeakeaabiaaaGreat
open Go.RowKit
set_option maxRecDepth 100000
set_option linter.unusedSimpArgs false
set_option linter.unusedVariables false
def padB (k fl : Int) : Bool := decide (k = 1) && decide (2 ≤ fl)

set_option maxHeartbeats 1000000 in
theorem implPadded (k fl st : Int) (b : ByteArray) (w : World) (h0 : 0 ≤ fl) (h3 : fl ≤ 3) : Calls Tryz.prog 127 #[.agg #[.int .i64 k, .int .i64 fl, .int .i64 st, .string b]] w fun e w' => e = .returned (.bool (padB k fl)) ∧ Below w.heap.size w w' := by
  by_cases hk : k = 1
  · subst hk
    have : fl = 0 ∨ fl = 1 ∨ fl = 2 ∨ fl = 3 := by omega
    rcases this with rfl | rfl | rfl | rfl
    all_goals
      go_enter Tryz.func127, Tryz.ntmps127
      go_wp2_with fail
      go_ret
      exact ⟨by first | rfl | decide, (by repeat' (first | (with_reducible exact Below.refl _ _) | (with_reducible refine Below.drew ?_) | (with_reducible refine bo_drewN _ ?_) | (with_reducible refine bo_alloc ?_ _) | (refine bchain ?_ (by with_reducible assumption)) | (with_reducible refine Below.setCell ?_ ?_ _) | go_size))⟩
  · have hv : padB k fl = false := by simp [padB, hk]
    rw [hv]
    go_enter Tryz.func127, Tryz.ntmps127
    go_wp2_with fail
    go_ret
    exact ⟨rfl, (by repeat' (first | (with_reducible exact Below.refl _ _) | (with_reducible refine Below.drew ?_) | (with_reducible refine bo_drewN _ ?_) | (with_reducible refine bo_alloc ?_ _) | (refine bchain ?_ (by with_reducible assumption)) | (with_reducible refine Below.setCell ?_ ?_ _) | go_size))⟩
set_option maxHeartbeats 4000000 in
theorem implHead (k fl st n : Int) (b : ByteArray) (w : World) : Calls Tryz.prog 71 #[.agg #[.int .i64 k, .int .i64 fl, .int .i64 st, .string b], .int .i64 n] w fun e w' => e = .returned (.bool (hdOk k fl st n)) ∧ Below w.heap.size w w' := by
  obtain ⟨R, hR⟩ : ∃ R, hdOk k fl st n = R := ⟨_, rfl⟩
  rw [hR]
  have HR := hide hR
  clear hR
  cases h1 : inB fl 0 3
  · go_enter Tryz.func71, Tryz.ntmps71
    go_wp2_with fail
    refine (implWithin _ _ _ _).mono ?_; rw [h1]; rintro e w1 ⟨rfl, rfl⟩
    go_wp2_with fail
    go_ret
    exact ⟨by rw [← HR.out]; simp [hdOk, h1], (by repeat' (first | (with_reducible exact Below.refl _ _) | (with_reducible refine Below.drew ?_) | (with_reducible refine bo_drewN _ ?_) | (with_reducible refine bo_alloc ?_ _) | (refine bchain ?_ (by with_reducible assumption)) | (with_reducible refine Below.setCell ?_ ?_ _) | go_size))⟩
  obtain ⟨f0, f3⟩ := inB_true h1
  cases h2 : inB st 0 100000
  · go_enter Tryz.func71, Tryz.ntmps71
    go_wp2_with fail
    refine (implWithin _ _ _ _).mono ?_; rw [h1]; rintro e w1 ⟨rfl, rfl⟩
    go_wp2_with fail
    refine (implWithin _ _ _ _).mono ?_; rw [h2]; rintro e w1 ⟨rfl, rfl⟩
    go_wp2_with fail
    go_ret
    exact ⟨by rw [← HR.out]; simp [hdOk, h2], (by repeat' (first | (with_reducible exact Below.refl _ _) | (with_reducible refine Below.drew ?_) | (with_reducible refine bo_drewN _ ?_) | (with_reducible refine bo_alloc ?_ _) | (refine bchain ?_ (by with_reducible assumption)) | (with_reducible refine Below.setCell ?_ ?_ _) | go_size))⟩
  obtain ⟨s0, s1⟩ := inB_true h2
  cases h3 : inB n 0 1000
  · go_enter Tryz.func71, Tryz.ntmps71
    go_wp2_with fail
    refine (implWithin _ _ _ _).mono ?_; rw [h1]; rintro e w1 ⟨rfl, rfl⟩
    go_wp2_with fail
    refine (implWithin _ _ _ _).mono ?_; rw [h2]; rintro e w1 ⟨rfl, rfl⟩
    go_wp2_with fail
    refine (implWithin _ _ _ _).mono ?_; rw [h3]; rintro e w1 ⟨rfl, rfl⟩
    go_wp2_with fail
    go_ret
    exact ⟨by rw [← HR.out]; simp [hdOk, h3], (by repeat' (first | (with_reducible exact Below.refl _ _) | (with_reducible refine Below.drew ?_) | (with_reducible refine bo_drewN _ ?_) | (with_reducible refine bo_alloc ?_ _) | (refine bchain ?_ (by with_reducible assumption)) | (with_reducible refine Below.setCell ?_ ?_ _) | go_size))⟩
  obtain ⟨n0, n1⟩ := inB_true h3
  have e0 : hdOk k fl st n = R := HR.out
  simp only [hdOk, h1, h2, h3, Bool.true_eq_false, or_self, if_false] at e0
  have HE := hide e0
  clear e0 HR
  have hk : k = 1 ∨ k = 2 ∨ k = 3 ∨ k = 4 ∨ k = 5 ∨ k = 6 ∨ k = 7 ∨ ¬ (1 ≤ k ∧ k ≤ 7) := by omega
  rcases hk with rfl | rfl | rfl | rfl | rfl | rfl | rfl | hk
  case inr.inr.inr.inr.inr.inr.inr =>
    have q1 : ¬ k = 1 := by omega
    have q2 : ¬ k = 2 := by omega
    have q3 : ¬ k = 3 := by omega
    have q4 : ¬ k = 4 := by omega
    have q5 : ¬ k = 5 := by omega
    have q6 : ¬ k = 6 := by omega
    have q7 : ¬ k = 7 := by omega
    have HF : Hid (R = false) := by show _ = _; rw [← HE.out]; simp [q1, q2, q3, q4, q5, q6, q7]
    clear HE
    go_enter Tryz.func71, Tryz.ntmps71; go_wp2_with fail; refine (implWithin _ _ _ _).mono ?_; rw [h1]; rintro e w1 ⟨rfl, rfl⟩; go_wp2_with fail; refine (implWithin _ _ _ _).mono ?_; rw [h2]; rintro e w1 ⟨rfl, rfl⟩; go_wp2_with fail; refine (implWithin _ _ _ _).mono ?_; rw [h3]; rintro e w1 ⟨rfl, rfl⟩; go_wp2_with fail; go_quiet (fail)
    go_wp2_with fail
    go_ret
    exact ⟨by rw [HF.out]; rfl, (by repeat' (first | (with_reducible exact Below.refl _ _) | (with_reducible refine Below.drew ?_) | (with_reducible refine bo_drewN _ ?_) | (with_reducible refine bo_alloc ?_ _) | (refine bchain ?_ (by with_reducible assumption)) | (with_reducible refine Below.setCell ?_ ?_ _) | go_size))⟩
  case inl =>
    have hp := implPadded 1 fl st b
    cases hq : padB 1 fl
    all_goals
      rw [hq] at hp
      have hq' := hide hq
      clear hq
      go_enter Tryz.func71, Tryz.ntmps71; go_wp2_with fail; refine (implWithin _ _ _ _).mono ?_; rw [h1]; rintro e w1 ⟨rfl, rfl⟩; go_wp2_with fail; refine (implWithin _ _ _ _).mono ?_; rw [h2]; rintro e w1 ⟨rfl, rfl⟩; go_wp2_with fail; refine (implWithin _ _ _ _).mono ?_; rw [h3]; rintro e w1 ⟨rfl, rfl⟩; go_wp2_with fail; go_quiet (fail)
      go_wp2_with (go_at_call 127; refine (hp _ f0 f3).mono ?_; rintro e w1 ⟨rfl, hb1⟩)
      all_goals go_ret
      all_goals exact ⟨by have := hq'.out; (refine congrArg (fun b => Ending.returned (Value.bool b)) ?_; rw [← HE.out, Bool.eq_iff_iff]; simp [padB] at *; omega), (by repeat' (first | (with_reducible exact Below.refl _ _) | (with_reducible refine Below.drew ?_) | (with_reducible refine bo_drewN _ ?_) | (with_reducible refine bo_alloc ?_ _) | (refine bchain ?_ (by with_reducible assumption)) | (with_reducible refine Below.setCell ?_ ?_ _) | go_size))⟩
  all_goals
    go_enter Tryz.func71, Tryz.ntmps71; go_wp2_with fail; refine (implWithin _ _ _ _).mono ?_; rw [h1]; rintro e w1 ⟨rfl, rfl⟩; go_wp2_with fail; refine (implWithin _ _ _ _).mono ?_; rw [h2]; rintro e w1 ⟨rfl, rfl⟩; go_wp2_with fail; refine (implWithin _ _ _ _).mono ?_; rw [h3]; rintro e w1 ⟨rfl, rfl⟩; go_wp2_with fail; go_quiet (fail)
    go_wp2_with fail
    all_goals go_ret
    all_goals exact ⟨by (refine congrArg (fun b => Ending.returned (Value.bool b)) ?_; rw [← HE.out, Bool.eq_iff_iff]; simp [padB] at *; omega), (by repeat' (first | (with_reducible exact Below.refl _ _) | (with_reducible refine Below.drew ?_) | (with_reducible refine bo_drewN _ ?_) | (with_reducible refine bo_alloc ?_ _) | (refine bchain ?_ (by with_reducible assumption)) | (with_reducible refine Below.setCell ?_ ?_ _) | go_size))⟩
end Go.Proofs.YtllaeakeaabiaaaGreat
/- Chapter 14's model: a number's text, and a text's number. -/
namespace Go.Proofs.YtllaeakeaabiaaaGreat
open Go.RowKit
set_option maxRecDepth 100000
set_option linter.unusedSimpArgs false
set_option linter.unusedVariables false
theorem dec_next (m : Nat) : decL m = if m / 10 = 0 then [48 + ((m % 10 : Nat) : Int)] else decL (m / 10) ++ [48 + ((m % 10 : Nat) : Int)] := by
  by_cases h : m < 10
  · rw [decL_one h, if_pos (by omega), Nat.mod_eq_of_lt h]
  · rw [decL_step h, if_neg (by omega)]
theorem strOf_cons (b : Int) (t : List Int) (hb : 0 ≤ b ∧ b ≤ 255) (ht : ∀ x ∈ t, 0 ≤ x ∧ x ≤ 255) : strOf [b] ++ strOf t = strOf (b :: t) := by
  refine bys_inj ?_
  rw [bys_append, bys_strOf (by intro x hx; simp at hx; omega), bys_strOf ht, bys_strOf (by intro x hx; rcases List.mem_cons.1 hx with rfl | h; exact hb; exact ht x h)]
  rfl
theorem val_bound {l : List Int} (h : ∀ x ∈ l, 48 ≤ x ∧ x ≤ 57) : 0 ≤ valL 0 l ∧ valL 0 l < 10 ^ l.length := by
  have key : ∀ (l : List Int) (n : Int), (∀ x ∈ l, 48 ≤ x ∧ x ≤ 57) → 0 ≤ n → 0 ≤ valL n l ∧ valL n l < (n + 1) * 10 ^ l.length := by
    intro l
    induction l with
    | nil => intro n _ hn; simp only [valL, List.length_nil]; omega
    | cons x l ih =>
      intro n hx hn
      have h1 := hx x (by simp)
      have h2 := ih (n * 10 + (x - 48)) (fun y hy => hx y (by simp [hy])) (by omega)
      refine ⟨h2.1, ?_⟩
      simp only [valL, List.length_cons]
      have h3 : (n * 10 + (x - 48) + 1) * (10 : Int) ^ l.length ≤ ((n + 1) * 10) * 10 ^ l.length := Int.mul_le_mul_of_nonneg_right (by omega) (Int.pow_nonneg (by decide))
      have h4 : (n + 1) * (10 : Int) ^ (l.length + 1) = ((n + 1) * 10) * 10 ^ l.length := by rw [Int.pow_succ, Int.mul_comm ((10 : Int) ^ l.length) 10, Int.mul_assoc]
      omega
  have := key l 0 h (by decide)
  simpa using this
theorem val_small {l : List Int} (h : ∀ x ∈ l, 48 ≤ x ∧ x ≤ 57) (hl : l.length ≤ 10) : 0 ≤ valL 0 l ∧ valL 0 l ≤ 10000000000 := by
  have := val_bound h
  have h2 : (10 : Int) ^ l.length ≤ 10 ^ 10 := by
    have h := Int.ofNat_le.2 (Nat.pow_le_pow_right (n := 10) (by decide) hl)
    rw [Int.natCast_pow, Int.natCast_pow] at h
    exact h
  have h3 : (10 : Int) ^ 10 = 10000000000 := by decide
  omega
theorem byte_at {s : ByteArray} {k : Nat} (h : k < s.size) : (bys s)[k]? = some (s[k].toNat : Int) := by
  have hl : k < (bys s).length := by rw [bys_len]; exact h
  rw [List.getElem?_eq_getElem hl]
  simp [bys]; rfl
theorem val_take {l : List Int} {k : Nat} {b : Int} (h : l[k]? = some b) : valL 0 (l.take (k + 1)) = valL 0 (l.take k) * 10 + (b - 48) := by
  rw [List.take_add_one, h, valL_app]; rfl
end Go.Proofs.YtllaeakeaabiaaaGreat
