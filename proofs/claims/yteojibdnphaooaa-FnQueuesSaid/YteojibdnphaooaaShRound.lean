/- Round in memory: its datum, its make; counted, copied, held against each other, marked, read again (by gen_shape.py). -/
import Derived.Test.YteojibdnphaooaaShape2
import Derived.Test.YteojibdnphaooaaLater
import Derived.Test.YteojibdnphaooaaShOpen
import Derived.Test.YteojibdnphaooaaShLine

namespace Go.Proofs.Yteojibdnphaooaa
open Go.RowKit
set_option maxRecDepth 100000
set_option linter.unusedSimpArgs false
set_option linter.unusedVariables false

/-- What a Round holds. -/
structure RoundD where
  turn : Int
  given : Bool
  ls : List LineD
def roundS : Shp RoundD where
  size := 3
  ty := 26
  rd := fun w cs d => ∃ vls : Value, cs = [.int .i64 d.turn, .bool d.given, vls] ∧ RdR lineS w vls d.ls
  own := fun w cs d bs => ∃ (vls : Value) (b0 : List Nat), cs = [.int .i64 d.turn, .bool d.given, vls] ∧ OwR lineS w vls d.ls b0 ∧ bs = b0
  pos := by decide
  rd_len := fun h => by obtain ⟨vls, rfl, _⟩ := h; rfl
  rd_one := fun h u hu => by
    obtain ⟨vls, rfl, h0⟩ := h
    obtain ⟨_, _, rfl, _⟩ := h0.form
    simp only [List.mem_cons, List.not_mem_nil, or_false] at hu
    rcases hu with rfl | rfl | rfl <;> rfl
  rd_new := fun h hb => by obtain ⟨vls, rfl, h0⟩ := h; exact ⟨vls, rfl, h0.new hb⟩
  own_rd := fun h => by obtain ⟨vls, b0, rfl, h0, rfl⟩ := h; exact ⟨vls, rfl, h0.rd⟩
  own_keep := fun h hs hk => by obtain ⟨vls, b0, rfl, h0, rfl⟩ := h; exact ⟨vls, _, rfl, h0.keep hs (fun b hb => hk b (by simp [hb])), rfl⟩
  own_lt := fun h b hb => by obtain ⟨vls, b0, rfl, h0, rfl⟩ := h; exact h0.lt b hb
/-- How much it holds, as the laws count. -/
def szRound (d : RoundD) : Int := szLineS d.ls
theorem szRound_nn (d : RoundD) : 0 ≤ szRound d := by unfold szRound; have := szLineS_nn d.ls; omega
def szRoundS (L : List RoundD) : Int := L.length + sumLs szRound L
theorem szRoundS_nn (L : List RoundD) : 0 ≤ szRoundS L := by unfold szRoundS; have := sum_nn szRound szRound_nn L; omega
theorem szRoundS_mem {L : List RoundD} {d : RoundD} (h : d ∈ L) : szRound d ≤ szRoundS L := by unfold szRoundS; have := sum_mem szRound szRound_nn L d h; omega
theorem szRoundS_len (L : List RoundD) : (L.length : Int) ≤ szRoundS L := by unfold szRoundS; have := sum_nn szRound szRound_nn L; omega
/-- The marks of one in a row, from k on; how many; and of a row. -/
def mkRound (d : RoundD) (k : Nat) : RoundD := ⟨((k : Nat) : Int), decide ((k + 1) % 3 = 0), mkLineS d.ls (k + 1 + 1)⟩
def cntRound (d : RoundD) : Nat := 1 + 1 + cntLineS d.ls
def mkRoundS (L : List RoundD) (k : Nat) : List RoundD := mkLs mkRound cntRound L k
def cntRoundS (L : List RoundD) : Nat := cntLs cntRound L
set_option maxHeartbeats 1000000 in
theorem toRound1 (d : RoundD) (vls : Value) (w : World) (hvls : RdR lineS w vls d.ls) (hs : szRound d ≤ 1048576) :
    Calls Try.prog 25 #[.agg #[.int .i64 d.turn, .bool d.given, vls]] w fun x w' => ∃ vls' : Value, x = .returned (.agg #[.int .i64 d.turn, .bool d.given, vls']) ∧ OwX lineS w' w.heap.size w'.heap.size vls' d.ls ∧ Below w.heap.size w w' := by
  have Hvls := hide hvls
  obtain ⟨avls, pvls, rfl, _⟩ := hvls.form
  clear hvls
  have hz : szLineS d.ls ≤ 1048576 := by unfold szRound at hs; omega
  go_enter Try.func25, Try.ntmps25
  go_wp2_with fail
  refine (toLineS d.ls _ _ ?c1 hz).mono ?_
  case c1 => exact Hvls.out.new (by repeat' (first | (with_reducible exact Below.refl _ _) | (with_reducible refine Below.drew ?_) | (with_reducible refine bo_drewN _ ?_) | (with_reducible refine bo_alloc ?_ _) | (refine bchain ?_ (by with_reducible assumption)) | (with_reducible refine Below.setCell ?_ ?_ _) | go_size))
  rintro x w1 ⟨v1, rfl, ho, hb1⟩; have hz1 := hb1.size; (try simp at hz1); have hc1 := fun o => hb1.cell (p := ⟨w.heap.size, o, none⟩) (by first | (simp; done) | (simp; omega) | omega); have hf1 := fun o => hb1.frozen (p := ⟨w.heap.size, o, none⟩) (by first | (simp; done) | (simp; omega) | omega); have hcn1 := fun o => hb1.cell (p := ⟨w.heap.size + 1, o, none⟩) (by first | (simp; done) | (simp; omega) | omega); have hfn1 := fun o => hb1.frozen (p := ⟨w.heap.size + 1, o, none⟩) (by first | (simp; done) | (simp; omega) | omega); have hcm1 := fun o => hb1.cell (p := ⟨w.heap.size + 2, o, none⟩) (by first | (simp; done) | (simp; omega) | omega); have hfm1 := fun o => hb1.frozen (p := ⟨w.heap.size + 2, o, none⟩) (by first | (simp; done) | (simp; omega) | omega)
  have hbw : Below w.heap.size w w1 := (by repeat' (first | (with_reducible exact Below.refl _ _) | (with_reducible refine Below.drew ?_) | (with_reducible refine bo_drewN _ ?_) | (with_reducible refine bo_alloc ?_ _) | (refine bchain ?_ (by with_reducible assumption)) | (with_reducible refine Below.setCell ?_ ?_ _) | go_size))
  obtain ⟨ad1, cap1, rfl, _⟩ := ho.form
  have HO := hide ho
  clear ho
  go_wp2_with fail
  refine bodyPost_ret (v := .agg #[.int .i64 d.turn, .bool d.given, .slice ad1 d.ls.length cap1]) (by simp [results, Try.results25, go_sem, *]) rfl ?_
  refine ⟨_, rfl, ?_, (by repeat' (first | (with_reducible exact Below.refl _ _) | (with_reducible refine Below.drew ?_) | (with_reducible refine bo_drewN _ ?_) | (with_reducible refine bo_alloc ?_ _) | (refine bchain ?_ (by with_reducible assumption)) | (with_reducible refine Below.setCell ?_ ?_ _) | go_size))⟩
  refine (OwX.wide (lo' := w.heap.size) ?_ (Nat.le_refl _) (Nat.le_refl _))
  have ho := HO.out.wide (lo' := w.heap.size + 3) (by simp) (Nat.le_refl _)
  have hz1 := HO.out
  refine OwX.top (hi := w1.heap.size) ?_
  refine OwX.wide (lo := w.heap.size + 3) ?_ (by omega) (Nat.le_refl _)
  (repeat' (first | (with_reducible exact ho) | (with_reducible refine OwX.far ?_ _ _ ?_) | (simp; done) | (simp; omega)))
set_option maxHeartbeats 1000000 in
theorem eqRound1 (d : RoundD) (vls : Value) (uvls : Value) (w : World) (hvls : RdR lineS w vls d.ls) (huvls : RdR lineS w uvls d.ls) :
    Calls Try.prog 26 #[.agg #[.int .i64 d.turn, .bool d.given, vls], .agg #[.int .i64 d.turn, .bool d.given, uvls]] w fun x w' => x = .returned (.bool true) ∧ Below w.heap.size w w' := by
  have Hvls := hide hvls
  obtain ⟨avls, pvls, rfl, _⟩ := hvls.form
  clear hvls
  have Huvls := hide huvls
  obtain ⟨auvls, puvls, rfl, _⟩ := huvls.form
  clear huvls
  go_enter Try.func26, Try.ntmps26
  go_wp2_with fail
  refine (eqLineS d.ls _ _ _ ?c1 ?c2).mono ?_
  case c1 => exact Hvls.out.new (by repeat' (first | (with_reducible exact Below.refl _ _) | (with_reducible refine Below.drew ?_) | (with_reducible refine bo_drewN _ ?_) | (with_reducible refine bo_alloc ?_ _) | (refine bchain ?_ (by with_reducible assumption)) | (with_reducible refine Below.setCell ?_ ?_ _) | go_size))
  case c2 => exact Huvls.out.new (by repeat' (first | (with_reducible exact Below.refl _ _) | (with_reducible refine Below.drew ?_) | (with_reducible refine bo_drewN _ ?_) | (with_reducible refine bo_alloc ?_ _) | (refine bchain ?_ (by with_reducible assumption)) | (with_reducible refine Below.setCell ?_ ?_ _) | go_size))
  rintro x w1 ⟨rfl, hb1⟩; have hz1 := hb1.size; (try simp at hz1); have hc1 := fun o => hb1.cell (p := ⟨w.heap.size, o, none⟩) (by first | (simp; done) | (simp; omega) | omega); have hf1 := fun o => hb1.frozen (p := ⟨w.heap.size, o, none⟩) (by first | (simp; done) | (simp; omega) | omega); have hcn1 := fun o => hb1.cell (p := ⟨w.heap.size + 1, o, none⟩) (by first | (simp; done) | (simp; omega) | omega); have hfn1 := fun o => hb1.frozen (p := ⟨w.heap.size + 1, o, none⟩) (by first | (simp; done) | (simp; omega) | omega)
  go_wp2_with fail
  go_ret
  exact ⟨rfl, (by repeat' (first | (with_reducible exact Below.refl _ _) | (with_reducible refine Below.drew ?_) | (with_reducible refine bo_drewN _ ?_) | (with_reducible refine bo_alloc ?_ _) | (refine bchain ?_ (by with_reducible assumption)) | (with_reducible refine Below.setCell ?_ ?_ _) | go_size))⟩
set_option maxHeartbeats 1000000 in
theorem szRound1 (d : RoundD) (vls : Value) (left : Int) (w : World) (hvls : RdR lineS w vls d.ls) (h0 : 0 ≤ left) (h1 : left ≤ 1048576) :
    Calls Try.prog 24 #[.agg #[.int .i64 d.turn, .bool d.given, vls], .int .i64 left] w fun x w' => (x = .returned (.int .i64 (-1)) ∨ (x = .returned (.int .i64 (left - szRound d)) ∧ 0 ≤ left - szRound d)) ∧ Below w.heap.size w w' := by
  have Hvls := hide hvls
  obtain ⟨avls, pvls, rfl, _⟩ := hvls.form
  clear hvls
  unfold szRound
  obtain ⟨R, hR⟩ : ∃ R, left - szLineS d.ls = R := ⟨_, rfl⟩
  rw [hR]
  have hcall := fun v w h => szLineS1 d.ls v left w h h0 h1
  rw [hR] at hcall
  clear hR
  go_enter Try.func24, Try.ntmps24
  go_wp2_with fail
  refine (hcall _ _ ?c1).mono ?_
  case c1 => exact Hvls.out.new (by repeat' (first | (with_reducible exact Below.refl _ _) | (with_reducible refine Below.drew ?_) | (with_reducible refine bo_drewN _ ?_) | (with_reducible refine bo_alloc ?_ _) | (refine bchain ?_ (by with_reducible assumption)) | (with_reducible refine Below.setCell ?_ ?_ _) | go_size))
  rintro x w1 ⟨rfl | ⟨rfl, hp⟩, hb1⟩
  · go_wp2_with fail
    go_ret
    exact ⟨.inl rfl, (by repeat' (first | (with_reducible exact Below.refl _ _) | (with_reducible refine Below.drew ?_) | (with_reducible refine bo_drewN _ ?_) | (with_reducible refine bo_alloc ?_ _) | (refine bchain ?_ (by with_reducible assumption)) | (with_reducible refine Below.setCell ?_ ?_ _) | go_size))⟩
  · have hp' : ¬ R < 0 := by omega
    go_wp2_with fail
    go_ret
    exact ⟨.inr ⟨rfl, hp⟩, (by repeat' (first | (with_reducible exact Below.refl _ _) | (with_reducible refine Below.drew ?_) | (with_reducible refine bo_drewN _ ?_) | (with_reducible refine bo_alloc ?_ _) | (refine bchain ?_ (by with_reducible assumption)) | (with_reducible refine Below.setCell ?_ ?_ _) | go_size))⟩
set_option maxHeartbeats 1000000 in
theorem markRound1 (d : RoundD) (vls : Value) (k : Nat) (bs : List Nat) (w : World) (ho : OwR lineS w vls d.ls bs) (hn : bs.Nodup) (hk1 : k + cntLineS d.ls ≤ 1000000000) :
    Calls Try.prog 27 #[.agg #[.int .i64 d.turn, .bool d.given, vls], .int .i64 k] w fun x w' => x = .returned (.int .i64 ((k + cntLineS d.ls : Nat) : Int)) ∧ OwR lineS w' vls (mkLineS d.ls k) bs ∧ TurnB bs w w' := by
  obtain ⟨ad, cap, rfl, h1, h2⟩ := ho.rd.form
  have HO := hide ho
  clear ho
  obtain ⟨K, hK⟩ : ∃ K : Nat, K = k + cntLineS d.ls := ⟨_, rfl⟩
  rw [← hK]
  have HK := hide hK
  clear hK
  go_enter Try.func27, Try.ntmps27
  go_wp2_with fail
  have hbx : Below w.heap.size w (w.alloc (.cells #[.int .i64 d.turn, .bool d.given, .slice ad d.ls.length cap] 26)) := (Below.refl _ _).alloc (Nat.le_refl _) _
  refine (markLineS d.ls k _ bs _ (HO.out.keep hbx.size (fun b hb => hbx.block b (HO.out.lt b hb))) hn hk1).mono ?_
  rw [← HK.out]
  rintro x w1 ⟨rfl, ho1, ht1⟩
  have HO1 := hide ho1
  have HT1 := hide ((TurnB.new (bs := bs) hbx).trans ht1)
  clear ho1 ht1
  go_wp2_with fail
  go_ret
  exact ⟨rfl, HO1.out, HT1.out⟩
set_option maxHeartbeats 1000000 in
theorem heldRound1 (d : RoundD) (vls : Value) (k : Nat) (w : World) (L : List LineD) (hr : RdR lineS w vls (mkLineS L k)) (hk1 : k + cntLineS L ≤ 1000000000) :
    Calls Try.prog 28 #[.agg #[.int .i64 d.turn, .bool d.given, vls], .int .i64 k] w fun x w' => x = .returned (.int .i64 ((k + cntLineS L : Nat) : Int)) ∧ Below w.heap.size w w' := by
  obtain ⟨ad, cap, rfl, h1, h2⟩ := hr.form
  have HR := hide hr
  clear hr
  obtain ⟨K, hK⟩ : ∃ K : Nat, K = k + cntLineS L := ⟨_, rfl⟩
  rw [← hK]
  have HK := hide hK
  clear hK
  go_enter Try.func28, Try.ntmps28
  go_wp2_with fail
  refine (heldLineS L k _ _ ?c1 hk1).mono ?_
  case c1 => exact HR.out.new (by repeat' (first | (with_reducible exact Below.refl _ _) | (with_reducible refine Below.drew ?_) | (with_reducible refine bo_drewN _ ?_) | (with_reducible refine bo_alloc ?_ _) | (refine bchain ?_ (by with_reducible assumption)) | (with_reducible refine Below.setCell ?_ ?_ _) | go_size))
  rw [← HK.out]
  rintro x w1 ⟨rfl, hb1⟩
  go_wp2_with fail
  go_ret
  exact ⟨rfl, (by repeat' (first | (with_reducible exact Below.refl _ _) | (with_reducible refine Below.drew ?_) | (with_reducible refine bo_drewN _ ?_) | (with_reducible refine bo_alloc ?_ _) | (refine bchain ?_ (by with_reducible assumption)) | (with_reducible refine Below.setCell ?_ ?_ _) | go_size))⟩
open Go.ChangeShapes Go.WideShapes Go.ChangeAt Go.Joins in
theorem open_Round {H : Type} {enc : TypeId × Value → H} {W : World} {base : Nat} {v : Value} {d : DataW H} {p : List MemPlace} (hv : Value.okWide Try.prog W .any base 43 v)
    (h : DataW.Trod enc Try.prog W 0 (fun _ => true) true 43 v d p) : ∃ (d : RoundD) (vls : Value), v = .agg #[.int .i64 d.turn, .bool d.given, vls] ∧ RdR lineS W vls d.ls := by
  obtain ⟨c0, c1, c2, y0, y1, y2, n, rfl, _, _, h0, h1, h2⟩ := open_agg3 Try.underlying43 (by kernel_rfl) (by kernel_rfl) hv h
  obtain ⟨i0, e0, _⟩ := DataW.trod_int Try.underlying2 h0
  simp only [List.cons.injEq, and_true] at e0
  subst e0
  obtain ⟨i1, e1, _⟩ := DataW.trod_bool Try.underlying4 h1
  simp only [List.cons.injEq, and_true] at e1
  subst e1
  obtain ⟨L2, hL2⟩ := open_shape (E := lineS) ⟨0, 0, []⟩ Try.underlying41 (by kernel_rfl) (fun cs n y hy => open_cellsLine hy) h2
  exact ⟨⟨i0, i1, L2⟩, c2, rfl, hL2⟩

end Go.Proofs.Yteojibdnphaooaa
