/- Line in memory: its datum, its make; counted, copied, held against each other, marked, read again (by gen_shape.py). -/
import Derived.Test.YteojibdnphaooaaShape2
import Derived.Test.YteojibdnphaooaaLater
import Derived.Test.YteojibdnphaooaaShOpen
import Derived.Test.YteojibdnphaooaaShInt

namespace Go.Proofs.Yteojibdnphaooaa
open Go.RowKit
set_option maxRecDepth 100000
set_option linter.unusedSimpArgs false
set_option linter.unusedVariables false

/-- What a Line holds. -/
structure LineD where
  wt : Int
  left : Int
  sz : List Int
def lineS : Shp LineD where
  size := 3
  ty := 35
  rd := fun w cs d => ∃ vsz : Value, cs = [.int .i64 d.wt, .int .i64 d.left, vsz] ∧ RdR intS w vsz d.sz
  own := fun w cs d bs => ∃ (vsz : Value) (b0 : List Nat), cs = [.int .i64 d.wt, .int .i64 d.left, vsz] ∧ OwR intS w vsz d.sz b0 ∧ bs = b0
  pos := by decide
  rd_len := fun h => by obtain ⟨vsz, rfl, _⟩ := h; rfl
  rd_one := fun h u hu => by
    obtain ⟨vsz, rfl, h0⟩ := h
    obtain ⟨_, _, rfl, _⟩ := h0.form
    simp only [List.mem_cons, List.not_mem_nil, or_false] at hu
    rcases hu with rfl | rfl | rfl <;> rfl
  rd_new := fun h hb => by obtain ⟨vsz, rfl, h0⟩ := h; exact ⟨vsz, rfl, h0.new hb⟩
  own_rd := fun h => by obtain ⟨vsz, b0, rfl, h0, rfl⟩ := h; exact ⟨vsz, rfl, h0.rd⟩
  own_keep := fun h hs hk => by obtain ⟨vsz, b0, rfl, h0, rfl⟩ := h; exact ⟨vsz, _, rfl, h0.keep hs (fun b hb => hk b (by simp [hb])), rfl⟩
  own_lt := fun h b hb => by obtain ⟨vsz, b0, rfl, h0, rfl⟩ := h; exact h0.lt b hb
/-- How much it holds, as the laws count. -/
def szLine (d : LineD) : Int := szInt64S d.sz
theorem szLine_nn (d : LineD) : 0 ≤ szLine d := by unfold szLine; have := szInt64S_nn d.sz; omega
def szLineS (L : List LineD) : Int := L.length + sumLs szLine L
theorem szLineS_nn (L : List LineD) : 0 ≤ szLineS L := by unfold szLineS; have := sum_nn szLine szLine_nn L; omega
theorem szLineS_mem {L : List LineD} {d : LineD} (h : d ∈ L) : szLine d ≤ szLineS L := by unfold szLineS; have := sum_mem szLine szLine_nn L d h; omega
theorem szLineS_len (L : List LineD) : (L.length : Int) ≤ szLineS L := by unfold szLineS; have := sum_nn szLine szLine_nn L; omega
/-- The marks of one in a row, from k on; how many; and of a row. -/
def mkLine (d : LineD) (k : Nat) : LineD := ⟨((k : Nat) : Int), ((k + 1 : Nat) : Int), mkInt64S d.sz (k + 1 + 1)⟩
def cntLine (d : LineD) : Nat := 1 + 1 + cntInt64S d.sz
def mkLineS (L : List LineD) (k : Nat) : List LineD := mkLs mkLine cntLine L k
def cntLineS (L : List LineD) : Nat := cntLs cntLine L
set_option maxHeartbeats 1000000 in
theorem toLine1 (d : LineD) (vsz : Value) (w : World) (hvsz : RdR intS w vsz d.sz) (hs : szLine d ≤ 1048576) :
    Calls Try.prog 58 #[.agg #[.int .i64 d.wt, .int .i64 d.left, vsz]] w fun x w' => ∃ vsz' : Value, x = .returned (.agg #[.int .i64 d.wt, .int .i64 d.left, vsz']) ∧ OwX intS w' w.heap.size w'.heap.size vsz' d.sz ∧ Below w.heap.size w w' := by
  have Hvsz := hide hvsz
  obtain ⟨avsz, pvsz, rfl, _⟩ := hvsz.form
  clear hvsz
  have hz : szInt64S d.sz ≤ 1048576 := by unfold szLine at hs; omega
  go_enter Try.func58, Try.ntmps58
  go_wp2_with fail
  refine (toInt64S d.sz _ _ ?c1 hz).mono ?_
  case c1 => exact Hvsz.out.new (by repeat' (first | (with_reducible exact Below.refl _ _) | (with_reducible refine Below.drew ?_) | (with_reducible refine bo_drewN _ ?_) | (with_reducible refine bo_alloc ?_ _) | (refine bchain ?_ (by with_reducible assumption)) | (with_reducible refine Below.setCell ?_ ?_ _) | go_size))
  rintro x w1 ⟨v1, rfl, ho, hb1⟩; have hz1 := hb1.size; (try simp at hz1); have hc1 := fun o => hb1.cell (p := ⟨w.heap.size, o, none⟩) (by first | (simp; done) | (simp; omega) | omega); have hf1 := fun o => hb1.frozen (p := ⟨w.heap.size, o, none⟩) (by first | (simp; done) | (simp; omega) | omega); have hcn1 := fun o => hb1.cell (p := ⟨w.heap.size + 1, o, none⟩) (by first | (simp; done) | (simp; omega) | omega); have hfn1 := fun o => hb1.frozen (p := ⟨w.heap.size + 1, o, none⟩) (by first | (simp; done) | (simp; omega) | omega); have hcm1 := fun o => hb1.cell (p := ⟨w.heap.size + 2, o, none⟩) (by first | (simp; done) | (simp; omega) | omega); have hfm1 := fun o => hb1.frozen (p := ⟨w.heap.size + 2, o, none⟩) (by first | (simp; done) | (simp; omega) | omega)
  have hbw : Below w.heap.size w w1 := (by repeat' (first | (with_reducible exact Below.refl _ _) | (with_reducible refine Below.drew ?_) | (with_reducible refine bo_drewN _ ?_) | (with_reducible refine bo_alloc ?_ _) | (refine bchain ?_ (by with_reducible assumption)) | (with_reducible refine Below.setCell ?_ ?_ _) | go_size))
  obtain ⟨ad1, cap1, rfl, _⟩ := ho.form
  have HO := hide ho
  clear ho
  go_wp2_with fail
  refine bodyPost_ret (v := .agg #[.int .i64 d.wt, .int .i64 d.left, .slice ad1 d.sz.length cap1]) (by simp [results, Try.results58, go_sem, *]) rfl ?_
  refine ⟨_, rfl, ?_, (by repeat' (first | (with_reducible exact Below.refl _ _) | (with_reducible refine Below.drew ?_) | (with_reducible refine bo_drewN _ ?_) | (with_reducible refine bo_alloc ?_ _) | (refine bchain ?_ (by with_reducible assumption)) | (with_reducible refine Below.setCell ?_ ?_ _) | go_size))⟩
  refine (OwX.wide (lo' := w.heap.size) ?_ (Nat.le_refl _) (Nat.le_refl _))
  have ho := HO.out.wide (lo' := w.heap.size + 3) (by simp) (Nat.le_refl _)
  have hz1 := HO.out
  refine OwX.top (hi := w1.heap.size) ?_
  refine OwX.wide (lo := w.heap.size + 3) ?_ (by omega) (Nat.le_refl _)
  (repeat' (first | (with_reducible exact ho) | (with_reducible refine OwX.far ?_ _ _ ?_) | (simp; done) | (simp; omega)))
set_option maxHeartbeats 1000000 in
theorem eqLine1 (d : LineD) (vsz : Value) (uvsz : Value) (w : World) (hvsz : RdR intS w vsz d.sz) (huvsz : RdR intS w uvsz d.sz) :
    Calls Try.prog 59 #[.agg #[.int .i64 d.wt, .int .i64 d.left, vsz], .agg #[.int .i64 d.wt, .int .i64 d.left, uvsz]] w fun x w' => x = .returned (.bool true) ∧ Below w.heap.size w w' := by
  have Hvsz := hide hvsz
  obtain ⟨avsz, pvsz, rfl, _⟩ := hvsz.form
  clear hvsz
  have Huvsz := hide huvsz
  obtain ⟨auvsz, puvsz, rfl, _⟩ := huvsz.form
  clear huvsz
  go_enter Try.func59, Try.ntmps59
  go_wp2_with fail
  refine (eqInt64S d.sz _ _ _ ?c1 ?c2).mono ?_
  case c1 => exact Hvsz.out.new (by repeat' (first | (with_reducible exact Below.refl _ _) | (with_reducible refine Below.drew ?_) | (with_reducible refine bo_drewN _ ?_) | (with_reducible refine bo_alloc ?_ _) | (refine bchain ?_ (by with_reducible assumption)) | (with_reducible refine Below.setCell ?_ ?_ _) | go_size))
  case c2 => exact Huvsz.out.new (by repeat' (first | (with_reducible exact Below.refl _ _) | (with_reducible refine Below.drew ?_) | (with_reducible refine bo_drewN _ ?_) | (with_reducible refine bo_alloc ?_ _) | (refine bchain ?_ (by with_reducible assumption)) | (with_reducible refine Below.setCell ?_ ?_ _) | go_size))
  rintro x w1 ⟨rfl, hb1⟩; have hz1 := hb1.size; (try simp at hz1); have hc1 := fun o => hb1.cell (p := ⟨w.heap.size, o, none⟩) (by first | (simp; done) | (simp; omega) | omega); have hf1 := fun o => hb1.frozen (p := ⟨w.heap.size, o, none⟩) (by first | (simp; done) | (simp; omega) | omega); have hcn1 := fun o => hb1.cell (p := ⟨w.heap.size + 1, o, none⟩) (by first | (simp; done) | (simp; omega) | omega); have hfn1 := fun o => hb1.frozen (p := ⟨w.heap.size + 1, o, none⟩) (by first | (simp; done) | (simp; omega) | omega)
  go_wp2_with fail
  go_ret
  exact ⟨rfl, (by repeat' (first | (with_reducible exact Below.refl _ _) | (with_reducible refine Below.drew ?_) | (with_reducible refine bo_drewN _ ?_) | (with_reducible refine bo_alloc ?_ _) | (refine bchain ?_ (by with_reducible assumption)) | (with_reducible refine Below.setCell ?_ ?_ _) | go_size))⟩
set_option maxHeartbeats 1000000 in
theorem szLine1 (d : LineD) (vsz : Value) (left : Int) (w : World) (hvsz : RdR intS w vsz d.sz) (h0 : 0 ≤ left) (h1 : left ≤ 1048576) :
    Calls Try.prog 57 #[.agg #[.int .i64 d.wt, .int .i64 d.left, vsz], .int .i64 left] w fun x w' => (x = .returned (.int .i64 (-1)) ∨ (x = .returned (.int .i64 (left - szLine d)) ∧ 0 ≤ left - szLine d)) ∧ Below w.heap.size w w' := by
  have Hvsz := hide hvsz
  obtain ⟨avsz, pvsz, rfl, _⟩ := hvsz.form
  clear hvsz
  unfold szLine
  obtain ⟨R, hR⟩ : ∃ R, left - szInt64S d.sz = R := ⟨_, rfl⟩
  rw [hR]
  have hcall := fun v w h => szInt64S1 d.sz v left w h h0 h1
  rw [hR] at hcall
  clear hR
  go_enter Try.func57, Try.ntmps57
  go_wp2_with fail
  refine (hcall _ _ ?c1).mono ?_
  case c1 => exact Hvsz.out.new (by repeat' (first | (with_reducible exact Below.refl _ _) | (with_reducible refine Below.drew ?_) | (with_reducible refine bo_drewN _ ?_) | (with_reducible refine bo_alloc ?_ _) | (refine bchain ?_ (by with_reducible assumption)) | (with_reducible refine Below.setCell ?_ ?_ _) | go_size))
  rintro x w1 ⟨rfl | ⟨rfl, hp⟩, hb1⟩
  · go_wp2_with fail
    go_ret
    exact ⟨.inl rfl, (by repeat' (first | (with_reducible exact Below.refl _ _) | (with_reducible refine Below.drew ?_) | (with_reducible refine bo_drewN _ ?_) | (with_reducible refine bo_alloc ?_ _) | (refine bchain ?_ (by with_reducible assumption)) | (with_reducible refine Below.setCell ?_ ?_ _) | go_size))⟩
  · have hp' : ¬ R < 0 := by omega
    go_wp2_with fail
    go_ret
    exact ⟨.inr ⟨rfl, hp⟩, (by repeat' (first | (with_reducible exact Below.refl _ _) | (with_reducible refine Below.drew ?_) | (with_reducible refine bo_drewN _ ?_) | (with_reducible refine bo_alloc ?_ _) | (refine bchain ?_ (by with_reducible assumption)) | (with_reducible refine Below.setCell ?_ ?_ _) | go_size))⟩
set_option maxHeartbeats 2000000 in
theorem toLineS (L : List LineD) (v : Value) (w : World) (hr : RdR lineS w v L) (hz : szLineS L ≤ 1048576) :
    Calls Try.prog 45 #[v] w fun x w' => ∃ v', x = .returned v' ∧ OwX lineS w' w.heap.size w'.heap.size v' L ∧ Below w.heap.size w w' := by
  have hL : L.length ≤ 1048576 := by have := szLineS_len L; omega
  obtain ⟨M, hM, hmk⟩ := make_row 24 35 (.agg #[.int .i64 0, .int .i64 0, .slice none 0 0]) 3 40 Try.underlying24 (by kernel_rfl) rfl (by decide) (by decide) L.length hL
  have hst := filling_start (E := lineS) (owns_made w M 35 3 L.length hM hL)
  obtain ⟨ad, cap, rfl, h1, h2⟩ := hr.form
  have HR := hide hr
  clear hr
  have HZ := hide hz
  clear hz
  go_enter Try.func45, Try.ntmps45
  go_wp2_with fail
  go_loopw [4] (fun i wr => ∃ (k : Nat), i = .int .i64 k ∧ k ≤ L.length ∧ Hid (Filling lineS w wr L k)) (fun i _ => L.length - (intOf i).toNat)
  case atStart => exact ⟨0, rfl, Nat.zero_le _, hst⟩
  case round =>
    clear hst hmk
    obtain ⟨k, rfl, hk, HFI⟩ := hrel
    by_cases hlt : k < L.length
    · have hb : Below w.heap.size w wr := HFI.out.2.1
      have hrk := (HR.out.new hb).at k hlt
      have hmem : L[k] ∈ L := List.getElem_mem hlt
      obtain ⟨d, hd⟩ : ∃ d, d = L[k] := ⟨_, rfl⟩
      rw [← hd] at hrk hmem
      obtain ⟨b, o, cs, rfl, hbw, hrd, hc⟩ := hrk
      obtain ⟨vsz, rfl, hvsz⟩ := hrd
      have Hvsz := hide hvsz
      obtain ⟨avsz, pvsz, rfl, _⟩ := hvsz.form
      clear hvsz
      have hzd : szLine d ≤ 1048576 := by have := szLineS_mem hmem; have := HZ.out; omega
      have c0 : wr.cell? ⟨b, o + k * 3, none⟩ = some (.int .i64 d.wt) := hc 0 _ rfl
      have c1 : wr.cell? ⟨b, o + k * 3 + 1, none⟩ = some (.int .i64 d.left) := hc 1 _ rfl
      have c2 : wr.cell? ⟨b, o + k * 3 + 2, none⟩ = some ((.slice avsz d.sz.length pvsz)) := hc 2 _ rfl
      clear hc
      have HD := hide hd
      clear hd hmem
      go_wp2_with fail
      refine (toLine1 d _ _ Hvsz.out hzd).mono ?_
      rintro x w1 ⟨zvsz, rfl, qvsz, hb1⟩
      obtain ⟨ad1, cap1, rfl, _⟩ := qvsz.form
      have hoe : OwE lineS w1 wr.heap.size w1.heap.size [.int .i64 d.wt, .int .i64 d.left, .slice ad1 d.sz.length cap1] d := by
        obtain ⟨bs, g1, g2, g3⟩ := qvsz
        exact ⟨bs, ⟨_, _, rfl, g1, rfl⟩, g2, g3⟩
      clear qvsz
      rw [HD.out] at hoe
      obtain ⟨hcell, hfr, hlw, hfi⟩ := filling_step HFI.out hlt hb1 hoe
      rw [← HD.out] at hfi
      obtain ⟨x0, hx0⟩ : ∃ u, w1.cell? ⟨w.heap.size, k * 3, none⟩ = some u := hcell 0 (by decide)
      obtain ⟨x1, hx1⟩ : ∃ u, w1.cell? ⟨w.heap.size, k * 3 + 1, none⟩ = some u := hcell 1 (by decide)
      obtain ⟨x2, hx2⟩ : ∃ u, w1.cell? ⟨w.heap.size, k * 3 + 2, none⟩ = some u := hcell 2 (by decide)
      have e6 := hfr
      have HF2 := hide hfi
      clear hcell hfr hfi hoe
      go_wp2_with fail
      go_roundw
      case rel => exact ⟨k + 1, by go_num, by omega, HF2.out⟩
      case measure => simp [intOf]; omega
    · obtain rfl : k = L.length := by omega
      obtain ⟨hox, hbx⟩ := filling_end HFI.out
      have HX := hide hox
      clear hox
      go_wp2_with fail
      go_ret
      exact ⟨_, rfl, HX.out, hbx⟩
set_option maxHeartbeats 1000000 in
theorem eqLineS (L : List LineD) (v v' : Value) (w : World) (hr0 : RdR lineS w v L) (hr1 : RdR lineS w v' L) :
    Calls Try.prog 46 #[v, v'] w fun x w' => x = .returned (.bool true) ∧ Below w.heap.size w w' := by
  obtain ⟨ad, cap, rfl, h1, h2⟩ := hr0.form
  obtain ⟨ad', cap', rfl, h1', h2'⟩ := hr1.form
  have HR := hide hr0; have HR' := hide hr1
  clear hr0 hr1
  go_enter Try.func46, Try.ntmps46
  go_wp2_with fail
  go_loopw [5] (fun i wr => ∃ (k : Nat), i = .int .i64 k ∧ k ≤ L.length ∧ Below w.heap.size w wr) (fun i _ => L.length - (intOf i).toNat)
  case atStart => exact ⟨0, rfl, Nat.zero_le _, Below.refl _ _⟩
  case round =>
    obtain ⟨k, rfl, hk, hb⟩ := hrel
    by_cases hlt : k < L.length
    · have hrk := (HR.out.new hb).at k hlt
      have hrk' := (HR'.out.new hb).at k hlt
      obtain ⟨d, hd⟩ : ∃ d, d = L[k] := ⟨_, rfl⟩
      rw [← hd] at hrk hrk'
      clear hd
      obtain ⟨b, o, cs, rfl, hb1, hrd, hc⟩ := hrk
      obtain ⟨b', o', cs', rfl, hb2, hrd', hc'⟩ := hrk'
      obtain ⟨vsz, rfl, hvsz⟩ := hrd
      have Hvsz := hide hvsz
      obtain ⟨avsz, pvsz, rfl, _⟩ := hvsz.form
      clear hvsz
      obtain ⟨uvsz, rfl, huvsz⟩ := hrd'
      have Huvsz := hide huvsz
      obtain ⟨auvsz, puvsz, rfl, _⟩ := huvsz.form
      clear huvsz
      have c0 : wr.cell? ⟨b, o + k * 3, none⟩ = some (.int .i64 d.wt) := hc 0 _ rfl
      have c1 : wr.cell? ⟨b, o + k * 3 + 1, none⟩ = some (.int .i64 d.left) := hc 1 _ rfl
      have c2 : wr.cell? ⟨b, o + k * 3 + 2, none⟩ = some ((.slice avsz d.sz.length pvsz)) := hc 2 _ rfl
      have d0 : wr.cell? ⟨b', o' + k * 3, none⟩ = some (.int .i64 d.wt) := hc' 0 _ rfl
      have d1 : wr.cell? ⟨b', o' + k * 3 + 1, none⟩ = some (.int .i64 d.left) := hc' 1 _ rfl
      have d2 : wr.cell? ⟨b', o' + k * 3 + 2, none⟩ = some ((.slice auvsz d.sz.length puvsz)) := hc' 2 _ rfl
      clear hc hc'
      go_wp2_with fail
      have qa0 : ∀ y : Later wr, y.w.cell? ⟨b, o + k * 3, none⟩ = some (.int .i64 d.wt) := fun y => (y.b.cell (p := ⟨b, o + k * 3, none⟩) hb1).trans c0
      have qa1 : ∀ y : Later wr, y.w.cell? ⟨b, o + k * 3 + 1, none⟩ = some (.int .i64 d.left) := fun y => (y.b.cell (p := ⟨b, o + k * 3 + 1, none⟩) hb1).trans c1
      have qa2 : ∀ y : Later wr, y.w.cell? ⟨b, o + k * 3 + 2, none⟩ = some ((.slice avsz d.sz.length pvsz)) := fun y => (y.b.cell (p := ⟨b, o + k * 3 + 2, none⟩) hb1).trans c2
      have qb0 : ∀ y : Later wr, y.w.cell? ⟨b', o' + k * 3, none⟩ = some (.int .i64 d.wt) := fun y => (y.b.cell (p := ⟨b', o' + k * 3, none⟩) hb2).trans d0
      have qb1 : ∀ y : Later wr, y.w.cell? ⟨b', o' + k * 3 + 1, none⟩ = some (.int .i64 d.left) := fun y => (y.b.cell (p := ⟨b', o' + k * 3 + 1, none⟩) hb2).trans d1
      have qb2 : ∀ y : Later wr, y.w.cell? ⟨b', o' + k * 3 + 2, none⟩ = some ((.slice auvsz d.sz.length puvsz)) := fun y => (y.b.cell (p := ⟨b', o' + k * 3 + 2, none⟩) hb2).trans d2
      clear c0 c1 c2 d0 d1 d2
      have hne : Nonempty (Later wr) := ⟨⟨wr, Below.refl _ _⟩⟩; refine region_later (by kernel_rfl) (by kernel_rfl) ?_
      repeat (go_big_quiet_step (fail))
      go_big_quiet_want; go_big_quiet_op
      refine ⟨.bool true, fun y => later_calls (x := y) (eqLine1 d _ _ y.w (Hvsz.out.new y.b) (Huvsz.out.new y.b)), ?_⟩
      go_big_quiet_on
      repeat (go_big_quiet_step (fail))
      refine wpQuiet_nil ?_; intro _ hw'; obtain ⟨y, hw''⟩ := hw'; subst hw''; have hby := y.b
      go_wp2_with fail
      go_roundw
      case rel => exact ⟨k + 1, by go_num, by omega, bchain hb hby⟩
      case measure => simp [intOf]; omega
    · go_wp2_with fail
      go_ret
      exact ⟨rfl, hb⟩
set_option maxHeartbeats 1000000 in
theorem szLineS1 (L : List LineD) (v : Value) (left : Int) (w : World) (hr : RdR lineS w v L) (h0 : 0 ≤ left) (h1 : left ≤ 1048576) :
    Calls Try.prog 44 #[v, .int .i64 left] w fun x w' => (x = .returned (.int .i64 (-1)) ∨ (x = .returned (.int .i64 (left - szLineS L)) ∧ 0 ≤ left - szLineS L)) ∧ Below w.heap.size w w' := by
  obtain ⟨ad, cap, rfl, h2, h3⟩ := hr.form
  have HR := hide hr
  clear hr
  unfold szLineS
  by_cases h : left - L.length < 0
  · go_enter Try.func44, Try.ntmps44
    go_wp2
    go_ret
    exact ⟨.inl rfl, Below.refl _ _⟩
  · go_enter Try.func44, Try.ntmps44
    go_wp2_with fail
    go_loopw [1, 5] (fun l i wr => ∃ (k : Nat), i = .int .i64 k ∧ k ≤ L.length ∧ l = .int .i64 (left - L.length - sumLs szLine (L.take k)) ∧ 0 ≤ left - L.length - sumLs szLine (L.take k) ∧ Below w.heap.size w wr) (fun _ i _ => L.length - (intOf i).toNat)
    case atStart => exact ⟨0, rfl, Nat.zero_le _, by simp [sumLs], by simp [sumLs]; omega, Below.refl _ _⟩
    case round =>
      obtain ⟨k, rfl, hk, rfl, hk0, hb⟩ := hrel
      by_cases hlt : k < L.length
      · have hrk := (HR.out.new hb).at k hlt
        have hsn := sum_take szLine L k hlt
        have hnn := sum_nn szLine szLine_nn (L.take k)
        obtain ⟨d, hd⟩ : ∃ d, d = L[k] := ⟨_, rfl⟩
        rw [← hd] at hrk hsn
        clear hd
        obtain ⟨b, o, cs, rfl, hb1, hrd, hc⟩ := hrk
        obtain ⟨vsz, rfl, hvsz⟩ := hrd
        have Hvsz := hide hvsz
        obtain ⟨avsz, pvsz, rfl, _⟩ := hvsz.form
        clear hvsz
        have c0 : wr.cell? ⟨b, o + k * 3, none⟩ = some (.int .i64 d.wt) := hc 0 _ rfl
        have c1 : wr.cell? ⟨b, o + k * 3 + 1, none⟩ = some (.int .i64 d.left) := hc 1 _ rfl
        have c2 : wr.cell? ⟨b, o + k * 3 + 2, none⟩ = some ((.slice avsz d.sz.length pvsz)) := hc 2 _ rfl
        clear hc
        generalize hq : sumLs szLine (List.take k L) = q at *
        generalize hq' : sumLs szLine (List.take (k + 1) L) = q' at *
        have HQ := hide hq'
        have HSN := hide hsn
        clear hq hq' hsn
        go_wp2_with fail
        refine (szLine1 d _ _ _ Hvsz.out (by omega) (by omega)).mono ?_
        rintro x w1 ⟨rfl | ⟨rfl, hp⟩, hb1⟩
        · go_wp2_with fail
          go_ret
          exact ⟨.inl rfl, bchain hb hb1⟩
        · have hp' : ¬ left - L.length - q - szLine d < 0 := by omega
          generalize hX : left - L.length - q - szLine d = X at *
          have HX := hide hX
          clear hX
          go_wp2_with fail
          go_roundw
          case rel => exact ⟨k + 1, by go_num, by omega, int_eq (by have := HX.out; have := HQ.out; have := HSN.out; omega), by have := HX.out; have := HQ.out; have := HSN.out; omega, bchain hb hb1⟩
          case measure => simp [intOf]; omega
      · obtain rfl : k = L.length := by omega
        rw [List.take_length] at *
        obtain ⟨X, hX⟩ : ∃ X, left - L.length - sumLs szLine L = X := ⟨_, rfl⟩
        rw [hX] at hk0 ⊢
        have HX := hide hX
        clear hX
        go_wp2_with fail
        go_ret
        have e : left - (L.length + sumLs szLine L) = X := by have := HX.out; omega
        rw [e]
        have := szLine_nn
        exact ⟨.inr ⟨rfl, hk0⟩, hb⟩
set_option maxHeartbeats 2000000 in
theorem markLineS (L : List LineD) (k : Nat) (v : Value) (bs : List Nat) (w : World) (ho : OwR lineS w v L bs) (hn : bs.Nodup) (hk1 : k + cntLineS L ≤ 1000000000) :
    Calls Try.prog 47 #[v, .int .i64 k] w fun x w' => x = .returned (.int .i64 ((k + cntLineS L : Nat) : Int)) ∧ OwR lineS w' v (mkLineS L k) bs ∧ TurnB bs w w' := by
  obtain ⟨ad, cap, rfl, h1, h2⟩ := ho.rd.form
  unfold cntLineS mkLineS at *
  have HO0 : Hid (OwR lineS w (.slice ad L.length cap) (mixLs mkLine cntLine L k 0) bs) := by show OwR _ _ _ _ _; rw [mix_zero]; exact ho
  clear ho
  have HN := hide hn
  clear hn
  go_enter Try.func47, Try.ntmps47
  go_wp2_with fail
  go_loopw [1, 5] (fun kk i wr => ∃ (j : Nat), i = .int .i64 j ∧ kk = .int .i64 ((k + cntLs cntLine (L.take j) : Nat) : Int) ∧ j ≤ L.length ∧ Hid (OwR lineS wr (.slice ad L.length cap) (mixLs mkLine cntLine L k j) bs) ∧ Hid (TurnB bs w wr)) (fun _ i _ => L.length - (intOf i).toNat)
  case atStart => exact ⟨0, rfl, by simp [cntLs], Nat.zero_le _, HO0, TurnB.refl _ _⟩
  case round =>
    clear HO0
    obtain ⟨j, rfl, rfl, hj, HO, HT⟩ := hrel
    by_cases hlt : j < L.length
    · have hct := cnt_take cntLine L j hlt
      have hcl := cnt_le cntLine L (j + 1)
      have hst := mix_step mkLine cntLine L k j hlt
      have hat := mix_at mkLine cntLine L k j hlt (by rw [mix_len _ _ L k j hj]; exact hlt)
      have hml := mix_len mkLine cntLine L k j hj
      obtain ⟨d, hd⟩ : ∃ d, d = L[j] := ⟨_, rfl⟩
      rw [← hd] at hct hst hat
      obtain ⟨K, hK⟩ : ∃ K : Nat, K = k + cntLs cntLine (L.take j) := ⟨_, rfl⟩
      rw [← hK] at hst ⊢
      obtain ⟨M, hM⟩ : ∃ M, M = mixLs mkLine cntLine L k j := ⟨_, rfl⟩
      rw [← hM] at hst hml
      have HO1 : Hid (OwR lineS wr (.slice ad L.length cap) M bs) := by show OwR _ _ _ _ _; rw [hM]; exact HO.out
      have HAT : Hid (∀ h : j < M.length, M[j] = d) := fun h => by subst hM; exact hat
      have hKc : K + cntLine d = k + cntLs cntLine (L.take (j + 1)) := by omega
      have HKC := hide hKc
      have hKb : K + cntLine d ≤ 1000000000 := by omega
      unfold cntLine at hKb
      have HST := hide hst
      have hjM : j < M.length := by omega
      clear hct hcl hst hat hM HO hd hK hKc
      obtain ⟨g1, c1, cs, bb, e1, hgl1, hgm, hgb, hsub, hbn, hown, hcell, hfr, _, hkeep, hsets⟩ := HO1.out.put HN.out j (by simpa using hjM)
      have eq1 : (M)[j]'(by simpa using hjM) = d := HAT.out hjM
      rw [eq1] at hown
      obtain ⟨vsz, b0, rfl, hvsz, hbb⟩ := hown
      simp only [Value.slice.injEq] at e1
      obtain ⟨rfl, -, -⟩ := e1
      obtain ⟨aq1, pq1, rfl, _⟩ := hvsz.rd.form
      have c1_0 : wr.cell? ⟨g1, j * 3, none⟩ = some (.int .i64 d.wt) := hcell 0 _ rfl
      have c1_1 : wr.cell? ⟨g1, j * 3 + 1, none⟩ = some (.int .i64 d.left) := hcell 1 _ rfl
      have c1_2 : wr.cell? ⟨g1, j * 3 + 2, none⟩ = some (.slice aq1 d.sz.length pq1) := hcell 2 _ rfl
      have HO2 : Hid (OwR lineS (setsFrom wr g1 (j * lineS.size + ([] : List Value).length) [.int .i64 ((K : Nat) : Int), .int .i64 ((K + 1 : Nat) : Int)]) _ ((M).set j ⟨((K : Nat) : Int), ((K + 1 : Nat) : Int), d.sz⟩) bs) := hsets [] [.int .i64 d.wt, .int .i64 d.left] [.slice aq1 d.sz.length pq1] [.int .i64 ((K : Nat) : Int), .int .i64 ((K + 1 : Nat) : Int)] ⟨((K : Nat) : Int), ((K + 1 : Nat) : Int), d.sz⟩ rfl rfl ⟨_, _, rfl, hvsz, hbb⟩
      have HT2 : Hid (TurnB bs w (setsFrom wr g1 (j * lineS.size + ([] : List Value).length) [.int .i64 ((K : Nat) : Int), .int .i64 ((K + 1 : Nat) : Int)])) := TurnB.setsFrom g1 hgm _ _ _ HT.out
      have f1 := hfr
      clear hcell hfr hkeep hsets hsub hbn hgb hbb eq1 hvsz
      go_wp2_with fail
      change Hid (OwR lineS ((wr.setCell ⟨g1, j * 3, none⟩ (.int .i64 ((K : Int)))).setCell ⟨g1, j * 3 + 1, none⟩ (.int .i64 ((K : Int) + 1))) _ _ _) at HO2
      change Hid (TurnB bs w ((wr.setCell ⟨g1, j * 3, none⟩ (.int .i64 ((K : Int)))).setCell ⟨g1, j * 3 + 1, none⟩ (.int .i64 ((K : Int) + 1)))) at HT2
      have cq : World.cell? ((wr.setCell ⟨g1, j * 3, none⟩ (.int .i64 ((K : Int)))).setCell ⟨g1, j * 3 + 1, none⟩ (.int .i64 ((K : Int) + 1))) ⟨g1, j * 3 + 2, none⟩ = some (.slice aq1 d.sz.length pq1) := by rw [World.cell?_setCell_other _ _ _ _ (by simp)]; rw [World.cell?_setCell_other _ _ _ _ (by simp)]; exact c1_2
      have HCQ := hide cq
      clear cq c1_0 c1_1 c1_2
      generalize ((wr.setCell ⟨g1, j * 3, none⟩ (.int .i64 ((K : Int)))).setCell ⟨g1, j * 3 + 1, none⟩ (.int .i64 ((K : Int) + 1))) = W1 at *
      obtain ⟨g2, c2, cs, bb, e1, hgl2, hgm, hgb, hsub, hbn, hown, hcell, hfr, _, hkeep, hsets⟩ := HO2.out.put HN.out j (by simpa using hjM)
      have eq2 : ((M).set j ⟨((K : Nat) : Int), ((K + 1 : Nat) : Int), d.sz⟩)[j]'(by simpa using hjM) = ⟨((K : Nat) : Int), ((K + 1 : Nat) : Int), d.sz⟩ := by simp
      rw [eq2] at hown
      obtain ⟨vsz, b0, rfl, hvsz, hbb⟩ := hown
      simp only [Value.slice.injEq, Option.some.injEq, Addr.mk.injEq] at e1
      obtain ⟨⟨rfl, -, -⟩, -, -⟩ := e1
      obtain rfl := Option.some.inj (HCQ.out.symm.trans (hcell 2 _ rfl))
      subst hbb
      have HQ := hide hvsz
      have HKE := hide hkeep
      have HSB := hide hsub
      have HBN := hide hbn
      clear hcell hkeep hsets hsub hbn hgb hvsz eq2 hfr
      have hcl := markInt64S d.sz (K + 1 + 1) _ _ _ HQ.out HBN.out (by omega)
      refine (show Calls _ _ #[.slice aq1 d.sz.length pq1, .int .i64 ((K : Int) + 1 + 1)] _ _ from hcl).mono ?_
      rintro x W2 ⟨rfl, hoq, htq⟩
      have HO3 : Hid (OwR lineS W2 _ (((M).set j ⟨((K : Nat) : Int), ((K + 1 : Nat) : Int), d.sz⟩).set j ⟨((K : Nat) : Int), ((K + 1 : Nat) : Int), mkInt64S d.sz (K + 1 + 1)⟩) bs) := HKE.out W2 ⟨((K : Nat) : Int), ((K + 1 : Nat) : Int), mkInt64S d.sz (K + 1 + 1)⟩ ⟨_, _, rfl, hoq, rfl⟩ htq.size (fun x hx hnx => htq.block x (HO2.out.lt x hx) hnx)
      have HT3 : Hid (TurnB bs w W2) := HT2.out.trans (htq.wide (fun x hx => HSB.out x hx))
      clear hoq htq HKE HSB HQ HBN
      go_wp2_with fail
      refine ⟨⟨j + 1, ?_, ?_, ?_, ?_, ?_⟩, ?_⟩
      · go_num
      · exact int_eq (by have h1 := HKC.out; have h2 : cntLine d = 1 + 1 + cntInt64S d.sz := rfl; omega)
      · omega
      · show OwR _ _ _ _ _
        rw [← HST.out]
        have hfin := HO3.out
        first | exact hfin | (simp only [List.set_set] at hfin; exact hfin)
      · exact HT3.out
      · simp [intOf]; omega
    · obtain rfl : j = L.length := by omega
      rw [mix_end] at HO
      rw [List.take_length]
      go_wp2_with fail
      go_ret
      exact ⟨rfl, HO.out, HT.out⟩
set_option maxHeartbeats 1000000 in
theorem heldLineS (L : List LineD) (k : Nat) (v : Value) (w : World) (hr : RdR lineS w v (mkLineS L k)) (hk1 : k + cntLineS L ≤ 1000000000) :
    Calls Try.prog 48 #[v, .int .i64 k] w fun x w' => x = .returned (.int .i64 ((k + cntLineS L : Nat) : Int)) ∧ Below w.heap.size w w' := by
  obtain ⟨ad, cap, rfl, h1, h2⟩ := hr.form
  unfold cntLineS mkLineS at *
  rw [mk_len'] at h1 ⊢
  have HR := hide hr
  clear hr
  go_enter Try.func48, Try.ntmps48
  go_wp2_with fail
  go_loopw [1, 5] (fun kk i wr => ∃ (j : Nat), i = .int .i64 j ∧ kk = .int .i64 ((k + cntLs cntLine (L.take j) : Nat) : Int) ∧ j ≤ L.length ∧ Below w.heap.size w wr) (fun _ i _ => L.length - (intOf i).toNat)
  case atStart => exact ⟨0, rfl, by simp [cntLs], Nat.zero_le _, Below.refl _ _⟩
  case round =>
    obtain ⟨j, rfl, rfl, hj, hb⟩ := hrel
    by_cases hlt : j < L.length
    · have hct := cnt_take cntLine L j hlt
      have hcl := cnt_le cntLine L (j + 1)
      have hrk := (HR.out.new hb).at j (by rw [mk_len']; exact hlt)
      rw [mk_at _ _ L k j hlt] at hrk
      obtain ⟨d, hd⟩ : ∃ d, d = L[j] := ⟨_, rfl⟩
      rw [← hd] at hct hrk
      obtain ⟨K, hK⟩ : ∃ K : Nat, K = k + cntLs cntLine (L.take j) := ⟨_, rfl⟩
      rw [← hK] at hrk ⊢
      have hKc : K + cntLine d = k + cntLs cntLine (L.take (j + 1)) := by omega
      have HKC := hide hKc
      have hKb : K + cntLine d ≤ 1000000000 := by omega
      unfold cntLine at hKb
      clear hct hcl hd hK hKc
      obtain ⟨b, o, cs, rfl, hb1, hrd, hc⟩ := hrk
      obtain ⟨vsz, rfl, hvsz⟩ := hrd
      have c0 : wr.cell? ⟨b, o + j * 3, none⟩ = some (.int .i64 ((K : Int))) := hc 0 _ rfl
      have c1 : wr.cell? ⟨b, o + j * 3 + 1, none⟩ = some (.int .i64 ((K : Int) + 1)) := hc 1 _ rfl
      have Hvsz : Hid (RdR intS wr vsz (mkInt64S d.sz (K + 1 + 1))) := hvsz
      obtain ⟨aq2, pq2, eq2, _⟩ := Hvsz.out.form
      clear hvsz
      subst eq2
      have c2 : wr.cell? ⟨b, o + j * 3 + 2, none⟩ = some (.slice aq2 (mkInt64S d.sz (K + 1 + 1)).length pq2) := hc 2 _ rfl
      clear hc
      go_wp2_with fail
      have hcl := heldInt64S d.sz (K + 1 + 1) _ _ Hvsz.out (by omega)
      refine hcl.mono ?_; clear hcl; rintro x wq0 ⟨rfl, hbq0⟩
      have hpos0 : ¬ (((K + 1 + 1 + cntInt64S d.sz : Nat) : Int) < 0) := by omega
      go_wp2_with fail
      go_roundw
      case rel => exact ⟨j + 1, by go_num, int_eq (by have h1 := HKC.out; have h2 : cntLine d = 1 + 1 + cntInt64S d.sz := rfl; omega), by omega, bchain hb hbq0⟩
      case measure => simp [intOf]; omega
    · obtain rfl : j = L.length := by omega
      rw [List.take_length]
      go_wp2_with fail
      go_ret
      exact ⟨rfl, hb⟩
open Go.ChangeShapes Go.WideShapes Go.ChangeAt Go.Joins in
theorem open_cellsLine {H : Type} {enc : TypeId × Value → H} {W : World} {base : Nat} {spare : Nat → Bool} {held : Bool} {fuel : Nat} {cs : List Value} {x : DataW H × List MemPlace} (h : DataW.trod enc Try.prog W base spare held fuel 81 cs = some x) : ∃ d : LineD, lineS.rd W cs d := by
  obtain ⟨c0, c1, c2, y0, y1, y2, n, rfl, h0, h1, h2⟩ := scells3 Try.underlying81 (by kernel_rfl) (by kernel_rfl) h
  obtain ⟨i0, e0, _⟩ := DataW.trod_int Try.underlying2 h0
  simp only [List.cons.injEq, and_true] at e0
  subst e0
  obtain ⟨i1, e1, _⟩ := DataW.trod_int Try.underlying2 h1
  simp only [List.cons.injEq, and_true] at e1
  subst e1
  obtain ⟨L2, hL2⟩ := open_shape (E := intS) 0 Try.underlying33 (by kernel_rfl) (fun cs n y hy => open_cellsInt hy) h2
  exact ⟨⟨i0, i1, L2⟩, c2, rfl, hL2⟩
end Go.Proofs.Yteojibdnphaooaa
