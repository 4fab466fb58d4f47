/- Several small texts of one level, one behind the other. -/
import Derived.Test.YtllaeakeaabiaaaQG4
import Derived.Test.YtllaeakeaabiaaaQG2
import Derived.Handy
import Derived.Test.YtllaeakeaabiaaaQG3
import Derived.RangeFuncNested
import Derived.RangeFuncBound
import Derived.RangeFuncCalls
import Derived.RangeFuncLeaves
import Derived.Shelf.Abstract
import Derived.Shelf.RegionOpen
import Derived.WalkKit
import Derived.OwnWalkIn
import Derived.TacticsInMore
import Derived.LoopNIn
import Derived.LoopIn
import Derived.Maps.AppendAt
import Derived.RangeFuncBox
import Derived.Lib.SmallJoins
import Derived.Laws.AppendOwn
import Derived.Laws.IdiomStrings
import Derived.Lib.BufferRead
import Derived.OpenShut
import Derived.ChangeOld
import Derived.Deep.Cut
import Derived.Deep.DeepCutAuto
import Derived.Deep.WholeRow
/- Entry in memory: its datum, its make; counted, copied, held against each other, marked, read again (by gen_shape.py). -/
namespace Go.Proofs.Ytllaeakeaabiaaa
open Go.RowKit
set_option maxRecDepth 100000
set_option linter.unusedSimpArgs false
set_option linter.unusedVariables false

/-- What a Entry holds. -/
structure EntryD where
  id : Int
  state : Int
def EntryD.cs (d : EntryD) : List Value := [.int .i64 d.id, .int .i64 d.state]
def entryS : Shp EntryD where
  size := 2
  ty := 62
  rd := fun _ cs d => cs = d.cs
  own := fun _ cs d bs => cs = d.cs ∧ bs = []
  pos := by decide
  rd_len := fun h => by subst h; rfl
  rd_one := fun h u hu => by subst h; simp only [EntryD.cs, List.mem_cons, List.not_mem_nil, or_false] at hu; rcases hu with rfl | rfl <;> rfl
  rd_new := fun h _ => h
  own_rd := fun h => h.1
  own_keep := fun h _ _ => h
  own_lt := fun h b hb => by rw [h.2] at hb; cases hb
def szEntryS (L : List EntryD) : Int := L.length
theorem szEntryS_nn (L : List EntryD) : 0 ≤ szEntryS L := by unfold szEntryS; omega
theorem szEntryS_len (L : List EntryD) : (L.length : Int) ≤ szEntryS L := by unfold szEntryS; omega
/-- The marks of one in a row, from k on; how many; and of a row. -/
def mkEntry (d : EntryD) (k : Nat) : EntryD := ⟨((k : Nat) : Int), ((k + 1 : Nat) : Int)⟩
def cntEntry (d : EntryD) : Nat := 1 + 1
def mkEntryS (L : List EntryD) (k : Nat) : List EntryD := mkLs mkEntry cntEntry L k
def cntEntryS (L : List EntryD) : Nat := cntLs cntEntry L
theorem toEntry1 (d : EntryD) (w : World) : Calls Try.prog 63 #[.agg #[.int .i64 d.id, .int .i64 d.state]] w fun x w' => x = .returned (.agg #[.int .i64 d.id, .int .i64 d.state]) ∧ Below w.heap.size w w' := by
  go_enter Try.func63, Try.ntmps63
  go_wp2
  go_returns
  exact ⟨rfl, (by repeat' (first | (with_reducible exact Below.refl _ _) | (with_reducible refine Below.drew ?_) | (with_reducible refine bo_drewN _ ?_) | (with_reducible refine bo_alloc ?_ _) | (refine bchain ?_ (by with_reducible assumption)) | (with_reducible refine Below.setCell ?_ ?_ _) | go_size))⟩
theorem eqEntry1 (d : EntryD) (w : World) : Calls Try.prog 71 #[.agg #[.int .i64 d.id, .int .i64 d.state], .agg #[.int .i64 d.id, .int .i64 d.state]] w fun x w' => x = .returned (.bool true) ∧ Below w.heap.size w w' := by
  go_enter Try.func71, Try.ntmps71
  go_wp2
  go_ret
  exact ⟨rfl, (by repeat' (first | (with_reducible exact Below.refl _ _) | (with_reducible refine Below.drew ?_) | (with_reducible refine bo_drewN _ ?_) | (with_reducible refine bo_alloc ?_ _) | (refine bchain ?_ (by with_reducible assumption)) | (with_reducible refine Below.setCell ?_ ?_ _) | go_size))⟩
set_option maxHeartbeats 2000000 in
theorem toEntryS (L : List EntryD) (v : Value) (w : World) (hr : RdR entryS w v L) (hz : szEntryS L ≤ 1048576) :
    Calls Try.prog 44 #[v] w fun x w' => ∃ v', x = .returned v' ∧ OwX entryS w' w.heap.size w'.heap.size v' L ∧ Below w.heap.size w w' := by
  have hL : L.length ≤ 1048576 := by have := szEntryS_len L; omega
  obtain ⟨M, hM, hmk⟩ := make_row 33 62 (.agg #[.int .i64 0, .int .i64 0]) 2 16 Try.underlying33 (by kernel_rfl) rfl (by decide) (by decide) L.length hL
  have hst := filling_start (E := entryS) (owns_made w M 62 2 L.length hM hL)
  obtain ⟨ad, cap, rfl, h1, h2⟩ := hr.form
  have HR := hide hr
  clear hr
  have HZ := hide hz
  clear hz
  go_enter Try.func44, Try.ntmps44
  go_wp2_with fail
  go_loopw [4] (fun i wr => ∃ (k : Nat), i = .int .i64 k ∧ k ≤ L.length ∧ Hid (Filling entryS w wr L k)) (fun i _ => L.length - (intOf i).toNat)
  case atStart => exact ⟨0, rfl, Nat.zero_le _, hst⟩
  case round =>
    clear hst hmk
    obtain ⟨k, rfl, hk, HFI⟩ := hrel
    by_cases hlt : k < L.length
    · have hb : Below w.heap.size w wr := HFI.out.2.1
      have hrk := (HR.out.new hb).at k hlt
      have hmem : L[k] ∈ L := List.getElem_mem hlt
      obtain ⟨d, hd⟩ : ∃ d, d = L[k] := ⟨_, rfl⟩
      rw [← hd] at hrk hmem
      obtain ⟨b, o, cs, rfl, hbw, hrd, hc⟩ := hrk
      obtain rfl := hrd
      have c0 : wr.cell? ⟨b, o + k * 2, none⟩ = some (.int .i64 d.id) := hc 0 _ rfl
      have c1 : wr.cell? ⟨b, o + k * 2 + 1, none⟩ = some (.int .i64 d.state) := hc 1 _ rfl
      clear hc
      have HD := hide hd
      clear hd hmem
      go_wp2_with fail
      refine (toEntry1 d _).mono ?_; rintro x w1 ⟨rfl, hb1⟩
      have hoe : OwE entryS w1 wr.heap.size w1.heap.size [.int .i64 d.id, .int .i64 d.state] d := ⟨[], ⟨rfl, rfl⟩, by simp, fun b hb => by cases hb⟩
      rw [HD.out] at hoe
      obtain ⟨hcell, hfr, hlw, hfi⟩ := filling_step HFI.out hlt hb1 hoe
      rw [← HD.out] at hfi
      obtain ⟨x0, hx0⟩ : ∃ u, w1.cell? ⟨w.heap.size, k * 2, none⟩ = some u := hcell 0 (by decide)
      obtain ⟨x1, hx1⟩ : ∃ u, w1.cell? ⟨w.heap.size, k * 2 + 1, none⟩ = some u := hcell 1 (by decide)
      have e6 := hfr
      have HF2 := hide hfi
      clear hcell hfr hfi hoe
      go_wp2_with fail
      go_roundw
      case rel => exact ⟨k + 1, by go_num, by omega, HF2.out⟩
      case measure => simp [intOf]; omega
    · obtain rfl : k = L.length := by omega
      obtain ⟨hox, hbx⟩ := filling_end HFI.out
      have HX := hide hox
      clear hox
      go_wp2_with fail
      go_ret
      exact ⟨_, rfl, HX.out, hbx⟩
set_option maxHeartbeats 1000000 in
theorem eqEntryS (L : List EntryD) (v v' : Value) (w : World) (hr0 : RdR entryS w v L) (hr1 : RdR entryS w v' L) :
    Calls Try.prog 52 #[v, v'] w fun x w' => x = .returned (.bool true) ∧ Below w.heap.size w w' := by
  obtain ⟨ad, cap, rfl, h1, h2⟩ := hr0.form
  obtain ⟨ad', cap', rfl, h1', h2'⟩ := hr1.form
  have HR := hide hr0; have HR' := hide hr1
  clear hr0 hr1
  go_enter Try.func52, Try.ntmps52
  go_wp2_with fail
  go_loopw [5] (fun i wr => ∃ (k : Nat), i = .int .i64 k ∧ k ≤ L.length ∧ Below w.heap.size w wr) (fun i _ => L.length - (intOf i).toNat)
  case atStart => exact ⟨0, rfl, Nat.zero_le _, Below.refl _ _⟩
  case round =>
    obtain ⟨k, rfl, hk, hb⟩ := hrel
    by_cases hlt : k < L.length
    · have hrk := (HR.out.new hb).at k hlt
      have hrk' := (HR'.out.new hb).at k hlt
      obtain ⟨d, hd⟩ : ∃ d, d = L[k] := ⟨_, rfl⟩
      rw [← hd] at hrk hrk'
      clear hd
      obtain ⟨b, o, cs, rfl, hb1, hrd, hc⟩ := hrk
      obtain ⟨b', o', cs', rfl, hb2, hrd', hc'⟩ := hrk'
      obtain rfl := hrd
      obtain rfl := hrd'
      have c0 : wr.cell? ⟨b, o + k * 2, none⟩ = some (.int .i64 d.id) := hc 0 _ rfl
      have c1 : wr.cell? ⟨b, o + k * 2 + 1, none⟩ = some (.int .i64 d.state) := hc 1 _ rfl
      have d0 : wr.cell? ⟨b', o' + k * 2, none⟩ = some (.int .i64 d.id) := hc' 0 _ rfl
      have d1 : wr.cell? ⟨b', o' + k * 2 + 1, none⟩ = some (.int .i64 d.state) := hc' 1 _ rfl
      clear hc hc'
      go_wp2_with fail
      have qa0 : ∀ y : Later wr, y.w.cell? ⟨b, o + k * 2, none⟩ = some (.int .i64 d.id) := fun y => (y.b.cell (p := ⟨b, o + k * 2, none⟩) hb1).trans c0
      have qa1 : ∀ y : Later wr, y.w.cell? ⟨b, o + k * 2 + 1, none⟩ = some (.int .i64 d.state) := fun y => (y.b.cell (p := ⟨b, o + k * 2 + 1, none⟩) hb1).trans c1
      have qb0 : ∀ y : Later wr, y.w.cell? ⟨b', o' + k * 2, none⟩ = some (.int .i64 d.id) := fun y => (y.b.cell (p := ⟨b', o' + k * 2, none⟩) hb2).trans d0
      have qb1 : ∀ y : Later wr, y.w.cell? ⟨b', o' + k * 2 + 1, none⟩ = some (.int .i64 d.state) := fun y => (y.b.cell (p := ⟨b', o' + k * 2 + 1, none⟩) hb2).trans d1
      clear c0 c1 d0 d1
      have hne : Nonempty (Later wr) := ⟨⟨wr, Below.refl _ _⟩⟩; refine region_later (by kernel_rfl) (by kernel_rfl) ?_
      repeat (go_big_quiet_step (fail))
      go_big_quiet_want; go_big_quiet_op
      refine ⟨.bool true, fun y => later_calls (x := y) (eqEntry1 d y.w), ?_⟩
      go_big_quiet_on
      repeat (go_big_quiet_step (fail))
      refine wpQuiet_nil ?_; intro _ hw'; obtain ⟨y, hw''⟩ := hw'; subst hw''; have hby := y.b
      go_wp2_with fail
      go_roundw
      case rel => exact ⟨k + 1, by go_num, by omega, bchain hb hby⟩
      case measure => simp [intOf]; omega
    · go_wp2_with fail
      go_ret
      exact ⟨rfl, hb⟩
set_option maxHeartbeats 1000000 in
theorem szEntryS1 (L : List EntryD) (v : Value) (left : Int) (w : World) (hr : RdR entryS w v L) (h0 : 0 ≤ left) (h1 : left ≤ 1048576) :
    Calls Try.prog 36 #[v, .int .i64 left] w fun x w' => (x = .returned (.int .i64 (-1)) ∨ (x = .returned (.int .i64 (left - szEntryS L)) ∧ 0 ≤ left - szEntryS L)) ∧ Below w.heap.size w w' := by
  obtain ⟨ad, cap, rfl, h2, h3⟩ := hr.form
  have HR := hide hr
  clear hr
  unfold szEntryS
  by_cases h : left - L.length < 0
  · go_enter Try.func36, Try.ntmps36
    go_wp2
    go_ret
    exact ⟨.inl rfl, Below.refl _ _⟩
  · go_enter Try.func36, Try.ntmps36
    go_wp2
    go_ret
    exact ⟨.inr ⟨rfl, by omega⟩, Below.refl _ _⟩
set_option maxHeartbeats 2000000 in
theorem markEntryS (L : List EntryD) (k : Nat) (v : Value) (bs : List Nat) (w : World) (ho : OwR entryS w v L bs) (hn : bs.Nodup) (hk1 : k + cntEntryS L ≤ 1000000000) :
    Calls Try.prog 55 #[v, .int .i64 k] w fun x w' => x = .returned (.int .i64 ((k + cntEntryS L : Nat) : Int)) ∧ OwR entryS w' v (mkEntryS L k) bs ∧ TurnB bs w w' := by
  obtain ⟨ad, cap, rfl, h1, h2⟩ := ho.rd.form
  unfold cntEntryS mkEntryS at *
  have HO0 : Hid (OwR entryS w (.slice ad L.length cap) (mixLs mkEntry cntEntry L k 0) bs) := by show OwR _ _ _ _ _; rw [mix_zero]; exact ho
  clear ho
  have HN := hide hn
  clear hn
  go_enter Try.func55, Try.ntmps55
  go_wp2_with fail
  go_loopw [1, 5] (fun kk i wr => ∃ (j : Nat), i = .int .i64 j ∧ kk = .int .i64 ((k + cntLs cntEntry (L.take j) : Nat) : Int) ∧ j ≤ L.length ∧ Hid (OwR entryS wr (.slice ad L.length cap) (mixLs mkEntry cntEntry L k j) bs) ∧ Hid (TurnB bs w wr)) (fun _ i _ => L.length - (intOf i).toNat)
  case atStart => exact ⟨0, rfl, by simp [cntLs], Nat.zero_le _, HO0, TurnB.refl _ _⟩
  case round =>
    clear HO0
    obtain ⟨j, rfl, rfl, hj, HO, HT⟩ := hrel
    by_cases hlt : j < L.length
    · have hct := cnt_take cntEntry L j hlt
      have hcl := cnt_le cntEntry L (j + 1)
      have hst := mix_step mkEntry cntEntry L k j hlt
      have hat := mix_at mkEntry cntEntry L k j hlt (by rw [mix_len _ _ L k j hj]; exact hlt)
      have hml := mix_len mkEntry cntEntry L k j hj
      obtain ⟨d, hd⟩ : ∃ d, d = L[j] := ⟨_, rfl⟩
      rw [← hd] at hct hst hat
      obtain ⟨K, hK⟩ : ∃ K : Nat, K = k + cntLs cntEntry (L.take j) := ⟨_, rfl⟩
      rw [← hK] at hst ⊢
      obtain ⟨M, hM⟩ : ∃ M, M = mixLs mkEntry cntEntry L k j := ⟨_, rfl⟩
      rw [← hM] at hst hml
      have HO1 : Hid (OwR entryS wr (.slice ad L.length cap) M bs) := by show OwR _ _ _ _ _; rw [hM]; exact HO.out
      have HAT : Hid (∀ h : j < M.length, M[j] = d) := fun h => by subst hM; exact hat
      have hKc : K + cntEntry d = k + cntLs cntEntry (L.take (j + 1)) := by omega
      have HKC := hide hKc
      have hKb : K + cntEntry d ≤ 1000000000 := by omega
      unfold cntEntry at hKb
      have HST := hide hst
      have hjM : j < M.length := by omega
      clear hct hcl hst hat hM HO hd hK hKc
      obtain ⟨g1, c1, cs, bb, e1, hgl1, hgm, hgb, hsub, hbn, hown, hcell, hfr, _, hkeep, hsets⟩ := HO1.out.put HN.out j (by simpa using hjM)
      have eq1 : (M)[j]'(by simpa using hjM) = d := HAT.out hjM
      rw [eq1] at hown
      obtain ⟨rfl, hbb⟩ := hown
      simp only [Value.slice.injEq] at e1
      obtain ⟨rfl, -, -⟩ := e1
      have c1_0 : wr.cell? ⟨g1, j * 2, none⟩ = some (.int .i64 d.id) := hcell 0 _ rfl
      have c1_1 : wr.cell? ⟨g1, j * 2 + 1, none⟩ = some (.int .i64 d.state) := hcell 1 _ rfl
      have HO2 : Hid (OwR entryS (setsFrom wr g1 (j * entryS.size + ([] : List Value).length) [.int .i64 ((K : Nat) : Int), .int .i64 ((K + 1 : Nat) : Int)]) _ ((M).set j ⟨((K : Nat) : Int), ((K + 1 : Nat) : Int)⟩) bs) := hsets [] [.int .i64 d.id, .int .i64 d.state] [] [.int .i64 ((K : Nat) : Int), .int .i64 ((K + 1 : Nat) : Int)] ⟨((K : Nat) : Int), ((K + 1 : Nat) : Int)⟩ rfl rfl ⟨rfl, hbb⟩
      have HT2 : Hid (TurnB bs w (setsFrom wr g1 (j * entryS.size + ([] : List Value).length) [.int .i64 ((K : Nat) : Int), .int .i64 ((K + 1 : Nat) : Int)])) := TurnB.setsFrom g1 hgm _ _ _ HT.out
      have f1 := hfr
      clear hcell hfr hkeep hsets hsub hbn hgb hbb eq1
      go_wp2_with fail
      change Hid (OwR entryS ((wr.setCell ⟨g1, j * 2, none⟩ (.int .i64 ((K : Nat) : Int))).setCell ⟨g1, j * 2 + 1, none⟩ (.int .i64 ((K + 1 : Nat) : Int))) _ _ _) at HO2
      change Hid (TurnB bs w ((wr.setCell ⟨g1, j * 2, none⟩ (.int .i64 ((K : Nat) : Int))).setCell ⟨g1, j * 2 + 1, none⟩ (.int .i64 ((K + 1 : Nat) : Int)))) at HT2
      refine ⟨⟨j + 1, ?_, ?_, ?_, ?_, ?_⟩, ?_⟩
      · go_num
      · exact int_eq (by have h1 := HKC.out; have h2 : cntEntry d = 1 + 1 := rfl; omega)
      · omega
      · show OwR _ _ _ _ _
        rw [← HST.out]
        exact HO2.out
      · exact HT2.out
      · simp [intOf]; omega
    · obtain rfl : j = L.length := by omega
      rw [mix_end] at HO
      rw [List.take_length]
      go_wp2_with fail
      go_ret
      exact ⟨rfl, HO.out, HT.out⟩
set_option maxHeartbeats 1000000 in
theorem heldEntryS (L : List EntryD) (k : Nat) (v : Value) (w : World) (hr : RdR entryS w v (mkEntryS L k)) (hk1 : k + cntEntryS L ≤ 1000000000) :
    Calls Try.prog 58 #[v, .int .i64 k] w fun x w' => x = .returned (.int .i64 ((k + cntEntryS L : Nat) : Int)) ∧ Below w.heap.size w w' := by
  obtain ⟨ad, cap, rfl, h1, h2⟩ := hr.form
  unfold cntEntryS mkEntryS at *
  rw [mk_len'] at h1 ⊢
  have HR := hide hr
  clear hr
  go_enter Try.func58, Try.ntmps58
  go_wp2_with fail
  go_loopw [1, 5] (fun kk i wr => ∃ (j : Nat), i = .int .i64 j ∧ kk = .int .i64 ((k + cntLs cntEntry (L.take j) : Nat) : Int) ∧ j ≤ L.length ∧ Below w.heap.size w wr) (fun _ i _ => L.length - (intOf i).toNat)
  case atStart => exact ⟨0, rfl, by simp [cntLs], Nat.zero_le _, Below.refl _ _⟩
  case round =>
    obtain ⟨j, rfl, rfl, hj, hb⟩ := hrel
    by_cases hlt : j < L.length
    · have hct := cnt_take cntEntry L j hlt
      have hcl := cnt_le cntEntry L (j + 1)
      have hrk := (HR.out.new hb).at j (by rw [mk_len']; exact hlt)
      rw [mk_at _ _ L k j hlt] at hrk
      obtain ⟨d, hd⟩ : ∃ d, d = L[j] := ⟨_, rfl⟩
      rw [← hd] at hct hrk
      obtain ⟨K, hK⟩ : ∃ K : Nat, K = k + cntLs cntEntry (L.take j) := ⟨_, rfl⟩
      rw [← hK] at hrk ⊢
      have hKc : K + cntEntry d = k + cntLs cntEntry (L.take (j + 1)) := by omega
      have HKC := hide hKc
      have hKb : K + cntEntry d ≤ 1000000000 := by omega
      unfold cntEntry at hKb
      clear hct hcl hd hK hKc
      obtain ⟨b, o, cs, rfl, hb1, hrd, hc⟩ := hrk
      obtain rfl := hrd
      have c0 : wr.cell? ⟨b, o + j * 2, none⟩ = some (.int .i64 ((K : Nat) : Int)) := hc 0 _ rfl
      have c1 : wr.cell? ⟨b, o + j * 2 + 1, none⟩ = some (.int .i64 ((K + 1 : Nat) : Int)) := hc 1 _ rfl
      clear hc
      go_wp2_with fail
      go_roundw
      case rel => exact ⟨j + 1, by go_num, int_eq (by have h1 := HKC.out; have h2 : cntEntry d = 1 + 1 := rfl; omega), by omega, hb⟩
      case measure => simp [intOf]; omega
    · obtain rfl : j = L.length := by omega
      rw [List.take_length]
      go_wp2_with fail
      go_ret
      exact ⟨rfl, hb⟩
open Go.ChangeShapes Go.WideShapes Go.ChangeAt Go.Joins in
theorem open_cellsEntry {H : Type} {enc : TypeId × Value → H} {W : World} {base : Nat} {spare : Nat → Bool} {held : Bool} {fuel : Nat} {cs : List Value} {x : DataW H × List MemPlace} (h : DataW.trod enc Try.prog W base spare held fuel 106 cs = some x) : ∃ d : EntryD, entryS.rd W cs d := by
  obtain ⟨c0, c1, y0, y1, n, rfl, h0, h1⟩ := scells2 Try.underlying106 (by kernel_rfl) (by kernel_rfl) h
  obtain ⟨i0, e0, _⟩ := DataW.trod_int Try.underlying2 h0
  simp only [List.cons.injEq, and_true] at e0
  subst e0
  obtain ⟨i1, e1, _⟩ := DataW.trod_int Try.underlying2 h1
  simp only [List.cons.injEq, and_true] at e1
  subst e1
  exact ⟨⟨i0, i1⟩, rfl⟩
end Go.Proofs.Ytllaeakeaabiaaa
/- A text that is bent: the walk. -/
namespace Go.Proofs.Ytllaeakeaabiaaa
open Go.RowKit
set_option maxRecDepth 100000
set_option linter.unusedSimpArgs false
set_option linter.unusedVariables false
attribute [local go_sem ↓] Go.wp_at_zero Go.wp_at_succ

theorem moves_bytes {g : Nat} {w a : World} (h : Moves g w a) (s : ByteArray) : Moves g w (Lib.bytesWorld a 5 s) :=
  h.trans ⟨rfl, rfl, rfl, by rw [Lib.bytesWorld_size]; omega, fun k hk _ => Lib.bytesWorld_at_old a 5 s k hk⟩

theorem BR.set {w : World} {base n cap blk : Nat} (h : BR w base (some ⟨blk, 0, none⟩) n cap) (k : Nat) (u : Value) (hu : ByteVal u) : BR (w.setCell ⟨blk, k, none⟩ u) base (some ⟨blk, 0, none⟩) n cap := by
  obtain ⟨h1, h2, h3⟩ := h
  refine ⟨h1, h2, fun hn => ?_⟩
  obtain ⟨b', e, hb, hl, hc⟩ := h3 hn
  simp only [Option.some.injEq, Addr.mk.injEq, and_true] at e
  subst e
  refine ⟨blk, rfl, hb, by simpa using hl, fun j hj => ?_⟩
  obtain ⟨⟨v, hv, hcv⟩, hf⟩ := hc j hj
  refine ⟨?_, by rw [World.frozen?_setCell]; exact hf⟩
  by_cases hjk : k = j
  · subst hjk
    exact ⟨u, hu, World.cell?_setCell_same' _ _ _ (by rw [hcv]; rfl)⟩
  · refine ⟨v, hv, ?_⟩
    exact (World.cell?_setCell_other _ ⟨blk, k, none⟩ ⟨blk, j, none⟩ _ (by simp [hjk])).trans hcv

theorem owns_ad {w : World} {base : Nat} {e : TypeId} {size n cap : Nat} {ad : Option Addr} {xs : List Value} (h : w.ownsRow base e size (.slice ad n cap) n xs) : ad = none ∨ ∃ b o, ad = some ⟨b, o, none⟩ := by
  rcases h.2 with ⟨h2, _⟩ | ⟨g, cap', cur, e1, _⟩
  · simp only [Value.slice.injEq] at h2; exact .inl h2.1
  · simp only [Value.slice.injEq] at e1; exact .inr ⟨g, 0, e1.1⟩

end Go.Proofs.Ytllaeakeaabiaaa
/- Plain mathematics of chapter 3: a number that is read from bytes, as the model reads it and by the parts that the program's iterator gives. -/
namespace Go.Proofs.Ytllaeakeaabiaaa
open Go.RowKit
set_option maxRecDepth 100000
set_option linter.unusedVariables false

/-- The place of byte i is p. -/
def Plc (i : Nat) (p : Int) : Prop := (i = 1 ∧ p = 1) ∨ (i = 2 ∧ p = 128) ∨ (i = 3 ∧ p = 16384) ∨ (i = 4 ∧ p = 2097152) ∨ (i = 5 ∧ p = 268435456) ∨ (i = 6 ∧ p = 34359738368)
theorem Plc.next {i : Nat} {p : Int} (h : Plc i p) (hi : i ≤ 5) : Plc (i + 1) (p * 128) := by unfold Plc at *; omega
theorem Plc.lo {i : Nat} {p : Int} (h : Plc i p) : 1 ≤ i ∧ i ≤ 6 ∧ 1 ≤ p ∧ p ≤ 34359738368 ∧ (i ≤ 5 ↔ p ≤ 268435456) := by unfold Plc at *; omega

/-- As the model reads it: k bytes at most, n so far, the place p, byte i. -/
def rdF : Nat → Int → Int → Nat → List Int → Int × Int
  | 0, _, _, _, _ => (-1, 0)
  | _ + 1, _, _, _, [] => (-1, 0)
  | k + 1, n, p, i, c :: cs => if c < 128 then (if 268435456 < n + c % 128 * p ∨ (1 < i ∧ c = 0) then (-1, 0) else (n + c % 128 * p, (i : Int) + 1)) else rdF k (n + c % 128 * p) (p * 128) (i + 1) cs
/-- What ReadPrefixed answers. -/
def rdV (s : ByteArray) (b : Int) : Int × Int :=
  if h : 0 < s.size then if inB b 1 8 = true then (if (s[0].toNat : Int) % pw b < pw b - 1 then ((s[0].toNat : Int) % pw b, 1) else rdF 5 ((s[0].toNat : Int) % pw b) 1 1 ((bys s).drop 1)) else (-1, 0) else (-1, 0)
theorem rdV_empty {s : ByteArray} {b : Int} (h : s.size = 0) : rdV s b = (-1, 0) := by simp [rdV, h]
theorem rdV_bits {s : ByteArray} {b : Int} (h : inB b 1 8 = false) : rdV s b = (-1, 0) := by unfold rdV; split <;> simp [h]
theorem rdV_small {s : ByteArray} {b : Int} (h : 0 < s.size) (hb : inB b 1 8 = true) (hx : (s[0].toNat : Int) % pw b < pw b - 1) : rdV s b = ((s[0].toNat : Int) % pw b, 1) := by simp [rdV, h, hb, hx]
theorem rdV_more {s : ByteArray} {b : Int} (h : 0 < s.size) (hb : inB b 1 8 = true) (hx : ¬ (s[0].toNat : Int) % pw b < pw b - 1) : rdV s b = rdF 5 ((s[0].toNat : Int) % pw b) 1 1 ((bys s).drop 1) := by
  simp only [rdV, dif_pos h, if_pos hb, if_neg hx]

/-- The parts that the program's iterator gives. -/
def ptF : Nat → Int → List Int → List (Int × Bool)
  | 0, _, _ => []
  | _ + 1, _, [] => []
  | k + 1, p, c :: cs => if c < 128 then [(c % 128 * p, true)] else (c % 128 * p, false) :: ptF k (p * 128) cs
def ptV (s : ByteArray) (b : Int) : List (Int × Bool) :=
  if h : 0 < s.size then (if (s[0].toNat : Int) % pw b < pw b - 1 then [((s[0].toNat : Int) % pw b, true)] else ((s[0].toNat : Int) % pw b, false) :: ptF 5 1 ((bys s).drop 1)) else []
theorem ptF_nil (k : Nat) (p : Int) : ptF k p [] = [] := by cases k <;> rfl
theorem ptF_last {k : Nat} {p c : Int} {cs : List Int} (h : c < 128) : ptF (k + 1) p (c :: cs) = [(c % 128 * p, true)] := by simp [ptF, h]
theorem ptF_more {k : Nat} {p c : Int} {cs : List Int} (h : 128 ≤ c) : ptF (k + 1) p (c :: cs) = (c % 128 * p, false) :: ptF k (p * 128) cs := by simp only [ptF]; rw [if_neg (by omega)]
theorem ptV_empty {s : ByteArray} {b : Int} (h : s.size = 0) : ptV s b = [] := by simp [ptV, h]
theorem ptV_small {s : ByteArray} {b : Int} (h : 0 < s.size) (hx : (s[0].toNat : Int) % pw b < pw b - 1) : ptV s b = [((s[0].toNat : Int) % pw b, true)] := by simp [ptV, h, hx]
theorem ptV_more {s : ByteArray} {b : Int} (h : 0 < s.size) (hx : ¬ (s[0].toNat : Int) % pw b < pw b - 1) : ptV s b = ((s[0].toNat : Int) % pw b, false) :: ptF 5 1 ((bys s).drop 1) := by
  simp only [ptV, dif_pos h, if_neg hx]
theorem ptF_len (k : Nat) : ∀ (p : Int) (cs : List Int), (ptF k p cs).length ≤ k := by
  induction k with
  | zero => intro p cs; simp [ptF]
  | succ k ih =>
    intro p cs
    cases cs with
    | nil => simp [ptF]
    | cons c cs =>
      simp only [ptF]
      split
      · simp
      · have := ih (p * 128) cs; simp; omega
theorem ptV_len (s : ByteArray) (b : Int) : (ptV s b).length ≤ 6 := by
  unfold ptV
  split
  · split
    · simp
    · have := ptF_len 5 1 ((bys s).drop 1); rw [List.length_cons]; omega
  · simp

def sumP (l : List (Int × Bool)) : Int := (l.map (·.1)).sum
def sumWr (l : List (Int × Bool)) : Int := l.foldl (fun a x => wrap64 (a + x.1)) 0
def lastB (l : List (Int × Bool)) : Bool := l.foldl (fun _ x => x.2) false
theorem sumW_snoc (l : List (Int × Bool)) (x : Int × Bool) : sumWr (l ++ [x]) = wrap64 (sumWr l + x.1) := by simp [sumWr]
theorem lastB_snoc (l : List (Int × Bool)) (x : Int × Bool) : lastB (l ++ [x]) = x.2 := by simp [lastB]
theorem lastB_cons (x y : Int × Bool) (l : List (Int × Bool)) : lastB (x :: y :: l) = lastB (y :: l) := by simp [lastB]

theorem sumW_eq (l : List (Int × Bool)) : ∀ a : Int, 0 ≤ a → a + l.length * 34359738368 ≤ 1000000000000 → (∀ x ∈ l, 0 ≤ x.1 ∧ x.1 ≤ 34359738368) → l.foldl (fun a x => wrap64 (a + x.1)) a = a + sumP l := by
  induction l with
  | nil => intro a _ _ _; simp [sumP]
  | cons x l ih =>
    intro a h0 h1 h2
    have hx := h2 x List.mem_cons_self
    have e : wrap64 (a + x.1) = a + x.1 := by unfold wrap64; simp at h1; omega
    rw [List.foldl_cons, e, ih (a + x.1) (by omega) (by simp at h1; omega) (fun y hy => h2 y (List.mem_cons_of_mem _ hy))]
    simp [sumP]; omega

theorem ptF_range (k : Nat) : ∀ (p : Int) (i : Nat) (cs : List Int), Plc i p → k + i = 6 → (∀ c ∈ cs, 0 ≤ c ∧ c ≤ 255) → ∀ x ∈ ptF k p cs, 0 ≤ x.1 ∧ x.1 ≤ 34359738368 := by
  induction k with
  | zero => intro p i cs _ _ _ x hx; simp [ptF] at hx
  | succ k ih =>
    intro p i cs hp hk hc x hx
    cases cs with
    | nil => simp [ptF] at hx
    | cons c cs =>
      have hcc := hc c List.mem_cons_self
      have hq : 0 ≤ c % 128 * p ∧ c % 128 * p ≤ 34359738368 := by unfold Plc at hp; rcases hp with ⟨_, rfl⟩ | ⟨_, rfl⟩ | ⟨_, rfl⟩ | ⟨_, rfl⟩ | ⟨_, rfl⟩ | ⟨_, rfl⟩ <;> omega
      by_cases h : c < 128
      · rw [ptF_last h] at hx; simp at hx; subst hx; exact hq
      · rw [ptF_more (by omega)] at hx
        rcases List.mem_cons.1 hx with rfl | hx
        · exact hq
        · exact ih (p * 128) (i + 1) cs (hp.next (by omega)) (by omega) (fun y hy => hc y (List.mem_cons_of_mem _ hy)) x hx

theorem ptV_range {s : ByteArray} {b : Int} (h1 : 1 ≤ b) (h8 : b ≤ 8) : ∀ x ∈ ptV s b, 0 ≤ x.1 ∧ x.1 ≤ 34359738368 := by
  have hp := pw_lo h1 h8
  intro x hx
  by_cases h : 0 < s.size
  · have hm := Int.emod_lt_of_pos (s[0].toNat : Int) (show (0 : Int) < pw b by omega)
    have hm0 := Int.emod_nonneg (s[0].toNat : Int) (show pw b ≠ 0 by omega)
    by_cases hs : (s[0].toNat : Int) % pw b < pw b - 1
    · rw [ptV_small h hs] at hx; simp at hx; subst hx; simp only; omega
    · rw [ptV_more h hs] at hx
      rcases List.mem_cons.1 hx with rfl | hx
      · simp only; omega
      · exact ptF_range 5 1 1 _ (.inl ⟨rfl, rfl⟩) rfl (fun c hc => bys_range s c (List.mem_of_mem_drop hc)) x hx
  · rw [ptV_empty (by omega)] at hx; simp at hx
theorem sumW_ptV {s : ByteArray} {b : Int} (h1 : 1 ≤ b) (h8 : b ≤ 8) : sumWr (ptV s b) = sumP (ptV s b) := by
  have hl := ptV_len s b
  have := sumW_eq (ptV s b) 0 (by omega) (by omega) (ptV_range h1 h8)
  unfold sumWr
  omega

/-- What the program makes of the parts. -/
def endR (n took : Int) (ended : Bool) (b : Int) : Int × Int := if ended = true ∧ wdV n b = took then (n, took) else (-1, 0)

def len4 (r : Int) : Int := if r < 128 then 1 else if r < 16384 then 2 else if r < 2097152 then 3 else if r < 268435456 then 4 else 5
theorem restF_len4 (r : Int) (h : 0 ≤ r) : ((restF 4 r).length : Int) = len4 r := by
  unfold len4
  by_cases h1 : r < 128
  · rw [restF_small h1]; simp [h1]
  rw [if_neg h1, restF_big (by omega)]
  by_cases h2 : r < 16384
  · rw [restF_small (by omega)]; simp [h2]
  rw [if_neg h2, restF_big (by omega)]
  by_cases h3 : r < 2097152
  · rw [restF_small (by omega)]; simp [h3]
  rw [if_neg h3, restF_big (by omega)]
  by_cases h4 : r < 268435456
  · rw [restF_small (by omega)]; simp [h4]
  rw [if_neg h4, restF_big (by omega)]
  simp [restF]
theorem wdV_len4 {n b : Int} (h1 : 1 ≤ b) (h8 : b ≤ 8) (hn : pw b - 1 ≤ n) : wdV n b = if n ≤ 268435456 then 1 + len4 (n - (pw b - 1)) else 0 := by
  have hp := pw_lo h1 h8
  by_cases hm : n ≤ 268435456
  · have hok : okN n b = true := decide_eq_true ⟨by omega, hm, h1, h8⟩
    rw [wdV_yes hok, if_pos hm]
    unfold bytesOf
    rw [if_neg (by omega), List.length_cons]
    have := restF_len4 (n - (pw b - 1)) (by omega)
    omega
  · rw [if_neg hm]
    exact wdV_no (decide_eq_false (by omega))

theorem endR_ptF {b : Int} (h1 : 1 ≤ b) (h8 : b ≤ 8) (k : Nat) : ∀ (n p : Int) (i : Nat) (cs : List Int), Plc i p → k + i = 6 → pw b - 1 ≤ n → n < pw b - 1 + p → (∀ c ∈ cs, 0 ≤ c ∧ c ≤ 255) →
    endR (n + sumP (ptF k p cs)) ((i : Int) + (ptF k p cs).length) (lastB (ptF k p cs)) b = rdF k n p i cs := by
  induction k with
  | zero => intro n p i cs _ _ _ _ _; simp [ptF, rdF, endR, lastB]
  | succ k ih =>
    intro n p i cs hp hk hn0 hn1 hc
    cases cs with
    | nil => simp [ptF, rdF, endR, lastB]
    | cons c cs =>
      have hcc := hc c List.mem_cons_self
      by_cases h : c < 128
      · rw [ptF_last h]
        simp only [rdF, if_pos h]
        have hq : pw b - 1 ≤ n + c % 128 * p := by unfold Plc at hp; rcases hp with ⟨_, rfl⟩ | ⟨_, rfl⟩ | ⟨_, rfl⟩ | ⟨_, rfl⟩ | ⟨_, rfl⟩ | ⟨_, rfl⟩ <;> omega
        have hw := wdV_len4 h1 h8 hq
        have e1 : sumP [(c % 128 * p, true)] = c % 128 * p := by simp [sumP]
        have e2 : lastB [(c % 128 * p, true)] = true := by simp [lastB]
        rw [e1, e2]
        unfold endR
        have key : (true = true ∧ wdV (n + c % 128 * p) b = (i : Int) + ([(c % 128 * p, true)] : List (Int × Bool)).length) ↔ ¬ (268435456 < n + c % 128 * p ∨ (1 < i ∧ c = 0)) := by
          rw [hw]
          simp only [List.length_cons, List.length_nil, true_and, Nat.zero_add]
          unfold len4
          unfold Plc at hp
          rcases hp with ⟨rfl, rfl⟩ | ⟨rfl, rfl⟩ | ⟨rfl, rfl⟩ | ⟨rfl, rfl⟩ | ⟨rfl, rfl⟩ | ⟨rfl, rfl⟩ <;> (repeat' split) <;> omega
        by_cases hr : 268435456 < n + c % 128 * p ∨ (1 < i ∧ c = 0)
        · rw [if_pos hr, if_neg (fun x => (key.1 x) hr)]
        · rw [if_neg hr, if_pos (key.2 hr)]; simp
      · rw [ptF_more (by omega)]
        simp only [rdF, if_neg h]
        have hq : pw b - 1 ≤ n + c % 128 * p ∧ n + c % 128 * p < pw b - 1 + p * 128 := by unfold Plc at hp; rcases hp with ⟨_, rfl⟩ | ⟨_, rfl⟩ | ⟨_, rfl⟩ | ⟨_, rfl⟩ | ⟨_, rfl⟩ | ⟨_, rfl⟩ <;> omega
        rw [← ih (n + c % 128 * p) (p * 128) (i + 1) cs (hp.next (by omega)) (by omega) hq.1 hq.2 (fun y hy => hc y (List.mem_cons_of_mem _ hy))]
        have e1 : n + sumP ((c % 128 * p, false) :: ptF k (p * 128) cs) = n + c % 128 * p + sumP (ptF k (p * 128) cs) := by simp [sumP]; omega
        have e2 : (i : Int) + (((c % 128 * p, false) :: ptF k (p * 128) cs).length : Nat) = ((i + 1 : Nat) : Int) + (ptF k (p * 128) cs).length := by simp; omega
        have e3 : lastB ((c % 128 * p, false) :: ptF k (p * 128) cs) = lastB (ptF k (p * 128) cs) := by
          cases ptF k (p * 128) cs with
          | nil => simp [lastB]
          | cons y l => exact lastB_cons _ _ _
        rw [e1, e2, e3]

theorem endR_ptV {s : ByteArray} {b : Int} (hb : inB b 1 8 = true) : endR (sumWr (ptV s b)) ((ptV s b).length : Int) (lastB (ptV s b)) b = rdV s b := by
  obtain ⟨h1, h8⟩ := inB_true hb
  have hp := pw_lo h1 h8
  rw [sumW_ptV h1 h8]
  by_cases h : 0 < s.size
  · have hm := Int.emod_lt_of_pos (s[0].toNat : Int) (show (0 : Int) < pw b by omega)
    have hm0 := Int.emod_nonneg (s[0].toNat : Int) (show pw b ≠ 0 by omega)
    by_cases hs : (s[0].toNat : Int) % pw b < pw b - 1
    · rw [ptV_small h hs, rdV_small h hb hs]
      have hok : okN ((s[0].toNat : Int) % pw b) b = true := decide_eq_true ⟨hm0, by omega, h1, h8⟩
      have hw : wdV ((s[0].toNat : Int) % pw b) b = 1 := by rw [wdV_yes hok]; simp [bytesOf, hs]
      simp [endR, sumP, lastB, hw]
    · rw [ptV_more h hs, rdV_more h hb hs]
      rw [← endR_ptF h1 h8 5 ((s[0].toNat : Int) % pw b) 1 1 ((bys s).drop 1) (.inl ⟨rfl, rfl⟩) rfl (by omega) (by omega) (fun c hc => bys_range s c (List.mem_of_mem_drop hc))]
      have e3 : lastB (((s[0].toNat : Int) % pw b, false) :: ptF 5 1 ((bys s).drop 1)) = lastB (ptF 5 1 ((bys s).drop 1)) := by
        cases ptF 5 1 ((bys s).drop 1) with
        | nil => simp [lastB]
        | cons y l => exact lastB_cons _ _ _
      rw [e3]
      congr 1
      simp; omega
  · rw [ptV_empty (by omega), rdV_empty (by omega)]
    simp [endR, lastB]

theorem rdV_pos {s : ByteArray} {b : Int} (hb : inB b 1 8 = true) : rdV s b = (-1, 0) ∨ (lastB (ptV s b) = true ∧ wdV (sumWr (ptV s b)) b = ((ptV s b).length : Int) ∧ rdV s b = (sumWr (ptV s b), ((ptV s b).length : Int))) := by
  rw [← endR_ptV hb]
  unfold endR
  by_cases h : lastB (ptV s b) = true ∧ wdV (sumWr (ptV s b)) b = ((ptV s b).length : Int)
  · rw [if_pos h]; exact .inr ⟨h.1, h.2, rfl⟩
  · rw [if_neg h]; exact .inl rfl
end Go.Proofs.Ytllaeakeaabiaaa
/- Chapter 3's iterator over a number's bytes: whoever ranges over it gets just these bytes, in their order. -/
namespace Go.Proofs.Ytllaeakeaabiaaa
open Go.RowKit Go.Shelf
attribute [local go_sem] Oper.semAt_some
set_option linter.unusedSimpArgs false
set_option linter.unusedVariables false

/-- Two blocks lie as they lay. -/
def Kept2 (a b : Nat) (W W' : World) : Prop := W'.heap[a]? = W.heap[a]? ∧ W'.heap[b]? = W.heap[b]?
theorem kept2_t {a b : Nat} {A B C : World} (h : Kept2 a b A B) (k : Kept2 a b B C) : Kept2 a b A C := ⟨k.1.trans h.1, k.2.trans h.2⟩
theorem kept2_b {a b : Nat} {w : World} (ha : a < w.heap.size) (hb : b < w.heap.size) (W : World) (l : Nat) (o o' : Obj) (hl : w.heap.size ≤ l) (h : W.heap[l]? = some o) (_ : o.isCells = false) (_ : o.isWalk = false) : Kept2 a b W (W.putObj l o') :=
  ⟨World.putObj_heap_other (by omega), World.putObj_heap_other (by omega)⟩
theorem Kept2.boxed1 {a b : Nat} {W W' : World} (h : Kept2 a b W W') {t : TypeId} {v : Value} (hb : Boxed W a t v) : Boxed W' a t v := h.1.trans hb
theorem Kept2.boxed2 {a b : Nat} {W W' : World} (h : Kept2 a b W W') {t : TypeId} {v : Value} (hb : Boxed W b t v) : Boxed W' b t v := h.2.trans hb

end Go.Proofs.Ytllaeakeaabiaaa
/- Chapter 3's model: the bytes that it writes. -/
namespace Go.Proofs.Ytllaeakeaabiaaa
open Go.RowKit
set_option maxRecDepth 100000
set_option linter.unusedSimpArgs false
set_option linter.unusedVariables false

/-- The first of a row with something added. -/
def addHead (h : Int) : List Int → List Int
  | [] => []
  | x :: xs => (h + x) :: xs
theorem addHead_len (h : Int) (l : List Int) : (addHead h l).length = l.length := by cases l <;> rfl

end Go.Proofs.Ytllaeakeaabiaaa
/- What a Field weighs, and the rows of a Table: in plain words, of the program and of the model. -/
namespace Go.Proofs.Ytllaeakeaabiaaa
open Go.RowKit
set_option maxRecDepth 100000
set_option linter.unusedSimpArgs false
set_option linter.unusedVariables false

/-- Is it right? -/
def okF (f : Fd) : Bool := inB f.n.size 1 40 && decide ((f.v.size : Int) ≤ 60)
/-- What it weighs. -/
def wt (f : Fd) : Int := if okF f then (f.n.size : Int) + f.v.size + 8 else 0
def sumW : List Fd → Int
  | [] => 0
  | f :: L => wt f + sumW L
theorem okF_parts {f : Fd} (h : okF f = true) : (1 : Int) ≤ f.n.size ∧ (f.n.size : Int) ≤ 40 ∧ (f.v.size : Int) ≤ 60 := by
  unfold okF at h
  simp only [Bool.and_eq_true, decide_eq_true_eq] at h
  have := inB_true h.1
  omega
theorem wt_ok {f : Fd} (h : okF f = true) : wt f = f.n.size + f.v.size + 8 := by simp [wt, h]
theorem wt_no {f : Fd} (h : okF f = false) : wt f = 0 := by simp [wt, h]
theorem wt_range (f : Fd) : 0 ≤ wt f ∧ wt f ≤ 108 := by
  cases h : okF f
  · rw [wt_no h]; omega
  · rw [wt_ok h]; have := okF_parts h; omega
theorem wt_pos {f : Fd} (h : okF f = true) : 9 ≤ wt f := by rw [wt_ok h]; have := okF_parts h; omega
theorem wt_zero (f : Fd) : (wt f = 0) ↔ okF f = false := by
  cases h : okF f
  · simp [wt_no h]
  · have := wt_pos h; simp; omega
theorem sumW_range (L : List Fd) : 0 ≤ sumW L ∧ sumW L ≤ 108 * L.length := by
  induction L with
  | nil => simp [sumW]
  | cons f L ih => have := wt_range f; simp only [sumW, List.length_cons]; omega
theorem sumW_app (A B : List Fd) : sumW (A ++ B) = sumW A + sumW B := by
  induction A with
  | nil => simp [sumW]
  | cons f A ih => simp only [List.cons_append, sumW, ih]; omega
theorem sumW_succ (L : List Fd) (k : Nat) (h : k < L.length) : sumW (L.take (k + 1)) = sumW (L.take k) + wt L[k] := by
  rw [List.take_succ_eq_append_getElem h, sumW_app]; simp [sumW]
theorem sumW_ge {L : List Fd} (h : ∀ f ∈ L, okF f = true) : 9 * (L.length : Int) ≤ sumW L := by
  induction L with
  | nil => simp [sumW]
  | cons f L ih => have := wt_pos (h f (by simp)); have := ih fun g hg => h g (by simp [hg]); simp only [sumW, List.length_cons]; omega

/-- Is a Table of this Room and these Rows right? -/
def okT (room : Int) (L : List Fd) : Bool := inB room 0 1000 && (L.all okF && decide (sumW L ≤ room))
theorem okT_parts {room : Int} {L : List Fd} (h : okT room L = true) : 0 ≤ room ∧ room ≤ 1000 ∧ (∀ f ∈ L, okF f = true) ∧ sumW L ≤ room ∧ L.length ≤ 111 := by
  unfold okT at h
  simp only [Bool.and_eq_true, decide_eq_true_eq, List.all_eq_true] at h
  have h1 := inB_true h.1
  have h2 := sumW_ge h.2.1
  exact ⟨h1.1, h1.2, h.2.1, h.2.2, by omega⟩

/-- The last ones go as long as they weigh more than the room. -/
def shrN (room : Int) : Nat → List Fd → List Fd
  | 0, L => L
  | n + 1, L => if room < sumW L then shrN room n L.dropLast else L
def shr (room : Int) (L : List Fd) : List Fd := shrN room L.length L
theorem shr_stop {room : Int} {L : List Fd} (h : ¬ room < sumW L) : shr room L = L := by
  unfold shr
  cases L.length with
  | zero => rfl
  | succ n => simp [shrN, h]
theorem shr_go {room : Int} {L : List Fd} (h : room < sumW L) : shr room L = shr room L.dropLast := by
  unfold shr
  cases hn : L.length with
  | zero =>
    have : L = [] := List.length_eq_zero_iff.1 hn
    subst this
    rfl
  | succ n => rw [shrN, if_pos h, List.length_dropLast, hn]; rfl
theorem shr_mem {room : Int} (n : Nat) : ∀ {L : List Fd}, ∀ f ∈ shrN room n L, f ∈ L := by
  induction n with
  | zero => intro L f hf; exact hf
  | succ n ih =>
    intro L f hf
    rw [shrN] at hf
    split at hf
    · exact (List.dropLast_sublist _).subset (ih f hf)
    · exact hf
theorem shr_all {room : Int} {L : List Fd} (h : ∀ f ∈ L, okF f = true) : ∀ f ∈ shr room L, okF f = true := fun f hf => h f (shr_mem _ f hf)
theorem shr_len {room : Int} (L : List Fd) : (shr room L).length ≤ L.length := by
  have : ∀ n (L : List Fd), (shrN room n L).length ≤ L.length := fun n => by
    induction n with
    | zero => intro L; exact Nat.le_refl _
    | succ n ih =>
      intro L
      rw [shrN]
      split
      · have := ih L.dropLast; rw [List.length_dropLast] at this; omega
      · exact Nat.le_refl _
  exact this _ _

theorem fine_of {f : Fd} (h : okF f = true) : f.fine := by have := okF_parts h; exact ⟨by omega, by omega⟩

theorem implWt (f : Fd) (w : World) (hf : f.fine) : Calls Try.prog 92 #[.agg #[.string f.n, .string f.v]] w fun x w' => x = .returned (.int .i64 (wt f)) ∧ Below w.heap.size w w' := by
  obtain ⟨hn, hv⟩ := hf
  cases h : okF f
  · rw [wt_no h]
    unfold okF at h
    cases h1 : inB f.n.size 1 40
    · clear h
      go_enter Try.func92, Try.ntmps92
      go_wp2_with fail
      go_quiet (fail)
      go_wp2_with fail
      refine (implWithin _ _ _ _).mono ?_; rw [h1]; rintro e w1 ⟨rfl, rfl⟩
      go_wp2_with fail
      go_ret
      exact ⟨rfl, (by repeat' (first | (with_reducible exact Below.refl _ _) | (with_reducible refine Below.drew ?_) | (with_reducible refine bo_drewN _ ?_) | (with_reducible refine bo_alloc ?_ _) | (refine bchain ?_ (by with_reducible assumption)) | (with_reducible refine Below.setCell ?_ ?_ _) | go_size))⟩
    · have h2 : ¬ ((f.v.size : Int) ≤ 60) := by simpa [h1] using h
      clear h
      go_enter Try.func92, Try.ntmps92
      go_wp2_with fail
      go_quiet (fail)
      go_wp2_with fail
      refine (implWithin _ _ _ _).mono ?_; rw [h1]; rintro e w1 ⟨rfl, rfl⟩
      go_wp2_with fail
      go_ret
      exact ⟨rfl, (by repeat' (first | (with_reducible exact Below.refl _ _) | (with_reducible refine Below.drew ?_) | (with_reducible refine bo_drewN _ ?_) | (with_reducible refine bo_alloc ?_ _) | (refine bchain ?_ (by with_reducible assumption)) | (with_reducible refine Below.setCell ?_ ?_ _) | go_size))⟩
  · rw [wt_ok h]
    obtain ⟨p1, p2, p3⟩ := okF_parts h
    have h1 : inB f.n.size 1 40 = true := by unfold okF at h; simp only [Bool.and_eq_true] at h; exact h.1
    clear h
    go_enter Try.func92, Try.ntmps92
    go_wp2_with fail
    go_quiet (fail)
    go_wp2_with fail
    refine (implWithin _ _ _ _).mono ?_; rw [h1]; rintro e w1 ⟨rfl, rfl⟩
    go_wp2_with fail
    go_ret
    exact ⟨rfl, (by repeat' (first | (with_reducible exact Below.refl _ _) | (with_reducible refine Below.drew ?_) | (with_reducible refine bo_drewN _ ?_) | (with_reducible refine bo_alloc ?_ _) | (refine bchain ?_ (by with_reducible assumption)) | (with_reducible refine Below.setCell ?_ ?_ _) | go_size))⟩

theorem implRight (f : Fd) (w : World) (hf : f.fine) : Calls Try.prog 85 #[.agg #[.string f.n, .string f.v]] w fun x w' => x = .returned (.bool (okF f)) ∧ Below w.heap.size w w' := by
  have hz := wt_zero f
  cases h : okF f
  · have h0 := hz.2 h
    go_enter Try.func85, Try.ntmps85
    go_wp2_with fail
    refine (implWt f _ hf).mono ?_; rw [h0]; rintro e w1 ⟨rfl, hb1⟩
    go_wp2_with fail
    go_ret
    exact ⟨rfl, (by repeat' (first | (with_reducible exact Below.refl _ _) | (with_reducible refine Below.drew ?_) | (with_reducible refine bo_drewN _ ?_) | (with_reducible refine bo_alloc ?_ _) | (refine bchain ?_ (by with_reducible assumption)) | (with_reducible refine Below.setCell ?_ ?_ _) | go_size))⟩
  · have h0 : ¬ wt f = 0 := fun e => by rw [hz.1 e] at h; cases h
    go_enter Try.func85, Try.ntmps85
    go_wp2_with fail
    refine (implWt f _ hf).mono ?_; rintro e w1 ⟨rfl, hb1⟩
    generalize wt f = z at *
    clear hz
    go_wp2_with fail
    go_ret
    exact ⟨by simp [h0], (by repeat' (first | (with_reducible exact Below.refl _ _) | (with_reducible refine Below.drew ?_) | (with_reducible refine bo_drewN _ ?_) | (with_reducible refine bo_alloc ?_ _) | (refine bchain ?_ (by with_reducible assumption)) | (with_reducible refine Below.setCell ?_ ?_ _) | go_size))⟩
theorem implRoom (r : Int) (w : World) : Calls Try.prog 84 #[.int .i64 r] w fun e w' => e = .returned (.bool (inB r 0 1000)) ∧ w' = w := by
  go_enter Try.func84, Try.ntmps84
  go_wp2_with (go_at_call 66; refine (implWithin _ _ _ _).mono ?_; rintro e w' ⟨rfl, rfl⟩)
  go_ret
  exact ⟨rfl, rfl⟩
theorem specField (f : Fd) (w : World) (hf : f.fine) : Calls Try.prog 40 #[.agg #[.string f.n, .string f.v]] w fun x w' => x = .returned (.bool (okF f)) ∧ Below w.heap.size w w' := by
  obtain ⟨hn, hv⟩ := hf
  unfold okF
  cases h1 : inB f.n.size 1 40
  · go_enter Try.func40, Try.ntmps40
    go_wp2_with fail
    refine (specIn _ _ _ _).mono ?_; rw [h1]; rintro e w1 ⟨rfl, rfl⟩
    go_wp2_with fail
    go_ret
    exact ⟨rfl, (by repeat' (first | (with_reducible exact Below.refl _ _) | (with_reducible refine Below.drew ?_) | (with_reducible refine bo_drewN _ ?_) | (with_reducible refine bo_alloc ?_ _) | (refine bchain ?_ (by with_reducible assumption)) | (with_reducible refine Below.setCell ?_ ?_ _) | go_size))⟩
  · go_enter Try.func40, Try.ntmps40
    go_wp2_with fail
    refine (specIn _ _ _ _).mono ?_; rw [h1]; rintro e w1 ⟨rfl, rfl⟩
    go_wp2_with fail
    go_ret
    exact ⟨by simp, (by repeat' (first | (with_reducible exact Below.refl _ _) | (with_reducible refine Below.drew ?_) | (with_reducible refine bo_drewN _ ?_) | (with_reducible refine bo_alloc ?_ _) | (refine bchain ?_ (by with_reducible assumption)) | (with_reducible refine Below.setCell ?_ ?_ _) | go_size))⟩
theorem specWt (f : Fd) (w : World) (hf : f.fine) : Calls Try.prog 62 #[.agg #[.string f.n, .string f.v]] w fun x w' => x = .returned (.int .i64 (wt f)) ∧ Below w.heap.size w w' := by
  have hf' := hf
  obtain ⟨hn, hv⟩ := hf'
  cases h : okF f
  · rw [wt_no h]
    go_enter Try.func62, Try.ntmps62
    go_wp2_with fail
    refine (specField f _ hf).mono ?_; rw [h]; rintro e w1 ⟨rfl, hb1⟩
    go_wp2_with fail
    go_ret
    exact ⟨rfl, (by repeat' (first | (with_reducible exact Below.refl _ _) | (with_reducible refine Below.drew ?_) | (with_reducible refine bo_drewN _ ?_) | (with_reducible refine bo_alloc ?_ _) | (refine bchain ?_ (by with_reducible assumption)) | (with_reducible refine Below.setCell ?_ ?_ _) | go_size))⟩
  · rw [wt_ok h]
    obtain ⟨p1, p2, p3⟩ := okF_parts h
    go_enter Try.func62, Try.ntmps62
    go_wp2_with fail
    refine (specField f _ hf).mono ?_; rw [h]; rintro e w1 ⟨rfl, hb1⟩; have hc1 := fun o => hb1.cell (p := ⟨w.heap.size, o, none⟩) (by first | (simp; done) | (simp; omega) | omega); have hf1 := fun o => hb1.frozen (p := ⟨w.heap.size, o, none⟩) (by first | (simp; done) | (simp; omega) | omega)
    go_wp2_with fail
    go_ret
    exact ⟨rfl, (by repeat' (first | (with_reducible exact Below.refl _ _) | (with_reducible refine Below.drew ?_) | (with_reducible refine bo_drewN _ ?_) | (with_reducible refine bo_alloc ?_ _) | (refine bchain ?_ (by with_reducible assumption)) | (with_reducible refine Below.setCell ?_ ?_ _) | go_size))⟩
set_option maxHeartbeats 1000000 in
theorem specSum (L : List Fd) (v : Value) (w : World) (hr0 : Reads w v L.length 2 (fv L)) (hf : ∀ f ∈ L, f.fine) (hL : L.length ≤ 201) :
    Calls Try.prog 41 #[v] w fun x w' => x = .returned (.int .i64 (sumW L)) ∧ Below w.heap.size w w' := by
  obtain ⟨hl, ad, cap, rfl, h1, h2, h3⟩ := hr0
  have H3 := hide h3; have HF := hide hf
  clear h3 hf
  unfold maxLen at h2
  go_enter Try.func41, Try.ntmps41
  go_wp2_with fail
  go_loopw [3, 4] (fun s i wr => ∃ (k : Nat), i = .int .i64 k ∧ s = .int .i64 (sumW (L.take k)) ∧ k ≤ L.length ∧ Below w.heap.size w wr) (fun _ i _ => L.length - (intOf i).toNat)
  case atStart => exact ⟨0, rfl, by simp [sumW], Nat.zero_le _, Below.refl _ _⟩
  case round =>
    obtain ⟨k, rfl, rfl, hk, hb⟩ := hrel
    by_cases hlt : k < L.length
    · obtain ⟨b, o, rfl, hbw, hc⟩ := H3.out (by omega)
      obtain ⟨s0, s1⟩ := fv_get L k hlt
      have hfk := HF.out _ (List.getElem_mem hlt)
      have hsu := sumW_succ L k hlt
      have hrg := sumW_range (L.take k)
      rw [List.length_take, Nat.min_eq_left (by omega)] at hrg
      obtain ⟨f, hff⟩ : ∃ f, f = L[k] := ⟨_, rfl⟩
      rw [← hff] at s0 s1 hfk hsu
      have c0 : wr.cell? ⟨b, o + k * 2, none⟩ = some (.string f.n) := by rw [hb.cell (p := ⟨b, o + k * 2, none⟩) hbw]; exact hc _ _ s0
      have c1 : wr.cell? ⟨b, o + k * 2 + 1, none⟩ = some (.string f.v) := by rw [hb.cell (p := ⟨b, o + k * 2 + 1, none⟩) hbw]; exact hc _ _ s1
      clear hc s0 s1 hff
      have HU := hide hsu
      have hwr := wt_range f
      generalize sumW (L.take k) = A at *
      clear hsu
      go_wp2_with fail
      refine (specWt f _ hfk).mono ?_; rintro x w1 ⟨rfl, hb1⟩
      generalize wt f = z at *
      go_wp2_with fail
      exact ⟨⟨k + 1, by go_num, by rw [HU.out], by omega, bchain hb hb1⟩, by simp [intOf]; omega⟩
    · obtain rfl : k = L.length := by omega
      rw [List.take_length]
      go_wp2_with fail
      go_ret
      exact ⟨rfl, hb⟩
end Go.Proofs.Ytllaeakeaabiaaa
/- Rows of Fields as a make: counted, copied, held against each other, marked, read again. -/
namespace Go.Proofs.Ytllaeakeaabiaaa
open Go.RowKit
set_option maxRecDepth 100000
set_option linter.unusedSimpArgs false
set_option linter.unusedVariables false
section
variable {D : Type} {E : Shp D}
theorem OwR.flat {f : D → List Value} (hf : ∀ w cs d bs, E.own w cs d bs → cs = f d ∧ bs = []) {w : World} {v : Value} {L : List D} {bs : List Nat} (h : OwR E w v L bs) : w.ownsRow 0 E.ty E.size v L.length (L.flatMap f) ∧ bs = v.ownBlock.toList := by
  obtain ⟨ts, rfl, ho, hE, rfl⟩ := h
  have e : ts.flatMap (fun t => t.1) = (ts.map (fun t => t.2.1)).flatMap f := by
    rw [List.flatMap_map]
    have hh : ∀ t ∈ ts, t.1 = f t.2.1 := fun t ht => (hf _ _ _ _ (hE t ht)).1
    clear ho hE
    induction ts with
    | nil => rfl
    | cons t ts ih => simp only [List.flatMap_cons]; rw [ih (fun x hx => hh x (by simp [hx])), ← hh t (by simp)]
  have e2 : ts.flatMap (fun t => t.2.2) = [] := by
    have hh : ∀ t ∈ ts, t.2.2 = [] := fun t ht => (hf _ _ _ _ (hE t ht)).2
    clear ho hE e
    induction ts with
    | nil => rfl
    | cons t ts ih => simp only [List.flatMap_cons]; rw [ih (fun x hx => hh x (by simp [hx])), hh t (by simp)]; rfl
  rw [e] at ho
  exact ⟨by simpa using ho, by rw [e2]; simp⟩
theorem owR_flat {f : D → List Value} {w : World} {v : Value} {L : List D} (hf : ∀ d ∈ L, E.own w (f d) d []) (h : w.ownsRow 0 E.ty E.size v L.length (L.flatMap f)) : OwR E w v L v.ownBlock.toList := by
  refine ⟨L.map fun d => (f d, d, []), by simp [Function.comp_def], ?_, fun t ht => ?_, ?_⟩
  · simpa [List.flatMap_map] using h
  · obtain ⟨d, hd, rfl⟩ := List.mem_map.1 ht
    exact hf d hd
  · have : ∀ M : List D, (M.map fun d => ((f d, d, []) : List Value × D × List Nat)).flatMap (fun t => t.2.2) = [] := fun M => by induction M <;> simp_all
    rw [this]; simp
theorem rdR_flat {f : D → List Value} {w : World} {v : Value} {L : List D} (hf : ∀ d ∈ L, E.rd w (f d) d) (h : Reads w v L.length E.size (L.flatMap f)) : RdR E w v L := by
  refine ⟨L.map fun d => (f d, d), by simp [Function.comp_def], ?_, fun t ht => ?_⟩
  · simpa [List.flatMap_map] using h
  · obtain ⟨d, hd, rfl⟩ := List.mem_map.1 ht
    exact hf d hd
end
def fieldS : Shp Fd where
  size := 2
  ty := 85
  rd := fun _ cs d => cs = d.cs ∧ d.fine
  own := fun _ cs d bs => cs = d.cs ∧ d.fine ∧ bs = []
  pos := by decide
  rd_len := fun h => by obtain ⟨rfl, _⟩ := h; rfl
  rd_one := fun h u hu => by obtain ⟨rfl, _⟩ := h; simp only [Fd.cs, List.mem_cons, List.not_mem_nil, or_false] at hu; rcases hu with rfl | rfl <;> rfl
  rd_new := fun h _ => h
  own_rd := fun h => ⟨h.1, h.2.1⟩
  own_keep := fun h _ _ => h
  own_lt := fun h b hb => by rw [h.2.2] at hb; cases hb
theorem rd_fv {w : World} {v : Value} {L : List Fd} (h : RdR fieldS w v L) : Reads w v L.length 2 (fv L) := RdR.flat (E := fieldS) (f := Fd.cs) (fun _ _ _ h => h.1) h
theorem rd_fine {w : World} {v : Value} {L : List Fd} (h : RdR fieldS w v L) : ∀ f ∈ L, f.fine := by
  obtain ⟨ts, rfl, _, hE⟩ := h
  intro x hx
  obtain ⟨t, ht, rfl⟩ := List.mem_map.1 hx
  exact (hE t ht).2
theorem fv_rd {w : World} {v : Value} {L : List Fd} (h : Reads w v L.length 2 (fv L)) (hs : ∀ f ∈ L, f.fine) : RdR fieldS w v L := rdR_flat (f := Fd.cs) (fun d hd => ⟨rfl, hs d hd⟩) h
theorem owr_fv {w : World} {v : Value} {L : List Fd} {bs : List Nat} (h : OwR fieldS w v L bs) : w.ownsRow 0 85 2 v L.length (fv L) ∧ bs = v.ownBlock.toList := OwR.flat (E := fieldS) (f := Fd.cs) (fun _ _ _ _ h => ⟨h.1, h.2.2⟩) h
theorem fv_owr {w : World} {v : Value} {L : List Fd} (h : w.ownsRow 0 85 2 v L.length (fv L)) (hs : ∀ f ∈ L, f.fine) : OwR fieldS w v L v.ownBlock.toList := owR_flat (E := fieldS) (f := Fd.cs) (fun d hd => ⟨rfl, hs d hd, rfl⟩) h
theorem ow_fv {w : World} {lo hi : Nat} {v : Value} {L : List Fd} (h : OwX fieldS w lo hi v L) : w.ownsRow lo 85 2 v L.length (fv L) := OwX.flat (E := fieldS) (f := Fd.cs) (fun _ _ _ h => h.1) h
theorem fv_ow {w : World} {lo : Nat} {v : Value} {L : List Fd} (h : w.ownsRow lo 85 2 v L.length (fv L)) (hs : ∀ f ∈ L, f.fine) : OwX fieldS w lo w.heap.size v L := owX_flat (E := fieldS) (f := Fd.cs) (fun d hd => ⟨rfl, hs d hd, rfl⟩) h
/-- How much they hold, as the laws count. -/
def szFieldS (L : List Fd) : Int := L.length + szL L
theorem szFieldS_nn (L : List Fd) : 0 ≤ szFieldS L := by unfold szFieldS; have := szL_pos L; omega
theorem szFieldS_len (L : List Fd) : (L.length : Int) ≤ szFieldS L := by unfold szFieldS; have := szL_pos L; omega
/-- The marks, from k on. -/
def mkFieldS (L : List Fd) (k : Nat) : List Fd := mkLs (fun _ k => ⟨mtx k, mtx (k + 1)⟩) (fun _ => 2) L k
def cntFieldS (L : List Fd) : Nat := cntLs (fun _ => 2) L
theorem cntFieldS_len (L : List Fd) : cntFieldS L = L.length * 2 := by
  unfold cntFieldS
  induction L with
  | nil => rfl
  | cons x L ih => simp only [cntLs, List.length_cons, ih]; omega
theorem mkFld_len (L : List Fd) (k : Nat) : (mkFieldS L k).length = L.length := mk_len' _ _ L k
theorem mkFld_at (L : List Fd) (k j : Nat) (h : j < L.length) (h' : j < (mkFieldS L k).length) : (mkFieldS L k)[j] = ⟨mtx (k + j * 2), mtx (k + j * 2 + 1)⟩ := by
  have e := mk_at (fun (_ : Fd) k => (⟨mtx k, mtx (k + 1)⟩ : Fd)) (fun _ => 2) L k j h h'
  have h2 := cntFieldS_len (L.take j)
  unfold cntFieldS at h2
  rw [h2, List.length_take, Nat.min_eq_left (by omega)] at e
  exact e
theorem mkFld_fv (L : List Fd) (k : Nat) : fv (mkFieldS L k) = mkT k (L.length * 2) := by
  apply List.ext_getElem?
  intro i
  by_cases hi : i < L.length * 2
  · obtain ⟨j, r, hr, rfl⟩ : ∃ j r, r < 2 ∧ i = j * 2 + r := ⟨i / 2, i % 2, by omega, by omega⟩
    have hj : j < L.length := by omega
    have hj' : j < (mkFieldS L k).length := by rw [mkFld_len]; exact hj
    obtain ⟨g1, g2⟩ := fv_get (mkFieldS L k) j hj'
    rw [mkFld_at L k j hj hj'] at g1 g2
    rw [mkT_get k _ _ hi]
    rcases (show r = 0 ∨ r = 1 by omega) with rfl | rfl
    · rw [Nat.add_zero]; exact g1
    · exact g2
  · rw [List.getElem?_eq_none (by rw [fv_len, mkFld_len]; omega), List.getElem?_eq_none (by rw [mkT_len]; omega)]
theorem mkFld_fine (L : List Fd) (k : Nat) (hk : k + cntFieldS L ≤ 1000000000) : ∀ f ∈ mkFieldS L k, f.fine := by
  intro x hx
  obtain ⟨j, hj, rfl⟩ := List.getElem_of_mem hx
  have hj2 : j < L.length := by rw [← mkFld_len L k]; exact hj
  rw [mkFld_at L k j hj2]
  have h1 := mtx_size (k + j * 2)
  have h2 := mtx_size (k + j * 2 + 1)
  have h3 := cntFieldS_len L
  exact ⟨by simp only; omega, by simp only; omega⟩
theorem toFieldS (L : List Fd) (v : Value) (w : World) (hr : RdR fieldS w v L) (hz : szFieldS L ≤ 1048576) :
    Calls Try.prog 45 #[v] w fun x w' => ∃ v', x = .returned v' ∧ OwX fieldS w' w.heap.size w'.heap.size v' L ∧ Below w.heap.size w w' := by
  refine (toFields L v w (rd_fv hr) (by have := szFieldS_len L; omega)).mono ?_
  rintro x w' ⟨v', rfl, ho, hb⟩
  exact ⟨v', rfl, fv_ow ho (rd_fine hr), hb⟩
theorem eqFieldS (L : List Fd) (v v' : Value) (w : World) (hr0 : RdR fieldS w v L) (hr1 : RdR fieldS w v' L) :
    Calls Try.prog 53 #[v, v'] w fun x w' => x = .returned (.bool true) ∧ Below w.heap.size w w' := eqFields L v v' w (rd_fv hr0) (rd_fv hr1)
theorem szFieldS1 (L : List Fd) (v : Value) (left : Int) (w : World) (hr : RdR fieldS w v L) (h0 : 0 ≤ left) (h1 : left ≤ 1048576) :
    Calls Try.prog 37 #[v, .int .i64 left] w fun x w' => (x = .returned (.int .i64 (-1)) ∨ (x = .returned (.int .i64 (left - szFieldS L)) ∧ 0 ≤ left - szFieldS L)) ∧ Below w.heap.size w w' := by
  refine (szFields L v left w (rd_fv hr) (rd_fine hr) h0 h1).mono ?_
  rintro x w' ⟨rfl, hb⟩
  refine ⟨?_, hb⟩
  unfold szFieldS
  by_cases c : left - L.length - szL L < 0
  · exact .inl (by rw [if_pos c])
  · exact .inr ⟨by rw [if_neg c, show left - L.length - szL L = left - (L.length + szL L) by omega], by omega⟩
theorem markFieldS (L : List Fd) (k : Nat) (v : Value) (bs : List Nat) (w : World) (ho : OwR fieldS w v L bs) (hn : bs.Nodup) (hk1 : k + cntFieldS L ≤ 1000000000) :
    Calls Try.prog 56 #[v, .int .i64 k] w fun x w' => x = .returned (.int .i64 ((k + cntFieldS L : Nat) : Int)) ∧ OwR fieldS w' v (mkFieldS L k) bs ∧ TurnB bs w w' := by
  obtain ⟨ho1, rfl⟩ := owr_fv ho
  have hc := cntFieldS_len L
  refine (markFields L.length k v (fv L) 0 w ho1 (by omega)).mono ?_
  rintro x w' ⟨rfl, ho2, hg⟩
  rw [hc]
  refine ⟨rfl, fv_owr ?_ (mkFld_fine L k hk1), ⟨hg.os, hg.tape, hg.output, hg.size, fun q hq hn => hg.block q hq fun e => hn (by rw [← e]; simp)⟩⟩
  rw [mkFld_fv, mkFld_len]
  exact ho2
theorem heldFieldS (L : List Fd) (k : Nat) (v : Value) (w : World) (hr : RdR fieldS w v (mkFieldS L k)) (hk1 : k + cntFieldS L ≤ 1000000000) :
    Calls Try.prog 59 #[v, .int .i64 k] w fun x w' => x = .returned (.int .i64 ((k + cntFieldS L : Nat) : Int)) ∧ Below w.heap.size w w' := by
  have h := rd_fv hr
  rw [mkFld_fv, mkFld_len] at h
  rw [cntFieldS_len] at hk1 ⊢
  exact heldFields L.length k v w h hk1
open Go.ChangeShapes Go.WideShapes Go.ChangeAt Go.Joins in
theorem open_cellsField {H : Type} {enc : TypeId × Value → H} {W : World} {base : Nat} {spare : Nat → Bool} {held : Bool} {fuel : Nat} {cs : List Value} {x : DataW H × List MemPlace} (h : DataW.trod enc Try.prog W base spare held fuel 102 cs = some x) : ∃ d : Fd, fieldS.rd W cs d := by
  obtain ⟨c0, c1, y0, y1, n, rfl, h0, h1⟩ := scells2 Try.underlying102 (by kernel_rfl) (by kernel_rfl) h
  obtain ⟨i0, e0, _, hs0⟩ := DataW.trod_string Try.underlying9 h0
  simp only [List.cons.injEq, and_true] at e0
  subst e0
  obtain ⟨i1, e1, _, hs1⟩ := DataW.trod_string Try.underlying9 h1
  simp only [List.cons.injEq, and_true] at e1
  subst e1
  exact ⟨⟨i0, i1⟩, rfl, by unfold maxLen at hs0; simp only; omega, by unfold maxLen at hs1; simp only; omega⟩
end Go.Proofs.Ytllaeakeaabiaaa
/- Chapter 16's model: TunnelOk; tunnels counted, copied, held against each other by the laws. -/
namespace Go.Proofs.Ytllaeakeaabiaaa
open Go.RowKit
set_option maxRecDepth 100000
set_option linter.unusedSimpArgs false
set_option linter.unusedVariables false
theorem specTime16 (x : Int) (w : World) : Calls Try.prog 43 #[.int .i64 x] w fun e w' => e = .returned (.bool (inB x 0 1000000)) ∧ w' = w := by
  go_enter Try.func43, Try.ntmps43
  go_wp2_with fail
  refine (specIn _ _ _ _).mono ?_; rintro e w1 ⟨rfl, hsame⟩; obtain rfl := hsame.symm; clear hsame
  go_wp2_with fail
  go_ret
  exact ⟨rfl, rfl⟩
theorem specOkP (p : PpD) (w : World) (hb : p.b.size ≤ maxLen) : Calls Try.prog 42 #[pv p] w fun x w' => x = .returned (.bool (okPp p)) ∧ Below w.heap.size w w' := specOk p.r p.b p.e p.k w hb
set_option maxHeartbeats 1000000 in
theorem specTunnelOk (t : TuD) (w : World) (h1 : t.up.b.size ≤ maxLen) (h2 : t.dn.b.size ≤ maxLen) : Calls Try.prog 22 #[tuv t] w fun x w' => x = .returned (.bool (okTu t)) ∧ Below w.heap.size w w' := by
  obtain ⟨⟨r, b, e, k⟩, ⟨r2, b2, e2, k2⟩, wt, cm⟩ := t
  unfold okTu
  dsimp only [tuv] at *
  have RX := rowIs_new w 58 [.int .i64 r, .string b, .bool e, .bool k, .int .i64 r2, .string b2, .bool e2, .bool k2, .int .i64 wt, .int .i64 cm]
  have HB : Below w.heap.size w (w.alloc (.cells #[.int .i64 r, .string b, .bool e, .bool k, .int .i64 r2, .string b2, .bool e2, .bool k2, .int .i64 wt, .int .i64 cm] 58)) := (Below.refl _ _).alloc (Nat.le_refl _) _
  cases hu : okPp ⟨r, b, e, k⟩
  · go_enter Try.func22, Try.ntmps22
    go_wp2_with fail
    refine (specOkP ⟨r, b, e, k⟩ _ h1).mono ?_; rw [hu]; rintro x w1 ⟨rfl, hb1⟩
    replace RX := RX.new hb1
    replace HB := bchain HB hb1
    clear hb1
    have x0 := RowIs.cell (j := 0) RX rfl; have x1 := RowIs.cell (j := 1) RX rfl; have x2 := RowIs.cell (j := 2) RX rfl; have x3 := RowIs.cell (j := 3) RX rfl; have x4 := RowIs.cell (j := 4) RX rfl; have x5 := RowIs.cell (j := 5) RX rfl; have x6 := RowIs.cell (j := 6) RX rfl; have x7 := RowIs.cell (j := 7) RX rfl; have x10 := RowIs.cell (j := 8) RX rfl; have x11 := RowIs.cell (j := 9) RX rfl; have x9 := fun j => RowIs.frozen RX j; have x8 := RX.lt
    go_wp2_with fail
    go_ret
    exact ⟨rfl, HB⟩
  cases hd : okPp ⟨r2, b2, e2, k2⟩
  · go_enter Try.func22, Try.ntmps22
    go_wp2_with fail
    refine (specOkP ⟨r, b, e, k⟩ _ h1).mono ?_; rw [hu]; rintro x w1 ⟨rfl, hb1⟩
    replace RX := RX.new hb1
    replace HB := bchain HB hb1
    clear hb1
    have x0 := RowIs.cell (j := 0) RX rfl; have x1 := RowIs.cell (j := 1) RX rfl; have x2 := RowIs.cell (j := 2) RX rfl; have x3 := RowIs.cell (j := 3) RX rfl; have x4 := RowIs.cell (j := 4) RX rfl; have x5 := RowIs.cell (j := 5) RX rfl; have x6 := RowIs.cell (j := 6) RX rfl; have x7 := RowIs.cell (j := 7) RX rfl; have x10 := RowIs.cell (j := 8) RX rfl; have x11 := RowIs.cell (j := 9) RX rfl; have x9 := fun j => RowIs.frozen RX j; have x8 := RX.lt
    go_wp2_with fail
    clear x0 x1 x2 x3 x4 x5 x6 x7 x10 x11 x9 x8
    refine (specOkP ⟨r2, b2, e2, k2⟩ _ h2).mono ?_; rw [hd]; rintro x w2 ⟨rfl, hb2⟩
    replace RX := RX.new hb2
    replace HB := bchain HB hb2
    clear hb2
    have x0 := RowIs.cell (j := 0) RX rfl; have x1 := RowIs.cell (j := 1) RX rfl; have x2 := RowIs.cell (j := 2) RX rfl; have x3 := RowIs.cell (j := 3) RX rfl; have x4 := RowIs.cell (j := 4) RX rfl; have x5 := RowIs.cell (j := 5) RX rfl; have x6 := RowIs.cell (j := 6) RX rfl; have x7 := RowIs.cell (j := 7) RX rfl; have x10 := RowIs.cell (j := 8) RX rfl; have x11 := RowIs.cell (j := 9) RX rfl; have x9 := fun j => RowIs.frozen RX j; have x8 := RX.lt
    go_wp2_with fail
    go_ret
    exact ⟨rfl, HB⟩
  cases hw : inB wt 0 1000000
  · go_enter Try.func22, Try.ntmps22
    go_wp2_with fail
    refine (specOkP ⟨r, b, e, k⟩ _ h1).mono ?_; rw [hu]; rintro x w1 ⟨rfl, hb1⟩
    replace RX := RX.new hb1
    replace HB := bchain HB hb1
    clear hb1
    have x0 := RowIs.cell (j := 0) RX rfl; have x1 := RowIs.cell (j := 1) RX rfl; have x2 := RowIs.cell (j := 2) RX rfl; have x3 := RowIs.cell (j := 3) RX rfl; have x4 := RowIs.cell (j := 4) RX rfl; have x5 := RowIs.cell (j := 5) RX rfl; have x6 := RowIs.cell (j := 6) RX rfl; have x7 := RowIs.cell (j := 7) RX rfl; have x10 := RowIs.cell (j := 8) RX rfl; have x11 := RowIs.cell (j := 9) RX rfl; have x9 := fun j => RowIs.frozen RX j; have x8 := RX.lt
    go_wp2_with fail
    clear x0 x1 x2 x3 x4 x5 x6 x7 x10 x11 x9 x8
    refine (specOkP ⟨r2, b2, e2, k2⟩ _ h2).mono ?_; rw [hd]; rintro x w2 ⟨rfl, hb2⟩
    replace RX := RX.new hb2
    replace HB := bchain HB hb2
    clear hb2
    have x0 := RowIs.cell (j := 0) RX rfl; have x1 := RowIs.cell (j := 1) RX rfl; have x2 := RowIs.cell (j := 2) RX rfl; have x3 := RowIs.cell (j := 3) RX rfl; have x4 := RowIs.cell (j := 4) RX rfl; have x5 := RowIs.cell (j := 5) RX rfl; have x6 := RowIs.cell (j := 6) RX rfl; have x7 := RowIs.cell (j := 7) RX rfl; have x10 := RowIs.cell (j := 8) RX rfl; have x11 := RowIs.cell (j := 9) RX rfl; have x9 := fun j => RowIs.frozen RX j; have x8 := RX.lt
    go_wp2_with fail
    refine (specTime16 _ _).mono ?_; rw [hw]; rintro e w3 ⟨rfl, hsame⟩; obtain rfl := hsame.symm; clear hsame
    go_wp2_with fail
    go_ret
    exact ⟨rfl, HB⟩
  cases hm : inB cm 0 1000000
  · go_enter Try.func22, Try.ntmps22
    go_wp2_with fail
    refine (specOkP ⟨r, b, e, k⟩ _ h1).mono ?_; rw [hu]; rintro x w1 ⟨rfl, hb1⟩
    replace RX := RX.new hb1
    replace HB := bchain HB hb1
    clear hb1
    have x0 := RowIs.cell (j := 0) RX rfl; have x1 := RowIs.cell (j := 1) RX rfl; have x2 := RowIs.cell (j := 2) RX rfl; have x3 := RowIs.cell (j := 3) RX rfl; have x4 := RowIs.cell (j := 4) RX rfl; have x5 := RowIs.cell (j := 5) RX rfl; have x6 := RowIs.cell (j := 6) RX rfl; have x7 := RowIs.cell (j := 7) RX rfl; have x10 := RowIs.cell (j := 8) RX rfl; have x11 := RowIs.cell (j := 9) RX rfl; have x9 := fun j => RowIs.frozen RX j; have x8 := RX.lt
    go_wp2_with fail
    clear x0 x1 x2 x3 x4 x5 x6 x7 x10 x11 x9 x8
    refine (specOkP ⟨r2, b2, e2, k2⟩ _ h2).mono ?_; rw [hd]; rintro x w2 ⟨rfl, hb2⟩
    replace RX := RX.new hb2
    replace HB := bchain HB hb2
    clear hb2
    have x0 := RowIs.cell (j := 0) RX rfl; have x1 := RowIs.cell (j := 1) RX rfl; have x2 := RowIs.cell (j := 2) RX rfl; have x3 := RowIs.cell (j := 3) RX rfl; have x4 := RowIs.cell (j := 4) RX rfl; have x5 := RowIs.cell (j := 5) RX rfl; have x6 := RowIs.cell (j := 6) RX rfl; have x7 := RowIs.cell (j := 7) RX rfl; have x10 := RowIs.cell (j := 8) RX rfl; have x11 := RowIs.cell (j := 9) RX rfl; have x9 := fun j => RowIs.frozen RX j; have x8 := RX.lt
    go_wp2_with fail
    refine (specTime16 _ _).mono ?_; rw [hw]; rintro e w3 ⟨rfl, hsame⟩; obtain rfl := hsame.symm; clear hsame
    go_wp2_with fail
    refine (specTime16 _ _).mono ?_; rw [hm]; rintro e w3 ⟨rfl, hsame⟩; obtain rfl := hsame.symm; clear hsame
    go_wp2_with fail
    go_ret
    exact ⟨rfl, HB⟩
  go_enter Try.func22, Try.ntmps22
  go_wp2_with fail
  refine (specOkP ⟨r, b, e, k⟩ _ h1).mono ?_; rw [hu]; rintro x w1 ⟨rfl, hb1⟩
  replace RX := RX.new hb1
  replace HB := bchain HB hb1
  clear hb1
  have x0 := RowIs.cell (j := 0) RX rfl; have x1 := RowIs.cell (j := 1) RX rfl; have x2 := RowIs.cell (j := 2) RX rfl; have x3 := RowIs.cell (j := 3) RX rfl; have x4 := RowIs.cell (j := 4) RX rfl; have x5 := RowIs.cell (j := 5) RX rfl; have x6 := RowIs.cell (j := 6) RX rfl; have x7 := RowIs.cell (j := 7) RX rfl; have x10 := RowIs.cell (j := 8) RX rfl; have x11 := RowIs.cell (j := 9) RX rfl; have x9 := fun j => RowIs.frozen RX j; have x8 := RX.lt
  go_wp2_with fail
  clear x0 x1 x2 x3 x4 x5 x6 x7 x10 x11 x9 x8
  refine (specOkP ⟨r2, b2, e2, k2⟩ _ h2).mono ?_; rw [hd]; rintro x w2 ⟨rfl, hb2⟩
  replace RX := RX.new hb2
  replace HB := bchain HB hb2
  clear hb2
  have x0 := RowIs.cell (j := 0) RX rfl; have x1 := RowIs.cell (j := 1) RX rfl; have x2 := RowIs.cell (j := 2) RX rfl; have x3 := RowIs.cell (j := 3) RX rfl; have x4 := RowIs.cell (j := 4) RX rfl; have x5 := RowIs.cell (j := 5) RX rfl; have x6 := RowIs.cell (j := 6) RX rfl; have x7 := RowIs.cell (j := 7) RX rfl; have x10 := RowIs.cell (j := 8) RX rfl; have x11 := RowIs.cell (j := 9) RX rfl; have x9 := fun j => RowIs.frozen RX j; have x8 := RX.lt
  go_wp2_with fail
  refine (specTime16 _ _).mono ?_; rw [hw]; rintro e w3 ⟨rfl, hsame⟩; obtain rfl := hsame.symm; clear hsame
  go_wp2_with fail
  refine (specTime16 _ _).mono ?_; rw [hm]; rintro e w3 ⟨rfl, hsame⟩; obtain rfl := hsame.symm; clear hsame
  go_wp2_with fail
  go_ret
  exact ⟨rfl, HB⟩
def szTu (t : TuD) : Nat := t.up.b.size + t.dn.b.size
set_option maxHeartbeats 1000000 in
theorem szTunnel1 (t : TuD) (w : World) (h1 : t.up.b.size ≤ maxLen) (h2 : t.dn.b.size ≤ maxLen) : Calls Try.prog 61 #[tuv t, .int .i64 1048576] w fun x w' => (∃ y : Int, x = .returned (.int .i64 y) ∧ (0 ≤ y → szTu t ≤ 1048576)) ∧ Below w.heap.size w w' := by
  obtain ⟨⟨r, b, e, k⟩, ⟨r2, b2, e2, k2⟩, wt, cm⟩ := t
  unfold szTu
  dsimp only [tuv] at *
  have RX := rowIs_new w 80 [.int .i64 r, .string b, .bool e, .bool k, .int .i64 r2, .string b2, .bool e2, .bool k2, .int .i64 wt, .int .i64 cm]
  have HB : Below w.heap.size w (w.alloc (.cells #[.int .i64 r, .string b, .bool e, .bool k, .int .i64 r2, .string b2, .bool e2, .bool k2, .int .i64 wt, .int .i64 cm] 80)) := (Below.refl _ _).alloc (Nat.le_refl _) _
  by_cases c1 : (1048576 : Int) - b.size < 0
  · go_enter Try.func61, Try.ntmps61
    go_wp2_with fail
    refine (sz r b e k 1048576 _ h1 (by omega) (by omega)).mono ?_; rw [if_pos (by omega)]; rintro x w1 ⟨rfl, hb1⟩
    replace HB := bchain HB hb1
    go_wp2_with fail
    go_ret
    exact ⟨⟨-1, rfl, by omega⟩, HB⟩
  obtain ⟨q, hq⟩ : ∃ q, (1048576 : Int) - b.size = q := ⟨_, rfl⟩
  have hq0 : ¬ q < 0 := by omega
  by_cases c2 : q - b2.size < 0
  · go_enter Try.func61, Try.ntmps61
    go_wp2_with fail
    refine (sz r b e k 1048576 _ h1 (by omega) (by omega)).mono ?_; rw [if_neg (by omega), hq]; rintro x w1 ⟨rfl, hb1⟩
    replace HB := bchain HB hb1
    replace RX := RX.new hb1
    have x0 := RowIs.cell (j := 0) RX rfl; have x1 := RowIs.cell (j := 1) RX rfl; have x2 := RowIs.cell (j := 2) RX rfl; have x3 := RowIs.cell (j := 3) RX rfl; have x4 := RowIs.cell (j := 4) RX rfl; have x5 := RowIs.cell (j := 5) RX rfl; have x6 := RowIs.cell (j := 6) RX rfl; have x7 := RowIs.cell (j := 7) RX rfl; have x10 := RowIs.cell (j := 8) RX rfl; have x11 := RowIs.cell (j := 9) RX rfl; have x9 := fun j => RowIs.frozen RX j; have x8 := RX.lt
    go_wp2_with fail
    refine (sz r2 b2 e2 k2 q _ h2 (by omega) (by omega)).mono ?_; rw [if_pos (by omega)]; rintro x w2 ⟨rfl, hb2⟩
    replace HB := bchain HB hb2
    go_wp2_with fail
    go_ret
    exact ⟨⟨-1, rfl, by omega⟩, HB⟩
  obtain ⟨q2, hq2⟩ : ∃ q2, q - b2.size = q2 := ⟨_, rfl⟩
  have hq20 : ¬ q2 < 0 := by omega
  go_enter Try.func61, Try.ntmps61
  go_wp2_with fail
  refine (sz r b e k 1048576 _ h1 (by omega) (by omega)).mono ?_; rw [if_neg (by omega), hq]; rintro x w1 ⟨rfl, hb1⟩
  replace HB := bchain HB hb1
  replace RX := RX.new hb1
  have x0 := RowIs.cell (j := 0) RX rfl; have x1 := RowIs.cell (j := 1) RX rfl; have x2 := RowIs.cell (j := 2) RX rfl; have x3 := RowIs.cell (j := 3) RX rfl; have x4 := RowIs.cell (j := 4) RX rfl; have x5 := RowIs.cell (j := 5) RX rfl; have x6 := RowIs.cell (j := 6) RX rfl; have x7 := RowIs.cell (j := 7) RX rfl; have x10 := RowIs.cell (j := 8) RX rfl; have x11 := RowIs.cell (j := 9) RX rfl; have x9 := fun j => RowIs.frozen RX j; have x8 := RX.lt
  go_wp2_with fail
  refine (sz r2 b2 e2 k2 q _ h2 (by omega) (by omega)).mono ?_; rw [if_neg (by omega), hq2]; rintro x w2 ⟨rfl, hb2⟩
  replace HB := bchain HB hb2
  go_wp2_with fail
  go_ret
  exact ⟨⟨q2, rfl, fun _ => by omega⟩, HB⟩
set_option maxHeartbeats 1000000 in
theorem toTunnel1 (t : TuD) (w : World) : Calls Try.prog 65 #[tuv t] w fun x w' => x = .returned (tuv t) ∧ Below w.heap.size w w' := by
  obtain ⟨⟨r, b, e, k⟩, ⟨r2, b2, e2, k2⟩, wt, cm⟩ := t
  dsimp only [tuv] at *
  obtain ⟨W, hW⟩ : ∃ W, ((w.alloc (.cells #[.int .i64 r, .string b, .bool e, .bool k, .int .i64 r2, .string b2, .bool e2, .bool k2, .int .i64 wt, .int .i64 cm] 80)).alloc (.cells #[.int .i64 0, .string ⟨#[]⟩, .bool false, .bool false, .int .i64 0, .string ⟨#[]⟩, .bool false, .bool false, .int .i64 0, .int .i64 0] 58)).alloc (.cells #[.int .i64 0, .string ⟨#[]⟩, .bool false, .bool false, .int .i64 0, .string ⟨#[]⟩, .bool false, .bool false, .int .i64 0, .int .i64 0] 58) = W := ⟨_, rfl⟩
  have RX : RowIs W w.heap.size 80 [.int .i64 r, .string b, .bool e, .bool k, .int .i64 r2, .string b2, .bool e2, .bool k2, .int .i64 wt, .int .i64 cm] := by rw [← hW]; exact ((rowIs_new w 80 [.int .i64 r, .string b, .bool e, .bool k, .int .i64 r2, .string b2, .bool e2, .bool k2, .int .i64 wt, .int .i64 cm]).alloc _).alloc _
  have RY : RowIs W (w.heap.size + 1) 58 [.int .i64 0, .string ⟨#[]⟩, .bool false, .bool false, .int .i64 0, .string ⟨#[]⟩, .bool false, .bool false, .int .i64 0, .int .i64 0] := by have := (rowIs_new (w.alloc (.cells #[.int .i64 r, .string b, .bool e, .bool k, .int .i64 r2, .string b2, .bool e2, .bool k2, .int .i64 wt, .int .i64 cm] 80)) 58 [.int .i64 0, .string ⟨#[]⟩, .bool false, .bool false, .int .i64 0, .string ⟨#[]⟩, .bool false, .bool false, .int .i64 0, .int .i64 0]).alloc (.cells #[.int .i64 0, .string ⟨#[]⟩, .bool false, .bool false, .int .i64 0, .string ⟨#[]⟩, .bool false, .bool false, .int .i64 0, .int .i64 0] 58); rw [hW] at this; simpa using this
  have RZ : RowIs W (w.heap.size + 1 + 1) 58 [.int .i64 0, .string ⟨#[]⟩, .bool false, .bool false, .int .i64 0, .string ⟨#[]⟩, .bool false, .bool false, .int .i64 0, .int .i64 0] := by have := rowIs_new ((w.alloc (.cells #[.int .i64 r, .string b, .bool e, .bool k, .int .i64 r2, .string b2, .bool e2, .bool k2, .int .i64 wt, .int .i64 cm] 80)).alloc (.cells #[.int .i64 0, .string ⟨#[]⟩, .bool false, .bool false, .int .i64 0, .string ⟨#[]⟩, .bool false, .bool false, .int .i64 0, .int .i64 0] 58)) 58 [.int .i64 0, .string ⟨#[]⟩, .bool false, .bool false, .int .i64 0, .string ⟨#[]⟩, .bool false, .bool false, .int .i64 0, .int .i64 0]; rw [hW] at this; simpa using this
  have HB : Below w.heap.size w W := by rw [← hW]; exact ((((Below.refl _ _).alloc (Nat.le_refl _) _).alloc (by simp) _).alloc (by simp; omega) _)
  go_enter Try.func65, Try.ntmps65
  have x0 := RowIs.cell (j := 0) RX rfl
  have x1 := RowIs.cell (j := 1) RX rfl
  have x2 := RowIs.cell (j := 2) RX rfl
  have x3 := RowIs.cell (j := 3) RX rfl
  have xf := fun j => RowIs.frozen RX j
  have xl := RX.lt
  go_wp2_with fail
  clear x0 x1 x2 x3 xf xl
  clear hW
  refine (toP r b e k _).mono ?_; rintro x w1 ⟨rfl, hb⟩
  replace RX := RX.new hb
  replace RY := RY.new hb
  replace RZ := RZ.new hb
  replace HB := bchain HB hb
  clear hb
  have z0 := RowIs.cell (j := 0) RZ rfl
  have z1 := RowIs.cell (j := 1) RZ rfl
  have z2 := RowIs.cell (j := 2) RZ rfl
  have z3 := RowIs.cell (j := 3) RZ rfl
  have z4 := RowIs.cell (j := 4) RZ rfl
  have z5 := RowIs.cell (j := 5) RZ rfl
  have z6 := RowIs.cell (j := 6) RZ rfl
  have z7 := RowIs.cell (j := 7) RZ rfl
  have z8 := RowIs.cell (j := 8) RZ rfl
  have z9 := RowIs.cell (j := 9) RZ rfl
  have zf := fun j => RowIs.frozen RZ j
  have zl := RZ.lt
  go_upto_region 3 with fail
  have NRX : RowIs ((((w1.setCell ⟨(w.heap.size + 1 + 1), 0, none⟩ (.int .i64 r)).setCell ⟨(w.heap.size + 1 + 1), 1, none⟩ (.string b)).setCell ⟨(w.heap.size + 1 + 1), 2, none⟩ (.bool e)).setCell ⟨(w.heap.size + 1 + 1), 3, none⟩ (.bool k)) w.heap.size 80 [.int .i64 r, .string b, .bool e, .bool k, .int .i64 r2, .string b2, .bool e2, .bool k2, .int .i64 wt, .int .i64 cm] := ((((RX.far ⟨(w.heap.size + 1 + 1), 0, none⟩ (.int .i64 r) (show (w.heap.size + 1 + 1) ≠ w.heap.size by omega)).far ⟨(w.heap.size + 1 + 1), 1, none⟩ (.string b) (show (w.heap.size + 1 + 1) ≠ w.heap.size by omega)).far ⟨(w.heap.size + 1 + 1), 2, none⟩ (.bool e) (show (w.heap.size + 1 + 1) ≠ w.heap.size by omega)).far ⟨(w.heap.size + 1 + 1), 3, none⟩ (.bool k) (show (w.heap.size + 1 + 1) ≠ w.heap.size by omega))
  have NRY : RowIs ((((w1.setCell ⟨(w.heap.size + 1 + 1), 0, none⟩ (.int .i64 r)).setCell ⟨(w.heap.size + 1 + 1), 1, none⟩ (.string b)).setCell ⟨(w.heap.size + 1 + 1), 2, none⟩ (.bool e)).setCell ⟨(w.heap.size + 1 + 1), 3, none⟩ (.bool k)) (w.heap.size + 1) 58 [.int .i64 0, .string ⟨#[]⟩, .bool false, .bool false, .int .i64 0, .string ⟨#[]⟩, .bool false, .bool false, .int .i64 0, .int .i64 0] := ((((RY.far ⟨(w.heap.size + 1 + 1), 0, none⟩ (.int .i64 r) (show (w.heap.size + 1 + 1) ≠ (w.heap.size + 1) by omega)).far ⟨(w.heap.size + 1 + 1), 1, none⟩ (.string b) (show (w.heap.size + 1 + 1) ≠ (w.heap.size + 1) by omega)).far ⟨(w.heap.size + 1 + 1), 2, none⟩ (.bool e) (show (w.heap.size + 1 + 1) ≠ (w.heap.size + 1) by omega)).far ⟨(w.heap.size + 1 + 1), 3, none⟩ (.bool k) (show (w.heap.size + 1 + 1) ≠ (w.heap.size + 1) by omega))
  have NRZ : RowIs ((((w1.setCell ⟨(w.heap.size + 1 + 1), 0, none⟩ (.int .i64 r)).setCell ⟨(w.heap.size + 1 + 1), 1, none⟩ (.string b)).setCell ⟨(w.heap.size + 1 + 1), 2, none⟩ (.bool e)).setCell ⟨(w.heap.size + 1 + 1), 3, none⟩ (.bool k)) (w.heap.size + 1 + 1) 58 [.int .i64 r, .string b, .bool e, .bool k, .int .i64 0, .string ⟨#[]⟩, .bool false, .bool false, .int .i64 0, .int .i64 0] := ((((RZ.set 0 (.int .i64 r)).set 1 (.string b)).set 2 (.bool e)).set 3 (.bool k))
  have NHB := ((((HB.setCell (p := ⟨(w.heap.size + 1 + 1), 0, none⟩) (show w.heap.size ≤ (w.heap.size + 1 + 1) by omega) (.int .i64 r)).setCell (p := ⟨(w.heap.size + 1 + 1), 1, none⟩) (show w.heap.size ≤ (w.heap.size + 1 + 1) by omega) (.string b)).setCell (p := ⟨(w.heap.size + 1 + 1), 2, none⟩) (show w.heap.size ≤ (w.heap.size + 1 + 1) by omega) (.bool e)).setCell (p := ⟨(w.heap.size + 1 + 1), 3, none⟩) (show w.heap.size ≤ (w.heap.size + 1 + 1) by omega) (.bool k))
  generalize hV : ((((w1.setCell ⟨(w.heap.size + 1 + 1), 0, none⟩ (.int .i64 r)).setCell ⟨(w.heap.size + 1 + 1), 1, none⟩ (.string b)).setCell ⟨(w.heap.size + 1 + 1), 2, none⟩ (.bool e)).setCell ⟨(w.heap.size + 1 + 1), 3, none⟩ (.bool k)) = V2 at *
  clear hV
  clear RX
  have RX := NRX
  clear NRX
  clear RY
  have RY := NRY
  clear NRY
  clear RZ
  have RZ := NRZ
  clear NRZ
  clear HB
  have HB := NHB
  clear NHB
  clear z0 z1 z2 z3 z4 z5 z6 z7 z8 z9 zf zl
  have x4 := RowIs.cell (j := 4) RX rfl
  have x5 := RowIs.cell (j := 5) RX rfl
  have x6 := RowIs.cell (j := 6) RX rfl
  have x7 := RowIs.cell (j := 7) RX rfl
  have xf := fun j => RowIs.frozen RX j
  have xl := RX.lt
  go_wp2_with fail
  clear x4 x5 x6 x7 xf xl
  refine (toP r2 b2 e2 k2 _).mono ?_; rintro x w3 ⟨rfl, hb⟩
  replace RX := RX.new hb
  replace RY := RY.new hb
  replace RZ := RZ.new hb
  replace HB := bchain HB hb
  clear hb
  have z0 := RowIs.cell (j := 0) RZ rfl
  have z1 := RowIs.cell (j := 1) RZ rfl
  have z2 := RowIs.cell (j := 2) RZ rfl
  have z3 := RowIs.cell (j := 3) RZ rfl
  have z4 := RowIs.cell (j := 4) RZ rfl
  have z5 := RowIs.cell (j := 5) RZ rfl
  have z6 := RowIs.cell (j := 6) RZ rfl
  have z7 := RowIs.cell (j := 7) RZ rfl
  have z8 := RowIs.cell (j := 8) RZ rfl
  have z9 := RowIs.cell (j := 9) RZ rfl
  have zf := fun j => RowIs.frozen RZ j
  have zl := RZ.lt
  go_upto_region 4 with fail
  clear z0 z1 z2 z3 z4 z5 z6 z7 z8 z9 zf zl
  have NRX : RowIs ((((w3.setCell ⟨(w.heap.size + 1 + 1), 4, none⟩ (.int .i64 r2)).setCell ⟨(w.heap.size + 1 + 1), 5, none⟩ (.string b2)).setCell ⟨(w.heap.size + 1 + 1), 6, none⟩ (.bool e2)).setCell ⟨(w.heap.size + 1 + 1), 7, none⟩ (.bool k2)) w.heap.size 80 [.int .i64 r, .string b, .bool e, .bool k, .int .i64 r2, .string b2, .bool e2, .bool k2, .int .i64 wt, .int .i64 cm] := ((((RX.far ⟨(w.heap.size + 1 + 1), 4, none⟩ (.int .i64 r2) (show (w.heap.size + 1 + 1) ≠ w.heap.size by omega)).far ⟨(w.heap.size + 1 + 1), 5, none⟩ (.string b2) (show (w.heap.size + 1 + 1) ≠ w.heap.size by omega)).far ⟨(w.heap.size + 1 + 1), 6, none⟩ (.bool e2) (show (w.heap.size + 1 + 1) ≠ w.heap.size by omega)).far ⟨(w.heap.size + 1 + 1), 7, none⟩ (.bool k2) (show (w.heap.size + 1 + 1) ≠ w.heap.size by omega))
  have NRY : RowIs ((((w3.setCell ⟨(w.heap.size + 1 + 1), 4, none⟩ (.int .i64 r2)).setCell ⟨(w.heap.size + 1 + 1), 5, none⟩ (.string b2)).setCell ⟨(w.heap.size + 1 + 1), 6, none⟩ (.bool e2)).setCell ⟨(w.heap.size + 1 + 1), 7, none⟩ (.bool k2)) (w.heap.size + 1) 58 [.int .i64 0, .string ⟨#[]⟩, .bool false, .bool false, .int .i64 0, .string ⟨#[]⟩, .bool false, .bool false, .int .i64 0, .int .i64 0] := ((((RY.far ⟨(w.heap.size + 1 + 1), 4, none⟩ (.int .i64 r2) (show (w.heap.size + 1 + 1) ≠ (w.heap.size + 1) by omega)).far ⟨(w.heap.size + 1 + 1), 5, none⟩ (.string b2) (show (w.heap.size + 1 + 1) ≠ (w.heap.size + 1) by omega)).far ⟨(w.heap.size + 1 + 1), 6, none⟩ (.bool e2) (show (w.heap.size + 1 + 1) ≠ (w.heap.size + 1) by omega)).far ⟨(w.heap.size + 1 + 1), 7, none⟩ (.bool k2) (show (w.heap.size + 1 + 1) ≠ (w.heap.size + 1) by omega))
  have NRZ : RowIs ((((w3.setCell ⟨(w.heap.size + 1 + 1), 4, none⟩ (.int .i64 r2)).setCell ⟨(w.heap.size + 1 + 1), 5, none⟩ (.string b2)).setCell ⟨(w.heap.size + 1 + 1), 6, none⟩ (.bool e2)).setCell ⟨(w.heap.size + 1 + 1), 7, none⟩ (.bool k2)) (w.heap.size + 1 + 1) 58 [.int .i64 r, .string b, .bool e, .bool k, .int .i64 r2, .string b2, .bool e2, .bool k2, .int .i64 0, .int .i64 0] := ((((RZ.set 4 (.int .i64 r2)).set 5 (.string b2)).set 6 (.bool e2)).set 7 (.bool k2))
  have NHB := ((((HB.setCell (p := ⟨(w.heap.size + 1 + 1), 4, none⟩) (show w.heap.size ≤ (w.heap.size + 1 + 1) by omega) (.int .i64 r2)).setCell (p := ⟨(w.heap.size + 1 + 1), 5, none⟩) (show w.heap.size ≤ (w.heap.size + 1 + 1) by omega) (.string b2)).setCell (p := ⟨(w.heap.size + 1 + 1), 6, none⟩) (show w.heap.size ≤ (w.heap.size + 1 + 1) by omega) (.bool e2)).setCell (p := ⟨(w.heap.size + 1 + 1), 7, none⟩) (show w.heap.size ≤ (w.heap.size + 1 + 1) by omega) (.bool k2))
  generalize hV : ((((w3.setCell ⟨(w.heap.size + 1 + 1), 4, none⟩ (.int .i64 r2)).setCell ⟨(w.heap.size + 1 + 1), 5, none⟩ (.string b2)).setCell ⟨(w.heap.size + 1 + 1), 6, none⟩ (.bool e2)).setCell ⟨(w.heap.size + 1 + 1), 7, none⟩ (.bool k2)) = V4 at *
  clear hV
  clear RX
  have RX := NRX
  clear NRX
  clear RY
  have RY := NRY
  clear NRY
  clear RZ
  have RZ := NRZ
  clear NRZ
  clear HB
  have HB := NHB
  clear NHB
  have z8 := RowIs.cell (j := 8) RZ rfl
  have z9 := RowIs.cell (j := 9) RZ rfl
  have zf := fun j => RowIs.frozen RZ j
  have zl := RZ.lt
  have x8 := RowIs.cell (j := 8) RX rfl
  have x9 := RowIs.cell (j := 9) RX rfl
  have xf := fun j => RowIs.frozen RX j
  have xl := RX.lt
  go_upto_region 6 with fail
  clear z8 z9 zf zl
  clear x8 x9 xf xl
  have NRX : RowIs ((V4.setCell ⟨(w.heap.size + 1 + 1), 8, none⟩ (.int .i64 wt)).setCell ⟨(w.heap.size + 1 + 1), 9, none⟩ (.int .i64 cm)) w.heap.size 80 [.int .i64 r, .string b, .bool e, .bool k, .int .i64 r2, .string b2, .bool e2, .bool k2, .int .i64 wt, .int .i64 cm] := ((RX.far ⟨(w.heap.size + 1 + 1), 8, none⟩ (.int .i64 wt) (show (w.heap.size + 1 + 1) ≠ w.heap.size by omega)).far ⟨(w.heap.size + 1 + 1), 9, none⟩ (.int .i64 cm) (show (w.heap.size + 1 + 1) ≠ w.heap.size by omega))
  have NRY : RowIs ((V4.setCell ⟨(w.heap.size + 1 + 1), 8, none⟩ (.int .i64 wt)).setCell ⟨(w.heap.size + 1 + 1), 9, none⟩ (.int .i64 cm)) (w.heap.size + 1) 58 [.int .i64 0, .string ⟨#[]⟩, .bool false, .bool false, .int .i64 0, .string ⟨#[]⟩, .bool false, .bool false, .int .i64 0, .int .i64 0] := ((RY.far ⟨(w.heap.size + 1 + 1), 8, none⟩ (.int .i64 wt) (show (w.heap.size + 1 + 1) ≠ (w.heap.size + 1) by omega)).far ⟨(w.heap.size + 1 + 1), 9, none⟩ (.int .i64 cm) (show (w.heap.size + 1 + 1) ≠ (w.heap.size + 1) by omega))
  have NRZ : RowIs ((V4.setCell ⟨(w.heap.size + 1 + 1), 8, none⟩ (.int .i64 wt)).setCell ⟨(w.heap.size + 1 + 1), 9, none⟩ (.int .i64 cm)) (w.heap.size + 1 + 1) 58 [.int .i64 r, .string b, .bool e, .bool k, .int .i64 r2, .string b2, .bool e2, .bool k2, .int .i64 wt, .int .i64 cm] := ((RZ.set 8 (.int .i64 wt)).set 9 (.int .i64 cm))
  have NHB := ((HB.setCell (p := ⟨(w.heap.size + 1 + 1), 8, none⟩) (show w.heap.size ≤ (w.heap.size + 1 + 1) by omega) (.int .i64 wt)).setCell (p := ⟨(w.heap.size + 1 + 1), 9, none⟩) (show w.heap.size ≤ (w.heap.size + 1 + 1) by omega) (.int .i64 cm))
  generalize hV : ((V4.setCell ⟨(w.heap.size + 1 + 1), 8, none⟩ (.int .i64 wt)).setCell ⟨(w.heap.size + 1 + 1), 9, none⟩ (.int .i64 cm)) = V5 at *
  clear hV
  clear RX
  have RX := NRX
  clear NRX
  clear RY
  have RY := NRY
  clear NRY
  clear RZ
  have RZ := NRZ
  clear NRZ
  clear HB
  have HB := NHB
  clear NHB
  go_wp2_with (first | (refine wpList_load_row (by rfl) 58 _ (by rfl) (w.heap.size + 1 + 1) (by rfl) [.int .i64 r, .string b, .bool e, .bool k, .int .i64 r2, .string b2, .bool e2, .bool k2, .int .i64 wt, .int .i64 cm] _ 58 RZ Try.underlying58 rfl (by kernel_rfl) ?_) | (refine wpList_store_row (by rfl) 58 _ _ (by rfl) (w.heap.size + 1) [.int .i64 r, .string b, .bool e, .bool k, .int .i64 r2, .string b2, .bool e2, .bool k2, .int .i64 wt, .int .i64 cm] (by rfl) (by rfl) 58 [.int .i64 0, .string ⟨#[]⟩, .bool false, .bool false, .int .i64 0, .string ⟨#[]⟩, .bool false, .bool false, .int .i64 0, .int .i64 0] RY (by kernel_rfl) rfl (by intro u hu; simp at hu; rcases hu with rfl | rfl | rfl | rfl | rfl | rfl | rfl | rfl | rfl | rfl <;> rfl) ?_))
  have NRX := RX.kept (setRow_other V5 (w.heap.size + 1) #[.int .i64 r, .string b, .bool e, .bool k, .int .i64 r2, .string b2, .bool e2, .bool k2, .int .i64 wt, .int .i64 cm] w.heap.size (by omega))
  have NRY : RowIs (V5.setRow (w.heap.size + 1) #[.int .i64 r, .string b, .bool e, .bool k, .int .i64 r2, .string b2, .bool e2, .bool k2, .int .i64 wt, .int .i64 cm]) (w.heap.size + 1) 58 [.int .i64 r, .string b, .bool e, .bool k, .int .i64 r2, .string b2, .bool e2, .bool k2, .int .i64 wt, .int .i64 cm] := rowIs_setRow (cs' := [.int .i64 r, .string b, .bool e, .bool k, .int .i64 r2, .string b2, .bool e2, .bool k2, .int .i64 wt, .int .i64 cm]) RY
  have NRZ := RZ.kept (setRow_other V5 (w.heap.size + 1) #[.int .i64 r, .string b, .bool e, .bool k, .int .i64 r2, .string b2, .bool e2, .bool k2, .int .i64 wt, .int .i64 cm] (w.heap.size + 1 + 1) (by omega))
  have NHB := below_setRow HB (show w.heap.size ≤ (w.heap.size + 1) by omega) #[.int .i64 r, .string b, .bool e, .bool k, .int .i64 r2, .string b2, .bool e2, .bool k2, .int .i64 wt, .int .i64 cm]
  generalize hV : V5.setRow (w.heap.size + 1) #[.int .i64 r, .string b, .bool e, .bool k, .int .i64 r2, .string b2, .bool e2, .bool k2, .int .i64 wt, .int .i64 cm] = V6 at *
  clear hV
  clear RX
  have RX := NRX
  clear NRX
  clear RY
  have RY := NRY
  clear NRY
  clear RZ
  have RZ := NRZ
  clear NRZ
  clear HB
  have HB := NHB
  clear NHB
  have y0 := RowIs.cell (j := 0) RY rfl
  have y1 := RowIs.cell (j := 1) RY rfl
  have y2 := RowIs.cell (j := 2) RY rfl
  have y3 := RowIs.cell (j := 3) RY rfl
  have y4 := RowIs.cell (j := 4) RY rfl
  have y5 := RowIs.cell (j := 5) RY rfl
  have y6 := RowIs.cell (j := 6) RY rfl
  have y7 := RowIs.cell (j := 7) RY rfl
  have y8 := RowIs.cell (j := 8) RY rfl
  have y9 := RowIs.cell (j := 9) RY rfl
  have yf := fun j => RowIs.frozen RY j
  have yl := RY.lt
  refine bodyPost_ret (v := .agg #[.int .i64 r, .string b, .bool e, .bool k, .int .i64 r2, .string b2, .bool e2, .bool k2, .int .i64 wt, .int .i64 cm]) (by simp [results, Try.results65, go_sem, *]) rfl ?_
  exact ⟨rfl, HB⟩
set_option maxHeartbeats 1000000 in
theorem eqTunnel1 (t : TuD) (w : World) : Calls Try.prog 73 #[tuv t, tuv t] w fun x w' => x = .returned (.bool true) ∧ Below w.heap.size w w' := by
  obtain ⟨⟨r, b, e, k⟩, ⟨r2, b2, e2, k2⟩, wt, cm⟩ := t
  dsimp only [tuv] at *
  obtain ⟨W, hW⟩ : ∃ W, (w.alloc (.cells #[.int .i64 r, .string b, .bool e, .bool k, .int .i64 r2, .string b2, .bool e2, .bool k2, .int .i64 wt, .int .i64 cm] 58)).alloc (.cells #[.int .i64 r, .string b, .bool e, .bool k, .int .i64 r2, .string b2, .bool e2, .bool k2, .int .i64 wt, .int .i64 cm] 58) = W := ⟨_, rfl⟩
  have RX : RowIs W w.heap.size 58 [.int .i64 r, .string b, .bool e, .bool k, .int .i64 r2, .string b2, .bool e2, .bool k2, .int .i64 wt, .int .i64 cm] := by rw [← hW]; exact (rowIs_new w 58 [.int .i64 r, .string b, .bool e, .bool k, .int .i64 r2, .string b2, .bool e2, .bool k2, .int .i64 wt, .int .i64 cm]).alloc _
  have RY : RowIs W (w.heap.size + 1) 58 [.int .i64 r, .string b, .bool e, .bool k, .int .i64 r2, .string b2, .bool e2, .bool k2, .int .i64 wt, .int .i64 cm] := by have := rowIs_new (w.alloc (.cells #[.int .i64 r, .string b, .bool e, .bool k, .int .i64 r2, .string b2, .bool e2, .bool k2, .int .i64 wt, .int .i64 cm] 58)) 58 [.int .i64 r, .string b, .bool e, .bool k, .int .i64 r2, .string b2, .bool e2, .bool k2, .int .i64 wt, .int .i64 cm]; rw [hW] at this; simpa using this
  have HB : Below w.heap.size w W := by rw [← hW]; exact (((Below.refl _ _).alloc (Nat.le_refl _) _).alloc (by simp) _)
  have hw0 : (wt != wt) = false := by simp
  have hc0 : (cm != cm) = false := by simp
  go_enter Try.func73, Try.ntmps73
  have x0 := RowIs.cell (j := 0) RX rfl
  have x1 := RowIs.cell (j := 1) RX rfl
  have x2 := RowIs.cell (j := 2) RX rfl
  have x3 := RowIs.cell (j := 3) RX rfl
  have x4 := RowIs.cell (j := 4) RX rfl
  have x5 := RowIs.cell (j := 5) RX rfl
  have x6 := RowIs.cell (j := 6) RX rfl
  have x7 := RowIs.cell (j := 7) RX rfl
  have x8 := RowIs.cell (j := 8) RX rfl
  have x9 := RowIs.cell (j := 9) RX rfl
  have xf := fun j => RowIs.frozen RX j
  have xl := RX.lt
  have y0 := RowIs.cell (j := 0) RY rfl
  have y1 := RowIs.cell (j := 1) RY rfl
  have y2 := RowIs.cell (j := 2) RY rfl
  have y3 := RowIs.cell (j := 3) RY rfl
  have y4 := RowIs.cell (j := 4) RY rfl
  have y5 := RowIs.cell (j := 5) RY rfl
  have y6 := RowIs.cell (j := 6) RY rfl
  have y7 := RowIs.cell (j := 7) RY rfl
  have y8 := RowIs.cell (j := 8) RY rfl
  have y9 := RowIs.cell (j := 9) RY rfl
  have yf := fun j => RowIs.frozen RY j
  have yl := RY.lt
  go_wp2_with fail
  clear x0 x1 x2 x3 x4 x5 x6 x7 x8 x9 xf xl
  clear y0 y1 y2 y3 y4 y5 y6 y7 y8 y9 yf yl
  clear hW
  refine (eqP r b e k _).mono ?_; rintro x w1 ⟨rfl, hb⟩
  replace RX := RX.new hb
  replace RY := RY.new hb
  replace HB := bchain HB hb
  clear hb
  have x0 := RowIs.cell (j := 0) RX rfl
  have x1 := RowIs.cell (j := 1) RX rfl
  have x2 := RowIs.cell (j := 2) RX rfl
  have x3 := RowIs.cell (j := 3) RX rfl
  have x4 := RowIs.cell (j := 4) RX rfl
  have x5 := RowIs.cell (j := 5) RX rfl
  have x6 := RowIs.cell (j := 6) RX rfl
  have x7 := RowIs.cell (j := 7) RX rfl
  have x8 := RowIs.cell (j := 8) RX rfl
  have x9 := RowIs.cell (j := 9) RX rfl
  have xf := fun j => RowIs.frozen RX j
  have xl := RX.lt
  have y0 := RowIs.cell (j := 0) RY rfl
  have y1 := RowIs.cell (j := 1) RY rfl
  have y2 := RowIs.cell (j := 2) RY rfl
  have y3 := RowIs.cell (j := 3) RY rfl
  have y4 := RowIs.cell (j := 4) RY rfl
  have y5 := RowIs.cell (j := 5) RY rfl
  have y6 := RowIs.cell (j := 6) RY rfl
  have y7 := RowIs.cell (j := 7) RY rfl
  have y8 := RowIs.cell (j := 8) RY rfl
  have y9 := RowIs.cell (j := 9) RY rfl
  have yf := fun j => RowIs.frozen RY j
  have yl := RY.lt
  go_wp2_with fail
  clear x0 x1 x2 x3 x4 x5 x6 x7 x8 x9 xf xl
  clear y0 y1 y2 y3 y4 y5 y6 y7 y8 y9 yf yl
  refine (eqP r2 b2 e2 k2 _).mono ?_; rintro x w2 ⟨rfl, hb⟩
  replace RX := RX.new hb
  replace RY := RY.new hb
  replace HB := bchain HB hb
  clear hb
  have x0 := RowIs.cell (j := 0) RX rfl
  have x1 := RowIs.cell (j := 1) RX rfl
  have x2 := RowIs.cell (j := 2) RX rfl
  have x3 := RowIs.cell (j := 3) RX rfl
  have x4 := RowIs.cell (j := 4) RX rfl
  have x5 := RowIs.cell (j := 5) RX rfl
  have x6 := RowIs.cell (j := 6) RX rfl
  have x7 := RowIs.cell (j := 7) RX rfl
  have x8 := RowIs.cell (j := 8) RX rfl
  have x9 := RowIs.cell (j := 9) RX rfl
  have xf := fun j => RowIs.frozen RX j
  have xl := RX.lt
  have y0 := RowIs.cell (j := 0) RY rfl
  have y1 := RowIs.cell (j := 1) RY rfl
  have y2 := RowIs.cell (j := 2) RY rfl
  have y3 := RowIs.cell (j := 3) RY rfl
  have y4 := RowIs.cell (j := 4) RY rfl
  have y5 := RowIs.cell (j := 5) RY rfl
  have y6 := RowIs.cell (j := 6) RY rfl
  have y7 := RowIs.cell (j := 7) RY rfl
  have y8 := RowIs.cell (j := 8) RY rfl
  have y9 := RowIs.cell (j := 9) RY rfl
  have yf := fun j => RowIs.frozen RY j
  have yl := RY.lt
  go_wp2_with fail
  go_ret
  exact ⟨rfl, HB⟩
theorem array10 {α : Type} {cs : Array α} (h : cs.size = 10) : ∃ c0 c1 c2 c3 c4 c5 c6 c7 c8 c9, cs = #[c0, c1, c2, c3, c4, c5, c6, c7, c8, c9] := by
  obtain ⟨l⟩ := cs
  match l, h with
  | [c0, c1, c2, c3, c4, c5, c6, c7, c8, c9], _ => exact ⟨c0, c1, c2, c3, c4, c5, c6, c7, c8, c9, rfl⟩
open Go.ChangeShapes Go.WideShapes Go.ChangeAt Go.Joins in
theorem trod_pipe {H : Type} {enc : TypeId × Value → H} {W : World} {n : Nat} {c0 c1 c2 c3 : Value} {y : DataW H × List MemPlace} (h : DataW.trod enc Try.prog W 0 (fun _ => true) true n 78 [c0, c1, c2, c3] = some y) :
    ∃ p : PpD, p.b.size ≤ maxLen ∧ c0 = .int .i64 p.r ∧ c1 = .string p.b ∧ c2 = .bool p.e ∧ c3 = .bool p.k := by
  obtain ⟨y0, y1, y2, y3, m, _, _, h0, h1, h2, h3⟩ := trod_struct4 Try.underlying78 h
  have k0 : Try.prog.cellsOf 2 = 1 := by kernel_rfl
  have k1 : Try.prog.cellsOf 9 = 1 := by kernel_rfl
  have k2 : Try.prog.cellsOf 4 = 1 := by kernel_rfl
  simp only [k0, k1, k2, List.drop_zero, List.drop_succ_cons, List.take_succ_cons, List.take_zero] at h0 h1 h2 h3
  obtain ⟨a, e0, _, wa⟩ := DataW.trod_int Try.underlying2 h0
  obtain ⟨s, e1, _, ws⟩ := DataW.trod_string Try.underlying9 h1
  obtain ⟨x, e2, _⟩ := DataW.trod_bool Try.underlying4 h2
  obtain ⟨z, e3, _⟩ := DataW.trod_bool Try.underlying4 h3
  simp at e0 e1 e2 e3
  exact ⟨⟨a, s, x, z⟩, ws, e0, e1, e2, e3⟩
open Go.ChangeShapes Go.WideShapes Go.ChangeAt Go.Joins in
/-- A Tunnel of the laws that came in, as a value. -/
theorem open_Tunnel {H : Type} {enc : TypeId × Value → H} {W : World} {base : Nat} {v : Value} {d : DataW H} {p : List MemPlace} (hv : Value.okWide Try.prog W .any base 80 v)
    (h : DataW.Trod enc Try.prog W 0 (fun _ => true) true 80 v d p) : ∃ t : TuD, t.up.b.size ≤ maxLen ∧ t.dn.b.size ≤ maxLen ∧ v = tuv t := by
  obtain ⟨cs, rfl, hsz⟩ := okWide_struct Try.underlying80 hv
  have hc : Try.prog.cellsOf 80 = 10 := by kernel_rfl
  obtain ⟨c0, c1, c2, c3, c4, c5, c6, c7, c8, c9, rfl⟩ := array10 (hsz.trans hc)
  obtain ⟨fuel, hf⟩ := h
  obtain ⟨y0, y1, y2, y3, n, _, _, h0, h1, h2, h3⟩ := trod_struct4 Try.underlying80 hf
  have k0 : Try.prog.cellsOf 2 = 1 := by kernel_rfl
  have k1 : Try.prog.cellsOf 78 = 4 := by kernel_rfl
  simp only [k0, k1, Value.cells, List.drop_zero, List.drop_succ_cons, List.take_succ_cons, List.take_zero] at h0 h1 h2 h3
  obtain ⟨p1, q1, rfl, rfl, rfl, rfl⟩ := trod_pipe h0
  obtain ⟨p2, q2, rfl, rfl, rfl, rfl⟩ := trod_pipe h1
  obtain ⟨a, e0, _, wa⟩ := DataW.trod_int Try.underlying2 h2
  obtain ⟨a', e1, _, wa'⟩ := DataW.trod_int Try.underlying2 h3
  simp at e0 e1
  subst e0 e1
  exact ⟨⟨p1, p2, a, a'⟩, q1, q2, rfl⟩
end Go.Proofs.Ytllaeakeaabiaaa
/- Tables of the laws: counted, copied, held against each other, marked, read again; and one that came in. -/
namespace Go.Proofs.Ytllaeakeaabiaaa
open Go.RowKit
set_option maxRecDepth 100000
set_option linter.unusedSimpArgs false
set_option linter.unusedVariables false

theorem szTable1 (L : List Fd) (room : Int) (v : Value) (left : Int) (w : World) (hr0 : Reads w v L.length 2 (fv L)) (hf : ∀ f ∈ L, f.fine) (h0 : 0 ≤ left) (h1 : left ≤ 1048576) :
    Calls Try.prog 15 #[.agg #[.int .i64 room, v], .int .i64 left] w fun x w' => x = .returned (.int .i64 (if left - L.length - szL L < 0 then -1 else left - L.length - szL L)) ∧ Below w.heap.size w w' := by
  obtain ⟨ad, cap, rfl, _⟩ := hr0.2
  have HR := hide hr0
  clear hr0
  obtain ⟨R, hR⟩ : ∃ R : Int, R = if left - L.length - szL L < 0 then -1 else left - L.length - szL L := ⟨_, rfl⟩
  rw [← hR]
  go_enter Try.func15, Try.ntmps15
  have HRR := hide hR
  clear hR
  go_wp2_with fail
  refine (szFields L _ left _ (HR.out.new ((Below.refl _ _).alloc (Nat.le_refl _) _)) hf h0 h1).mono ?_; rw [← HRR.out]; rintro x w1 ⟨rfl, hb1⟩
  have hz := HRR.out
  by_cases h : left - L.length - szL L < 0
  · rw [if_pos h] at hz
    subst hz
    go_wp2_with fail
    go_ret
    exact ⟨rfl, (by repeat' (first | (with_reducible exact Below.refl _ _) | (with_reducible refine Below.drew ?_) | (with_reducible refine bo_drewN _ ?_) | (with_reducible refine bo_alloc ?_ _) | (refine bchain ?_ (by with_reducible assumption)) | (with_reducible refine Below.setCell ?_ ?_ _) | go_size))⟩
  · rw [if_neg h] at hz
    have hz0 : ¬ R < 0 := by omega
    clear hz
    go_wp2_with fail
    go_ret
    exact ⟨rfl, (by repeat' (first | (with_reducible exact Below.refl _ _) | (with_reducible refine Below.drew ?_) | (with_reducible refine bo_drewN _ ?_) | (with_reducible refine bo_alloc ?_ _) | (refine bchain ?_ (by with_reducible assumption)) | (with_reducible refine Below.setCell ?_ ?_ _) | go_size))⟩

theorem toTable1 (L : List Fd) (room : Int) (v : Value) (w : World) (hr0 : Reads w v L.length 2 (fv L)) (hL : L.length ≤ 1048576) :
    Calls Try.prog 24 #[.agg #[.int .i64 room, v]] w fun x w' => ∃ v', x = .returned (.agg #[.int .i64 room, v']) ∧ w'.ownsRow w.heap.size 85 2 v' L.length (fv L) ∧ Below w.heap.size w w' := by
  obtain ⟨ad, cap, rfl, _⟩ := hr0.2
  have HR := hide hr0
  clear hr0
  go_enter Try.func24, Try.ntmps24
  go_wp2_with fail
  refine (toFields L _ _ ?c1 hL).mono ?_
  case c1 => exact HR.out.new (by repeat' (first | (with_reducible exact Below.refl _ _) | (with_reducible refine Below.drew ?_) | (with_reducible refine bo_drewN _ ?_) | (with_reducible refine bo_alloc ?_ _) | (refine bchain ?_ (by with_reducible assumption)) | (with_reducible refine Below.setCell ?_ ?_ _) | go_size))
  rintro x w1 ⟨v1, rfl, ho, hb1⟩; have hz1 := hb1.size; (try simp at hz1); have hc1 := fun o => hb1.cell (p := ⟨w.heap.size, o, none⟩) (by first | (simp; done) | (simp; omega) | omega); have hf1 := fun o => hb1.frozen (p := ⟨w.heap.size, o, none⟩) (by first | (simp; done) | (simp; omega) | omega); have hcn1 := fun o => hb1.cell (p := ⟨w.heap.size + 1, o, none⟩) (by first | (simp; done) | (simp; omega) | omega); have hfn1 := fun o => hb1.frozen (p := ⟨w.heap.size + 1, o, none⟩) (by first | (simp; done) | (simp; omega) | omega); have hcm1 := fun o => hb1.cell (p := ⟨w.heap.size + 2, o, none⟩) (by first | (simp; done) | (simp; omega) | omega); have hfm1 := fun o => hb1.frozen (p := ⟨w.heap.size + 2, o, none⟩) (by first | (simp; done) | (simp; omega) | omega)
  have hbw : Below w.heap.size w w1 := (by repeat' (first | (with_reducible exact Below.refl _ _) | (with_reducible refine Below.drew ?_) | (with_reducible refine bo_drewN _ ?_) | (with_reducible refine bo_alloc ?_ _) | (refine bchain ?_ (by with_reducible assumption)) | (with_reducible refine Below.setCell ?_ ?_ _) | go_size))
  obtain ⟨ad1, cap1, rfl, _⟩ := owns_form ho
  have hc2 : ∀ k, (Value.slice ad1 L.length cap1).ownBlock = some k → w.heap.size + 3 ≤ k ∧ k < w1.heap.size := fun k hk => by have := ho.lt k hk; simpa using this
  have HO := hide ho
  clear ho
  have HC := hide hc2
  clear hc2
  go_wp2_with fail
  refine bodyPost_ret (v := .agg #[.int .i64 room, .slice ad1 L.length cap1]) (by simp [results, Try.results24, go_sem, *]) rfl ?_
  have ho : w1.ownsRow w.heap.size 85 2 (.slice ad1 L.length cap1) L.length (fv L) := owns_base HO.out fun k hk => by have := HC.out k hk; omega
  have hv : ∀ k, (Value.slice ad1 L.length cap1).ownBlock = some k → w.heap.size + 3 ≤ k := fun k hk => (HC.out k hk).1
  exact ⟨_, rfl, (by repeat' (first | (with_reducible exact ho) | (with_reducible refine owns_far _ ?_ hv _ _ ?_) | (with_reducible refine World.ownsRow.alloc ?_ _) | (simp; done) | (simp; omega))), (by repeat' (first | (with_reducible exact Below.refl _ _) | (with_reducible refine Below.drew ?_) | (with_reducible refine bo_drewN _ ?_) | (with_reducible refine bo_alloc ?_ _) | (refine bchain ?_ (by with_reducible assumption)) | (with_reducible refine Below.setCell ?_ ?_ _) | go_size))⟩

theorem eqTable1 (L : List Fd) (room : Int) (v v' : Value) (w : World) (hr0 : Reads w v L.length 2 (fv L)) (hr1 : Reads w v' L.length 2 (fv L)) :
    Calls Try.prog 28 #[.agg #[.int .i64 room, v], .agg #[.int .i64 room, v']] w fun x w' => x = .returned (.bool true) ∧ Below w.heap.size w w' := by
  obtain ⟨ad, cap, rfl, _⟩ := hr0.2
  obtain ⟨ad', cap', rfl, _⟩ := hr1.2
  have HR := hide hr0; have HR' := hide hr1
  clear hr0 hr1
  go_enter Try.func28, Try.ntmps28
  go_wp2_with fail
  refine (eqFields L _ _ _ ?c1 ?c2).mono ?_
  case c1 => exact HR.out.new (by repeat' (first | (with_reducible exact Below.refl _ _) | (with_reducible refine Below.drew ?_) | (with_reducible refine bo_drewN _ ?_) | (with_reducible refine bo_alloc ?_ _) | (refine bchain ?_ (by with_reducible assumption)) | (with_reducible refine Below.setCell ?_ ?_ _) | go_size))
  case c2 => exact HR'.out.new (by repeat' (first | (with_reducible exact Below.refl _ _) | (with_reducible refine Below.drew ?_) | (with_reducible refine bo_drewN _ ?_) | (with_reducible refine bo_alloc ?_ _) | (refine bchain ?_ (by with_reducible assumption)) | (with_reducible refine Below.setCell ?_ ?_ _) | go_size))
  rintro x w1 ⟨rfl, hb1⟩
  go_wp2_with fail
  go_ret
  exact ⟨rfl, (by repeat' (first | (with_reducible exact Below.refl _ _) | (with_reducible refine Below.drew ?_) | (with_reducible refine bo_drewN _ ?_) | (with_reducible refine bo_alloc ?_ _) | (refine bchain ?_ (by with_reducible assumption)) | (with_reducible refine Below.setCell ?_ ?_ _) | go_size))⟩

theorem heldTable1 (n k : Nat) (room : Int) (v : Value) (w : World) (hr0 : Reads w v n 2 (mkT k (n * 2))) (hk1 : k + n * 2 ≤ 1000000000) :
    Calls Try.prog 34 #[.agg #[.int .i64 room, v], .int .i64 k] w fun x w' => x = .returned (.int .i64 ((k + n * 2 : Nat) : Int)) ∧ Below w.heap.size w w' := by
  obtain ⟨ad, cap, rfl, _⟩ := hr0.2
  have HR := hide hr0
  clear hr0
  obtain ⟨K, hK⟩ : ∃ K : Nat, K = k + n * 2 := ⟨_, rfl⟩
  rw [← hK]
  have HK := hide hK
  clear hK
  go_enter Try.func34, Try.ntmps34
  go_wp2_with fail
  refine (heldFields n k _ _ ?c1 hk1).mono ?_
  case c1 => exact HR.out.new (by repeat' (first | (with_reducible exact Below.refl _ _) | (with_reducible refine Below.drew ?_) | (with_reducible refine bo_drewN _ ?_) | (with_reducible refine bo_alloc ?_ _) | (refine bchain ?_ (by with_reducible assumption)) | (with_reducible refine Below.setCell ?_ ?_ _) | go_size))
  rw [← HK.out]
  rintro x w1 ⟨rfl, hb1⟩
  go_wp2_with fail
  go_ret
  exact ⟨rfl, (by repeat' (first | (with_reducible exact Below.refl _ _) | (with_reducible refine Below.drew ?_) | (with_reducible refine bo_drewN _ ?_) | (with_reducible refine bo_alloc ?_ _) | (refine bchain ?_ (by with_reducible assumption)) | (with_reducible refine Below.setCell ?_ ?_ _) | go_size))⟩

theorem markTable1 (n k : Nat) (room : Int) (v : Value) (xs : List Value) (lo : Nat) (w : World) (ho : w.ownsRow lo 85 2 v n xs) (hk1 : k + n * 2 ≤ 1000000000) :
    Calls Try.prog 31 #[.agg #[.int .i64 room, v], .int .i64 k] w fun x w' => x = .returned (.int .i64 ((k + n * 2 : Nat) : Int)) ∧ w'.ownsRow lo 85 2 v n (mkT k (n * 2)) ∧ w.grownBy w' v.ownBlock := by
  obtain ⟨ad, cap, rfl, h1, h2⟩ := owns_form ho
  have HO := hide ho
  clear ho
  obtain ⟨K, hK⟩ : ∃ K : Nat, K = k + n * 2 := ⟨_, rfl⟩
  rw [← hK]
  have HK := hide hK
  clear hK
  go_enter Try.func31, Try.ntmps31
  go_wp2_with fail
  refine (markFields n k _ _ lo _ (HO.out.alloc _) hk1).mono ?_
  rw [← HK.out]
  rintro x w1 ⟨rfl, ho1, hg1⟩
  have HO1 := hide ho1
  have HG := hide (gb_trans (gb_new ((Below.refl w.heap.size w).alloc (Nat.le_refl _) _) _) hg1)
  clear ho1 hg1
  go_wp2_with fail
  go_ret
  exact ⟨rfl, HO1.out, HG.out⟩

open Go.ChangeShapes Go.WideShapes Go.ChangeAt Go.Joins Go.Deep in
theorem cells2 {H : Type} {enc : TypeId × Value → H} {W : World} {base : Nat} {spare : Nat → Bool} {held : Bool} {t : TypeId} {f0 f1 : Field} {fuel : Nat} {cs : List Value} {x : DataW H × List MemPlace} (hs : Try.prog.underlying t = some (.struct #[f0, f1])) (hone : oneCellFields Try.prog #[f0, f1] = true) (hC : Try.prog.cellsOf t = 2)
    (h : DataW.trod enc Try.prog W base spare held fuel t cs = some x) :
    ∃ (c0 c1 : Value) (y0 y1 : DataW H × List MemPlace) (n : Nat), cs = [c0, c1] ∧ DataW.trod enc Try.prog W base spare held n f0.type [c0] = some y0 ∧ DataW.trod enc Try.prog W base spare held n f1.type [c1] = some y1 := by
  obtain ⟨y0, y1, n, hx, hl, h0, h1⟩ := trod_struct2 hs h
  obtain ⟨o0, k0⟩ := hone_of hone 0 f0 rfl
  obtain ⟨o1, k1⟩ := hone_of hone 1 f1 rfl
  rw [hC] at hl
  match cs, hl with
  | [c0, c1], _ => exact ⟨c0, c1, y0, y1, n, rfl, by simpa [o0, k0] using h0, by simpa [o1, k1] using h1⟩

open Go.ChangeShapes Go.WideShapes Go.ChangeAt Go.Joins in
theorem open_fcells {H : Type} {enc : TypeId × Value → H} {W : World} {base : Nat} {spare : Nat → Bool} {held : Bool} {fuel : Nat} {cs : List Value} {x : DataW H × List MemPlace} (h : DataW.trod enc Try.prog W base spare held fuel 102 cs = some x) : ∃ f : Fd, cs = f.cs ∧ f.fine := by
  obtain ⟨a0, a1, z0, z1, n', rfl, h0, h1⟩ := cells2 Try.underlying102 (by kernel_rfl) (by kernel_rfl) h
  obtain ⟨s0, e0, _, hs0⟩ := DataW.trod_string Try.underlying9 h0
  obtain ⟨s1, e1, _, hs1⟩ := DataW.trod_string Try.underlying9 h1
  simp only [List.cons.injEq, and_true] at e0 e1
  subst e0 e1
  exact ⟨⟨s0, s1⟩, rfl, by unfold maxLen at hs0; simp only; omega, by unfold maxLen at hs1; simp only; omega⟩

open Go.ChangeShapes Go.WideShapes Go.ChangeAt Go.Joins in
theorem open_Table {H : Type} {enc : TypeId × Value → H} {W : World} {base : Nat} {v : Value} {d : DataW H} {p : List MemPlace} (hv : Value.okWide Try.prog W .any base 27 v)
    (h : DataW.Trod enc Try.prog W 0 (fun _ => true) true 27 v d p) : ∃ (room : Int) (rv : Value) (L : List Fd), v = .agg #[.int .i64 room, rv] ∧ Reads W rv L.length 2 (fv L) ∧ ∀ f ∈ L, f.fine := by
  obtain ⟨c0, c1, y0, y1, n, rfl, _, _, hy0, hy1⟩ := open_agg2 Try.underlying27 (by kernel_rfl) (by kernel_rfl) hv h
  obtain ⟨i0, e0, _⟩ := DataW.trod_int Try.underlying2 hy0
  simp only [List.cons.injEq, and_true] at e0
  subst e0
  obtain ⟨L, hL, hF⟩ := open_rows (α := Fd) ⟨⟨#[]⟩, ⟨#[]⟩⟩ Fd.cs 2 fcs_len Fd.fine Try.underlying25 (by kernel_rfl) (by decide) (fun cs n y hy => open_fcells hy) hy1
  exact ⟨i0, c1, L, rfl, hL, hF⟩
open Go.ChangeShapes Go.WideShapes Go.ChangeAt Go.Joins in
theorem open_Field {H : Type} {enc : TypeId × Value → H} {W : World} {base : Nat} {v : Value} {d : DataW H} {p : List MemPlace} (hv : Value.okWide Try.prog W .any base 102 v)
    (h : DataW.Trod enc Try.prog W 0 (fun _ => true) true 102 v d p) : ∃ f : Fd, v = .agg #[.string f.n, .string f.v] ∧ f.fine := by
  obtain ⟨c0, c1, y0, y1, n, rfl, _, _, hy0, hy1⟩ := open_agg2 Try.underlying102 (by kernel_rfl) (by kernel_rfl) hv h
  obtain ⟨s0, e0, _, hs0⟩ := DataW.trod_string Try.underlying9 hy0
  obtain ⟨s1, e1, _, hs1⟩ := DataW.trod_string Try.underlying9 hy1
  simp only [List.cons.injEq, and_true] at e0 e1
  subst e0 e1
  exact ⟨⟨s0, s1⟩, rfl, by unfold maxLen at hs0; simp only; omega, by unfold maxLen at hs1; simp only; omega⟩
end Go.Proofs.Ytllaeakeaabiaaa
/- A row that a slice literal makes, and rows of int64 behind an append. -/
namespace Go.Proofs.Ytllaeakeaabiaaa
open Go.RowKit
set_option maxRecDepth 100000
set_option linter.unusedSimpArgs false
set_option linter.unusedVariables false
theorem owns_lit (w : World) (e : TypeId) (size n : Nat) (xs : Array Value) (hx : xs.size = n * size) (hn : n ≤ 1000000) : (w.alloc (.cells xs e)).ownsRow w.heap.size e size (.slice (some ⟨w.heap.size, 0, none⟩) n n) n xs.toList :=
  ⟨by simp [hx], .inr ⟨w.heap.size, n, xs, rfl, Nat.le_refl _, heap_alloc_last w _, Nat.le_refl _, by unfold maxLen; omega, hx, by rw [List.take_of_length_le (by simp [hx])]⟩⟩
theorem reads_int1 (w : World) (z : Int) : Reads (w.alloc (.cells #[.int .i64 z] 2)) (.slice (some ⟨w.heap.size, 0, none⟩) 1 1) 1 1 (iv [z]) := reads_of_owns (owns_lit w 2 1 1 #[.int .i64 z] rfl (by omega))
theorem iv_app (A B : List Int) : iv (A ++ B) = iv A ++ iv B := by simp [iv]
theorem iv_one (L : List Int) : ∀ u ∈ iv L, u.oneCell' = true := by
  intro u hu
  obtain ⟨z, _, rfl⟩ := List.mem_map.1 hu
  rfl
/-- How many elements a slice tells that it has. -/
def slLen : Value → Nat
  | .slice _ n _ => n
  | _ => 0
end Go.Proofs.Ytllaeakeaabiaaa
/- What the Go functions of chapter 1 that push and pull answer at every argument. -/
namespace Go.Proofs.Ytllaeakeaabiaaa
open Go.RowKit
set_option maxRecDepth 100000
set_option linter.unusedSimpArgs false
set_option linter.unusedVariables false





end Go.Proofs.Ytllaeakeaabiaaa
