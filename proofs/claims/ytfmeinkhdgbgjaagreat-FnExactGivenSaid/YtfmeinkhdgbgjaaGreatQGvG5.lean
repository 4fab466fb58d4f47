/- Several small texts of one level, one behind the other. -/
import Derived.Test.YtfmeinkhdgbgjaaGreatQGvG4
import Derived.Test.YtfmeinkhdgbgjaaGreatQGvG2
import Derived.Test.YtfmeinkhdgbgjaaGreatQGvG1
import Derived.Handy
import Derived.Lib.SmallJoins
import Derived.Lib.EndianBits
import Derived.Test.YtfmeinkhdgbgjaaGreatQGvG3
import Derived.RangeFuncNested
import Derived.RangeFuncBound
import Derived.RangeFuncCalls
import Derived.RangeFuncLeaves
import Derived.Shelf.Abstract
import Derived.Shelf.RegionOpen
import Derived.WalkKit
import Derived.OwnWalkIn
import Derived.TacticsInMore
import Derived.LoopNIn
import Derived.LoopIn
import Derived.Maps.AppendAt
import Derived.RangeFuncBox
import Derived.Laws.AppendOwn
import Derived.Laws.IdiomStrings
import Derived.Lib.BufferRead
import Derived.OpenShut
import Derived.ChangeOld
import Derived.Deep.Cut
import Derived.Deep.DeepCutAuto
import Derived.Deep.WholeRow
import Derived.Laws.StructEq
import Derived.Laws.CopyRow
import Derived.Maps.OwnOps
import Derived.Deep.RegionHeld3
/- Entry in memory: its datum, its make; counted, copied, held against each other, marked, read again (by gen_shape.py). -/
namespace Go.Proofs.YtfmeinkhdgbgjaaGreat
open Go.RowKit
set_option maxRecDepth 100000
set_option linter.unusedSimpArgs false
set_option linter.unusedVariables false

/-- What a Entry holds. -/
structure EntryD where
  id : Int
  state : Int
def EntryD.cs (d : EntryD) : List Value := [.int .i64 d.id, .int .i64 d.state]
def entryS : Shp EntryD where
  size := 2
  ty := 101
  rd := fun _ cs d => cs = d.cs
  own := fun _ cs d bs => cs = d.cs ∧ bs = []
  pos := by decide
  rd_len := fun h => by subst h; rfl
  rd_one := fun h u hu => by subst h; simp only [EntryD.cs, List.mem_cons, List.not_mem_nil, or_false] at hu; rcases hu with rfl | rfl <;> rfl
  rd_new := fun h _ => h
  own_rd := fun h => h.1
  own_keep := fun h _ _ => h
  own_lt := fun h b hb => by rw [h.2] at hb; cases hb
def szEntryS (L : List EntryD) : Int := L.length
theorem szEntryS_nn (L : List EntryD) : 0 ≤ szEntryS L := by unfold szEntryS; omega
theorem szEntryS_len (L : List EntryD) : (L.length : Int) ≤ szEntryS L := by unfold szEntryS; omega
/-- The marks of one in a row, from k on; how many; and of a row. -/
def mkEntry (d : EntryD) (k : Nat) : EntryD := ⟨((k : Nat) : Int), ((k + 1 : Nat) : Int)⟩
def cntEntry (d : EntryD) : Nat := 1 + 1
def mkEntryS (L : List EntryD) (k : Nat) : List EntryD := mkLs mkEntry cntEntry L k
def cntEntryS (L : List EntryD) : Nat := cntLs cntEntry L
theorem toEntry1 (d : EntryD) (w : World) : Calls Tryz.prog 220 #[.agg #[.int .i64 d.id, .int .i64 d.state]] w fun x w' => x = .returned (.agg #[.int .i64 d.id, .int .i64 d.state]) ∧ Below w.heap.size w w' := by
  go_enter Tryz.func220, Tryz.ntmps220
  go_wp2
  go_returns
  exact ⟨rfl, (by repeat' (first | (with_reducible exact Below.refl _ _) | (with_reducible refine Below.drew ?_) | (with_reducible refine bo_drewN _ ?_) | (with_reducible refine bo_alloc ?_ _) | (refine bchain ?_ (by with_reducible assumption)) | (with_reducible refine Below.setCell ?_ ?_ _) | go_size))⟩
theorem eqEntry1 (d : EntryD) (w : World) : Calls Tryz.prog 228 #[.agg #[.int .i64 d.id, .int .i64 d.state], .agg #[.int .i64 d.id, .int .i64 d.state]] w fun x w' => x = .returned (.bool true) ∧ Below w.heap.size w w' := by
  go_enter Tryz.func228, Tryz.ntmps228
  go_wp2
  go_ret
  exact ⟨rfl, (by repeat' (first | (with_reducible exact Below.refl _ _) | (with_reducible refine Below.drew ?_) | (with_reducible refine bo_drewN _ ?_) | (with_reducible refine bo_alloc ?_ _) | (refine bchain ?_ (by with_reducible assumption)) | (with_reducible refine Below.setCell ?_ ?_ _) | go_size))⟩
set_option maxHeartbeats 2000000 in
theorem toEntryS (L : List EntryD) (v : Value) (w : World) (hr : RdR entryS w v L) (hz : szEntryS L ≤ 1048576) :
    Calls Tryz.prog 154 #[v] w fun x w' => ∃ v', x = .returned v' ∧ OwX entryS w' w.heap.size w'.heap.size v' L ∧ Below w.heap.size w w' := by
  have hL : L.length ≤ 1048576 := by have := szEntryS_len L; omega
  obtain ⟨M, hM, hmk⟩ := make_row 24 101 (.agg #[.int .i64 0, .int .i64 0]) 2 16 Tryz.underlying24 (by kernel_rfl) rfl (by decide) (by decide) L.length hL
  have hst := filling_start (E := entryS) (owns_made w M 101 2 L.length hM hL)
  obtain ⟨ad, cap, rfl, h1, h2⟩ := hr.form
  have HR := hide hr
  clear hr
  have HZ := hide hz
  clear hz
  go_enter Tryz.func154, Tryz.ntmps154
  go_wp2_with fail
  go_loopw [4] (fun i wr => ∃ (k : Nat), i = .int .i64 k ∧ k ≤ L.length ∧ Hid (Filling entryS w wr L k)) (fun i _ => L.length - (intOf i).toNat)
  case atStart => exact ⟨0, rfl, Nat.zero_le _, hst⟩
  case round =>
    clear hst hmk
    obtain ⟨k, rfl, hk, HFI⟩ := hrel
    by_cases hlt : k < L.length
    · have hb : Below w.heap.size w wr := HFI.out.2.1
      have hrk := (HR.out.new hb).at k hlt
      have hmem : L[k] ∈ L := List.getElem_mem hlt
      obtain ⟨d, hd⟩ : ∃ d, d = L[k] := ⟨_, rfl⟩
      rw [← hd] at hrk hmem
      obtain ⟨b, o, cs, rfl, hbw, hrd, hc⟩ := hrk
      obtain rfl := hrd
      have c0 : wr.cell? ⟨b, o + k * 2, none⟩ = some (.int .i64 d.id) := hc 0 _ rfl
      have c1 : wr.cell? ⟨b, o + k * 2 + 1, none⟩ = some (.int .i64 d.state) := hc 1 _ rfl
      clear hc
      have HD := hide hd
      clear hd hmem
      go_wp2_with fail
      refine (toEntry1 d _).mono ?_; rintro x w1 ⟨rfl, hb1⟩
      have hoe : OwE entryS w1 wr.heap.size w1.heap.size [.int .i64 d.id, .int .i64 d.state] d := ⟨[], ⟨rfl, rfl⟩, by simp, fun b hb => by cases hb⟩
      rw [HD.out] at hoe
      obtain ⟨hcell, hfr, hlw, hfi⟩ := filling_step HFI.out hlt hb1 hoe
      rw [← HD.out] at hfi
      obtain ⟨x0, hx0⟩ : ∃ u, w1.cell? ⟨w.heap.size, k * 2, none⟩ = some u := hcell 0 (by decide)
      obtain ⟨x1, hx1⟩ : ∃ u, w1.cell? ⟨w.heap.size, k * 2 + 1, none⟩ = some u := hcell 1 (by decide)
      have e6 := hfr
      have HF2 := hide hfi
      clear hcell hfr hfi hoe
      go_wp2_with fail
      go_roundw
      case rel => exact ⟨k + 1, by go_num, by omega, HF2.out⟩
      case measure => simp [intOf]; omega
    · obtain rfl : k = L.length := by omega
      obtain ⟨hox, hbx⟩ := filling_end HFI.out
      have HX := hide hox
      clear hox
      go_wp2_with fail
      go_ret
      exact ⟨_, rfl, HX.out, hbx⟩
set_option maxHeartbeats 1000000 in
theorem eqEntryS (L : List EntryD) (v v' : Value) (w : World) (hr0 : RdR entryS w v L) (hr1 : RdR entryS w v' L) :
    Calls Tryz.prog 163 #[v, v'] w fun x w' => x = .returned (.bool true) ∧ Below w.heap.size w w' := by
  obtain ⟨ad, cap, rfl, h1, h2⟩ := hr0.form
  obtain ⟨ad', cap', rfl, h1', h2'⟩ := hr1.form
  have HR := hide hr0; have HR' := hide hr1
  clear hr0 hr1
  go_enter Tryz.func163, Tryz.ntmps163
  go_wp2_with fail
  go_loopw [5] (fun i wr => ∃ (k : Nat), i = .int .i64 k ∧ k ≤ L.length ∧ Below w.heap.size w wr) (fun i _ => L.length - (intOf i).toNat)
  case atStart => exact ⟨0, rfl, Nat.zero_le _, Below.refl _ _⟩
  case round =>
    obtain ⟨k, rfl, hk, hb⟩ := hrel
    by_cases hlt : k < L.length
    · have hrk := (HR.out.new hb).at k hlt
      have hrk' := (HR'.out.new hb).at k hlt
      obtain ⟨d, hd⟩ : ∃ d, d = L[k] := ⟨_, rfl⟩
      rw [← hd] at hrk hrk'
      clear hd
      obtain ⟨b, o, cs, rfl, hb1, hrd, hc⟩ := hrk
      obtain ⟨b', o', cs', rfl, hb2, hrd', hc'⟩ := hrk'
      obtain rfl := hrd
      obtain rfl := hrd'
      have c0 : wr.cell? ⟨b, o + k * 2, none⟩ = some (.int .i64 d.id) := hc 0 _ rfl
      have c1 : wr.cell? ⟨b, o + k * 2 + 1, none⟩ = some (.int .i64 d.state) := hc 1 _ rfl
      have d0 : wr.cell? ⟨b', o' + k * 2, none⟩ = some (.int .i64 d.id) := hc' 0 _ rfl
      have d1 : wr.cell? ⟨b', o' + k * 2 + 1, none⟩ = some (.int .i64 d.state) := hc' 1 _ rfl
      clear hc hc'
      go_wp2_with fail
      have qa0 : ∀ y : Later wr, y.w.cell? ⟨b, o + k * 2, none⟩ = some (.int .i64 d.id) := fun y => (y.b.cell (p := ⟨b, o + k * 2, none⟩) hb1).trans c0
      have qa1 : ∀ y : Later wr, y.w.cell? ⟨b, o + k * 2 + 1, none⟩ = some (.int .i64 d.state) := fun y => (y.b.cell (p := ⟨b, o + k * 2 + 1, none⟩) hb1).trans c1
      have qb0 : ∀ y : Later wr, y.w.cell? ⟨b', o' + k * 2, none⟩ = some (.int .i64 d.id) := fun y => (y.b.cell (p := ⟨b', o' + k * 2, none⟩) hb2).trans d0
      have qb1 : ∀ y : Later wr, y.w.cell? ⟨b', o' + k * 2 + 1, none⟩ = some (.int .i64 d.state) := fun y => (y.b.cell (p := ⟨b', o' + k * 2 + 1, none⟩) hb2).trans d1
      clear c0 c1 d0 d1
      have hne : Nonempty (Later wr) := ⟨⟨wr, Below.refl _ _⟩⟩; refine region_later (by kernel_rfl) (by kernel_rfl) ?_
      repeat (go_big_quiet_step (fail))
      go_big_quiet_want; go_big_quiet_op
      refine ⟨.bool true, fun y => later_calls (x := y) (eqEntry1 d y.w), ?_⟩
      go_big_quiet_on
      repeat (go_big_quiet_step (fail))
      refine wpQuiet_nil ?_; intro _ hw'; obtain ⟨y, hw''⟩ := hw'; subst hw''; have hby := y.b
      go_wp2_with fail
      go_roundw
      case rel => exact ⟨k + 1, by go_num, by omega, bchain hb hby⟩
      case measure => simp [intOf]; omega
    · go_wp2_with fail
      go_ret
      exact ⟨rfl, hb⟩
set_option maxHeartbeats 1000000 in
theorem szEntryS1 (L : List EntryD) (v : Value) (left : Int) (w : World) (hr : RdR entryS w v L) (h0 : 0 ≤ left) (h1 : left ≤ 1048576) :
    Calls Tryz.prog 148 #[v, .int .i64 left] w fun x w' => (x = .returned (.int .i64 (-1)) ∨ (x = .returned (.int .i64 (left - szEntryS L)) ∧ 0 ≤ left - szEntryS L)) ∧ Below w.heap.size w w' := by
  obtain ⟨ad, cap, rfl, h2, h3⟩ := hr.form
  have HR := hide hr
  clear hr
  unfold szEntryS
  by_cases h : left - L.length < 0
  · go_enter Tryz.func148, Tryz.ntmps148
    go_wp2
    go_ret
    exact ⟨.inl rfl, Below.refl _ _⟩
  · go_enter Tryz.func148, Tryz.ntmps148
    go_wp2
    go_ret
    exact ⟨.inr ⟨rfl, by omega⟩, Below.refl _ _⟩
set_option maxHeartbeats 2000000 in
theorem markEntryS (L : List EntryD) (k : Nat) (v : Value) (bs : List Nat) (w : World) (ho : OwR entryS w v L bs) (hn : bs.Nodup) (hk1 : k + cntEntryS L ≤ 1000000000) :
    Calls Tryz.prog 166 #[v, .int .i64 k] w fun x w' => x = .returned (.int .i64 ((k + cntEntryS L : Nat) : Int)) ∧ OwR entryS w' v (mkEntryS L k) bs ∧ TurnB bs w w' := by
  obtain ⟨ad, cap, rfl, h1, h2⟩ := ho.rd.form
  unfold cntEntryS mkEntryS at *
  have HO0 : Hid (OwR entryS w (.slice ad L.length cap) (mixLs mkEntry cntEntry L k 0) bs) := by show OwR _ _ _ _ _; rw [mix_zero]; exact ho
  clear ho
  have HN := hide hn
  clear hn
  go_enter Tryz.func166, Tryz.ntmps166
  go_wp2_with fail
  go_loopw [1, 5] (fun kk i wr => ∃ (j : Nat), i = .int .i64 j ∧ kk = .int .i64 ((k + cntLs cntEntry (L.take j) : Nat) : Int) ∧ j ≤ L.length ∧ Hid (OwR entryS wr (.slice ad L.length cap) (mixLs mkEntry cntEntry L k j) bs) ∧ Hid (TurnB bs w wr)) (fun _ i _ => L.length - (intOf i).toNat)
  case atStart => exact ⟨0, rfl, by simp [cntLs], Nat.zero_le _, HO0, TurnB.refl _ _⟩
  case round =>
    clear HO0
    obtain ⟨j, rfl, rfl, hj, HO, HT⟩ := hrel
    by_cases hlt : j < L.length
    · have hct := cnt_take cntEntry L j hlt
      have hcl := cnt_le cntEntry L (j + 1)
      have hst := mix_step mkEntry cntEntry L k j hlt
      have hat := mix_at mkEntry cntEntry L k j hlt (by rw [mix_len _ _ L k j hj]; exact hlt)
      have hml := mix_len mkEntry cntEntry L k j hj
      obtain ⟨d, hd⟩ : ∃ d, d = L[j] := ⟨_, rfl⟩
      rw [← hd] at hct hst hat
      obtain ⟨K, hK⟩ : ∃ K : Nat, K = k + cntLs cntEntry (L.take j) := ⟨_, rfl⟩
      rw [← hK] at hst ⊢
      obtain ⟨M, hM⟩ : ∃ M, M = mixLs mkEntry cntEntry L k j := ⟨_, rfl⟩
      rw [← hM] at hst hml
      have HO1 : Hid (OwR entryS wr (.slice ad L.length cap) M bs) := by show OwR _ _ _ _ _; rw [hM]; exact HO.out
      have HAT : Hid (∀ h : j < M.length, M[j] = d) := fun h => by subst hM; exact hat
      have hKc : K + cntEntry d = k + cntLs cntEntry (L.take (j + 1)) := by omega
      have HKC := hide hKc
      have hKb : K + cntEntry d ≤ 1000000000 := by omega
      unfold cntEntry at hKb
      have HST := hide hst
      have hjM : j < M.length := by omega
      clear hct hcl hst hat hM HO hd hK hKc
      obtain ⟨g1, c1, cs, bb, e1, hgl1, hgm, hgb, hsub, hbn, hown, hcell, hfr, _, hkeep, hsets⟩ := HO1.out.put HN.out j (by simpa using hjM)
      have eq1 : (M)[j]'(by simpa using hjM) = d := HAT.out hjM
      rw [eq1] at hown
      obtain ⟨rfl, hbb⟩ := hown
      simp only [Value.slice.injEq] at e1
      obtain ⟨rfl, -, -⟩ := e1
      have c1_0 : wr.cell? ⟨g1, j * 2, none⟩ = some (.int .i64 d.id) := hcell 0 _ rfl
      have c1_1 : wr.cell? ⟨g1, j * 2 + 1, none⟩ = some (.int .i64 d.state) := hcell 1 _ rfl
      have HO2 : Hid (OwR entryS (setsFrom wr g1 (j * entryS.size + ([] : List Value).length) [.int .i64 ((K : Nat) : Int), .int .i64 ((K + 1 : Nat) : Int)]) _ ((M).set j ⟨((K : Nat) : Int), ((K + 1 : Nat) : Int)⟩) bs) := hsets [] [.int .i64 d.id, .int .i64 d.state] [] [.int .i64 ((K : Nat) : Int), .int .i64 ((K + 1 : Nat) : Int)] ⟨((K : Nat) : Int), ((K + 1 : Nat) : Int)⟩ rfl rfl ⟨rfl, hbb⟩
      have HT2 : Hid (TurnB bs w (setsFrom wr g1 (j * entryS.size + ([] : List Value).length) [.int .i64 ((K : Nat) : Int), .int .i64 ((K + 1 : Nat) : Int)])) := TurnB.setsFrom g1 hgm _ _ _ HT.out
      have f1 := hfr
      clear hcell hfr hkeep hsets hsub hbn hgb hbb eq1
      go_wp2_with fail
      change Hid (OwR entryS ((wr.setCell ⟨g1, j * 2, none⟩ (.int .i64 ((K : Nat) : Int))).setCell ⟨g1, j * 2 + 1, none⟩ (.int .i64 ((K + 1 : Nat) : Int))) _ _ _) at HO2
      change Hid (TurnB bs w ((wr.setCell ⟨g1, j * 2, none⟩ (.int .i64 ((K : Nat) : Int))).setCell ⟨g1, j * 2 + 1, none⟩ (.int .i64 ((K + 1 : Nat) : Int)))) at HT2
      refine ⟨⟨j + 1, ?_, ?_, ?_, ?_, ?_⟩, ?_⟩
      · go_num
      · exact int_eq (by have h1 := HKC.out; have h2 : cntEntry d = 1 + 1 := rfl; omega)
      · omega
      · show OwR _ _ _ _ _
        rw [← HST.out]
        exact HO2.out
      · exact HT2.out
      · simp [intOf]; omega
    · obtain rfl : j = L.length := by omega
      rw [mix_end] at HO
      rw [List.take_length]
      go_wp2_with fail
      go_ret
      exact ⟨rfl, HO.out, HT.out⟩
set_option maxHeartbeats 1000000 in
theorem heldEntryS (L : List EntryD) (k : Nat) (v : Value) (w : World) (hr : RdR entryS w v (mkEntryS L k)) (hk1 : k + cntEntryS L ≤ 1000000000) :
    Calls Tryz.prog 168 #[v, .int .i64 k] w fun x w' => x = .returned (.int .i64 ((k + cntEntryS L : Nat) : Int)) ∧ Below w.heap.size w w' := by
  obtain ⟨ad, cap, rfl, h1, h2⟩ := hr.form
  unfold cntEntryS mkEntryS at *
  rw [mk_len'] at h1 ⊢
  have HR := hide hr
  clear hr
  go_enter Tryz.func168, Tryz.ntmps168
  go_wp2_with fail
  go_loopw [1, 5] (fun kk i wr => ∃ (j : Nat), i = .int .i64 j ∧ kk = .int .i64 ((k + cntLs cntEntry (L.take j) : Nat) : Int) ∧ j ≤ L.length ∧ Below w.heap.size w wr) (fun _ i _ => L.length - (intOf i).toNat)
  case atStart => exact ⟨0, rfl, by simp [cntLs], Nat.zero_le _, Below.refl _ _⟩
  case round =>
    obtain ⟨j, rfl, rfl, hj, hb⟩ := hrel
    by_cases hlt : j < L.length
    · have hct := cnt_take cntEntry L j hlt
      have hcl := cnt_le cntEntry L (j + 1)
      have hrk := (HR.out.new hb).at j (by rw [mk_len']; exact hlt)
      rw [mk_at _ _ L k j hlt] at hrk
      obtain ⟨d, hd⟩ : ∃ d, d = L[j] := ⟨_, rfl⟩
      rw [← hd] at hct hrk
      obtain ⟨K, hK⟩ : ∃ K : Nat, K = k + cntLs cntEntry (L.take j) := ⟨_, rfl⟩
      rw [← hK] at hrk ⊢
      have hKc : K + cntEntry d = k + cntLs cntEntry (L.take (j + 1)) := by omega
      have HKC := hide hKc
      have hKb : K + cntEntry d ≤ 1000000000 := by omega
      unfold cntEntry at hKb
      clear hct hcl hd hK hKc
      obtain ⟨b, o, cs, rfl, hb1, hrd, hc⟩ := hrk
      obtain rfl := hrd
      have c0 : wr.cell? ⟨b, o + j * 2, none⟩ = some (.int .i64 ((K : Nat) : Int)) := hc 0 _ rfl
      have c1 : wr.cell? ⟨b, o + j * 2 + 1, none⟩ = some (.int .i64 ((K + 1 : Nat) : Int)) := hc 1 _ rfl
      clear hc
      go_wp2_with fail
      go_roundw
      case rel => exact ⟨j + 1, by go_num, int_eq (by have h1 := HKC.out; have h2 : cntEntry d = 1 + 1 := rfl; omega), by omega, hb⟩
      case measure => simp [intOf]; omega
    · obtain rfl : j = L.length := by omega
      rw [List.take_length]
      go_wp2_with fail
      go_ret
      exact ⟨rfl, hb⟩
open Go.ChangeShapes Go.WideShapes Go.ChangeAt Go.Joins in
theorem open_cellsEntry {H : Type} {enc : TypeId × Value → H} {W : World} {base : Nat} {spare : Nat → Bool} {held : Bool} {fuel : Nat} {cs : List Value} {x : DataW H × List MemPlace} (h : DataW.trod enc Tryz.prog W base spare held fuel 257 cs = some x) : ∃ d : EntryD, entryS.rd W cs d := by
  obtain ⟨c0, c1, y0, y1, n, rfl, h0, h1⟩ := scells2 Tryz.underlying257 (by kernel_rfl) (by kernel_rfl) h
  obtain ⟨i0, e0, _⟩ := DataW.trod_int Tryz.underlying2 h0
  simp only [List.cons.injEq, and_true] at e0
  subst e0
  obtain ⟨i1, e1, _⟩ := DataW.trod_int Tryz.underlying2 h1
  simp only [List.cons.injEq, and_true] at e1
  subst e1
  exact ⟨⟨i0, i1⟩, rfl⟩
end Go.Proofs.YtfmeinkhdgbgjaaGreat
/- A text that is bent: the walk. -/
namespace Go.Proofs.YtfmeinkhdgbgjaaGreat
open Go.RowKit
set_option maxRecDepth 100000
set_option linter.unusedSimpArgs false
set_option linter.unusedVariables false
attribute [local go_sem ↓] Go.wp_at_zero Go.wp_at_succ

theorem BR.set {w : World} {base n cap blk : Nat} (h : BR w base (some ⟨blk, 0, none⟩) n cap) (k : Nat) (u : Value) (hu : ByteVal u) : BR (w.setCell ⟨blk, k, none⟩ u) base (some ⟨blk, 0, none⟩) n cap := by
  obtain ⟨h1, h2, h3⟩ := h
  refine ⟨h1, h2, fun hn => ?_⟩
  obtain ⟨b', e, hb, hl, hc⟩ := h3 hn
  simp only [Option.some.injEq, Addr.mk.injEq, and_true] at e
  subst e
  refine ⟨blk, rfl, hb, by simpa using hl, fun j hj => ?_⟩
  obtain ⟨⟨v, hv, hcv⟩, hf⟩ := hc j hj
  refine ⟨?_, by rw [World.frozen?_setCell]; exact hf⟩
  by_cases hjk : k = j
  · subst hjk
    exact ⟨u, hu, World.cell?_setCell_same' _ _ _ (by rw [hcv]; rfl)⟩
  · refine ⟨v, hv, ?_⟩
    exact (World.cell?_setCell_other _ ⟨blk, k, none⟩ ⟨blk, j, none⟩ _ (by simp [hjk])).trans hcv

end Go.Proofs.YtfmeinkhdgbgjaaGreat
/- Packing signs of five bits into bytes, and back, in plain words: what is unpacked of what was packed is what was packed, and what ends well is what it is packed as. -/
namespace Go.Proofs.YtfmeinkhdgbgjaaGreat

/-- Two to the h, for a few bits. -/
def tw (h : Nat) : Int := 2 ^ h
/-- The bytes that signs ns take behind h bits, whose number is v. -/
def packF : List Int → Nat → Int → List Int
  | [], h, v => if 0 < h then [v * tw (8 - h) + (tw (8 - h) - 1)] else []
  | n :: ns, h, v => if 8 ≤ h + 5 then ((v * 32 + n) / tw (h + 5 - 8)) :: packF ns (h + 5 - 8) ((v * 32 + n) % tw (h + 5 - 8)) else packF ns (h + 5) (v * 32 + n)

theorem packF_nil {h : Nat} {v : Int} : packF [] h v = if 0 < h then [v * tw (8 - h) + (tw (8 - h) - 1)] else [] := rfl
theorem packF_full {n : Int} {ns : List Int} {h : Nat} {v : Int} (k : 8 ≤ h + 5) : packF (n :: ns) h v = ((v * 32 + n) / tw (h + 5 - 8)) :: packF ns (h + 5 - 8) ((v * 32 + n) % tw (h + 5 - 8)) := by rw [packF, if_pos k]
theorem packF_part {n : Int} {ns : List Int} {h : Nat} {v : Int} (k : ¬ 8 ≤ h + 5) : packF (n :: ns) h v = packF ns (h + 5) (v * 32 + n) := by rw [packF, if_neg k]

theorem packF_len : ∀ (ns : List Int) (h : Nat) (v : Int), h < 8 → (packF ns h v).length = (h + 5 * ns.length + 7) / 8 := by
  intro ns
  induction ns with
  | nil => intro h v hh; rw [packF_nil]; split <;> simp <;> omega
  | cons n ns ih =>
    intro h v hh
    by_cases k : 8 ≤ h + 5
    · rw [packF_full k, List.length_cons, ih _ _ (by omega), List.length_cons]; omega
    · rw [packF_part k, ih _ _ (by omega), List.length_cons]; omega

/-- Reading signs: c bits are held, their number is u; bs are to come. The signs, and what is left when no byte is to come and no further sign is; none: a number of ones only ahead of a byte. -/
def rawF : Nat → Nat → Int → List Int → Option (List Int × Nat × Int)
  | 0, _, _, _ => none
  | k + 1, c, u, bs => if c < 5 then (match bs with
      | [] => some ([], c, u)
      | b :: bs => rawF k (c + 8) (u * 256 + b) bs)
    else if 31 ≤ u / tw (c - 5) then (if bs = [] then some ([], c, u) else none)
    else (rawF k (c - 5) (u % tw (c - 5)) bs).map fun r => (u / tw (c - 5) :: r.1, r.2)

/-- How many steps are enough. -/
def enF (c : Nat) (bs : List Int) : Nat := 9 * bs.length + c + 1

theorem rawF_more {k c : Nat} {u b : Int} {bs : List Int} (h : c < 5) : rawF (k + 1) c u (b :: bs) = rawF k (c + 8) (u * 256 + b) bs := by rw [rawF, if_pos h]
theorem rawF_end {k c : Nat} {u : Int} (h : c < 5) : rawF (k + 1) c u [] = some ([], c, u) := by rw [rawF, if_pos h]
theorem rawF_ones {k c : Nat} {u : Int} {bs : List Int} (h : ¬ c < 5) (h1 : 31 ≤ u / tw (c - 5)) : rawF (k + 1) c u bs = if bs = [] then some ([], c, u) else none := by cases bs <;> simp [rawF, h, h1]
theorem rawF_sign {k c : Nat} {u : Int} {bs : List Int} (h : ¬ c < 5) (h1 : ¬ 31 ≤ u / tw (c - 5)) : rawF (k + 1) c u bs = (rawF k (c - 5) (u % tw (c - 5)) bs).map fun r => (u / tw (c - 5) :: r.1, r.2) := by cases bs <;> simp [rawF, h, h1]

/-- What is left is ones only, less than a byte of them. -/
def okEnd (r : List Int × Nat × Int) : Prop := r.2.1 < 8 ∧ r.2.2 = tw r.2.1 - 1

/-- The bytes that are to come, those of which bits are held among them, the bits ahead of these being v. -/
def ahead (c : Nat) (u : Int) (bs : List Int) (v : Int) : List Int :=
  if c = 0 then bs else if c < 8 then (v * tw c + u) :: bs else if c = 8 then u :: bs else (v * tw (c - 8) + u / 256) :: (u % 256) :: bs
def hidden (c : Nat) : Nat := if c = 0 then 0 else if c < 8 then 8 - c else if c = 8 then 0 else 8 - (c - 8)

set_option maxHeartbeats 2000000 in
theorem raw_pack : ∀ (k c : Nat) (u : Int) (bs : List Int) (r : List Int × Nat × Int), rawF k c u bs = some r → c ≤ 12 → 0 ≤ u → u < tw c → (∀ b ∈ bs, 0 ≤ b ∧ b ≤ 255) →
    ∀ v, 0 ≤ v → v < tw (hidden c) → (okEnd r ↔ packF r.1 (hidden c) v = ahead c u bs v) := by
  intro k
  induction k with
  | zero => intro c u bs r h; simp [rawF] at h
  | succ k ih =>
    intro c u bs r h hc h0 h1 hb v v0 v1
    by_cases h5 : c < 5
    · cases bs with
      | nil =>
        rw [rawF_end h5] at h
        obtain rfl := (Option.some.inj h).symm
        have : c = 0 ∨ c = 1 ∨ c = 2 ∨ c = 3 ∨ c = 4 := by omega
        rcases this with rfl | rfl | rfl | rfl | rfl <;> simp [okEnd, hidden, ahead, packF_nil, tw] at * <;> omega
      | cons b bs =>
        rw [rawF_more h5] at h
        have hb0 := hb b (by simp)
        have hbs : ∀ x ∈ bs, 0 ≤ x ∧ x ≤ 255 := fun x hx => hb x (by simp [hx])
        have K := ih _ _ _ _ h (by omega) (by omega)
        have : c = 0 ∨ c = 1 ∨ c = 2 ∨ c = 3 ∨ c = 4 := by omega
        rcases this with rfl | rfl | rfl | rfl | rfl
        · obtain rfl : u = 0 := by simp [tw] at h1; omega
          have K := K (by simp [tw]; omega) hbs v v0 v1
          rw [K]; simp [hidden, ahead]
        all_goals
          have K := K (by simp [tw] at *; omega) hbs v v0 v1
          rw [K]
          have e1 : (u * 256 + b) / 256 = u := by omega
          have e2 : (u * 256 + b) % 256 = b := by omega
          simp [hidden, ahead, e1, e2]
    · by_cases hs : 31 ≤ u / tw (c - 5)
      · rw [rawF_ones h5 hs] at h
        split at h
        · rename_i hbs
          subst hbs
          obtain rfl := (Option.some.inj h).symm
          have : c = 5 ∨ c = 6 ∨ c = 7 ∨ c = 8 ∨ c = 9 ∨ c = 10 ∨ c = 11 ∨ c = 12 := by omega
          rcases this with rfl | rfl | rfl | rfl | rfl | rfl | rfl | rfl <;> simp [okEnd, hidden, ahead, packF_nil, tw] at * <;> omega
        · cases h
      · rw [rawF_sign h5 hs] at h
        cases hr : rawF k (c - 5) (u % tw (c - 5)) bs with
        | none => rw [hr] at h; cases h
        | some r' =>
          rw [hr] at h
          obtain rfl := (Option.some.inj h).symm
          have hok : okEnd (u / tw (c - 5) :: r'.1, r'.2) ↔ okEnd r' := Iff.rfl
          rw [hok]
          have K := ih _ _ _ _ hr (by omega)
          have : c = 5 ∨ c = 6 ∨ c = 7 ∨ c = 8 ∨ c = 9 ∨ c = 10 ∨ c = 11 ∨ c = 12 := by omega
          rcases this with rfl | rfl | rfl | rfl | rfl | rfl | rfl | rfl
          · have K := K (by simp [tw]) (by simp [tw]) hb 0 (by omega) (by simp [hidden, tw])
            rw [K]; simp [hidden, ahead, packF, tw] at h0 h1 v0 v1 ⊢
          · have K := K (by simp [tw] at *; omega) (by simp [tw] at *; omega) hb (v * 32 + u / 2) (by simp [hidden, tw] at *; omega) (by simp [hidden, tw] at *; omega)
            rw [K]; simp [hidden, ahead, packF, tw] at h0 h1 v0 v1 ⊢
            rw [show (v * 32 + u / 2) * 2 + u % 2 = v * 64 + u from by omega]
          · have K := K (by simp [tw] at *; omega) (by simp [tw] at *; omega) hb (v * 32 + u / 4) (by simp [hidden, tw] at *; omega) (by simp [hidden, tw] at *; omega)
            rw [K]; simp [hidden, ahead, packF, tw] at h0 h1 v0 v1 ⊢
            rw [show (v * 32 + u / 4) * 4 + u % 4 = v * 128 + u from by omega]
          · have K := K (by simp [tw] at *; omega) (by simp [tw] at *; omega) hb (v * 32 + u / 8) (by simp [hidden, tw] at *; omega) (by simp [hidden, tw] at *; omega)
            rw [K]; simp [hidden, ahead, packF, tw] at h0 h1 v0 v1 ⊢
            rw [show (v * 32 + u / 8) * 8 + u % 8 = u from by omega]
          · have K := K (by simp [tw] at *; omega) (by simp [tw] at *; omega) hb ((v * 32 + u / 16) % 16) (by simp [hidden, tw] at *; omega) (by simp [hidden, tw] at *; omega)
            rw [K]; simp [hidden, ahead, packF, tw] at h0 h1 v0 v1 ⊢
            rw [show (v * 32 + u / 16) % 16 * 16 + u % 16 = u % 256 from by omega, show (v * 32 + u / 16) / 16 = v * 2 + u / 256 from by omega]; simp
          · have K := K (by simp [tw] at *; omega) (by simp [tw] at *; omega) hb ((v * 32 + u / 32) % 8) (by simp [hidden, tw] at *; omega) (by simp [hidden, tw] at *; omega)
            rw [K]; simp [hidden, ahead, packF, tw] at h0 h1 v0 v1 ⊢
            rw [show (v * 32 + u / 32) % 8 * 32 + u % 32 = u % 256 from by omega, show (v * 32 + u / 32) / 8 = v * 4 + u / 256 from by omega]; simp
          · have K := K (by simp [tw] at *; omega) (by simp [tw] at *; omega) hb ((v * 32 + u / 64) % 4) (by simp [hidden, tw] at *; omega) (by simp [hidden, tw] at *; omega)
            rw [K]; simp [hidden, ahead, packF, tw] at h0 h1 v0 v1 ⊢
            rw [show (v * 32 + u / 64) % 4 * 64 + u % 64 = u % 256 from by omega, show (v * 32 + u / 64) / 4 = v * 8 + u / 256 from by omega]; simp
          · have K := K (by simp [tw] at *; omega) (by simp [tw] at *; omega) hb ((v * 32 + u / 128) % 2) (by simp [hidden, tw] at *; omega) (by simp [hidden, tw] at *; omega)
            rw [K]; simp [hidden, ahead, packF, tw] at h0 h1 v0 v1 ⊢
            rw [show (v * 32 + u / 128) % 2 * 128 + u % 128 = u % 256 from by omega, show (v * 32 + u / 128) / 2 = v * 16 + u / 256 from by omega]; simp

end Go.Proofs.YtfmeinkhdgbgjaaGreat
/- What a Field weighs, and the rows of a Table: in plain words, of the program and of the model. -/
namespace Go.Proofs.YtfmeinkhdgbgjaaGreat
open Go.RowKit
set_option maxRecDepth 100000
set_option linter.unusedSimpArgs false
set_option linter.unusedVariables false

/-- Is it right? -/
def okF (f : Fd) : Bool := inB f.n.size 1 40 && decide ((f.v.size : Int) ≤ 60)
/-- What it weighs. -/
def wt (f : Fd) : Int := if okF f then (f.n.size : Int) + f.v.size + 8 else 0
def sumW : List Fd → Int
  | [] => 0
  | f :: L => wt f + sumW L
theorem okF_parts {f : Fd} (h : okF f = true) : (1 : Int) ≤ f.n.size ∧ (f.n.size : Int) ≤ 40 ∧ (f.v.size : Int) ≤ 60 := by
  unfold okF at h
  simp only [Bool.and_eq_true, decide_eq_true_eq] at h
  have := inB_true h.1
  omega
theorem wt_ok {f : Fd} (h : okF f = true) : wt f = f.n.size + f.v.size + 8 := by simp [wt, h]
theorem wt_no {f : Fd} (h : okF f = false) : wt f = 0 := by simp [wt, h]
theorem wt_range (f : Fd) : 0 ≤ wt f ∧ wt f ≤ 108 := by
  cases h : okF f
  · rw [wt_no h]; omega
  · rw [wt_ok h]; have := okF_parts h; omega
theorem wt_pos {f : Fd} (h : okF f = true) : 9 ≤ wt f := by rw [wt_ok h]; have := okF_parts h; omega
theorem wt_zero (f : Fd) : (wt f = 0) ↔ okF f = false := by
  cases h : okF f
  · simp [wt_no h]
  · have := wt_pos h; simp; omega
theorem sumW_range (L : List Fd) : 0 ≤ sumW L ∧ sumW L ≤ 108 * L.length := by
  induction L with
  | nil => simp [sumW]
  | cons f L ih => have := wt_range f; simp only [sumW, List.length_cons]; omega
theorem sumW_app (A B : List Fd) : sumW (A ++ B) = sumW A + sumW B := by
  induction A with
  | nil => simp [sumW]
  | cons f A ih => simp only [List.cons_append, sumW, ih]; omega
theorem sumW_succ (L : List Fd) (k : Nat) (h : k < L.length) : sumW (L.take (k + 1)) = sumW (L.take k) + wt L[k] := by
  rw [List.take_succ_eq_append_getElem h, sumW_app]; simp [sumW]
theorem sumW_ge {L : List Fd} (h : ∀ f ∈ L, okF f = true) : 9 * (L.length : Int) ≤ sumW L := by
  induction L with
  | nil => simp [sumW]
  | cons f L ih => have := wt_pos (h f (by simp)); have := ih fun g hg => h g (by simp [hg]); simp only [sumW, List.length_cons]; omega

/-- Is a Table of this Room and these Rows right? -/
def okT (room : Int) (L : List Fd) : Bool := inB room 0 1000 && (L.all okF && decide (sumW L ≤ room))
theorem okT_parts {room : Int} {L : List Fd} (h : okT room L = true) : 0 ≤ room ∧ room ≤ 1000 ∧ (∀ f ∈ L, okF f = true) ∧ sumW L ≤ room ∧ L.length ≤ 111 := by
  unfold okT at h
  simp only [Bool.and_eq_true, decide_eq_true_eq, List.all_eq_true] at h
  have h1 := inB_true h.1
  have h2 := sumW_ge h.2.1
  exact ⟨h1.1, h1.2, h.2.1, h.2.2, by omega⟩

/-- The last ones go as long as they weigh more than the room. -/
def shrN (room : Int) : Nat → List Fd → List Fd
  | 0, L => L
  | n + 1, L => if room < sumW L then shrN room n L.dropLast else L
def shr (room : Int) (L : List Fd) : List Fd := shrN room L.length L
theorem shr_stop {room : Int} {L : List Fd} (h : ¬ room < sumW L) : shr room L = L := by
  unfold shr
  cases L.length with
  | zero => rfl
  | succ n => simp [shrN, h]
theorem shr_go {room : Int} {L : List Fd} (h : room < sumW L) : shr room L = shr room L.dropLast := by
  unfold shr
  cases hn : L.length with
  | zero =>
    have : L = [] := List.length_eq_zero_iff.1 hn
    subst this
    rfl
  | succ n => rw [shrN, if_pos h, List.length_dropLast, hn]; rfl
theorem shr_mem {room : Int} (n : Nat) : ∀ {L : List Fd}, ∀ f ∈ shrN room n L, f ∈ L := by
  induction n with
  | zero => intro L f hf; exact hf
  | succ n ih =>
    intro L f hf
    rw [shrN] at hf
    split at hf
    · exact (List.dropLast_sublist _).subset (ih f hf)
    · exact hf
theorem shr_all {room : Int} {L : List Fd} (h : ∀ f ∈ L, okF f = true) : ∀ f ∈ shr room L, okF f = true := fun f hf => h f (shr_mem _ f hf)
theorem fine_of {f : Fd} (h : okF f = true) : f.fine := by have := okF_parts h; exact ⟨by omega, by omega⟩

theorem implWt (f : Fd) (w : World) (hf : f.fine) : Calls Tryz.prog 278 #[.agg #[.string f.n, .string f.v]] w fun x w' => x = .returned (.int .i64 (wt f)) ∧ Below w.heap.size w w' := by
  obtain ⟨hn, hv⟩ := hf
  cases h : okF f
  · rw [wt_no h]
    unfold okF at h
    cases h1 : inB f.n.size 1 40
    · clear h
      go_enter Tryz.func278, Tryz.ntmps278
      go_wp2_with fail
      go_quiet (fail)
      go_wp2_with fail
      refine (implWithin _ _ _ _).mono ?_; rw [h1]; rintro e w1 ⟨rfl, rfl⟩
      go_wp2_with fail
      go_ret
      exact ⟨rfl, (by repeat' (first | (with_reducible exact Below.refl _ _) | (with_reducible refine Below.drew ?_) | (with_reducible refine bo_drewN _ ?_) | (with_reducible refine bo_alloc ?_ _) | (refine bchain ?_ (by with_reducible assumption)) | (with_reducible refine Below.setCell ?_ ?_ _) | go_size))⟩
    · have h2 : ¬ ((f.v.size : Int) ≤ 60) := by simpa [h1] using h
      clear h
      go_enter Tryz.func278, Tryz.ntmps278
      go_wp2_with fail
      go_quiet (fail)
      go_wp2_with fail
      refine (implWithin _ _ _ _).mono ?_; rw [h1]; rintro e w1 ⟨rfl, rfl⟩
      go_wp2_with fail
      go_ret
      exact ⟨rfl, (by repeat' (first | (with_reducible exact Below.refl _ _) | (with_reducible refine Below.drew ?_) | (with_reducible refine bo_drewN _ ?_) | (with_reducible refine bo_alloc ?_ _) | (refine bchain ?_ (by with_reducible assumption)) | (with_reducible refine Below.setCell ?_ ?_ _) | go_size))⟩
  · rw [wt_ok h]
    obtain ⟨p1, p2, p3⟩ := okF_parts h
    have h1 : inB f.n.size 1 40 = true := by unfold okF at h; simp only [Bool.and_eq_true] at h; exact h.1
    clear h
    go_enter Tryz.func278, Tryz.ntmps278
    go_wp2_with fail
    go_quiet (fail)
    go_wp2_with fail
    refine (implWithin _ _ _ _).mono ?_; rw [h1]; rintro e w1 ⟨rfl, rfl⟩
    go_wp2_with fail
    go_ret
    exact ⟨rfl, (by repeat' (first | (with_reducible exact Below.refl _ _) | (with_reducible refine Below.drew ?_) | (with_reducible refine bo_drewN _ ?_) | (with_reducible refine bo_alloc ?_ _) | (refine bchain ?_ (by with_reducible assumption)) | (with_reducible refine Below.setCell ?_ ?_ _) | go_size))⟩

theorem implRight (f : Fd) (w : World) (hf : f.fine) : Calls Tryz.prog 254 #[.agg #[.string f.n, .string f.v]] w fun x w' => x = .returned (.bool (okF f)) ∧ Below w.heap.size w w' := by
  have hz := wt_zero f
  cases h : okF f
  · have h0 := hz.2 h
    go_enter Tryz.func254, Tryz.ntmps254
    go_wp2_with fail
    refine (implWt f _ hf).mono ?_; rw [h0]; rintro e w1 ⟨rfl, hb1⟩
    go_wp2_with fail
    go_ret
    exact ⟨rfl, (by repeat' (first | (with_reducible exact Below.refl _ _) | (with_reducible refine Below.drew ?_) | (with_reducible refine bo_drewN _ ?_) | (with_reducible refine bo_alloc ?_ _) | (refine bchain ?_ (by with_reducible assumption)) | (with_reducible refine Below.setCell ?_ ?_ _) | go_size))⟩
  · have h0 : ¬ wt f = 0 := fun e => by rw [hz.1 e] at h; cases h
    go_enter Tryz.func254, Tryz.ntmps254
    go_wp2_with fail
    refine (implWt f _ hf).mono ?_; rintro e w1 ⟨rfl, hb1⟩
    generalize wt f = z at *
    clear hz
    go_wp2_with fail
    go_ret
    exact ⟨by simp [h0], (by repeat' (first | (with_reducible exact Below.refl _ _) | (with_reducible refine Below.drew ?_) | (with_reducible refine bo_drewN _ ?_) | (with_reducible refine bo_alloc ?_ _) | (refine bchain ?_ (by with_reducible assumption)) | (with_reducible refine Below.setCell ?_ ?_ _) | go_size))⟩
theorem implRoom (r : Int) (w : World) : Calls Tryz.prog 253 #[.int .i64 r] w fun e w' => e = .returned (.bool (inB r 0 1000)) ∧ w' = w := by
  go_enter Tryz.func253, Tryz.ntmps253
  go_wp2_with (go_at_call 127; refine (implWithin _ _ _ _).mono ?_; rintro e w' ⟨rfl, rfl⟩)
  go_ret
  exact ⟨rfl, rfl⟩
theorem specField (f : Fd) (w : World) (hf : f.fine) : Calls Tryz.prog 123 #[.agg #[.string f.n, .string f.v]] w fun x w' => x = .returned (.bool (okF f)) ∧ Below w.heap.size w w' := by
  obtain ⟨hn, hv⟩ := hf
  unfold okF
  cases h1 : inB f.n.size 1 40
  · go_enter Tryz.func123, Tryz.ntmps123
    go_wp2_with fail
    refine (specIn _ _ _ _).mono ?_; rw [h1]; rintro e w1 ⟨rfl, rfl⟩
    go_wp2_with fail
    go_ret
    exact ⟨rfl, (by repeat' (first | (with_reducible exact Below.refl _ _) | (with_reducible refine Below.drew ?_) | (with_reducible refine bo_drewN _ ?_) | (with_reducible refine bo_alloc ?_ _) | (refine bchain ?_ (by with_reducible assumption)) | (with_reducible refine Below.setCell ?_ ?_ _) | go_size))⟩
  · go_enter Tryz.func123, Tryz.ntmps123
    go_wp2_with fail
    refine (specIn _ _ _ _).mono ?_; rw [h1]; rintro e w1 ⟨rfl, rfl⟩
    go_wp2_with fail
    go_ret
    exact ⟨by simp, (by repeat' (first | (with_reducible exact Below.refl _ _) | (with_reducible refine Below.drew ?_) | (with_reducible refine bo_drewN _ ?_) | (with_reducible refine bo_alloc ?_ _) | (refine bchain ?_ (by with_reducible assumption)) | (with_reducible refine Below.setCell ?_ ?_ _) | go_size))⟩
theorem specWt (f : Fd) (w : World) (hf : f.fine) : Calls Tryz.prog 209 #[.agg #[.string f.n, .string f.v]] w fun x w' => x = .returned (.int .i64 (wt f)) ∧ Below w.heap.size w w' := by
  have hf' := hf
  obtain ⟨hn, hv⟩ := hf'
  cases h : okF f
  · rw [wt_no h]
    go_enter Tryz.func209, Tryz.ntmps209
    go_wp2_with fail
    refine (specField f _ hf).mono ?_; rw [h]; rintro e w1 ⟨rfl, hb1⟩
    go_wp2_with fail
    go_ret
    exact ⟨rfl, (by repeat' (first | (with_reducible exact Below.refl _ _) | (with_reducible refine Below.drew ?_) | (with_reducible refine bo_drewN _ ?_) | (with_reducible refine bo_alloc ?_ _) | (refine bchain ?_ (by with_reducible assumption)) | (with_reducible refine Below.setCell ?_ ?_ _) | go_size))⟩
  · rw [wt_ok h]
    obtain ⟨p1, p2, p3⟩ := okF_parts h
    go_enter Tryz.func209, Tryz.ntmps209
    go_wp2_with fail
    refine (specField f _ hf).mono ?_; rw [h]; rintro e w1 ⟨rfl, hb1⟩; have hc1 := fun o => hb1.cell (p := ⟨w.heap.size, o, none⟩) (by first | (simp; done) | (simp; omega) | omega); have hf1 := fun o => hb1.frozen (p := ⟨w.heap.size, o, none⟩) (by first | (simp; done) | (simp; omega) | omega)
    go_wp2_with fail
    go_ret
    exact ⟨rfl, (by repeat' (first | (with_reducible exact Below.refl _ _) | (with_reducible refine Below.drew ?_) | (with_reducible refine bo_drewN _ ?_) | (with_reducible refine bo_alloc ?_ _) | (refine bchain ?_ (by with_reducible assumption)) | (with_reducible refine Below.setCell ?_ ?_ _) | go_size))⟩
set_option maxHeartbeats 1000000 in
theorem specSum (L : List Fd) (v : Value) (w : World) (hr0 : Reads w v L.length 2 (fv L)) (hf : ∀ f ∈ L, f.fine) (hL : L.length ≤ 201) :
    Calls Tryz.prog 124 #[v] w fun x w' => x = .returned (.int .i64 (sumW L)) ∧ Below w.heap.size w w' := by
  obtain ⟨hl, ad, cap, rfl, h1, h2, h3⟩ := hr0
  have H3 := hide h3; have HF := hide hf
  clear h3 hf
  unfold maxLen at h2
  go_enter Tryz.func124, Tryz.ntmps124
  go_wp2_with fail
  go_loopw [3, 4] (fun s i wr => ∃ (k : Nat), i = .int .i64 k ∧ s = .int .i64 (sumW (L.take k)) ∧ k ≤ L.length ∧ Below w.heap.size w wr) (fun _ i _ => L.length - (intOf i).toNat)
  case atStart => exact ⟨0, rfl, by simp [sumW], Nat.zero_le _, Below.refl _ _⟩
  case round =>
    obtain ⟨k, rfl, rfl, hk, hb⟩ := hrel
    by_cases hlt : k < L.length
    · obtain ⟨b, o, rfl, hbw, hc⟩ := H3.out (by omega)
      obtain ⟨s0, s1⟩ := fv_get L k hlt
      have hfk := HF.out _ (List.getElem_mem hlt)
      have hsu := sumW_succ L k hlt
      have hrg := sumW_range (L.take k)
      rw [List.length_take, Nat.min_eq_left (by omega)] at hrg
      obtain ⟨f, hff⟩ : ∃ f, f = L[k] := ⟨_, rfl⟩
      rw [← hff] at s0 s1 hfk hsu
      have c0 : wr.cell? ⟨b, o + k * 2, none⟩ = some (.string f.n) := by rw [hb.cell (p := ⟨b, o + k * 2, none⟩) hbw]; exact hc _ _ s0
      have c1 : wr.cell? ⟨b, o + k * 2 + 1, none⟩ = some (.string f.v) := by rw [hb.cell (p := ⟨b, o + k * 2 + 1, none⟩) hbw]; exact hc _ _ s1
      clear hc s0 s1 hff
      have HU := hide hsu
      have hwr := wt_range f
      generalize sumW (L.take k) = A at *
      clear hsu
      go_wp2_with fail
      refine (specWt f _ hfk).mono ?_; rintro x w1 ⟨rfl, hb1⟩
      generalize wt f = z at *
      go_wp2_with fail
      exact ⟨⟨k + 1, by go_num, by rw [HU.out], by omega, bchain hb hb1⟩, by simp [intOf]; omega⟩
    · obtain rfl : k = L.length := by omega
      rw [List.take_length]
      go_wp2_with fail
      go_ret
      exact ⟨rfl, hb⟩
end Go.Proofs.YtfmeinkhdgbgjaaGreat
/- Rows of Fields as a make: counted, copied, held against each other, marked, read again. -/
namespace Go.Proofs.YtfmeinkhdgbgjaaGreat
open Go.RowKit
set_option maxRecDepth 100000
set_option linter.unusedSimpArgs false
set_option linter.unusedVariables false
section
variable {D : Type} {E : Shp D}
theorem OwR.flat {f : D → List Value} (hf : ∀ w cs d bs, E.own w cs d bs → cs = f d ∧ bs = []) {w : World} {v : Value} {L : List D} {bs : List Nat} (h : OwR E w v L bs) : w.ownsRow 0 E.ty E.size v L.length (L.flatMap f) ∧ bs = v.ownBlock.toList := by
  obtain ⟨ts, rfl, ho, hE, rfl⟩ := h
  have e : ts.flatMap (fun t => t.1) = (ts.map (fun t => t.2.1)).flatMap f := by
    rw [List.flatMap_map]
    have hh : ∀ t ∈ ts, t.1 = f t.2.1 := fun t ht => (hf _ _ _ _ (hE t ht)).1
    clear ho hE
    induction ts with
    | nil => rfl
    | cons t ts ih => simp only [List.flatMap_cons]; rw [ih (fun x hx => hh x (by simp [hx])), ← hh t (by simp)]
  have e2 : ts.flatMap (fun t => t.2.2) = [] := by
    have hh : ∀ t ∈ ts, t.2.2 = [] := fun t ht => (hf _ _ _ _ (hE t ht)).2
    clear ho hE e
    induction ts with
    | nil => rfl
    | cons t ts ih => simp only [List.flatMap_cons]; rw [ih (fun x hx => hh x (by simp [hx])), hh t (by simp)]; rfl
  rw [e] at ho
  exact ⟨by simpa using ho, by rw [e2]; simp⟩
theorem owR_flat {f : D → List Value} {w : World} {v : Value} {L : List D} (hf : ∀ d ∈ L, E.own w (f d) d []) (h : w.ownsRow 0 E.ty E.size v L.length (L.flatMap f)) : OwR E w v L v.ownBlock.toList := by
  refine ⟨L.map fun d => (f d, d, []), by simp [Function.comp_def], ?_, fun t ht => ?_, ?_⟩
  · simpa [List.flatMap_map] using h
  · obtain ⟨d, hd, rfl⟩ := List.mem_map.1 ht
    exact hf d hd
  · have : ∀ M : List D, (M.map fun d => ((f d, d, []) : List Value × D × List Nat)).flatMap (fun t => t.2.2) = [] := fun M => by induction M <;> simp_all
    rw [this]; simp
end
def fieldS : Shp Fd where
  size := 2
  ty := 163
  rd := fun _ cs d => cs = d.cs ∧ d.fine
  own := fun _ cs d bs => cs = d.cs ∧ d.fine ∧ bs = []
  pos := by decide
  rd_len := fun h => by obtain ⟨rfl, _⟩ := h; rfl
  rd_one := fun h u hu => by obtain ⟨rfl, _⟩ := h; simp only [Fd.cs, List.mem_cons, List.not_mem_nil, or_false] at hu; rcases hu with rfl | rfl <;> rfl
  rd_new := fun h _ => h
  own_rd := fun h => ⟨h.1, h.2.1⟩
  own_keep := fun h _ _ => h
  own_lt := fun h b hb => by rw [h.2.2] at hb; cases hb
theorem rd_fv {w : World} {v : Value} {L : List Fd} (h : RdR fieldS w v L) : Reads w v L.length 2 (fv L) := RdR.flat (E := fieldS) (f := Fd.cs) (fun _ _ _ h => h.1) h
theorem rd_fine {w : World} {v : Value} {L : List Fd} (h : RdR fieldS w v L) : ∀ f ∈ L, f.fine := by
  obtain ⟨ts, rfl, _, hE⟩ := h
  intro x hx
  obtain ⟨t, ht, rfl⟩ := List.mem_map.1 hx
  exact (hE t ht).2
theorem owr_fv {w : World} {v : Value} {L : List Fd} {bs : List Nat} (h : OwR fieldS w v L bs) : w.ownsRow 0 163 2 v L.length (fv L) ∧ bs = v.ownBlock.toList := OwR.flat (E := fieldS) (f := Fd.cs) (fun _ _ _ _ h => ⟨h.1, h.2.2⟩) h
theorem fv_owr {w : World} {v : Value} {L : List Fd} (h : w.ownsRow 0 163 2 v L.length (fv L)) (hs : ∀ f ∈ L, f.fine) : OwR fieldS w v L v.ownBlock.toList := owR_flat (E := fieldS) (f := Fd.cs) (fun d hd => ⟨rfl, hs d hd, rfl⟩) h
theorem fv_ow {w : World} {lo : Nat} {v : Value} {L : List Fd} (h : w.ownsRow lo 163 2 v L.length (fv L)) (hs : ∀ f ∈ L, f.fine) : OwX fieldS w lo w.heap.size v L := owX_flat (E := fieldS) (f := Fd.cs) (fun d hd => ⟨rfl, hs d hd, rfl⟩) h
/-- How much they hold, as the laws count. -/
def szFieldS (L : List Fd) : Int := L.length + szL L
theorem szFieldS_nn (L : List Fd) : 0 ≤ szFieldS L := by unfold szFieldS; have := szL_pos L; omega
theorem szFieldS_len (L : List Fd) : (L.length : Int) ≤ szFieldS L := by unfold szFieldS; have := szL_pos L; omega
/-- The marks, from k on. -/
def mkFieldS (L : List Fd) (k : Nat) : List Fd := mkLs (fun _ k => ⟨mtx k, mtx (k + 1)⟩) (fun _ => 2) L k
def cntFieldS (L : List Fd) : Nat := cntLs (fun _ => 2) L
theorem cntFieldS_len (L : List Fd) : cntFieldS L = L.length * 2 := by
  unfold cntFieldS
  induction L with
  | nil => rfl
  | cons x L ih => simp only [cntLs, List.length_cons, ih]; omega
theorem mkFld_len (L : List Fd) (k : Nat) : (mkFieldS L k).length = L.length := mk_len' _ _ L k
theorem mkFld_at (L : List Fd) (k j : Nat) (h : j < L.length) (h' : j < (mkFieldS L k).length) : (mkFieldS L k)[j] = ⟨mtx (k + j * 2), mtx (k + j * 2 + 1)⟩ := by
  have e := mk_at (fun (_ : Fd) k => (⟨mtx k, mtx (k + 1)⟩ : Fd)) (fun _ => 2) L k j h h'
  have h2 := cntFieldS_len (L.take j)
  unfold cntFieldS at h2
  rw [h2, List.length_take, Nat.min_eq_left (by omega)] at e
  exact e
theorem mkFld_fv (L : List Fd) (k : Nat) : fv (mkFieldS L k) = mkT k (L.length * 2) := by
  apply List.ext_getElem?
  intro i
  by_cases hi : i < L.length * 2
  · obtain ⟨j, r, hr, rfl⟩ : ∃ j r, r < 2 ∧ i = j * 2 + r := ⟨i / 2, i % 2, by omega, by omega⟩
    have hj : j < L.length := by omega
    have hj' : j < (mkFieldS L k).length := by rw [mkFld_len]; exact hj
    obtain ⟨g1, g2⟩ := fv_get (mkFieldS L k) j hj'
    rw [mkFld_at L k j hj hj'] at g1 g2
    rw [mkT_get k _ _ hi]
    rcases (show r = 0 ∨ r = 1 by omega) with rfl | rfl
    · rw [Nat.add_zero]; exact g1
    · exact g2
  · rw [List.getElem?_eq_none (by rw [fv_len, mkFld_len]; omega), List.getElem?_eq_none (by rw [mkT_len]; omega)]
theorem mkFld_fine (L : List Fd) (k : Nat) (hk : k + cntFieldS L ≤ 1000000000) : ∀ f ∈ mkFieldS L k, f.fine := by
  intro x hx
  obtain ⟨j, hj, rfl⟩ := List.getElem_of_mem hx
  have hj2 : j < L.length := by rw [← mkFld_len L k]; exact hj
  rw [mkFld_at L k j hj2]
  have h1 := mtx_size (k + j * 2)
  have h2 := mtx_size (k + j * 2 + 1)
  have h3 := cntFieldS_len L
  exact ⟨by simp only; omega, by simp only; omega⟩
theorem toFieldS (L : List Fd) (v : Value) (w : World) (hr : RdR fieldS w v L) (hz : szFieldS L ≤ 1048576) :
    Calls Tryz.prog 155 #[v] w fun x w' => ∃ v', x = .returned v' ∧ OwX fieldS w' w.heap.size w'.heap.size v' L ∧ Below w.heap.size w w' := by
  refine (toFields L v w (rd_fv hr) (by have := szFieldS_len L; omega)).mono ?_
  rintro x w' ⟨v', rfl, ho, hb⟩
  exact ⟨v', rfl, fv_ow ho (rd_fine hr), hb⟩
theorem eqFieldS (L : List Fd) (v v' : Value) (w : World) (hr0 : RdR fieldS w v L) (hr1 : RdR fieldS w v' L) :
    Calls Tryz.prog 164 #[v, v'] w fun x w' => x = .returned (.bool true) ∧ Below w.heap.size w w' := eqFields L v v' w (rd_fv hr0) (rd_fv hr1)
theorem szFieldS1 (L : List Fd) (v : Value) (left : Int) (w : World) (hr : RdR fieldS w v L) (h0 : 0 ≤ left) (h1 : left ≤ 1048576) :
    Calls Tryz.prog 149 #[v, .int .i64 left] w fun x w' => (x = .returned (.int .i64 (-1)) ∨ (x = .returned (.int .i64 (left - szFieldS L)) ∧ 0 ≤ left - szFieldS L)) ∧ Below w.heap.size w w' := by
  refine (szFields L v left w (rd_fv hr) (rd_fine hr) h0 h1).mono ?_
  rintro x w' ⟨rfl, hb⟩
  refine ⟨?_, hb⟩
  unfold szFieldS
  by_cases c : left - L.length - szL L < 0
  · exact .inl (by rw [if_pos c])
  · exact .inr ⟨by rw [if_neg c, show left - L.length - szL L = left - (L.length + szL L) by omega], by omega⟩
theorem markFieldS (L : List Fd) (k : Nat) (v : Value) (bs : List Nat) (w : World) (ho : OwR fieldS w v L bs) (hn : bs.Nodup) (hk1 : k + cntFieldS L ≤ 1000000000) :
    Calls Tryz.prog 167 #[v, .int .i64 k] w fun x w' => x = .returned (.int .i64 ((k + cntFieldS L : Nat) : Int)) ∧ OwR fieldS w' v (mkFieldS L k) bs ∧ TurnB bs w w' := by
  obtain ⟨ho1, rfl⟩ := owr_fv ho
  have hc := cntFieldS_len L
  refine (markFields L.length k v (fv L) 0 w ho1 (by omega)).mono ?_
  rintro x w' ⟨rfl, ho2, hg⟩
  rw [hc]
  refine ⟨rfl, fv_owr ?_ (mkFld_fine L k hk1), ⟨hg.os, hg.tape, hg.output, hg.size, fun q hq hn => hg.block q hq fun e => hn (by rw [← e]; simp)⟩⟩
  rw [mkFld_fv, mkFld_len]
  exact ho2
theorem heldFieldS (L : List Fd) (k : Nat) (v : Value) (w : World) (hr : RdR fieldS w v (mkFieldS L k)) (hk1 : k + cntFieldS L ≤ 1000000000) :
    Calls Tryz.prog 169 #[v, .int .i64 k] w fun x w' => x = .returned (.int .i64 ((k + cntFieldS L : Nat) : Int)) ∧ Below w.heap.size w w' := by
  have h := rd_fv hr
  rw [mkFld_fv, mkFld_len] at h
  rw [cntFieldS_len] at hk1 ⊢
  exact heldFields L.length k v w h hk1
open Go.ChangeShapes Go.WideShapes Go.ChangeAt Go.Joins in
theorem open_cellsField {H : Type} {enc : TypeId × Value → H} {W : World} {base : Nat} {spare : Nat → Bool} {held : Bool} {fuel : Nat} {cs : List Value} {x : DataW H × List MemPlace} (h : DataW.trod enc Tryz.prog W base spare held fuel 254 cs = some x) : ∃ d : Fd, fieldS.rd W cs d := by
  obtain ⟨c0, c1, y0, y1, n, rfl, h0, h1⟩ := scells2 Tryz.underlying254 (by kernel_rfl) (by kernel_rfl) h
  obtain ⟨i0, e0, _, hs0⟩ := DataW.trod_string Tryz.underlying9 h0
  simp only [List.cons.injEq, and_true] at e0
  subst e0
  obtain ⟨i1, e1, _, hs1⟩ := DataW.trod_string Tryz.underlying9 h1
  simp only [List.cons.injEq, and_true] at e1
  subst e1
  exact ⟨⟨i0, i1⟩, rfl, by unfold maxLen at hs0; simp only; omega, by unfold maxLen at hs1; simp only; omega⟩
end Go.Proofs.YtfmeinkhdgbgjaaGreat
/- Chapter 16's model: TunnelOk; tunnels counted, copied, held against each other by the laws. -/
namespace Go.Proofs.YtfmeinkhdgbgjaaGreat
open Go.RowKit
set_option maxRecDepth 100000
set_option linter.unusedSimpArgs false
set_option linter.unusedVariables false
theorem specTime16 (x : Int) (w : World) : Calls Tryz.prog 126 #[.int .i64 x] w fun e w' => e = .returned (.bool (inB x 0 1000000)) ∧ w' = w := by
  go_enter Tryz.func126, Tryz.ntmps126
  go_wp2_with fail
  refine (specIn _ _ _ _).mono ?_; rintro e w1 ⟨rfl, hsame⟩; obtain rfl := hsame.symm; clear hsame
  go_wp2_with fail
  go_ret
  exact ⟨rfl, rfl⟩
theorem specOkP (p : PpD) (w : World) (hb : p.b.size ≤ maxLen) : Calls Tryz.prog 125 #[pv p] w fun x w' => x = .returned (.bool (okPp p)) ∧ Below w.heap.size w w' := specOk p.r p.b p.e p.k w hb
set_option maxHeartbeats 1000000 in
theorem specTunnelOk (t : TuD) (w : World) (h1 : t.up.b.size ≤ maxLen) (h2 : t.dn.b.size ≤ maxLen) : Calls Tryz.prog 57 #[tuv t] w fun x w' => x = .returned (.bool (okTu t)) ∧ Below w.heap.size w w' := by
  obtain ⟨⟨r, b, e, k⟩, ⟨r2, b2, e2, k2⟩, wt, cm⟩ := t
  unfold okTu
  dsimp only [tuv] at *
  have RX := rowIs_new w 55 [.int .i64 r, .string b, .bool e, .bool k, .int .i64 r2, .string b2, .bool e2, .bool k2, .int .i64 wt, .int .i64 cm]
  have HB : Below w.heap.size w (w.alloc (.cells #[.int .i64 r, .string b, .bool e, .bool k, .int .i64 r2, .string b2, .bool e2, .bool k2, .int .i64 wt, .int .i64 cm] 55)) := (Below.refl _ _).alloc (Nat.le_refl _) _
  cases hu : okPp ⟨r, b, e, k⟩
  · go_enter Tryz.func57, Tryz.ntmps57
    go_wp2_with fail
    refine (specOkP ⟨r, b, e, k⟩ _ h1).mono ?_; rw [hu]; rintro x w1 ⟨rfl, hb1⟩
    replace RX := RX.new hb1
    replace HB := bchain HB hb1
    clear hb1
    have x0 := RowIs.cell (j := 0) RX rfl; have x1 := RowIs.cell (j := 1) RX rfl; have x2 := RowIs.cell (j := 2) RX rfl; have x3 := RowIs.cell (j := 3) RX rfl; have x4 := RowIs.cell (j := 4) RX rfl; have x5 := RowIs.cell (j := 5) RX rfl; have x6 := RowIs.cell (j := 6) RX rfl; have x7 := RowIs.cell (j := 7) RX rfl; have x10 := RowIs.cell (j := 8) RX rfl; have x11 := RowIs.cell (j := 9) RX rfl; have x9 := fun j => RowIs.frozen RX j; have x8 := RX.lt
    go_wp2_with fail
    go_ret
    exact ⟨rfl, HB⟩
  cases hd : okPp ⟨r2, b2, e2, k2⟩
  · go_enter Tryz.func57, Tryz.ntmps57
    go_wp2_with fail
    refine (specOkP ⟨r, b, e, k⟩ _ h1).mono ?_; rw [hu]; rintro x w1 ⟨rfl, hb1⟩
    replace RX := RX.new hb1
    replace HB := bchain HB hb1
    clear hb1
    have x0 := RowIs.cell (j := 0) RX rfl; have x1 := RowIs.cell (j := 1) RX rfl; have x2 := RowIs.cell (j := 2) RX rfl; have x3 := RowIs.cell (j := 3) RX rfl; have x4 := RowIs.cell (j := 4) RX rfl; have x5 := RowIs.cell (j := 5) RX rfl; have x6 := RowIs.cell (j := 6) RX rfl; have x7 := RowIs.cell (j := 7) RX rfl; have x10 := RowIs.cell (j := 8) RX rfl; have x11 := RowIs.cell (j := 9) RX rfl; have x9 := fun j => RowIs.frozen RX j; have x8 := RX.lt
    go_wp2_with fail
    clear x0 x1 x2 x3 x4 x5 x6 x7 x10 x11 x9 x8
    refine (specOkP ⟨r2, b2, e2, k2⟩ _ h2).mono ?_; rw [hd]; rintro x w2 ⟨rfl, hb2⟩
    replace RX := RX.new hb2
    replace HB := bchain HB hb2
    clear hb2
    have x0 := RowIs.cell (j := 0) RX rfl; have x1 := RowIs.cell (j := 1) RX rfl; have x2 := RowIs.cell (j := 2) RX rfl; have x3 := RowIs.cell (j := 3) RX rfl; have x4 := RowIs.cell (j := 4) RX rfl; have x5 := RowIs.cell (j := 5) RX rfl; have x6 := RowIs.cell (j := 6) RX rfl; have x7 := RowIs.cell (j := 7) RX rfl; have x10 := RowIs.cell (j := 8) RX rfl; have x11 := RowIs.cell (j := 9) RX rfl; have x9 := fun j => RowIs.frozen RX j; have x8 := RX.lt
    go_wp2_with fail
    go_ret
    exact ⟨rfl, HB⟩
  cases hw : inB wt 0 1000000
  · go_enter Tryz.func57, Tryz.ntmps57
    go_wp2_with fail
    refine (specOkP ⟨r, b, e, k⟩ _ h1).mono ?_; rw [hu]; rintro x w1 ⟨rfl, hb1⟩
    replace RX := RX.new hb1
    replace HB := bchain HB hb1
    clear hb1
    have x0 := RowIs.cell (j := 0) RX rfl; have x1 := RowIs.cell (j := 1) RX rfl; have x2 := RowIs.cell (j := 2) RX rfl; have x3 := RowIs.cell (j := 3) RX rfl; have x4 := RowIs.cell (j := 4) RX rfl; have x5 := RowIs.cell (j := 5) RX rfl; have x6 := RowIs.cell (j := 6) RX rfl; have x7 := RowIs.cell (j := 7) RX rfl; have x10 := RowIs.cell (j := 8) RX rfl; have x11 := RowIs.cell (j := 9) RX rfl; have x9 := fun j => RowIs.frozen RX j; have x8 := RX.lt
    go_wp2_with fail
    clear x0 x1 x2 x3 x4 x5 x6 x7 x10 x11 x9 x8
    refine (specOkP ⟨r2, b2, e2, k2⟩ _ h2).mono ?_; rw [hd]; rintro x w2 ⟨rfl, hb2⟩
    replace RX := RX.new hb2
    replace HB := bchain HB hb2
    clear hb2
    have x0 := RowIs.cell (j := 0) RX rfl; have x1 := RowIs.cell (j := 1) RX rfl; have x2 := RowIs.cell (j := 2) RX rfl; have x3 := RowIs.cell (j := 3) RX rfl; have x4 := RowIs.cell (j := 4) RX rfl; have x5 := RowIs.cell (j := 5) RX rfl; have x6 := RowIs.cell (j := 6) RX rfl; have x7 := RowIs.cell (j := 7) RX rfl; have x10 := RowIs.cell (j := 8) RX rfl; have x11 := RowIs.cell (j := 9) RX rfl; have x9 := fun j => RowIs.frozen RX j; have x8 := RX.lt
    go_wp2_with fail
    refine (specTime16 _ _).mono ?_; rw [hw]; rintro e w3 ⟨rfl, hsame⟩; obtain rfl := hsame.symm; clear hsame
    go_wp2_with fail
    go_ret
    exact ⟨rfl, HB⟩
  cases hm : inB cm 0 1000000
  · go_enter Tryz.func57, Tryz.ntmps57
    go_wp2_with fail
    refine (specOkP ⟨r, b, e, k⟩ _ h1).mono ?_; rw [hu]; rintro x w1 ⟨rfl, hb1⟩
    replace RX := RX.new hb1
    replace HB := bchain HB hb1
    clear hb1
    have x0 := RowIs.cell (j := 0) RX rfl; have x1 := RowIs.cell (j := 1) RX rfl; have x2 := RowIs.cell (j := 2) RX rfl; have x3 := RowIs.cell (j := 3) RX rfl; have x4 := RowIs.cell (j := 4) RX rfl; have x5 := RowIs.cell (j := 5) RX rfl; have x6 := RowIs.cell (j := 6) RX rfl; have x7 := RowIs.cell (j := 7) RX rfl; have x10 := RowIs.cell (j := 8) RX rfl; have x11 := RowIs.cell (j := 9) RX rfl; have x9 := fun j => RowIs.frozen RX j; have x8 := RX.lt
    go_wp2_with fail
    clear x0 x1 x2 x3 x4 x5 x6 x7 x10 x11 x9 x8
    refine (specOkP ⟨r2, b2, e2, k2⟩ _ h2).mono ?_; rw [hd]; rintro x w2 ⟨rfl, hb2⟩
    replace RX := RX.new hb2
    replace HB := bchain HB hb2
    clear hb2
    have x0 := RowIs.cell (j := 0) RX rfl; have x1 := RowIs.cell (j := 1) RX rfl; have x2 := RowIs.cell (j := 2) RX rfl; have x3 := RowIs.cell (j := 3) RX rfl; have x4 := RowIs.cell (j := 4) RX rfl; have x5 := RowIs.cell (j := 5) RX rfl; have x6 := RowIs.cell (j := 6) RX rfl; have x7 := RowIs.cell (j := 7) RX rfl; have x10 := RowIs.cell (j := 8) RX rfl; have x11 := RowIs.cell (j := 9) RX rfl; have x9 := fun j => RowIs.frozen RX j; have x8 := RX.lt
    go_wp2_with fail
    refine (specTime16 _ _).mono ?_; rw [hw]; rintro e w3 ⟨rfl, hsame⟩; obtain rfl := hsame.symm; clear hsame
    go_wp2_with fail
    refine (specTime16 _ _).mono ?_; rw [hm]; rintro e w3 ⟨rfl, hsame⟩; obtain rfl := hsame.symm; clear hsame
    go_wp2_with fail
    go_ret
    exact ⟨rfl, HB⟩
  go_enter Tryz.func57, Tryz.ntmps57
  go_wp2_with fail
  refine (specOkP ⟨r, b, e, k⟩ _ h1).mono ?_; rw [hu]; rintro x w1 ⟨rfl, hb1⟩
  replace RX := RX.new hb1
  replace HB := bchain HB hb1
  clear hb1
  have x0 := RowIs.cell (j := 0) RX rfl; have x1 := RowIs.cell (j := 1) RX rfl; have x2 := RowIs.cell (j := 2) RX rfl; have x3 := RowIs.cell (j := 3) RX rfl; have x4 := RowIs.cell (j := 4) RX rfl; have x5 := RowIs.cell (j := 5) RX rfl; have x6 := RowIs.cell (j := 6) RX rfl; have x7 := RowIs.cell (j := 7) RX rfl; have x10 := RowIs.cell (j := 8) RX rfl; have x11 := RowIs.cell (j := 9) RX rfl; have x9 := fun j => RowIs.frozen RX j; have x8 := RX.lt
  go_wp2_with fail
  clear x0 x1 x2 x3 x4 x5 x6 x7 x10 x11 x9 x8
  refine (specOkP ⟨r2, b2, e2, k2⟩ _ h2).mono ?_; rw [hd]; rintro x w2 ⟨rfl, hb2⟩
  replace RX := RX.new hb2
  replace HB := bchain HB hb2
  clear hb2
  have x0 := RowIs.cell (j := 0) RX rfl; have x1 := RowIs.cell (j := 1) RX rfl; have x2 := RowIs.cell (j := 2) RX rfl; have x3 := RowIs.cell (j := 3) RX rfl; have x4 := RowIs.cell (j := 4) RX rfl; have x5 := RowIs.cell (j := 5) RX rfl; have x6 := RowIs.cell (j := 6) RX rfl; have x7 := RowIs.cell (j := 7) RX rfl; have x10 := RowIs.cell (j := 8) RX rfl; have x11 := RowIs.cell (j := 9) RX rfl; have x9 := fun j => RowIs.frozen RX j; have x8 := RX.lt
  go_wp2_with fail
  refine (specTime16 _ _).mono ?_; rw [hw]; rintro e w3 ⟨rfl, hsame⟩; obtain rfl := hsame.symm; clear hsame
  go_wp2_with fail
  refine (specTime16 _ _).mono ?_; rw [hm]; rintro e w3 ⟨rfl, hsame⟩; obtain rfl := hsame.symm; clear hsame
  go_wp2_with fail
  go_ret
  exact ⟨rfl, HB⟩
set_option maxHeartbeats 1000000 in
theorem toTunnel1 (t : TuD) (w : World) : Calls Tryz.prog 222 #[tuv t] w fun x w' => x = .returned (tuv t) ∧ Below w.heap.size w w' := by
  obtain ⟨⟨r, b, e, k⟩, ⟨r2, b2, e2, k2⟩, wt, cm⟩ := t
  dsimp only [tuv] at *
  obtain ⟨W, hW⟩ : ∃ W, ((w.alloc (.cells #[.int .i64 r, .string b, .bool e, .bool k, .int .i64 r2, .string b2, .bool e2, .bool k2, .int .i64 wt, .int .i64 cm] 189)).alloc (.cells #[.int .i64 0, .string ⟨#[]⟩, .bool false, .bool false, .int .i64 0, .string ⟨#[]⟩, .bool false, .bool false, .int .i64 0, .int .i64 0] 55)).alloc (.cells #[.int .i64 0, .string ⟨#[]⟩, .bool false, .bool false, .int .i64 0, .string ⟨#[]⟩, .bool false, .bool false, .int .i64 0, .int .i64 0] 55) = W := ⟨_, rfl⟩
  have RX : RowIs W w.heap.size 189 [.int .i64 r, .string b, .bool e, .bool k, .int .i64 r2, .string b2, .bool e2, .bool k2, .int .i64 wt, .int .i64 cm] := by rw [← hW]; exact ((rowIs_new w 189 [.int .i64 r, .string b, .bool e, .bool k, .int .i64 r2, .string b2, .bool e2, .bool k2, .int .i64 wt, .int .i64 cm]).alloc _).alloc _
  have RY : RowIs W (w.heap.size + 1) 55 [.int .i64 0, .string ⟨#[]⟩, .bool false, .bool false, .int .i64 0, .string ⟨#[]⟩, .bool false, .bool false, .int .i64 0, .int .i64 0] := by have := (rowIs_new (w.alloc (.cells #[.int .i64 r, .string b, .bool e, .bool k, .int .i64 r2, .string b2, .bool e2, .bool k2, .int .i64 wt, .int .i64 cm] 189)) 55 [.int .i64 0, .string ⟨#[]⟩, .bool false, .bool false, .int .i64 0, .string ⟨#[]⟩, .bool false, .bool false, .int .i64 0, .int .i64 0]).alloc (.cells #[.int .i64 0, .string ⟨#[]⟩, .bool false, .bool false, .int .i64 0, .string ⟨#[]⟩, .bool false, .bool false, .int .i64 0, .int .i64 0] 55); rw [hW] at this; simpa using this
  have RZ : RowIs W (w.heap.size + 1 + 1) 55 [.int .i64 0, .string ⟨#[]⟩, .bool false, .bool false, .int .i64 0, .string ⟨#[]⟩, .bool false, .bool false, .int .i64 0, .int .i64 0] := by have := rowIs_new ((w.alloc (.cells #[.int .i64 r, .string b, .bool e, .bool k, .int .i64 r2, .string b2, .bool e2, .bool k2, .int .i64 wt, .int .i64 cm] 189)).alloc (.cells #[.int .i64 0, .string ⟨#[]⟩, .bool false, .bool false, .int .i64 0, .string ⟨#[]⟩, .bool false, .bool false, .int .i64 0, .int .i64 0] 55)) 55 [.int .i64 0, .string ⟨#[]⟩, .bool false, .bool false, .int .i64 0, .string ⟨#[]⟩, .bool false, .bool false, .int .i64 0, .int .i64 0]; rw [hW] at this; simpa using this
  have HB : Below w.heap.size w W := by rw [← hW]; exact ((((Below.refl _ _).alloc (Nat.le_refl _) _).alloc (by simp) _).alloc (by simp; omega) _)
  go_enter Tryz.func222, Tryz.ntmps222
  have x0 := RowIs.cell (j := 0) RX rfl
  have x1 := RowIs.cell (j := 1) RX rfl
  have x2 := RowIs.cell (j := 2) RX rfl
  have x3 := RowIs.cell (j := 3) RX rfl
  have xf := fun j => RowIs.frozen RX j
  have xl := RX.lt
  go_wp2_with fail
  clear x0 x1 x2 x3 xf xl
  clear hW
  refine (toP r b e k _).mono ?_; rintro x w1 ⟨rfl, hb⟩
  replace RX := RX.new hb
  replace RY := RY.new hb
  replace RZ := RZ.new hb
  replace HB := bchain HB hb
  clear hb
  have z0 := RowIs.cell (j := 0) RZ rfl
  have z1 := RowIs.cell (j := 1) RZ rfl
  have z2 := RowIs.cell (j := 2) RZ rfl
  have z3 := RowIs.cell (j := 3) RZ rfl
  have z4 := RowIs.cell (j := 4) RZ rfl
  have z5 := RowIs.cell (j := 5) RZ rfl
  have z6 := RowIs.cell (j := 6) RZ rfl
  have z7 := RowIs.cell (j := 7) RZ rfl
  have z8 := RowIs.cell (j := 8) RZ rfl
  have z9 := RowIs.cell (j := 9) RZ rfl
  have zf := fun j => RowIs.frozen RZ j
  have zl := RZ.lt
  go_upto_region 3 with fail
  have NRX : RowIs ((((w1.setCell ⟨(w.heap.size + 1 + 1), 0, none⟩ (.int .i64 r)).setCell ⟨(w.heap.size + 1 + 1), 1, none⟩ (.string b)).setCell ⟨(w.heap.size + 1 + 1), 2, none⟩ (.bool e)).setCell ⟨(w.heap.size + 1 + 1), 3, none⟩ (.bool k)) w.heap.size 189 [.int .i64 r, .string b, .bool e, .bool k, .int .i64 r2, .string b2, .bool e2, .bool k2, .int .i64 wt, .int .i64 cm] := ((((RX.far ⟨(w.heap.size + 1 + 1), 0, none⟩ (.int .i64 r) (show (w.heap.size + 1 + 1) ≠ w.heap.size by omega)).far ⟨(w.heap.size + 1 + 1), 1, none⟩ (.string b) (show (w.heap.size + 1 + 1) ≠ w.heap.size by omega)).far ⟨(w.heap.size + 1 + 1), 2, none⟩ (.bool e) (show (w.heap.size + 1 + 1) ≠ w.heap.size by omega)).far ⟨(w.heap.size + 1 + 1), 3, none⟩ (.bool k) (show (w.heap.size + 1 + 1) ≠ w.heap.size by omega))
  have NRY : RowIs ((((w1.setCell ⟨(w.heap.size + 1 + 1), 0, none⟩ (.int .i64 r)).setCell ⟨(w.heap.size + 1 + 1), 1, none⟩ (.string b)).setCell ⟨(w.heap.size + 1 + 1), 2, none⟩ (.bool e)).setCell ⟨(w.heap.size + 1 + 1), 3, none⟩ (.bool k)) (w.heap.size + 1) 55 [.int .i64 0, .string ⟨#[]⟩, .bool false, .bool false, .int .i64 0, .string ⟨#[]⟩, .bool false, .bool false, .int .i64 0, .int .i64 0] := ((((RY.far ⟨(w.heap.size + 1 + 1), 0, none⟩ (.int .i64 r) (show (w.heap.size + 1 + 1) ≠ (w.heap.size + 1) by omega)).far ⟨(w.heap.size + 1 + 1), 1, none⟩ (.string b) (show (w.heap.size + 1 + 1) ≠ (w.heap.size + 1) by omega)).far ⟨(w.heap.size + 1 + 1), 2, none⟩ (.bool e) (show (w.heap.size + 1 + 1) ≠ (w.heap.size + 1) by omega)).far ⟨(w.heap.size + 1 + 1), 3, none⟩ (.bool k) (show (w.heap.size + 1 + 1) ≠ (w.heap.size + 1) by omega))
  have NRZ : RowIs ((((w1.setCell ⟨(w.heap.size + 1 + 1), 0, none⟩ (.int .i64 r)).setCell ⟨(w.heap.size + 1 + 1), 1, none⟩ (.string b)).setCell ⟨(w.heap.size + 1 + 1), 2, none⟩ (.bool e)).setCell ⟨(w.heap.size + 1 + 1), 3, none⟩ (.bool k)) (w.heap.size + 1 + 1) 55 [.int .i64 r, .string b, .bool e, .bool k, .int .i64 0, .string ⟨#[]⟩, .bool false, .bool false, .int .i64 0, .int .i64 0] := ((((RZ.set 0 (.int .i64 r)).set 1 (.string b)).set 2 (.bool e)).set 3 (.bool k))
  have NHB := ((((HB.setCell (p := ⟨(w.heap.size + 1 + 1), 0, none⟩) (show w.heap.size ≤ (w.heap.size + 1 + 1) by omega) (.int .i64 r)).setCell (p := ⟨(w.heap.size + 1 + 1), 1, none⟩) (show w.heap.size ≤ (w.heap.size + 1 + 1) by omega) (.string b)).setCell (p := ⟨(w.heap.size + 1 + 1), 2, none⟩) (show w.heap.size ≤ (w.heap.size + 1 + 1) by omega) (.bool e)).setCell (p := ⟨(w.heap.size + 1 + 1), 3, none⟩) (show w.heap.size ≤ (w.heap.size + 1 + 1) by omega) (.bool k))
  generalize hV : ((((w1.setCell ⟨(w.heap.size + 1 + 1), 0, none⟩ (.int .i64 r)).setCell ⟨(w.heap.size + 1 + 1), 1, none⟩ (.string b)).setCell ⟨(w.heap.size + 1 + 1), 2, none⟩ (.bool e)).setCell ⟨(w.heap.size + 1 + 1), 3, none⟩ (.bool k)) = V2 at *
  clear hV
  clear RX
  have RX := NRX
  clear NRX
  clear RY
  have RY := NRY
  clear NRY
  clear RZ
  have RZ := NRZ
  clear NRZ
  clear HB
  have HB := NHB
  clear NHB
  clear z0 z1 z2 z3 z4 z5 z6 z7 z8 z9 zf zl
  have x4 := RowIs.cell (j := 4) RX rfl
  have x5 := RowIs.cell (j := 5) RX rfl
  have x6 := RowIs.cell (j := 6) RX rfl
  have x7 := RowIs.cell (j := 7) RX rfl
  have xf := fun j => RowIs.frozen RX j
  have xl := RX.lt
  go_wp2_with fail
  clear x4 x5 x6 x7 xf xl
  refine (toP r2 b2 e2 k2 _).mono ?_; rintro x w3 ⟨rfl, hb⟩
  replace RX := RX.new hb
  replace RY := RY.new hb
  replace RZ := RZ.new hb
  replace HB := bchain HB hb
  clear hb
  have z0 := RowIs.cell (j := 0) RZ rfl
  have z1 := RowIs.cell (j := 1) RZ rfl
  have z2 := RowIs.cell (j := 2) RZ rfl
  have z3 := RowIs.cell (j := 3) RZ rfl
  have z4 := RowIs.cell (j := 4) RZ rfl
  have z5 := RowIs.cell (j := 5) RZ rfl
  have z6 := RowIs.cell (j := 6) RZ rfl
  have z7 := RowIs.cell (j := 7) RZ rfl
  have z8 := RowIs.cell (j := 8) RZ rfl
  have z9 := RowIs.cell (j := 9) RZ rfl
  have zf := fun j => RowIs.frozen RZ j
  have zl := RZ.lt
  go_upto_region 4 with fail
  clear z0 z1 z2 z3 z4 z5 z6 z7 z8 z9 zf zl
  have NRX : RowIs ((((w3.setCell ⟨(w.heap.size + 1 + 1), 4, none⟩ (.int .i64 r2)).setCell ⟨(w.heap.size + 1 + 1), 5, none⟩ (.string b2)).setCell ⟨(w.heap.size + 1 + 1), 6, none⟩ (.bool e2)).setCell ⟨(w.heap.size + 1 + 1), 7, none⟩ (.bool k2)) w.heap.size 189 [.int .i64 r, .string b, .bool e, .bool k, .int .i64 r2, .string b2, .bool e2, .bool k2, .int .i64 wt, .int .i64 cm] := ((((RX.far ⟨(w.heap.size + 1 + 1), 4, none⟩ (.int .i64 r2) (show (w.heap.size + 1 + 1) ≠ w.heap.size by omega)).far ⟨(w.heap.size + 1 + 1), 5, none⟩ (.string b2) (show (w.heap.size + 1 + 1) ≠ w.heap.size by omega)).far ⟨(w.heap.size + 1 + 1), 6, none⟩ (.bool e2) (show (w.heap.size + 1 + 1) ≠ w.heap.size by omega)).far ⟨(w.heap.size + 1 + 1), 7, none⟩ (.bool k2) (show (w.heap.size + 1 + 1) ≠ w.heap.size by omega))
  have NRY : RowIs ((((w3.setCell ⟨(w.heap.size + 1 + 1), 4, none⟩ (.int .i64 r2)).setCell ⟨(w.heap.size + 1 + 1), 5, none⟩ (.string b2)).setCell ⟨(w.heap.size + 1 + 1), 6, none⟩ (.bool e2)).setCell ⟨(w.heap.size + 1 + 1), 7, none⟩ (.bool k2)) (w.heap.size + 1) 55 [.int .i64 0, .string ⟨#[]⟩, .bool false, .bool false, .int .i64 0, .string ⟨#[]⟩, .bool false, .bool false, .int .i64 0, .int .i64 0] := ((((RY.far ⟨(w.heap.size + 1 + 1), 4, none⟩ (.int .i64 r2) (show (w.heap.size + 1 + 1) ≠ (w.heap.size + 1) by omega)).far ⟨(w.heap.size + 1 + 1), 5, none⟩ (.string b2) (show (w.heap.size + 1 + 1) ≠ (w.heap.size + 1) by omega)).far ⟨(w.heap.size + 1 + 1), 6, none⟩ (.bool e2) (show (w.heap.size + 1 + 1) ≠ (w.heap.size + 1) by omega)).far ⟨(w.heap.size + 1 + 1), 7, none⟩ (.bool k2) (show (w.heap.size + 1 + 1) ≠ (w.heap.size + 1) by omega))
  have NRZ : RowIs ((((w3.setCell ⟨(w.heap.size + 1 + 1), 4, none⟩ (.int .i64 r2)).setCell ⟨(w.heap.size + 1 + 1), 5, none⟩ (.string b2)).setCell ⟨(w.heap.size + 1 + 1), 6, none⟩ (.bool e2)).setCell ⟨(w.heap.size + 1 + 1), 7, none⟩ (.bool k2)) (w.heap.size + 1 + 1) 55 [.int .i64 r, .string b, .bool e, .bool k, .int .i64 r2, .string b2, .bool e2, .bool k2, .int .i64 0, .int .i64 0] := ((((RZ.set 4 (.int .i64 r2)).set 5 (.string b2)).set 6 (.bool e2)).set 7 (.bool k2))
  have NHB := ((((HB.setCell (p := ⟨(w.heap.size + 1 + 1), 4, none⟩) (show w.heap.size ≤ (w.heap.size + 1 + 1) by omega) (.int .i64 r2)).setCell (p := ⟨(w.heap.size + 1 + 1), 5, none⟩) (show w.heap.size ≤ (w.heap.size + 1 + 1) by omega) (.string b2)).setCell (p := ⟨(w.heap.size + 1 + 1), 6, none⟩) (show w.heap.size ≤ (w.heap.size + 1 + 1) by omega) (.bool e2)).setCell (p := ⟨(w.heap.size + 1 + 1), 7, none⟩) (show w.heap.size ≤ (w.heap.size + 1 + 1) by omega) (.bool k2))
  generalize hV : ((((w3.setCell ⟨(w.heap.size + 1 + 1), 4, none⟩ (.int .i64 r2)).setCell ⟨(w.heap.size + 1 + 1), 5, none⟩ (.string b2)).setCell ⟨(w.heap.size + 1 + 1), 6, none⟩ (.bool e2)).setCell ⟨(w.heap.size + 1 + 1), 7, none⟩ (.bool k2)) = V4 at *
  clear hV
  clear RX
  have RX := NRX
  clear NRX
  clear RY
  have RY := NRY
  clear NRY
  clear RZ
  have RZ := NRZ
  clear NRZ
  clear HB
  have HB := NHB
  clear NHB
  have z8 := RowIs.cell (j := 8) RZ rfl
  have z9 := RowIs.cell (j := 9) RZ rfl
  have zf := fun j => RowIs.frozen RZ j
  have zl := RZ.lt
  have x8 := RowIs.cell (j := 8) RX rfl
  have x9 := RowIs.cell (j := 9) RX rfl
  have xf := fun j => RowIs.frozen RX j
  have xl := RX.lt
  go_upto_region 6 with fail
  clear z8 z9 zf zl
  clear x8 x9 xf xl
  have NRX : RowIs ((V4.setCell ⟨(w.heap.size + 1 + 1), 8, none⟩ (.int .i64 wt)).setCell ⟨(w.heap.size + 1 + 1), 9, none⟩ (.int .i64 cm)) w.heap.size 189 [.int .i64 r, .string b, .bool e, .bool k, .int .i64 r2, .string b2, .bool e2, .bool k2, .int .i64 wt, .int .i64 cm] := ((RX.far ⟨(w.heap.size + 1 + 1), 8, none⟩ (.int .i64 wt) (show (w.heap.size + 1 + 1) ≠ w.heap.size by omega)).far ⟨(w.heap.size + 1 + 1), 9, none⟩ (.int .i64 cm) (show (w.heap.size + 1 + 1) ≠ w.heap.size by omega))
  have NRY : RowIs ((V4.setCell ⟨(w.heap.size + 1 + 1), 8, none⟩ (.int .i64 wt)).setCell ⟨(w.heap.size + 1 + 1), 9, none⟩ (.int .i64 cm)) (w.heap.size + 1) 55 [.int .i64 0, .string ⟨#[]⟩, .bool false, .bool false, .int .i64 0, .string ⟨#[]⟩, .bool false, .bool false, .int .i64 0, .int .i64 0] := ((RY.far ⟨(w.heap.size + 1 + 1), 8, none⟩ (.int .i64 wt) (show (w.heap.size + 1 + 1) ≠ (w.heap.size + 1) by omega)).far ⟨(w.heap.size + 1 + 1), 9, none⟩ (.int .i64 cm) (show (w.heap.size + 1 + 1) ≠ (w.heap.size + 1) by omega))
  have NRZ : RowIs ((V4.setCell ⟨(w.heap.size + 1 + 1), 8, none⟩ (.int .i64 wt)).setCell ⟨(w.heap.size + 1 + 1), 9, none⟩ (.int .i64 cm)) (w.heap.size + 1 + 1) 55 [.int .i64 r, .string b, .bool e, .bool k, .int .i64 r2, .string b2, .bool e2, .bool k2, .int .i64 wt, .int .i64 cm] := ((RZ.set 8 (.int .i64 wt)).set 9 (.int .i64 cm))
  have NHB := ((HB.setCell (p := ⟨(w.heap.size + 1 + 1), 8, none⟩) (show w.heap.size ≤ (w.heap.size + 1 + 1) by omega) (.int .i64 wt)).setCell (p := ⟨(w.heap.size + 1 + 1), 9, none⟩) (show w.heap.size ≤ (w.heap.size + 1 + 1) by omega) (.int .i64 cm))
  generalize hV : ((V4.setCell ⟨(w.heap.size + 1 + 1), 8, none⟩ (.int .i64 wt)).setCell ⟨(w.heap.size + 1 + 1), 9, none⟩ (.int .i64 cm)) = V5 at *
  clear hV
  clear RX
  have RX := NRX
  clear NRX
  clear RY
  have RY := NRY
  clear NRY
  clear RZ
  have RZ := NRZ
  clear NRZ
  clear HB
  have HB := NHB
  clear NHB
  go_wp2_with (first | (refine wpList_load_row (by rfl) 55 _ (by rfl) (w.heap.size + 1 + 1) (by rfl) [.int .i64 r, .string b, .bool e, .bool k, .int .i64 r2, .string b2, .bool e2, .bool k2, .int .i64 wt, .int .i64 cm] _ 55 RZ Tryz.underlying55 rfl (by kernel_rfl) ?_) | (refine wpList_store_row (by rfl) 55 _ _ (by rfl) (w.heap.size + 1) [.int .i64 r, .string b, .bool e, .bool k, .int .i64 r2, .string b2, .bool e2, .bool k2, .int .i64 wt, .int .i64 cm] (by rfl) (by rfl) 55 [.int .i64 0, .string ⟨#[]⟩, .bool false, .bool false, .int .i64 0, .string ⟨#[]⟩, .bool false, .bool false, .int .i64 0, .int .i64 0] RY (by kernel_rfl) rfl (by intro u hu; simp at hu; rcases hu with rfl | rfl | rfl | rfl | rfl | rfl | rfl | rfl | rfl | rfl <;> rfl) ?_))
  have NRX := RX.kept (setRow_other V5 (w.heap.size + 1) #[.int .i64 r, .string b, .bool e, .bool k, .int .i64 r2, .string b2, .bool e2, .bool k2, .int .i64 wt, .int .i64 cm] w.heap.size (by omega))
  have NRY : RowIs (V5.setRow (w.heap.size + 1) #[.int .i64 r, .string b, .bool e, .bool k, .int .i64 r2, .string b2, .bool e2, .bool k2, .int .i64 wt, .int .i64 cm]) (w.heap.size + 1) 55 [.int .i64 r, .string b, .bool e, .bool k, .int .i64 r2, .string b2, .bool e2, .bool k2, .int .i64 wt, .int .i64 cm] := rowIs_setRow (cs' := [.int .i64 r, .string b, .bool e, .bool k, .int .i64 r2, .string b2, .bool e2, .bool k2, .int .i64 wt, .int .i64 cm]) RY
  have NRZ := RZ.kept (setRow_other V5 (w.heap.size + 1) #[.int .i64 r, .string b, .bool e, .bool k, .int .i64 r2, .string b2, .bool e2, .bool k2, .int .i64 wt, .int .i64 cm] (w.heap.size + 1 + 1) (by omega))
  have NHB := below_setRow HB (show w.heap.size ≤ (w.heap.size + 1) by omega) #[.int .i64 r, .string b, .bool e, .bool k, .int .i64 r2, .string b2, .bool e2, .bool k2, .int .i64 wt, .int .i64 cm]
  generalize hV : V5.setRow (w.heap.size + 1) #[.int .i64 r, .string b, .bool e, .bool k, .int .i64 r2, .string b2, .bool e2, .bool k2, .int .i64 wt, .int .i64 cm] = V6 at *
  clear hV
  clear RX
  have RX := NRX
  clear NRX
  clear RY
  have RY := NRY
  clear NRY
  clear RZ
  have RZ := NRZ
  clear NRZ
  clear HB
  have HB := NHB
  clear NHB
  have y0 := RowIs.cell (j := 0) RY rfl
  have y1 := RowIs.cell (j := 1) RY rfl
  have y2 := RowIs.cell (j := 2) RY rfl
  have y3 := RowIs.cell (j := 3) RY rfl
  have y4 := RowIs.cell (j := 4) RY rfl
  have y5 := RowIs.cell (j := 5) RY rfl
  have y6 := RowIs.cell (j := 6) RY rfl
  have y7 := RowIs.cell (j := 7) RY rfl
  have y8 := RowIs.cell (j := 8) RY rfl
  have y9 := RowIs.cell (j := 9) RY rfl
  have yf := fun j => RowIs.frozen RY j
  have yl := RY.lt
  refine bodyPost_ret (v := .agg #[.int .i64 r, .string b, .bool e, .bool k, .int .i64 r2, .string b2, .bool e2, .bool k2, .int .i64 wt, .int .i64 cm]) (by simp [results, Tryz.results222, go_sem, *]) rfl ?_
  exact ⟨rfl, HB⟩
set_option maxHeartbeats 1000000 in
theorem eqTunnel1 (t : TuD) (w : World) : Calls Tryz.prog 230 #[tuv t, tuv t] w fun x w' => x = .returned (.bool true) ∧ Below w.heap.size w w' := by
  obtain ⟨⟨r, b, e, k⟩, ⟨r2, b2, e2, k2⟩, wt, cm⟩ := t
  dsimp only [tuv] at *
  obtain ⟨W, hW⟩ : ∃ W, (w.alloc (.cells #[.int .i64 r, .string b, .bool e, .bool k, .int .i64 r2, .string b2, .bool e2, .bool k2, .int .i64 wt, .int .i64 cm] 55)).alloc (.cells #[.int .i64 r, .string b, .bool e, .bool k, .int .i64 r2, .string b2, .bool e2, .bool k2, .int .i64 wt, .int .i64 cm] 55) = W := ⟨_, rfl⟩
  have RX : RowIs W w.heap.size 55 [.int .i64 r, .string b, .bool e, .bool k, .int .i64 r2, .string b2, .bool e2, .bool k2, .int .i64 wt, .int .i64 cm] := by rw [← hW]; exact (rowIs_new w 55 [.int .i64 r, .string b, .bool e, .bool k, .int .i64 r2, .string b2, .bool e2, .bool k2, .int .i64 wt, .int .i64 cm]).alloc _
  have RY : RowIs W (w.heap.size + 1) 55 [.int .i64 r, .string b, .bool e, .bool k, .int .i64 r2, .string b2, .bool e2, .bool k2, .int .i64 wt, .int .i64 cm] := by have := rowIs_new (w.alloc (.cells #[.int .i64 r, .string b, .bool e, .bool k, .int .i64 r2, .string b2, .bool e2, .bool k2, .int .i64 wt, .int .i64 cm] 55)) 55 [.int .i64 r, .string b, .bool e, .bool k, .int .i64 r2, .string b2, .bool e2, .bool k2, .int .i64 wt, .int .i64 cm]; rw [hW] at this; simpa using this
  have HB : Below w.heap.size w W := by rw [← hW]; exact (((Below.refl _ _).alloc (Nat.le_refl _) _).alloc (by simp) _)
  have hw0 : (wt != wt) = false := by simp
  have hc0 : (cm != cm) = false := by simp
  go_enter Tryz.func230, Tryz.ntmps230
  have x0 := RowIs.cell (j := 0) RX rfl
  have x1 := RowIs.cell (j := 1) RX rfl
  have x2 := RowIs.cell (j := 2) RX rfl
  have x3 := RowIs.cell (j := 3) RX rfl
  have x4 := RowIs.cell (j := 4) RX rfl
  have x5 := RowIs.cell (j := 5) RX rfl
  have x6 := RowIs.cell (j := 6) RX rfl
  have x7 := RowIs.cell (j := 7) RX rfl
  have x8 := RowIs.cell (j := 8) RX rfl
  have x9 := RowIs.cell (j := 9) RX rfl
  have xf := fun j => RowIs.frozen RX j
  have xl := RX.lt
  have y0 := RowIs.cell (j := 0) RY rfl
  have y1 := RowIs.cell (j := 1) RY rfl
  have y2 := RowIs.cell (j := 2) RY rfl
  have y3 := RowIs.cell (j := 3) RY rfl
  have y4 := RowIs.cell (j := 4) RY rfl
  have y5 := RowIs.cell (j := 5) RY rfl
  have y6 := RowIs.cell (j := 6) RY rfl
  have y7 := RowIs.cell (j := 7) RY rfl
  have y8 := RowIs.cell (j := 8) RY rfl
  have y9 := RowIs.cell (j := 9) RY rfl
  have yf := fun j => RowIs.frozen RY j
  have yl := RY.lt
  go_wp2_with fail
  clear x0 x1 x2 x3 x4 x5 x6 x7 x8 x9 xf xl
  clear y0 y1 y2 y3 y4 y5 y6 y7 y8 y9 yf yl
  clear hW
  refine (eqP r b e k _).mono ?_; rintro x w1 ⟨rfl, hb⟩
  replace RX := RX.new hb
  replace RY := RY.new hb
  replace HB := bchain HB hb
  clear hb
  have x0 := RowIs.cell (j := 0) RX rfl
  have x1 := RowIs.cell (j := 1) RX rfl
  have x2 := RowIs.cell (j := 2) RX rfl
  have x3 := RowIs.cell (j := 3) RX rfl
  have x4 := RowIs.cell (j := 4) RX rfl
  have x5 := RowIs.cell (j := 5) RX rfl
  have x6 := RowIs.cell (j := 6) RX rfl
  have x7 := RowIs.cell (j := 7) RX rfl
  have x8 := RowIs.cell (j := 8) RX rfl
  have x9 := RowIs.cell (j := 9) RX rfl
  have xf := fun j => RowIs.frozen RX j
  have xl := RX.lt
  have y0 := RowIs.cell (j := 0) RY rfl
  have y1 := RowIs.cell (j := 1) RY rfl
  have y2 := RowIs.cell (j := 2) RY rfl
  have y3 := RowIs.cell (j := 3) RY rfl
  have y4 := RowIs.cell (j := 4) RY rfl
  have y5 := RowIs.cell (j := 5) RY rfl
  have y6 := RowIs.cell (j := 6) RY rfl
  have y7 := RowIs.cell (j := 7) RY rfl
  have y8 := RowIs.cell (j := 8) RY rfl
  have y9 := RowIs.cell (j := 9) RY rfl
  have yf := fun j => RowIs.frozen RY j
  have yl := RY.lt
  go_wp2_with fail
  clear x0 x1 x2 x3 x4 x5 x6 x7 x8 x9 xf xl
  clear y0 y1 y2 y3 y4 y5 y6 y7 y8 y9 yf yl
  refine (eqP r2 b2 e2 k2 _).mono ?_; rintro x w2 ⟨rfl, hb⟩
  replace RX := RX.new hb
  replace RY := RY.new hb
  replace HB := bchain HB hb
  clear hb
  have x0 := RowIs.cell (j := 0) RX rfl
  have x1 := RowIs.cell (j := 1) RX rfl
  have x2 := RowIs.cell (j := 2) RX rfl
  have x3 := RowIs.cell (j := 3) RX rfl
  have x4 := RowIs.cell (j := 4) RX rfl
  have x5 := RowIs.cell (j := 5) RX rfl
  have x6 := RowIs.cell (j := 6) RX rfl
  have x7 := RowIs.cell (j := 7) RX rfl
  have x8 := RowIs.cell (j := 8) RX rfl
  have x9 := RowIs.cell (j := 9) RX rfl
  have xf := fun j => RowIs.frozen RX j
  have xl := RX.lt
  have y0 := RowIs.cell (j := 0) RY rfl
  have y1 := RowIs.cell (j := 1) RY rfl
  have y2 := RowIs.cell (j := 2) RY rfl
  have y3 := RowIs.cell (j := 3) RY rfl
  have y4 := RowIs.cell (j := 4) RY rfl
  have y5 := RowIs.cell (j := 5) RY rfl
  have y6 := RowIs.cell (j := 6) RY rfl
  have y7 := RowIs.cell (j := 7) RY rfl
  have y8 := RowIs.cell (j := 8) RY rfl
  have y9 := RowIs.cell (j := 9) RY rfl
  have yf := fun j => RowIs.frozen RY j
  have yl := RY.lt
  go_wp2_with fail
  go_ret
  exact ⟨rfl, HB⟩
end Go.Proofs.YtfmeinkhdgbgjaaGreat
/- Tables of the laws: counted, copied, held against each other, marked, read again; and one that came in. -/
namespace Go.Proofs.YtfmeinkhdgbgjaaGreat
open Go.RowKit
set_option maxRecDepth 100000
set_option linter.unusedSimpArgs false
set_option linter.unusedVariables false

theorem szTable1 (L : List Fd) (room : Int) (v : Value) (left : Int) (w : World) (hr0 : Reads w v L.length 2 (fv L)) (hf : ∀ f ∈ L, f.fine) (h0 : 0 ≤ left) (h1 : left ≤ 1048576) :
    Calls Tryz.prog 68 #[.agg #[.int .i64 room, v], .int .i64 left] w fun x w' => x = .returned (.int .i64 (if left - L.length - szL L < 0 then -1 else left - L.length - szL L)) ∧ Below w.heap.size w w' := by
  obtain ⟨ad, cap, rfl, _⟩ := hr0.2
  have HR := hide hr0
  clear hr0
  obtain ⟨R, hR⟩ : ∃ R : Int, R = if left - L.length - szL L < 0 then -1 else left - L.length - szL L := ⟨_, rfl⟩
  rw [← hR]
  go_enter Tryz.func68, Tryz.ntmps68
  have HRR := hide hR
  clear hR
  go_wp2_with fail
  refine (szFields L _ left _ (HR.out.new ((Below.refl _ _).alloc (Nat.le_refl _) _)) hf h0 h1).mono ?_; rw [← HRR.out]; rintro x w1 ⟨rfl, hb1⟩
  have hz := HRR.out
  by_cases h : left - L.length - szL L < 0
  · rw [if_pos h] at hz
    subst hz
    go_wp2_with fail
    go_ret
    exact ⟨rfl, (by repeat' (first | (with_reducible exact Below.refl _ _) | (with_reducible refine Below.drew ?_) | (with_reducible refine bo_drewN _ ?_) | (with_reducible refine bo_alloc ?_ _) | (refine bchain ?_ (by with_reducible assumption)) | (with_reducible refine Below.setCell ?_ ?_ _) | go_size))⟩
  · rw [if_neg h] at hz
    have hz0 : ¬ R < 0 := by omega
    clear hz
    go_wp2_with fail
    go_ret
    exact ⟨rfl, (by repeat' (first | (with_reducible exact Below.refl _ _) | (with_reducible refine Below.drew ?_) | (with_reducible refine bo_drewN _ ?_) | (with_reducible refine bo_alloc ?_ _) | (refine bchain ?_ (by with_reducible assumption)) | (with_reducible refine Below.setCell ?_ ?_ _) | go_size))⟩

theorem toTable1 (L : List Fd) (room : Int) (v : Value) (w : World) (hr0 : Reads w v L.length 2 (fv L)) (hL : L.length ≤ 1048576) :
    Calls Tryz.prog 72 #[.agg #[.int .i64 room, v]] w fun x w' => ∃ v', x = .returned (.agg #[.int .i64 room, v']) ∧ w'.ownsRow w.heap.size 163 2 v' L.length (fv L) ∧ Below w.heap.size w w' := by
  obtain ⟨ad, cap, rfl, _⟩ := hr0.2
  have HR := hide hr0
  clear hr0
  go_enter Tryz.func72, Tryz.ntmps72
  go_wp2_with fail
  refine (toFields L _ _ ?c1 hL).mono ?_
  case c1 => exact HR.out.new (by repeat' (first | (with_reducible exact Below.refl _ _) | (with_reducible refine Below.drew ?_) | (with_reducible refine bo_drewN _ ?_) | (with_reducible refine bo_alloc ?_ _) | (refine bchain ?_ (by with_reducible assumption)) | (with_reducible refine Below.setCell ?_ ?_ _) | go_size))
  rintro x w1 ⟨v1, rfl, ho, hb1⟩; have hz1 := hb1.size; (try simp at hz1); have hc1 := fun o => hb1.cell (p := ⟨w.heap.size, o, none⟩) (by first | (simp; done) | (simp; omega) | omega); have hf1 := fun o => hb1.frozen (p := ⟨w.heap.size, o, none⟩) (by first | (simp; done) | (simp; omega) | omega); have hcn1 := fun o => hb1.cell (p := ⟨w.heap.size + 1, o, none⟩) (by first | (simp; done) | (simp; omega) | omega); have hfn1 := fun o => hb1.frozen (p := ⟨w.heap.size + 1, o, none⟩) (by first | (simp; done) | (simp; omega) | omega); have hcm1 := fun o => hb1.cell (p := ⟨w.heap.size + 2, o, none⟩) (by first | (simp; done) | (simp; omega) | omega); have hfm1 := fun o => hb1.frozen (p := ⟨w.heap.size + 2, o, none⟩) (by first | (simp; done) | (simp; omega) | omega)
  have hbw : Below w.heap.size w w1 := (by repeat' (first | (with_reducible exact Below.refl _ _) | (with_reducible refine Below.drew ?_) | (with_reducible refine bo_drewN _ ?_) | (with_reducible refine bo_alloc ?_ _) | (refine bchain ?_ (by with_reducible assumption)) | (with_reducible refine Below.setCell ?_ ?_ _) | go_size))
  obtain ⟨ad1, cap1, rfl, _⟩ := owns_form ho
  have hc2 : ∀ k, (Value.slice ad1 L.length cap1).ownBlock = some k → w.heap.size + 3 ≤ k ∧ k < w1.heap.size := fun k hk => by have := ho.lt k hk; simpa using this
  have HO := hide ho
  clear ho
  have HC := hide hc2
  clear hc2
  go_wp2_with fail
  refine bodyPost_ret (v := .agg #[.int .i64 room, .slice ad1 L.length cap1]) (by simp [results, Tryz.results72, go_sem, *]) rfl ?_
  have ho : w1.ownsRow w.heap.size 163 2 (.slice ad1 L.length cap1) L.length (fv L) := owns_base HO.out fun k hk => by have := HC.out k hk; omega
  have hv : ∀ k, (Value.slice ad1 L.length cap1).ownBlock = some k → w.heap.size + 3 ≤ k := fun k hk => (HC.out k hk).1
  exact ⟨_, rfl, (by repeat' (first | (with_reducible exact ho) | (with_reducible refine owns_far _ ?_ hv _ _ ?_) | (with_reducible refine World.ownsRow.alloc ?_ _) | (simp; done) | (simp; omega))), (by repeat' (first | (with_reducible exact Below.refl _ _) | (with_reducible refine Below.drew ?_) | (with_reducible refine bo_drewN _ ?_) | (with_reducible refine bo_alloc ?_ _) | (refine bchain ?_ (by with_reducible assumption)) | (with_reducible refine Below.setCell ?_ ?_ _) | go_size))⟩

theorem eqTable1 (L : List Fd) (room : Int) (v v' : Value) (w : World) (hr0 : Reads w v L.length 2 (fv L)) (hr1 : Reads w v' L.length 2 (fv L)) :
    Calls Tryz.prog 79 #[.agg #[.int .i64 room, v], .agg #[.int .i64 room, v']] w fun x w' => x = .returned (.bool true) ∧ Below w.heap.size w w' := by
  obtain ⟨ad, cap, rfl, _⟩ := hr0.2
  obtain ⟨ad', cap', rfl, _⟩ := hr1.2
  have HR := hide hr0; have HR' := hide hr1
  clear hr0 hr1
  go_enter Tryz.func79, Tryz.ntmps79
  go_wp2_with fail
  refine (eqFields L _ _ _ ?c1 ?c2).mono ?_
  case c1 => exact HR.out.new (by repeat' (first | (with_reducible exact Below.refl _ _) | (with_reducible refine Below.drew ?_) | (with_reducible refine bo_drewN _ ?_) | (with_reducible refine bo_alloc ?_ _) | (refine bchain ?_ (by with_reducible assumption)) | (with_reducible refine Below.setCell ?_ ?_ _) | go_size))
  case c2 => exact HR'.out.new (by repeat' (first | (with_reducible exact Below.refl _ _) | (with_reducible refine Below.drew ?_) | (with_reducible refine bo_drewN _ ?_) | (with_reducible refine bo_alloc ?_ _) | (refine bchain ?_ (by with_reducible assumption)) | (with_reducible refine Below.setCell ?_ ?_ _) | go_size))
  rintro x w1 ⟨rfl, hb1⟩
  go_wp2_with fail
  go_ret
  exact ⟨rfl, (by repeat' (first | (with_reducible exact Below.refl _ _) | (with_reducible refine Below.drew ?_) | (with_reducible refine bo_drewN _ ?_) | (with_reducible refine bo_alloc ?_ _) | (refine bchain ?_ (by with_reducible assumption)) | (with_reducible refine Below.setCell ?_ ?_ _) | go_size))⟩

theorem heldTable1 (n k : Nat) (room : Int) (v : Value) (w : World) (hr0 : Reads w v n 2 (mkT k (n * 2))) (hk1 : k + n * 2 ≤ 1000000000) :
    Calls Tryz.prog 87 #[.agg #[.int .i64 room, v], .int .i64 k] w fun x w' => x = .returned (.int .i64 ((k + n * 2 : Nat) : Int)) ∧ Below w.heap.size w w' := by
  obtain ⟨ad, cap, rfl, _⟩ := hr0.2
  have HR := hide hr0
  clear hr0
  obtain ⟨K, hK⟩ : ∃ K : Nat, K = k + n * 2 := ⟨_, rfl⟩
  rw [← hK]
  have HK := hide hK
  clear hK
  go_enter Tryz.func87, Tryz.ntmps87
  go_wp2_with fail
  refine (heldFields n k _ _ ?c1 hk1).mono ?_
  case c1 => exact HR.out.new (by repeat' (first | (with_reducible exact Below.refl _ _) | (with_reducible refine Below.drew ?_) | (with_reducible refine bo_drewN _ ?_) | (with_reducible refine bo_alloc ?_ _) | (refine bchain ?_ (by with_reducible assumption)) | (with_reducible refine Below.setCell ?_ ?_ _) | go_size))
  rw [← HK.out]
  rintro x w1 ⟨rfl, hb1⟩
  go_wp2_with fail
  go_ret
  exact ⟨rfl, (by repeat' (first | (with_reducible exact Below.refl _ _) | (with_reducible refine Below.drew ?_) | (with_reducible refine bo_drewN _ ?_) | (with_reducible refine bo_alloc ?_ _) | (refine bchain ?_ (by with_reducible assumption)) | (with_reducible refine Below.setCell ?_ ?_ _) | go_size))⟩

theorem markTable1 (n k : Nat) (room : Int) (v : Value) (xs : List Value) (lo : Nat) (w : World) (ho : w.ownsRow lo 163 2 v n xs) (hk1 : k + n * 2 ≤ 1000000000) :
    Calls Tryz.prog 83 #[.agg #[.int .i64 room, v], .int .i64 k] w fun x w' => x = .returned (.int .i64 ((k + n * 2 : Nat) : Int)) ∧ w'.ownsRow lo 163 2 v n (mkT k (n * 2)) ∧ w.grownBy w' v.ownBlock := by
  obtain ⟨ad, cap, rfl, h1, h2⟩ := owns_form ho
  have HO := hide ho
  clear ho
  obtain ⟨K, hK⟩ : ∃ K : Nat, K = k + n * 2 := ⟨_, rfl⟩
  rw [← hK]
  have HK := hide hK
  clear hK
  go_enter Tryz.func83, Tryz.ntmps83
  go_wp2_with fail
  refine (markFields n k _ _ lo _ (HO.out.alloc _) hk1).mono ?_
  rw [← HK.out]
  rintro x w1 ⟨rfl, ho1, hg1⟩
  have HO1 := hide ho1
  have HG := hide (gb_trans (gb_new ((Below.refl w.heap.size w).alloc (Nat.le_refl _) _) _) hg1)
  clear ho1 hg1
  go_wp2_with fail
  go_ret
  exact ⟨rfl, HO1.out, HG.out⟩

end Go.Proofs.YtfmeinkhdgbgjaaGreat
/- What the Go functions of chapter 1 that push and pull answer at every argument. -/
namespace Go.Proofs.YtfmeinkhdgbgjaaGreat
open Go.RowKit
set_option maxRecDepth 100000
set_option linter.unusedSimpArgs false
set_option linter.unusedVariables false

/-- How many bytes go. -/
def goes (n : Int) (b : ByteArray) : Nat := (max 0 (min n b.size)).toNat

end Go.Proofs.YtfmeinkhdgbgjaaGreat
/- Rows of Frames: read, held against each other, marked, read again; one Frame that came in. (Written ahead of the landing of chapter 7: not yet built in a seat that has these functions.) -/
namespace Go.Proofs.YtfmeinkhdgbgjaaGreat
open Go.RowKit
set_option maxRecDepth 100000
set_option linter.unusedSimpArgs false
set_option linter.unusedVariables false

def Fr.cs (f : Fr) : List Value := [.int .i64 f.k, .int .i64 f.fl, .int .i64 f.st, .string f.b]
/-- As Go's types have it. -/
def Fr.fine (f : Fr) : Prop := f.b.size ≤ 9223372036854775807
def fr (L : List Fr) : List Value := L.flatMap Fr.cs
theorem fr_app (A B : List Fr) : fr (A ++ B) = fr A ++ fr B := by simp [fr]

end Go.Proofs.YtfmeinkhdgbgjaaGreat
/- A row that a slice literal makes, and rows of int64 behind an append. -/
namespace Go.Proofs.YtfmeinkhdgbgjaaGreat
open Go.RowKit
set_option maxRecDepth 100000
set_option linter.unusedSimpArgs false
set_option linter.unusedVariables false
theorem owns_lit (w : World) (e : TypeId) (size n : Nat) (xs : Array Value) (hx : xs.size = n * size) (hn : n ≤ 1000000) : (w.alloc (.cells xs e)).ownsRow w.heap.size e size (.slice (some ⟨w.heap.size, 0, none⟩) n n) n xs.toList :=
  ⟨by simp [hx], .inr ⟨w.heap.size, n, xs, rfl, Nat.le_refl _, heap_alloc_last w _, Nat.le_refl _, by unfold maxLen; omega, hx, by rw [List.take_of_length_le (by simp [hx])]⟩⟩
end Go.Proofs.YtfmeinkhdgbgjaaGreat
/- Chapter 9's model: Next, MaySend, MayGet, After. -/
namespace Go.Proofs.YtfmeinkhdgbgjaaGreat
open Go.RowKit
set_option maxRecDepth 100000
set_option linter.unusedSimpArgs false
set_option linter.unusedVariables false
set_option maxHeartbeats 4000000 in
theorem specNext (s e : Int) (w : World) : Calls Tryz.prog 208 #[.int .i64 s, .int .i64 e] w fun x w' => x = .returned (.tuple #[.int .i64 (nxV s e).1, .bool (nxV s e).2]) ∧ w' = w := by
  rcases st_cases s with rfl | rfl | rfl | rfl | rfl | hs
  rotate_left 5
  · rw [nx_bad hs]
    obtain ⟨h0, h1, h2, h3, h4⟩ := hs
    rcases ev_cases e with rfl | rfl | rfl | rfl | rfl | rfl | rfl | ⟨e1, e2, e3, e4, e5, e6, e7⟩
    all_goals (
      go_enter Tryz.func208, Tryz.ntmps208
      go_wp2_with fail
      go_ret2
      exact ⟨rfl, rfl⟩)
  all_goals (
    rcases ev_cases e with rfl | rfl | rfl | rfl | rfl | rfl | rfl | he
    rotate_left 7
    · rw [nx_none he]
      obtain ⟨e1, e2, e3, e4, e5, e6, e7⟩ := he
      have q1 : (e == 1) = false := (by simpa using e1); have q2 : (e == 2) = false := (by simpa using e2); have q3 : (e == 3) = false := (by simpa using e3); have q4 : (e == 4) = false := (by simpa using e4); have q5 : (e == 5) = false := (by simpa using e5); have q6 : (e == 6) = false := (by simpa using e6); have q7 : (e == 7) = false := (by simpa using e7)
      clear e1 e2 e3 e4 e5 e6 e7
      go_enter Tryz.func208, Tryz.ntmps208
      go_wp2_with fail
      go_ret2
      exact ⟨rfl, rfl⟩
    all_goals (
      go_enter Tryz.func208, Tryz.ntmps208
      go_wp2_with fail
      go_ret2
      exact ⟨rfl, rfl⟩))
theorem specMaySend (s : Int) (w : World) : Calls Tryz.prog 140 #[.int .i64 s] w fun x w' => x = .returned (.bool (msV s)) ∧ w' = w := by
  rcases st_cases s with rfl | rfl | rfl | rfl | rfl | ⟨h0, h1, h2, h3, h4⟩
  rotate_left 5
  · have hv : msV s = false := by simp [msV, h1, h2]
    rw [hv]
    have q1 : (s == 1) = false := (by simpa using h1); have q2 : (s == 2) = false := (by simpa using h2); have q3 : (s == 3) = false := (by simpa using h3)
    go_enter Tryz.func140, Tryz.ntmps140
    go_wp2_with fail
    go_ret
    exact ⟨rfl, rfl⟩
  all_goals (
    go_enter Tryz.func140, Tryz.ntmps140
    go_wp2_with fail
    go_ret
    exact ⟨rfl, rfl⟩)
end Go.Proofs.YtfmeinkhdgbgjaaGreat
/- A row that is owned, with one more behind an append. -/
namespace Go.Proofs.YtfmeinkhdgbgjaaGreat
open Go.RowKit
set_option maxRecDepth 100000
set_option linter.unusedSimpArgs false
set_option linter.unusedVariables false
/-- A row that is owned, opened for an append: its cells, and what the append leaves. -/
theorem OwX.grow {D : Type} {E : Shp D} {w : World} {lo mid : Nat} {v : Value} {L : List D} (h : OwX E w lo mid v L) (hmid : mid ≤ w.heap.size) (hlm : lo ≤ mid) : ∃ xs, w.ownsRow 0 E.ty E.size v L.length xs ∧
    ∀ (w1 : World) (v' : Value) (cs : List Value) (x : D), OwE E w mid w.heap.size cs x → w1.ownsRow 0 E.ty E.size v' (L.length + 1) (xs ++ cs) → w.grownBy w1 v.ownBlock → (v'.ownBlock = v.ownBlock ∨ v'.ownBlock = some w.heap.size) → OwX E w1 lo w1.heap.size v' (L ++ [x]) := by
  obtain ⟨bs, ⟨ts, hL, ho, hE, rfl⟩, hn, hb⟩ := h
  have hlen : L.length = ts.length := by rw [hL]; simp
  refine ⟨ts.flatMap (·.1), by rw [hlen]; exact ho, fun w1 v' cs x hx ho' hg hat => ?_⟩
  exact OwX.app (mid := mid) (hi := w.heap.size) hL ho hE hn hb hmid (by omega) hx hlm (by rw [← hlen]; exact ho') hg hat
end Go.Proofs.YtfmeinkhdgbgjaaGreat
/- A Tunnel in its box; two of them held against each other; what the law of tunnels wants of the plain words. -/
namespace Go.Proofs.YtfmeinkhdgbgjaaGreat
open Go.RowKit
set_option maxRecDepth 100000
set_option linter.unusedSimpArgs false
set_option linter.unusedVariables false
structure BxU (w : World) (g : Nat) (t : TuD) : Prop where
  row : RowIs w g 55 (tucs t)
theorem BxU.new {w w' : World} {b : Nat} {t : TuD} (h : BxU w b t) (hb : Below w.heap.size w w') : BxU w' b t := ⟨h.row.new hb⟩
theorem bck_law {t : TuD} {s : ByteArray} {fin : Bool} {z : TuD} {k : Int} (hz : bckTu t s fin = (z, k)) (h : okTu t = true) : ∃ n : Nat, k = n ∧ n ≤ s.size ∧ z.dn.b = t.dn.b ++ s.extract 0 n ∧ okTu z = true ∧ z.up = t.up := by
  obtain ⟨h1, h2, h3, h5⟩ := okTu_true h
  obtain ⟨q1, q2, q3, q4⟩ := okPp_true h2
  unfold bckTu at hz
  rw [if_neg (by rw [h]; decide)] at hz
  obtain ⟨rfl, rfl⟩ := Prod.mk.inj hz
  have hn : bckN t s ≤ s.size ∧ (bckN t s : Int) ≤ t.dn.r - t.dn.b.size := by
    unfold bckN
    split
    · exact ⟨Nat.zero_le _, by omega⟩
    · unfold comes; omega
  refine ⟨bckN t s, rfl, hn.1, rfl, ?_, rfl⟩
  refine okTu_of h1 (okPp_of q1 q2 ?_ ?_) h3 h5
  · show ((t.dn.b ++ s.extract 0 (bckN t s)).size : Int) ≤ t.dn.r
    rw [ByteArray.size_append, ByteArray.size_extract]; omega
  · intro hk
    have hk' : t.dn.k = true := hk
    have h0 := q4 hk'
    have hb : bckN t s = 0 := by unfold bckN; rw [if_pos (.inr hk')]
    show (t.dn.b ++ s.extract 0 (bckN t s)).size = 0
    rw [hb, ByteArray.size_append, ByteArray.size_extract]; omega
end Go.Proofs.YtfmeinkhdgbgjaaGreat
/- A struct in the midst of a block, loaded and stored as a whole. -/
namespace Go.Proofs.YtfmeinkhdgbgjaaGreat
open Go.RowKit
set_option maxRecDepth 100000
set_option linter.unusedSimpArgs false
set_option linter.unusedVariables false
section
variable {P : Program}
theorem run_loadVar_mid (w : World) (b o : Nat) (ty : TypeId) (cs : List Value) (d : TypeDesc) (hc : ∀ j u, cs[j]? = some u → w.cell? ⟨b, o + j, none⟩ = some u)
    (hu : P.underlying ty = some d) (hd : (match d with | .struct _ | .array _ _ => true | _ => false) = true) (hi : (P.info? ty).map (·.size) = some cs.length) :
    (loadVar ty ⟨b, o, none⟩).run P w = .ok (.agg cs.toArray) w := by
  have hl : (loadCells ⟨b, o, none⟩ cs.length).run P w = .ok cs.toArray w :=
    run_loadCells_list (P := P) w ⟨b, o, none⟩ cs (fun j v hv => by
      have hadd : (⟨b, o, none⟩ : Addr).add j = ⟨b, o + j, none⟩ := by unfold Addr.add; split <;> simp_all
      rw [hadd]; exact hc j v hv)
  cases hq : P.info? ty with
  | none => simp [hq] at hi
  | some i =>
    have hs : i.size = cs.length := by simpa [hq] using hi
    have hagg : (isAgg ty).run P w = .ok true w := by
      unfold isAgg
      rw [Sem.run_bind, run_underlying hu w]
      cases d <;> simp_all
    simp [loadVar, hagg, sizeOf, typeInfo, hq, hs, hl]
theorem wp_load_mid {op : Oper} {a : Act} {w : World} {K : Act → World → Prop} {Q : Exit → Act → World → Prop} (ty : TypeId) (x : Operand) (ho : op.op = .load ty x)
    (b o : Nat) (hx : a.eval x = .pointer (some ⟨b, o, none⟩)) (cs : List Value) (d : TypeDesc) (hc : ∀ j u, cs[j]? = some u → w.cell? ⟨b, o + j, none⟩ = some u)
    (hu : P.underlying ty = some d) (hd : (match d with | .struct _ | .array _ _ => true | _ => false) = true) (hi : (P.info? ty).map (·.size) = some cs.length)
    (h : K (a.put op.dst (.agg cs.toArray)) w) : op.wp P a w K Q := by
  unfold Oper.wp execOp
  simp only [ho, hx, Instr.loadAt, Instr.sureAddr, Sem.run_bind, Sem.run_pure, Result.andThen_ok, run_loadVar_mid w b o ty cs d hc hu hd hi]
  exact h
theorem wpList_load_mid {ops : Array Oper} {rest : List Oper} {op : Oper} {a : Act} {w : World} {Q : Exit → Act → World → Prop} (hgd : op.guard = none) (ty : TypeId) (x : Operand) (ho : op.op = .load ty x)
    (b o : Nat) (hx : a.eval x = .pointer (some ⟨b, o, none⟩)) (cs : List Value) (d : TypeDesc) (hc : ∀ j u, cs[j]? = some u → w.cell? ⟨b, o + j, none⟩ = some u)
    (hu : P.underlying ty = some d) (hd : (match d with | .struct _ | .array _ _ => true | _ => false) = true) (hi : (P.info? ty).map (·.size) = some cs.length)
    (h : wpList P ops Q rest (a.put op.dst (.agg cs.toArray)) w) : wpList P ops Q (op :: rest) a w :=
  wpList_plain hgd fun _ hK => wp_load_mid ty x ho b o hx cs d hc hu hd hi (hK _ _ h)
theorem run_storeVar_mid (w : World) (b o : Nat) (t ty : TypeId) (A C old cs : List Value) (hg : MidIs w b t A C o old) (hi : (P.info? ty).map (·.size) = some cs.length) (hl : old.length = cs.length) (h1 : ∀ u ∈ cs, u.oneCell' = true) :
    (storeVar ty ⟨b, o, none⟩ (.agg cs.toArray)).run P w = .ok () (w.setRow b (A ++ cs ++ C).toArray) := by
  have hoff := hg.off
  have hrow : w.heap[b]? = some (.cells (A ++ old ++ C).toArray t (0, 0)) := hg.row
  have := run_storeCells_at (P := P) b o t cs 0 (A ++ old ++ C).toArray w hrow (by simp; omega) h1
  have e : (A ++ old ++ C).toArray.toList.take (o + 0) ++ cs ++ (A ++ old ++ C).toArray.toList.drop (o + 0 + cs.length) = A ++ cs ++ C := by
    subst hoff
    simp only [Nat.add_zero, List.append_assoc]
    rw [List.take_left, show A.length + cs.length = A.length + old.length by omega, ← List.append_assoc A old C, ← List.length_append, List.drop_left]
  rw [e] at this
  cases hq : P.info? ty with
  | none => simp [hq] at hi
  | some i =>
    have hs : cs.length = i.size := by simp [hq] at hi; omega
    simp [storeVar, sizeOf, typeInfo, hq, Value.cells, hs, this]
theorem MidIs.setRow {w : World} {b o : Nat} {t : TypeId} {A C old : List Value} (h : MidIs w b t A C o old) (cs : List Value) : MidIs (w.setRow b (A ++ cs ++ C).toArray) b t A C o cs := ⟨rowIs_setRow (cs' := A ++ cs ++ C) h.row, h.off⟩
theorem turnB_setRow (w : World) (b : Nat) (cs : Array Value) : TurnB [b] w (w.setRow b cs) := ⟨rfl, rfl, rfl, by rw [setRow_size]; exact Nat.le_refl _, fun k _ hk => setRow_other _ _ _ _ (by simpa using hk)⟩
theorem wp_store_mid {op : Oper} {a : Act} {w : World} {K : Act → World → Prop} {Q : Exit → Act → World → Prop} (ty : TypeId) (x y : Operand) (ho : op.op = .store ty x y)
    (b o : Nat) (cs : List Value) (hx : a.eval x = .pointer (some ⟨b, o, none⟩)) (hy : a.eval y = .agg cs.toArray) (t : TypeId) (A C old : List Value) (hc : MidIs w b t A C o old)
    (hi : (P.info? ty).map (·.size) = some cs.length) (hl : old.length = cs.length) (h1 : ∀ u ∈ cs, u.oneCell' = true)
    (h : ∀ w', MidIs w' b t A C o cs → TurnB [b] w w' → K (a.put op.dst undef) w') : op.wp P a w K Q := by
  unfold Oper.wp execOp
  simp only [ho, hx, hy, Instr.storeAt, Instr.sureAddr, Sem.run_bind, Sem.run_pure, Result.andThen_ok, run_storeVar_mid w b o t ty A C old cs hc hi hl h1]
  exact h _ (hc.setRow cs) (turnB_setRow w b _)
theorem wpList_store_mid {ops : Array Oper} {rest : List Oper} {op : Oper} {a : Act} {w : World} {Q : Exit → Act → World → Prop} (hgd : op.guard = none) (ty : TypeId) (x y : Operand) (ho : op.op = .store ty x y)
    (b o : Nat) (cs : List Value) (hx : a.eval x = .pointer (some ⟨b, o, none⟩)) (hy : a.eval y = .agg cs.toArray) (t : TypeId) (A C old : List Value) (hc : MidIs w b t A C o old)
    (hi : (P.info? ty).map (·.size) = some cs.length) (hl : old.length = cs.length) (h1 : ∀ u ∈ cs, u.oneCell' = true)
    (h : ∀ w', MidIs w' b t A C o cs → TurnB [b] w w' → wpList P ops Q rest (a.put op.dst undef) w') : wpList P ops Q (op :: rest) a w :=
  wpList_plain hgd fun _ hK => wp_store_mid ty x y ho b o cs hx hy t A C old hc hi hl h1 fun w' h2 h3 => hK _ _ (h w' h2 h3)
end
/-- A part of a run of cells. -/
theorem MidIs.part {w : World} {b o : Nat} {t : TypeId} {A C p m q : List Value} (h : MidIs w b t A C o (p ++ m ++ q)) : MidIs w b t (A ++ p) (q ++ C) (o + p.length) m :=
  ⟨by have := h.row; simpa using this, by rw [List.length_append, h.off]⟩
theorem MidIs.whole {w : World} {b o o' : Nat} {t : TypeId} {A C p m q : List Value} (h : MidIs w b t (A ++ p) (q ++ C) o' m) (ho : A.length = o) : MidIs w b t A C o (p ++ m ++ q) :=
  ⟨by have := h.row; simpa using this, ho⟩
/-- A part of a row that is owned, in place. -/
theorem owns_mid {w : World} {base : Nat} {e : TypeId} {size n : Nat} {v : Value} {A B C : List Value} (h : w.ownsRow base e size v n (A ++ B ++ C)) (hB : B ≠ []) :
    ∃ g cap S, v = .slice (some ⟨g, 0, none⟩) n cap ∧ v.ownBlock = some g ∧ base ≤ g ∧ g < w.heap.size ∧ n ≤ cap ∧ cap ≤ maxLen ∧ MidIs w g e A (C ++ S) A.length B ∧
      ∀ w' B', B'.length = B.length → MidIs w' g e A (C ++ S) A.length B' → w'.ownsRow base e size v n (A ++ B' ++ C) := by
  obtain ⟨hl, hr⟩ := h
  rcases hr with ⟨hv, h0⟩ | ⟨g, cap, arr, hv, hb0, hheap, h1, h2, h3, h4⟩
  · subst h0
    have : (A ++ B ++ C).length = 0 := by rw [hl]; simp
    simp at this
    exact absurd this.2.1 hB
  · have hS : arr.toList = A ++ B ++ (C ++ arr.toList.drop (n * size)) := by rw [← List.append_assoc, ← h4, List.take_append_drop]
    refine ⟨g, cap, arr.toList.drop (n * size), hv, by rw [hv]; rfl, hb0, (Array.getElem?_eq_some_iff.1 hheap).1, h1, h2, ⟨?_, rfl⟩, fun w' B' hBl hm => ?_⟩
    · show w.heap[g]? = some (.cells _ e (0, 0))
      rw [hheap, ← hS]
    · refine ⟨by rw [← hl]; simp [hBl], .inr ⟨g, cap, (A ++ B' ++ (C ++ arr.toList.drop (n * size))).toArray, hv, hb0, hm.row, h1, h2, ?_, ?_⟩⟩
      · have e1 := congrArg List.length hS
        rw [← h3]
        simp only [List.length_append, Array.length_toList, List.size_toArray] at e1 ⊢
        omega
      · have e2 : A ++ B' ++ (C ++ arr.toList.drop (n * size)) = (A ++ B' ++ C) ++ arr.toList.drop (n * size) := by simp
        show List.take _ _ = _
        rw [e2, List.take_append_of_le_length (by rw [← hl]; simp [hBl]), List.take_of_length_le (by rw [← hl]; simp [hBl])]
theorem list_set_same {α : Type} {l : List α} {j : Nat} {u : α} (h : l[j]? = some u) : l.set j u = l := by
  obtain ⟨hj, e⟩ := List.getElem?_eq_some_iff.1 h
  rw [← e]; exact List.set_getElem_self hj
end Go.Proofs.YtfmeinkhdgbgjaaGreat
/- The program's states: its moves are a map with keys of state and event. -/
namespace Go.Proofs.YtfmeinkhdgbgjaaGreat
open Go.RowKit
set_option maxRecDepth 100000
set_option linter.unusedSimpArgs false
set_option linter.unusedVariables false
def mvs : List (Nat × Int × Int × Int) := [(2, 0, 1, 1), (4, 1, 6, 1), (6, 1, 7, 1), (8, 1, 2, 2), (10, 1, 3, 3), (12, 1, 4, 4), (14, 1, 5, 4), (16, 2, 7, 2), (18, 2, 3, 4), (20, 2, 4, 4), (22, 2, 5, 4), (24, 3, 6, 3), (26, 3, 2, 4), (28, 3, 4, 4), (30, 3, 5, 4)]
def fL (l : Array Bool) : Int → Int → Option Int := fun s e => (mvs.find? fun t => decide (t.2.1 = s) && decide (t.2.2.1 = e)).bind fun t => if l.getD t.1 false then some t.2.2.2 else none
def mvF : Int → Int → Option Int := fun s e => (mvs.find? fun t => decide (t.2.1 = s) && decide (t.2.2.1 = e)).map fun t => t.2.2.2
theorem mvs_find : ∀ t ∈ mvs, (mvs.find? fun u => decide (u.2.1 = t.2.1) && decide (u.2.2.1 = t.2.2.1)) = some t := by decide
theorem mvs_one : ∀ t ∈ mvs, ∀ u ∈ mvs, t.1 = u.1 → t = u := by decide
theorem fL_put {l : Array Bool} {t : Nat × Int × Int × Int} (ht : t ∈ mvs) (hl : t.1 < l.size) (a b : Int) : fPut (fL l) t.2.1 t.2.2.1 t.2.2.2 a b = fL (l.setIfInBounds t.1 true) a b := by
  unfold fPut fL
  split
  · rename_i h
    obtain ⟨rfl, rfl⟩ := h
    rw [mvs_find t ht]
    simp [hl]
  · rename_i h
    cases hf : mvs.find? fun t => decide (t.2.1 = a) && decide (t.2.2.1 = b) with
    | none => rfl
    | some u =>
      have hu := List.find?_some hf
      have hm := List.mem_of_find?_eq_some hf
      simp at hu
      have hne : t.1 ≠ u.1 := fun e => by
        obtain rfl := mvs_one t ht u hm e
        exact h ⟨hu.1.symm, hu.2.symm⟩
      simp only [Option.bind_some]
      rw [getD_set_ne false hne]
theorem fL_none {l : Array Bool} {t : Nat × Int × Int × Int} (ht : t ∈ mvs) (hl : l.getD t.1 false = false) : fL l t.2.1 t.2.2.1 = none := by
  unfold fL
  rw [mvs_find t ht]
  simp only [Option.bind_some]
  rw [hl]; rfl
theorem fL_far {l : Array Bool} {i : Nat} (h : ∀ t ∈ mvs, i ≠ t.1) (a b : Int) : fL l a b = fL (l.setIfInBounds i true) a b := by
  unfold fL
  cases hf : mvs.find? fun t => decide (t.2.1 = a) && decide (t.2.2.1 = b) with
  | none => rfl
  | some u =>
    simp only [Option.bind_some]
    rw [getD_set_ne false (h u (List.mem_of_find?_eq_some hf))]
theorem fL_all {l : Array Bool} (h : ∀ t ∈ mvs, l.getD t.1 false = true) (a b : Int) : fL l a b = mvF a b := by
  unfold fL mvF
  cases hf : mvs.find? fun t => decide (t.2.1 = a) && decide (t.2.2.1 = b) with
  | none => rfl
  | some u =>
    simp only [Option.bind_some, Option.map_some]
    rw [h u (List.mem_of_find?_eq_some hf)]; rfl
set_option maxRecDepth 100000 in
set_option maxHeartbeats 4000000 in
theorem implMoves (w : World) : Calls Tryz.prog 216 #[] w fun x w' => x = .returned (.map (some w.heap.size)) ∧ MapHas w' w.heap.size mvF ∧ Below w.heap.size w w' := by
  have hmm := @run_makeMap Tryz.prog
  go_enter Tryz.func216, Tryz.ntmps216
  go_wp2_with fail
  refine wp_region_any (by kernel_rfl) ?_; change wpAny _ _ _ _ _ _ _ (World.drew _)
  refine wpAny_take (i := 1) (v := ?_) rfl (by kernel_rfl) (by kernel_rfl) (by kernel_rfl) (fun _ _ _ h => h) (Or.inl ⟨by rfl, ?_⟩) ?_; rotate_left; focus (intro w; go_simp; try with_reducible rfl)
  refine wpAny_take (i := 3) (v := ?_) rfl (by kernel_rfl) (by kernel_rfl) (by kernel_rfl) (fun _ _ _ h => h) (Or.inl ⟨by rfl, ?_⟩) ?_; rotate_left; focus (intro w; go_simp; try with_reducible rfl)
  refine wpAny_take (i := 5) (v := ?_) rfl (by kernel_rfl) (by kernel_rfl) (by kernel_rfl) (fun _ _ _ h => h) (Or.inl ⟨by rfl, ?_⟩) ?_; rotate_left; focus (intro w; go_simp; try with_reducible rfl)
  refine wpAny_take (i := 7) (v := ?_) rfl (by kernel_rfl) (by kernel_rfl) (by kernel_rfl) (fun _ _ _ h => h) (Or.inl ⟨by rfl, ?_⟩) ?_; rotate_left; focus (intro w; go_simp; try with_reducible rfl)
  refine wpAny_take (i := 9) (v := ?_) rfl (by kernel_rfl) (by kernel_rfl) (by kernel_rfl) (fun _ _ _ h => h) (Or.inl ⟨by rfl, ?_⟩) ?_; rotate_left; focus (intro w; go_simp; try with_reducible rfl)
  refine wpAny_take (i := 11) (v := ?_) rfl (by kernel_rfl) (by kernel_rfl) (by kernel_rfl) (fun _ _ _ h => h) (Or.inl ⟨by rfl, ?_⟩) ?_; rotate_left; focus (intro w; go_simp; try with_reducible rfl)
  refine wpAny_take (i := 13) (v := ?_) rfl (by kernel_rfl) (by kernel_rfl) (by kernel_rfl) (fun _ _ _ h => h) (Or.inl ⟨by rfl, ?_⟩) ?_; rotate_left; focus (intro w; go_simp; try with_reducible rfl)
  refine wpAny_take (i := 15) (v := ?_) rfl (by kernel_rfl) (by kernel_rfl) (by kernel_rfl) (fun _ _ _ h => h) (Or.inl ⟨by rfl, ?_⟩) ?_; rotate_left; focus (intro w; go_simp; try with_reducible rfl)
  refine wpAny_take (i := 17) (v := ?_) rfl (by kernel_rfl) (by kernel_rfl) (by kernel_rfl) (fun _ _ _ h => h) (Or.inl ⟨by rfl, ?_⟩) ?_; rotate_left; focus (intro w; go_simp; try with_reducible rfl)
  refine wpAny_take (i := 19) (v := ?_) rfl (by kernel_rfl) (by kernel_rfl) (by kernel_rfl) (fun _ _ _ h => h) (Or.inl ⟨by rfl, ?_⟩) ?_; rotate_left; focus (intro w; go_simp; try with_reducible rfl)
  refine wpAny_take (i := 21) (v := ?_) rfl (by kernel_rfl) (by kernel_rfl) (by kernel_rfl) (fun _ _ _ h => h) (Or.inl ⟨by rfl, ?_⟩) ?_; rotate_left; focus (intro w; go_simp; try with_reducible rfl)
  refine wpAny_take (i := 23) (v := ?_) rfl (by kernel_rfl) (by kernel_rfl) (by kernel_rfl) (fun _ _ _ h => h) (Or.inl ⟨by rfl, ?_⟩) ?_; rotate_left; focus (intro w; go_simp; try with_reducible rfl)
  refine wpAny_take (i := 25) (v := ?_) rfl (by kernel_rfl) (by kernel_rfl) (by kernel_rfl) (fun _ _ _ h => h) (Or.inl ⟨by rfl, ?_⟩) ?_; rotate_left; focus (intro w; go_simp; try with_reducible rfl)
  refine wpAny_take (i := 27) (v := ?_) rfl (by kernel_rfl) (by kernel_rfl) (by kernel_rfl) (fun _ _ _ h => h) (Or.inl ⟨by rfl, ?_⟩) ?_; rotate_left; focus (intro w; go_simp; try with_reducible rfl)
  refine wpAny_take (i := 29) (v := ?_) rfl (by kernel_rfl) (by kernel_rfl) (by kernel_rfl) (fun _ _ _ h => h) (Or.inl ⟨by rfl, ?_⟩) ?_; rotate_left; focus (intro w; go_simp; try with_reducible rfl)
  refine wpAny_ready (rs := [0]) (by kernel_rfl) (by simp) ?_; refine AllReady.cons rfl (fun K hK => ?_) AllReady.nil
  go_simp; refine hK _ _ ?_; clear hK K
  refine wpAny_inv (fun (l : Array Bool) (a : Act) (u : World) => ((l.getD 31 false = false ∧ l.getD 32 false = false ∧ a = ⟨#[.map none, .map (some w.heap.size), .agg #[.int .i64 0, .int .i64 1], .agg #[.int .i64 1, .int .i64 6], .agg #[.int .i64 1, .int .i64 7], .agg #[.int .i64 1, .int .i64 2], .agg #[.int .i64 1, .int .i64 3], .agg #[.int .i64 1, .int .i64 4], .agg #[.int .i64 1, .int .i64 5], .agg #[.int .i64 2, .int .i64 7], .agg #[.int .i64 2, .int .i64 3], .agg #[.int .i64 2, .int .i64 4], .agg #[.int .i64 2, .int .i64 5], .agg #[.int .i64 3, .int .i64 6], .agg #[.int .i64 3, .int .i64 2], .agg #[.int .i64 3, .int .i64 4], .agg #[.int .i64 3, .int .i64 5], undef], []⟩) ∨ (l.getD 31 false = true ∧ l.getD 32 false = false ∧ a = ⟨#[.map none, .map (some w.heap.size), .agg #[.int .i64 0, .int .i64 1], .agg #[.int .i64 1, .int .i64 6], .agg #[.int .i64 1, .int .i64 7], .agg #[.int .i64 1, .int .i64 2], .agg #[.int .i64 1, .int .i64 3], .agg #[.int .i64 1, .int .i64 4], .agg #[.int .i64 1, .int .i64 5], .agg #[.int .i64 2, .int .i64 7], .agg #[.int .i64 2, .int .i64 3], .agg #[.int .i64 2, .int .i64 4], .agg #[.int .i64 2, .int .i64 5], .agg #[.int .i64 3, .int .i64 6], .agg #[.int .i64 3, .int .i64 2], .agg #[.int .i64 3, .int .i64 4], .agg #[.int .i64 3, .int .i64 5], .map (some w.heap.size)], []⟩) ∨ (l.getD 31 false = true ∧ l.getD 32 false = true ∧ a = ⟨#[.map (some w.heap.size), .map (some w.heap.size), .agg #[.int .i64 0, .int .i64 1], .agg #[.int .i64 1, .int .i64 6], .agg #[.int .i64 1, .int .i64 7], .agg #[.int .i64 1, .int .i64 2], .agg #[.int .i64 1, .int .i64 3], .agg #[.int .i64 1, .int .i64 4], .agg #[.int .i64 1, .int .i64 5], .agg #[.int .i64 2, .int .i64 7], .agg #[.int .i64 2, .int .i64 3], .agg #[.int .i64 2, .int .i64 4], .agg #[.int .i64 2, .int .i64 5], .agg #[.int .i64 3, .int .i64 6], .agg #[.int .i64 3, .int .i64 2], .agg #[.int .i64 3, .int .i64 4], .agg #[.int .i64 3, .int .i64 5], .map (some w.heap.size)], []⟩)) ∧ (∀ j ∈ [0, 1, 3, 5, 7, 9, 11, 13, 15, 17, 19, 21, 23, 25, 27, 29], l.getD j false = true) ∧ (l.getD 31 false = true → ∀ j, j < 31 → l.getD j false = true) ∧ MapHas u w.heap.size (fL l) ∧ Below w.heap.size w u) ?hs ?he _ _ _ _ (by kernel_rfl) (by decide) ?h0
  case h0 =>
    refine ⟨Or.inl ⟨by kernel_rfl, by kernel_rfl, rfl⟩, by decide, by decide, (mv_made _).ext (fun s e => ?_), (Below.refl _ _).drew.alloc (Nat.le_refl _) _⟩
    unfold fL
    cases hf : mvs.find? fun t => decide (t.2.1 = s) && decide (t.2.2.1 = e) with
    | none => rfl
    | some t =>
      have hm := List.mem_of_find?_eq_some hf
      clear hf
      simp only [Option.bind_some]
      revert t
      decide
  case he =>
    rintro l a u ⟨hA, h0, h31, hM, hB⟩ hl hr
    have hall := all_listed hl (by kernel_rfl) hr
    have hM2 := hM.ext (fL_all (fun t ht => by
      have : ∀ t ∈ mvs, t.1 < 33 := by decide
      exact hall t.1 (this t ht)))
    rcases hA with ⟨_, h2, _⟩ | ⟨_, h2, _⟩ | ⟨_, _, rfl⟩
    · rw [hall 32 (by decide)] at h2; cases h2
    · rw [hall 32 (by decide)] at h2; cases h2
    · clear hall hM h0 h31 hr
      go_wp2_with fail
      refine bodyPost_ret (v := .map (some w.heap.size)) (by simp [results, Tryz.results216, go_sem, *]) rfl ?_
      exact ⟨rfl, hM2, hB⟩
  case hs =>
    rintro l a u io ⟨hA, h0, h31, hM, hB⟩ hl hr
    have hlt := ready_lt hr
    match io, hlt, hr with
    | 0, _, hr => have := (ready_new hr hl).1; rw [h0 0 (by decide)] at this; cases this
    | 1, _, hr => have := (ready_new hr hl).1; rw [h0 1 (by decide)] at this; cases this
    | 2, _, hr =>
      have hnew := (ready_new hr hl).1
      obtain ⟨w2, hrun, hM2, hg2⟩ := mv_update hM 0 1 1 (fL_none (t := (2, 0, 1, 1)) (by decide) hnew)
      have hB2 : Below w.heap.size w w2 := hB.grown hg2 hB.size (fun q hq => by cases hq; exact Nat.le_refl _)
      have hM3 := hM2.ext (fL_put (l := l) (t := (2, 0, 1, 1)) (by decide) (by rw [hl]; exact ready_lt hr))
      rcases hA with ⟨h1, h2, rfl⟩ | ⟨h1, _, _⟩ | ⟨h1, _, _⟩
      · refine wpOp_step (o := _) rfl (fun K hK => ?_)
        go_simp
        refine hK _ _ ?_; clear hK K
        exact ⟨Or.inl ⟨(getD_set_ne false (by decide)).trans h1, (getD_set_ne false (by decide)).trans h2, rfl⟩, fun j hj => getD_set_true (h0 j hj), last_kept hr hl h31 (by decide), hM3, hB2⟩
      all_goals (rw [not_last hr hl h31 (by decide)] at h1; cases h1)
    | 3, _, hr => have := (ready_new hr hl).1; rw [h0 3 (by decide)] at this; cases this
    | 4, _, hr =>
      have hnew := (ready_new hr hl).1
      obtain ⟨w2, hrun, hM2, hg2⟩ := mv_update hM 1 6 1 (fL_none (t := (4, 1, 6, 1)) (by decide) hnew)
      have hB2 : Below w.heap.size w w2 := hB.grown hg2 hB.size (fun q hq => by cases hq; exact Nat.le_refl _)
      have hM3 := hM2.ext (fL_put (l := l) (t := (4, 1, 6, 1)) (by decide) (by rw [hl]; exact ready_lt hr))
      rcases hA with ⟨h1, h2, rfl⟩ | ⟨h1, _, _⟩ | ⟨h1, _, _⟩
      · refine wpOp_step (o := _) rfl (fun K hK => ?_)
        go_simp
        refine hK _ _ ?_; clear hK K
        exact ⟨Or.inl ⟨(getD_set_ne false (by decide)).trans h1, (getD_set_ne false (by decide)).trans h2, rfl⟩, fun j hj => getD_set_true (h0 j hj), last_kept hr hl h31 (by decide), hM3, hB2⟩
      all_goals (rw [not_last hr hl h31 (by decide)] at h1; cases h1)
    | 5, _, hr => have := (ready_new hr hl).1; rw [h0 5 (by decide)] at this; cases this
    | 6, _, hr =>
      have hnew := (ready_new hr hl).1
      obtain ⟨w2, hrun, hM2, hg2⟩ := mv_update hM 1 7 1 (fL_none (t := (6, 1, 7, 1)) (by decide) hnew)
      have hB2 : Below w.heap.size w w2 := hB.grown hg2 hB.size (fun q hq => by cases hq; exact Nat.le_refl _)
      have hM3 := hM2.ext (fL_put (l := l) (t := (6, 1, 7, 1)) (by decide) (by rw [hl]; exact ready_lt hr))
      rcases hA with ⟨h1, h2, rfl⟩ | ⟨h1, _, _⟩ | ⟨h1, _, _⟩
      · refine wpOp_step (o := _) rfl (fun K hK => ?_)
        go_simp
        refine hK _ _ ?_; clear hK K
        exact ⟨Or.inl ⟨(getD_set_ne false (by decide)).trans h1, (getD_set_ne false (by decide)).trans h2, rfl⟩, fun j hj => getD_set_true (h0 j hj), last_kept hr hl h31 (by decide), hM3, hB2⟩
      all_goals (rw [not_last hr hl h31 (by decide)] at h1; cases h1)
    | 7, _, hr => have := (ready_new hr hl).1; rw [h0 7 (by decide)] at this; cases this
    | 8, _, hr =>
      have hnew := (ready_new hr hl).1
      obtain ⟨w2, hrun, hM2, hg2⟩ := mv_update hM 1 2 2 (fL_none (t := (8, 1, 2, 2)) (by decide) hnew)
      have hB2 : Below w.heap.size w w2 := hB.grown hg2 hB.size (fun q hq => by cases hq; exact Nat.le_refl _)
      have hM3 := hM2.ext (fL_put (l := l) (t := (8, 1, 2, 2)) (by decide) (by rw [hl]; exact ready_lt hr))
      rcases hA with ⟨h1, h2, rfl⟩ | ⟨h1, _, _⟩ | ⟨h1, _, _⟩
      · refine wpOp_step (o := _) rfl (fun K hK => ?_)
        go_simp
        refine hK _ _ ?_; clear hK K
        exact ⟨Or.inl ⟨(getD_set_ne false (by decide)).trans h1, (getD_set_ne false (by decide)).trans h2, rfl⟩, fun j hj => getD_set_true (h0 j hj), last_kept hr hl h31 (by decide), hM3, hB2⟩
      all_goals (rw [not_last hr hl h31 (by decide)] at h1; cases h1)
    | 9, _, hr => have := (ready_new hr hl).1; rw [h0 9 (by decide)] at this; cases this
    | 10, _, hr =>
      have hnew := (ready_new hr hl).1
      obtain ⟨w2, hrun, hM2, hg2⟩ := mv_update hM 1 3 3 (fL_none (t := (10, 1, 3, 3)) (by decide) hnew)
      have hB2 : Below w.heap.size w w2 := hB.grown hg2 hB.size (fun q hq => by cases hq; exact Nat.le_refl _)
      have hM3 := hM2.ext (fL_put (l := l) (t := (10, 1, 3, 3)) (by decide) (by rw [hl]; exact ready_lt hr))
      rcases hA with ⟨h1, h2, rfl⟩ | ⟨h1, _, _⟩ | ⟨h1, _, _⟩
      · refine wpOp_step (o := _) rfl (fun K hK => ?_)
        go_simp
        refine hK _ _ ?_; clear hK K
        exact ⟨Or.inl ⟨(getD_set_ne false (by decide)).trans h1, (getD_set_ne false (by decide)).trans h2, rfl⟩, fun j hj => getD_set_true (h0 j hj), last_kept hr hl h31 (by decide), hM3, hB2⟩
      all_goals (rw [not_last hr hl h31 (by decide)] at h1; cases h1)
    | 11, _, hr => have := (ready_new hr hl).1; rw [h0 11 (by decide)] at this; cases this
    | 12, _, hr =>
      have hnew := (ready_new hr hl).1
      obtain ⟨w2, hrun, hM2, hg2⟩ := mv_update hM 1 4 4 (fL_none (t := (12, 1, 4, 4)) (by decide) hnew)
      have hB2 : Below w.heap.size w w2 := hB.grown hg2 hB.size (fun q hq => by cases hq; exact Nat.le_refl _)
      have hM3 := hM2.ext (fL_put (l := l) (t := (12, 1, 4, 4)) (by decide) (by rw [hl]; exact ready_lt hr))
      rcases hA with ⟨h1, h2, rfl⟩ | ⟨h1, _, _⟩ | ⟨h1, _, _⟩
      · refine wpOp_step (o := _) rfl (fun K hK => ?_)
        go_simp
        refine hK _ _ ?_; clear hK K
        exact ⟨Or.inl ⟨(getD_set_ne false (by decide)).trans h1, (getD_set_ne false (by decide)).trans h2, rfl⟩, fun j hj => getD_set_true (h0 j hj), last_kept hr hl h31 (by decide), hM3, hB2⟩
      all_goals (rw [not_last hr hl h31 (by decide)] at h1; cases h1)
    | 13, _, hr => have := (ready_new hr hl).1; rw [h0 13 (by decide)] at this; cases this
    | 14, _, hr =>
      have hnew := (ready_new hr hl).1
      obtain ⟨w2, hrun, hM2, hg2⟩ := mv_update hM 1 5 4 (fL_none (t := (14, 1, 5, 4)) (by decide) hnew)
      have hB2 : Below w.heap.size w w2 := hB.grown hg2 hB.size (fun q hq => by cases hq; exact Nat.le_refl _)
      have hM3 := hM2.ext (fL_put (l := l) (t := (14, 1, 5, 4)) (by decide) (by rw [hl]; exact ready_lt hr))
      rcases hA with ⟨h1, h2, rfl⟩ | ⟨h1, _, _⟩ | ⟨h1, _, _⟩
      · refine wpOp_step (o := _) rfl (fun K hK => ?_)
        go_simp
        refine hK _ _ ?_; clear hK K
        exact ⟨Or.inl ⟨(getD_set_ne false (by decide)).trans h1, (getD_set_ne false (by decide)).trans h2, rfl⟩, fun j hj => getD_set_true (h0 j hj), last_kept hr hl h31 (by decide), hM3, hB2⟩
      all_goals (rw [not_last hr hl h31 (by decide)] at h1; cases h1)
    | 15, _, hr => have := (ready_new hr hl).1; rw [h0 15 (by decide)] at this; cases this
    | 16, _, hr =>
      have hnew := (ready_new hr hl).1
      obtain ⟨w2, hrun, hM2, hg2⟩ := mv_update hM 2 7 2 (fL_none (t := (16, 2, 7, 2)) (by decide) hnew)
      have hB2 : Below w.heap.size w w2 := hB.grown hg2 hB.size (fun q hq => by cases hq; exact Nat.le_refl _)
      have hM3 := hM2.ext (fL_put (l := l) (t := (16, 2, 7, 2)) (by decide) (by rw [hl]; exact ready_lt hr))
      rcases hA with ⟨h1, h2, rfl⟩ | ⟨h1, _, _⟩ | ⟨h1, _, _⟩
      · refine wpOp_step (o := _) rfl (fun K hK => ?_)
        go_simp
        refine hK _ _ ?_; clear hK K
        exact ⟨Or.inl ⟨(getD_set_ne false (by decide)).trans h1, (getD_set_ne false (by decide)).trans h2, rfl⟩, fun j hj => getD_set_true (h0 j hj), last_kept hr hl h31 (by decide), hM3, hB2⟩
      all_goals (rw [not_last hr hl h31 (by decide)] at h1; cases h1)
    | 17, _, hr => have := (ready_new hr hl).1; rw [h0 17 (by decide)] at this; cases this
    | 18, _, hr =>
      have hnew := (ready_new hr hl).1
      obtain ⟨w2, hrun, hM2, hg2⟩ := mv_update hM 2 3 4 (fL_none (t := (18, 2, 3, 4)) (by decide) hnew)
      have hB2 : Below w.heap.size w w2 := hB.grown hg2 hB.size (fun q hq => by cases hq; exact Nat.le_refl _)
      have hM3 := hM2.ext (fL_put (l := l) (t := (18, 2, 3, 4)) (by decide) (by rw [hl]; exact ready_lt hr))
      rcases hA with ⟨h1, h2, rfl⟩ | ⟨h1, _, _⟩ | ⟨h1, _, _⟩
      · refine wpOp_step (o := _) rfl (fun K hK => ?_)
        go_simp
        refine hK _ _ ?_; clear hK K
        exact ⟨Or.inl ⟨(getD_set_ne false (by decide)).trans h1, (getD_set_ne false (by decide)).trans h2, rfl⟩, fun j hj => getD_set_true (h0 j hj), last_kept hr hl h31 (by decide), hM3, hB2⟩
      all_goals (rw [not_last hr hl h31 (by decide)] at h1; cases h1)
    | 19, _, hr => have := (ready_new hr hl).1; rw [h0 19 (by decide)] at this; cases this
    | 20, _, hr =>
      have hnew := (ready_new hr hl).1
      obtain ⟨w2, hrun, hM2, hg2⟩ := mv_update hM 2 4 4 (fL_none (t := (20, 2, 4, 4)) (by decide) hnew)
      have hB2 : Below w.heap.size w w2 := hB.grown hg2 hB.size (fun q hq => by cases hq; exact Nat.le_refl _)
      have hM3 := hM2.ext (fL_put (l := l) (t := (20, 2, 4, 4)) (by decide) (by rw [hl]; exact ready_lt hr))
      rcases hA with ⟨h1, h2, rfl⟩ | ⟨h1, _, _⟩ | ⟨h1, _, _⟩
      · refine wpOp_step (o := _) rfl (fun K hK => ?_)
        go_simp
        refine hK _ _ ?_; clear hK K
        exact ⟨Or.inl ⟨(getD_set_ne false (by decide)).trans h1, (getD_set_ne false (by decide)).trans h2, rfl⟩, fun j hj => getD_set_true (h0 j hj), last_kept hr hl h31 (by decide), hM3, hB2⟩
      all_goals (rw [not_last hr hl h31 (by decide)] at h1; cases h1)
    | 21, _, hr => have := (ready_new hr hl).1; rw [h0 21 (by decide)] at this; cases this
    | 22, _, hr =>
      have hnew := (ready_new hr hl).1
      obtain ⟨w2, hrun, hM2, hg2⟩ := mv_update hM 2 5 4 (fL_none (t := (22, 2, 5, 4)) (by decide) hnew)
      have hB2 : Below w.heap.size w w2 := hB.grown hg2 hB.size (fun q hq => by cases hq; exact Nat.le_refl _)
      have hM3 := hM2.ext (fL_put (l := l) (t := (22, 2, 5, 4)) (by decide) (by rw [hl]; exact ready_lt hr))
      rcases hA with ⟨h1, h2, rfl⟩ | ⟨h1, _, _⟩ | ⟨h1, _, _⟩
      · refine wpOp_step (o := _) rfl (fun K hK => ?_)
        go_simp
        refine hK _ _ ?_; clear hK K
        exact ⟨Or.inl ⟨(getD_set_ne false (by decide)).trans h1, (getD_set_ne false (by decide)).trans h2, rfl⟩, fun j hj => getD_set_true (h0 j hj), last_kept hr hl h31 (by decide), hM3, hB2⟩
      all_goals (rw [not_last hr hl h31 (by decide)] at h1; cases h1)
    | 23, _, hr => have := (ready_new hr hl).1; rw [h0 23 (by decide)] at this; cases this
    | 24, _, hr =>
      have hnew := (ready_new hr hl).1
      obtain ⟨w2, hrun, hM2, hg2⟩ := mv_update hM 3 6 3 (fL_none (t := (24, 3, 6, 3)) (by decide) hnew)
      have hB2 : Below w.heap.size w w2 := hB.grown hg2 hB.size (fun q hq => by cases hq; exact Nat.le_refl _)
      have hM3 := hM2.ext (fL_put (l := l) (t := (24, 3, 6, 3)) (by decide) (by rw [hl]; exact ready_lt hr))
      rcases hA with ⟨h1, h2, rfl⟩ | ⟨h1, _, _⟩ | ⟨h1, _, _⟩
      · refine wpOp_step (o := _) rfl (fun K hK => ?_)
        go_simp
        refine hK _ _ ?_; clear hK K
        exact ⟨Or.inl ⟨(getD_set_ne false (by decide)).trans h1, (getD_set_ne false (by decide)).trans h2, rfl⟩, fun j hj => getD_set_true (h0 j hj), last_kept hr hl h31 (by decide), hM3, hB2⟩
      all_goals (rw [not_last hr hl h31 (by decide)] at h1; cases h1)
    | 25, _, hr => have := (ready_new hr hl).1; rw [h0 25 (by decide)] at this; cases this
    | 26, _, hr =>
      have hnew := (ready_new hr hl).1
      obtain ⟨w2, hrun, hM2, hg2⟩ := mv_update hM 3 2 4 (fL_none (t := (26, 3, 2, 4)) (by decide) hnew)
      have hB2 : Below w.heap.size w w2 := hB.grown hg2 hB.size (fun q hq => by cases hq; exact Nat.le_refl _)
      have hM3 := hM2.ext (fL_put (l := l) (t := (26, 3, 2, 4)) (by decide) (by rw [hl]; exact ready_lt hr))
      rcases hA with ⟨h1, h2, rfl⟩ | ⟨h1, _, _⟩ | ⟨h1, _, _⟩
      · refine wpOp_step (o := _) rfl (fun K hK => ?_)
        go_simp
        refine hK _ _ ?_; clear hK K
        exact ⟨Or.inl ⟨(getD_set_ne false (by decide)).trans h1, (getD_set_ne false (by decide)).trans h2, rfl⟩, fun j hj => getD_set_true (h0 j hj), last_kept hr hl h31 (by decide), hM3, hB2⟩
      all_goals (rw [not_last hr hl h31 (by decide)] at h1; cases h1)
    | 27, _, hr => have := (ready_new hr hl).1; rw [h0 27 (by decide)] at this; cases this
    | 28, _, hr =>
      have hnew := (ready_new hr hl).1
      obtain ⟨w2, hrun, hM2, hg2⟩ := mv_update hM 3 4 4 (fL_none (t := (28, 3, 4, 4)) (by decide) hnew)
      have hB2 : Below w.heap.size w w2 := hB.grown hg2 hB.size (fun q hq => by cases hq; exact Nat.le_refl _)
      have hM3 := hM2.ext (fL_put (l := l) (t := (28, 3, 4, 4)) (by decide) (by rw [hl]; exact ready_lt hr))
      rcases hA with ⟨h1, h2, rfl⟩ | ⟨h1, _, _⟩ | ⟨h1, _, _⟩
      · refine wpOp_step (o := _) rfl (fun K hK => ?_)
        go_simp
        refine hK _ _ ?_; clear hK K
        exact ⟨Or.inl ⟨(getD_set_ne false (by decide)).trans h1, (getD_set_ne false (by decide)).trans h2, rfl⟩, fun j hj => getD_set_true (h0 j hj), last_kept hr hl h31 (by decide), hM3, hB2⟩
      all_goals (rw [not_last hr hl h31 (by decide)] at h1; cases h1)
    | 29, _, hr => have := (ready_new hr hl).1; rw [h0 29 (by decide)] at this; cases this
    | 30, _, hr =>
      have hnew := (ready_new hr hl).1
      obtain ⟨w2, hrun, hM2, hg2⟩ := mv_update hM 3 5 4 (fL_none (t := (30, 3, 5, 4)) (by decide) hnew)
      have hB2 : Below w.heap.size w w2 := hB.grown hg2 hB.size (fun q hq => by cases hq; exact Nat.le_refl _)
      have hM3 := hM2.ext (fL_put (l := l) (t := (30, 3, 5, 4)) (by decide) (by rw [hl]; exact ready_lt hr))
      rcases hA with ⟨h1, h2, rfl⟩ | ⟨h1, _, _⟩ | ⟨h1, _, _⟩
      · refine wpOp_step (o := _) rfl (fun K hK => ?_)
        go_simp
        refine hK _ _ ?_; clear hK K
        exact ⟨Or.inl ⟨(getD_set_ne false (by decide)).trans h1, (getD_set_ne false (by decide)).trans h2, rfl⟩, fun j hj => getD_set_true (h0 j hj), last_kept hr hl h31 (by decide), hM3, hB2⟩
      all_goals (rw [not_last hr hl h31 (by decide)] at h1; cases h1)
    | 31, _, hr =>
      have hnew := (ready_new hr hl).1
      rcases hA with ⟨h1, h2, rfl⟩ | ⟨h1, _, _⟩ | ⟨h1, _, _⟩
      · refine wpOp_step (o := _) rfl (fun K hK => ?_)
        go_simp
        refine hK _ _ ?_; clear hK K
        exact ⟨Or.inr (Or.inl ⟨set_is (by rw [hl]; exact ready_lt hr), (getD_set_ne false (by decide)).trans h2, rfl⟩), fun j hj => getD_set_true (h0 j hj), last_comes hr (by kernel_rfl), hM.ext (fL_far (by decide)), hB⟩
      all_goals (rw [hnew] at h1; cases h1)
    | 32, _, hr =>
      have hnew := (ready_new hr hl).1
      have h31' := ready_waits hr (j := 31) (by kernel_rfl)
      rcases hA with ⟨h1, _, _⟩ | ⟨h1, h2, rfl⟩ | ⟨_, h1, _⟩
      · rw [h31'] at h1; cases h1
      · refine wpOp_step (o := _) rfl (fun K hK => ?_)
        go_simp
        refine hK _ _ ?_; clear hK K
        exact ⟨Or.inr (Or.inr ⟨getD_set_true h1, set_is (by rw [hl]; exact ready_lt hr), rfl⟩), fun j hj => getD_set_true (h0 j hj), fun _ j hj => getD_set_true (h31 h1 j hj), hM.ext (fL_far (by decide)), hB⟩
      · rw [hnew] at h1; cases h1
    | n + 33, h, _ => exact absurd h (by show ¬ n + 33 < 33; omega)
def cF : Int → Int → Option Int := fPut (fPut (fun _ _ => none) 4 4 4) 4 5 4
def mF (s : Int) : Int → Int → Option Int := if s = 4 then cF else mvF
theorem mF_nx (s e : Int) : nxV s e = (((mF s s e).getD s), (mF s s e).isSome) := by
  rcases st_cases s with rfl | rfl | rfl | rfl | rfl | hs
  rotate_left 5
  · rw [nx_bad hs]
    obtain ⟨h0, h1, h2, h3, h4⟩ := hs
    have : mF s s e = none := by
      simp only [mF, h4, if_false, mvF, mvs, List.find?]
      simp [Ne.symm h0, Ne.symm h1, Ne.symm h2, Ne.symm h3]
    rw [this]; rfl
  · rcases ev_cases e with rfl | rfl | rfl | rfl | rfl | rfl | rfl | he
    rotate_left 7
    · rw [nx_none he]
      obtain ⟨e1, e2, e3, e4, e5, e6, e7⟩ := he
      have h : mF 0 0 e = none := by
        show mvF 0 e = none
        unfold mvF mvs
        simp [List.find?, Ne.symm e1, Ne.symm e2, Ne.symm e3, Ne.symm e4, Ne.symm e5, Ne.symm e6, Ne.symm e7]
      rw [h]; rfl
    all_goals decide
  · rcases ev_cases e with rfl | rfl | rfl | rfl | rfl | rfl | rfl | he
    rotate_left 7
    · rw [nx_none he]
      obtain ⟨e1, e2, e3, e4, e5, e6, e7⟩ := he
      have h : mF 1 1 e = none := by
        show mvF 1 e = none
        unfold mvF mvs
        simp [List.find?, Ne.symm e1, Ne.symm e2, Ne.symm e3, Ne.symm e4, Ne.symm e5, Ne.symm e6, Ne.symm e7]
      rw [h]; rfl
    all_goals decide
  · rcases ev_cases e with rfl | rfl | rfl | rfl | rfl | rfl | rfl | he
    rotate_left 7
    · rw [nx_none he]
      obtain ⟨e1, e2, e3, e4, e5, e6, e7⟩ := he
      have h : mF 2 2 e = none := by
        show mvF 2 e = none
        unfold mvF mvs
        simp [List.find?, Ne.symm e1, Ne.symm e2, Ne.symm e3, Ne.symm e4, Ne.symm e5, Ne.symm e6, Ne.symm e7]
      rw [h]; rfl
    all_goals decide
  · rcases ev_cases e with rfl | rfl | rfl | rfl | rfl | rfl | rfl | he
    rotate_left 7
    · rw [nx_none he]
      obtain ⟨e1, e2, e3, e4, e5, e6, e7⟩ := he
      have h : mF 3 3 e = none := by
        show mvF 3 e = none
        unfold mvF mvs
        simp [List.find?, Ne.symm e1, Ne.symm e2, Ne.symm e3, Ne.symm e4, Ne.symm e5, Ne.symm e6, Ne.symm e7]
      rw [h]; rfl
    all_goals decide
  · rcases ev_cases e with rfl | rfl | rfl | rfl | rfl | rfl | rfl | he
    rotate_left 7
    · rw [nx_none he]
      obtain ⟨e1, e2, e3, e4, e5, e6, e7⟩ := he
      have h : mF 4 4 e = none := by
        show cF 4 e = none
        simp [cF, fPut, e4, e5]
      rw [h]; rfl
    all_goals decide
set_option maxHeartbeats 1000000 in
theorem enter1 (B0 b g : Nat) (s0 s : Int) (f : Int → Int → Option Int) (w : World) (R : RowIs w b 181 [.int .i64 s0, .map (some g)]) (M : MapHas w g f) (hbg : b ≠ g) (h1 : B0 ≤ b) (h2 : B0 ≤ g) :
    Calls Tryz.prog 217 #[.pointer (some ⟨b, 0, none⟩), .int .i64 s] w fun x w' => x = .returned (.tuple #[]) ∧ RowIs w' b 181 [.int .i64 s, .map (some g)] ∧ MapHas w' g (if s = 4 then cF else f) ∧ Below B0 w w' := by
  have k0 := RowIs.cell (j := 0) R rfl
  have k1 := RowIs.cell (j := 1) R rfl
  have k9 := fun j => RowIs.frozen R j
  have klt := R.lt
  have R1 := hide (R.set 0 (.int .i64 s))
  have M1 := hide (M.setCell (a := ⟨b, 0, none⟩) (fun e => hbg e.symm) (.int .i64 s))
  have hb1 := hide ((Below.refl B0 w).setCell (p := ⟨b, 0, none⟩) h1 (.int .i64 s))
  clear R M
  by_cases hs : s = 4
  · subst hs
    rw [if_pos rfl]
    obtain ⟨W1, hW1⟩ : ∃ W, w.setCell ⟨b, 0, none⟩ (.int .i64 4) = W := ⟨_, rfl⟩
    rw [hW1] at R1 M1 hb1
    obtain ⟨w2, hr2, M2, g2⟩ := mv_clear M1.out 0
    obtain ⟨w3, hr3, M3, g3⟩ := mv_update M2 4 4 4 rfl
    obtain ⟨w4, hr4, M4, g4⟩ := mv_update M3 4 5 4 (by simp [fPut])
    have klt1 : b < W1.heap.size := R1.out.lt
    have R2 := R1.out.kept (g2.block b klt1 (fun e => hbg (by injection e)))
    have R3 := R2.kept (g3.block b R2.lt (fun e => hbg (by injection e)))
    have R4 := R3.kept (g4.block b R3.lt (fun e => hbg (by injection e)))
    have c1 := RowIs.cell (j := 1) R1.out rfl
    have c2 := RowIs.cell (j := 1) R2 rfl
    have c3 := RowIs.cell (j := 1) R3 rfl
    have l2 := R2.lt
    have l3 := R3.lt
    have hz1 := hb1.out.size
    have B2 : Below B0 w w2 := hb1.out.grown g2 (by omega) (fun q hq => by cases hq; exact h2)
    have B3 : Below B0 w w3 := B2.grown g3 (by omega) (fun q hq => by cases hq; exact h2)
    have B4 := hide (B3.grown g4 (by omega) (fun q hq => by cases hq; exact h2))
    replace R4 := hide R4
    replace M4 := hide M4
    clear R1 M1 hb1 M2 M3 g2 g3 g4 R2 R3 B2 B3
    go_enter Tryz.func217, Tryz.ntmps217
    go_wp2_with fail
    refine bodyPost_end (v := .tuple #[]) (by simp [results, Tryz.results217, go_sem]) rfl ?_
    exact ⟨rfl, R4.out, M4.out, B4.out⟩
  · rw [if_neg hs]
    have hs' : (s == 4) = false := by simpa using hs
    go_enter Tryz.func217, Tryz.ntmps217
    go_wp2_with fail
    refine bodyPost_ret (v := .tuple #[]) (by simp [results, Tryz.results217, go_sem, *]) rfl ?_
    exact ⟨rfl, R1.out, M1.out, hb1.out⟩
set_option maxHeartbeats 1000000 in
theorem courseIn1 (s : Int) (w : World) : Calls Tryz.prog 144 #[.int .i64 s] w fun x w' => ∃ g : Nat, x = .returned (.agg #[.int .i64 s, .map (some g)]) ∧ w.heap.size ≤ g ∧ MapHas w' g (mF s) ∧ Below w.heap.size w w' := by
  go_enter Tryz.func144, Tryz.ntmps144
  go_wp2_with fail
  refine (implMoves _).mono ?_; rintro e w1 ⟨rfl, M1, hb1⟩
  have R2 := (rowIs_new w 181 [.int .i64 0, .map none]).new hb1
  have b1 : Below w.heap.size w w1 := ((Below.refl _ w).alloc (Nat.le_refl _) _).trans (hb1.mono (by simp))
  have z1 := M1.lt
  simp at z1 M1 R2
  go_simp
  obtain ⟨g, hg⟩ : ∃ g, g = w.heap.size + 1 := ⟨_, rfl⟩
  rw [← hg] at z1 M1 ⊢
  have hgw : w.heap.size < g := by omega
  clear hg hb1
  go_wp2_with fail
  have R3 := rowIs_new w1 181 [.int .i64 0, .map (some g)]
  have M3 := M1.kept (World.grownBy_alloc w1 (.cells #[.int .i64 0, .map (some g)] 181) none) (by simp)
  have R5 := R2.alloc (.cells #[.int .i64 0, .map (some g)] 181)
  have b3 : Below w.heap.size w (w1.alloc (.cells #[.int .i64 0, .map (some g)] 181)) := b1.alloc (by omega) _
  refine (enter1 (w.heap.size + 1) w1.heap.size g 0 s mvF _ R3 M3 (by omega) (by omega) (by omega)).mono ?_; rintro e w2 ⟨rfl, R4, M4, hb4⟩
  replace R5 := R5.kept (hb4.block w.heap.size (by omega))
  have b4 : Below w.heap.size w w2 := b3.trans (hb4.mono (by omega))
  have x0 := RowIs.cell (j := 0) R4 rfl
  have x1 := RowIs.cell (j := 1) R4 rfl
  have xl := R4.lt
  have y0 := RowIs.cell (j := 0) R5 rfl
  have y1 := RowIs.cell (j := 1) R5 rfl
  have y9 := fun j => RowIs.frozen R5 j
  have yl := R5.lt
  have M5 := hide M4
  have b5 := hide b4
  clear M4 b4 R4 R5 hb4 b3 R3 M3 b1 M1 R2
  go_wp2_with fail
  refine bodyPost_ret (v := .agg #[.int .i64 s, .map (some g)]) (by simp [results, Tryz.results144, go_sem, *]) rfl ?_
  refine ⟨g, rfl, by omega, ?_, ?_⟩
  · exact ((M5.out.setCell (a := ⟨w.heap.size, 0, none⟩) (by show g ≠ w.heap.size; omega) _).setCell (a := ⟨w.heap.size, 1, none⟩) (by show g ≠ w.heap.size; omega) _)
  · repeat' (first | (with_reducible exact b5.out) | (with_reducible refine Below.setCell ?_ ?_ _) | (with_reducible refine Below.alloc ?_ ?_ _) | (with_reducible refine Below.drew ?_) | (with_reducible refine bo_drewN _ ?_) | omega | (simp; done) | (simp; omega))
set_option maxHeartbeats 1000000 in
theorem happen1 (B0 b g : Nat) (s e : Int) (w : World) (R : RowIs w b 181 [.int .i64 s, .map (some g)]) (M : MapHas w g (mF s)) (hbg : b ≠ g) (h1 : B0 ≤ b) (h2 : B0 ≤ g) :
    Calls Tryz.prog 145 #[.pointer (some ⟨b, 0, none⟩), .int .i64 e] w fun x w' => x = .returned (.bool (nxV s e).2) ∧ RowIs w' b 181 [.int .i64 (nxV s e).1, .map (some g)] ∧ MapHas w' g (mF (nxV s e).1) ∧ Below B0 w w' := by
  have k0 := RowIs.cell (j := 0) R rfl
  have k1 := RowIs.cell (j := 1) R rfl
  have klt := R.lt
  have hlk := mv_lookup (w := w.drew) M s e
  have hn := mF_nx s e
  obtain ⟨o, ho⟩ : ∃ o, mF s s e = o := ⟨_, rfl⟩
  rw [ho] at hlk hn
  clear ho
  rw [hn]
  dsimp only
  go_enter Tryz.func145, Tryz.ntmps145
  go_wp2_with fail
  refine wp_region_held_drew (S := (fun u => u.cell? ⟨b, 0, none⟩ = some (.int .i64 s) ∧ u.cell? ⟨b, 1, none⟩ = some (.map (some g)) ∧ (Instr.lookup 179 (.map (some g)) (.agg #[.int .i64 s, .int .i64 e]) true).run Tryz.prog u = .ok (.tuple #[.int .i64 (o.getD 0), .bool o.isSome]) u)) (by kernel_rfl) (And.intro k0 (And.intro k1 hlk)) (fun hS => ?_)
  refine wpAnyH_take (i := 0) (v := ?_) rfl (by kernel_rfl) (by kernel_rfl) (by kernel_rfl) (fun _ _ _ h => h) (Or.inl ⟨by rfl, ?_⟩) hS ?_; rotate_left; focus (intro w hw; clear hw; go_simp; try with_reducible rfl)
  refine wpAnyH_take (i := 1) (v := ?_) rfl (by kernel_rfl) (by kernel_rfl) (by kernel_rfl) (fun _ _ _ h => h) (Or.inl ⟨by rfl, ?_⟩) hS ?_; rotate_left; focus (intro w hw; clear hw; go_simp; try with_reducible rfl)
  refine wpAnyH_take (i := 2) (v := ?_) rfl (by kernel_rfl) (by kernel_rfl) (by kernel_rfl) (fun _ _ _ h => h) (Or.inl ⟨by rfl, ?_⟩) hS ?_; rotate_left; focus (intro w hw; clear hw; go_simp; try with_reducible rfl)
  refine wpAnyH_take (i := 3) (v := ?_) rfl (by kernel_rfl) (by kernel_rfl) (by kernel_rfl) (fun _ _ _ h => h) (Or.inl ⟨by rfl, ?_⟩) hS ?_; rotate_left; focus (intro w hw; obtain ⟨l0, l1, l2⟩ := hw; go_simp; try with_reducible rfl)
  refine wpAnyH_take (i := 4) (v := ?_) rfl (by kernel_rfl) (by kernel_rfl) (by kernel_rfl) (fun _ _ _ h => h) (Or.inl ⟨by rfl, ?_⟩) hS ?_; rotate_left; focus (intro w hw; clear hw; go_simp; try with_reducible rfl)
  refine wpAnyH_take (i := 5) (v := ?_) rfl (by kernel_rfl) (by kernel_rfl) (by kernel_rfl) (fun _ _ _ h => h) (Or.inl ⟨by rfl, ?_⟩) hS ?_; rotate_left; focus (intro w hw; clear hw; go_simp; try with_reducible rfl)
  refine wpAnyH_take (i := 6) (v := ?_) rfl (by kernel_rfl) (by kernel_rfl) (by kernel_rfl) (fun _ _ _ h => h) (Or.inl ⟨by rfl, ?_⟩) hS ?_; rotate_left; focus (intro w hw; clear hw; go_simp; try with_reducible rfl)
  refine wpAnyH_take (i := 7) (v := ?_) rfl (by kernel_rfl) (by kernel_rfl) (by kernel_rfl) (fun _ _ _ h => h) (Or.inl ⟨by rfl, ?_⟩) hS ?_; rotate_left; focus (intro w hw; obtain ⟨l0, l1, l2⟩ := hw; go_simp; try with_reducible rfl)
  refine wpAnyH_take (i := 8) (v := ?_) rfl (by kernel_rfl) (by kernel_rfl) (by kernel_rfl) (fun _ _ _ h => h) (Or.inl ⟨by rfl, ?_⟩) hS ?_; rotate_left; focus (intro w hw; clear hw; go_simp; try with_reducible rfl)
  refine wpAnyH_take (i := 9) (v := ?_) rfl (by kernel_rfl) (by kernel_rfl) (by kernel_rfl) (fun _ _ _ h => h) (Or.inl ⟨by rfl, ?_⟩) hS ?_; rotate_left; focus (intro w hw; clear hw; go_simp; try with_reducible rfl)
  refine wpAnyH_take (i := 10) (v := ?_) rfl (by kernel_rfl) (by kernel_rfl) (by kernel_rfl) (fun _ _ _ h => h) (Or.inl ⟨by rfl, ?_⟩) hS ?_; rotate_left; focus (intro w hw; obtain ⟨l0, l1, l2⟩ := hw; go_simp; try with_reducible rfl)
  refine wpAnyH_take (i := 11) (v := ?_) rfl (by kernel_rfl) (by kernel_rfl) (by kernel_rfl) (fun _ _ _ h => h) (Or.inl ⟨by rfl, ?_⟩) hS ?_; rotate_left; focus (intro w hw; clear hw; go_simp; try with_reducible rfl)
  refine wpAnyH_take (i := 12) (v := ?_) rfl (by kernel_rfl) (by kernel_rfl) (by kernel_rfl) (fun _ _ _ h => h) (Or.inl ⟨by rfl, ?_⟩) hS ?_; rotate_left; focus (intro w hw; clear hw; go_simp; try with_reducible rfl)
  refine wpAnyH_take (i := 13) (v := ?_) rfl (by kernel_rfl) (by kernel_rfl) (by kernel_rfl) (fun _ _ _ h => h) (Or.inl ⟨by rfl, ?_⟩) hS ?_; rotate_left; focus (intro w hw; clear hw; go_simp; try with_reducible rfl)
  refine wpAnyH_take (i := 14) (v := ?_) rfl (by kernel_rfl) (by kernel_rfl) (by kernel_rfl) (fun _ _ _ h => h) (Or.inl ⟨by rfl, ?_⟩) hS ?_; rotate_left; focus (intro w hw; clear hw; go_simp; try with_reducible rfl)
  refine wpAnyH_take (i := 15) (v := ?_) rfl (by kernel_rfl) (by kernel_rfl) (by kernel_rfl) (fun _ _ _ h => h) (Or.inl ⟨by rfl, ?_⟩) hS ?_; rotate_left; focus (intro w hw; clear hw; go_simp; try with_reducible rfl)
  refine wpAnyH_done (by kernel_rfl) ?_ _
  clear hS
  have R0 : RowIs w.drew b 181 [.int .i64 s, .map (some g)] := R
  have M0 : MapHas w.drew g (mF s) := M
  have hb0 : Below B0 w w.drew := (Below.refl _ _).drew
  cases o with
  | none =>
    clear hn hlk
    go_wp2_with fail
    refine bodyPost_ret (v := .bool false) (by simp [results, Tryz.results145, go_sem, *]) rfl ?_
    exact ⟨rfl, R0, M0, hb0⟩
  | some v =>
    have hM : ∀ u, MapHas u g (if v = 4 then cF else mF s) → MapHas u g (mF v) := fun u hu => by
      unfold mF
      by_cases h4 : v = 4
      · rw [if_pos h4] at hu ⊢; exact hu
      · rw [if_neg h4] at hu ⊢
        have hs4 : s ≠ 4 := fun e4 => by
          subst e4
          exact h4 (nx_closed hn)
        unfold mF at hu
        rw [if_neg hs4] at hu
        exact hu
    clear hn hlk
    go_wp2_with fail
    refine (enter1 B0 b g s v (mF s) _ R0 M0 hbg h1 h2).mono ?_; rintro e w1 ⟨rfl, R1, M1, hb1⟩
    go_wp2_with fail
    refine bodyPost_ret (v := .bool true) (by simp [results, Tryz.results145, go_sem, *]) rfl ?_
    exact ⟨rfl, R1, hM _ M1, hb0.trans hb1⟩
set_option maxHeartbeats 1000000 in
theorem implNext (s e : Int) (w : World) : Calls Tryz.prog 64 #[.int .i64 s, .int .i64 e] w fun x w' => x = .returned (.tuple #[.int .i64 (nxV s e).1, .bool (nxV s e).2]) ∧ Below w.heap.size w w' := by
  obtain ⟨⟨n, is⟩, hn⟩ : ∃ y, nxV s e = y := ⟨_, rfl⟩
  rw [hn]
  dsimp only
  go_enter Tryz.func64, Tryz.ntmps64
  go_wp2_with fail
  refine (courseIn1 s _).mono ?_; rintro x w1 ⟨g, rfl, hg, M1, hb1⟩
  have z1 := M1.lt
  have z2 := hb1.size
  go_wp2_with fail
  have R3 := rowIs_new w1 181 [.int .i64 s, .map (some g)]
  have M3 := M1.kept (World.grownBy_alloc w1 (.cells #[.int .i64 s, .map (some g)] 181) none) (by simp)
  have b3 : Below w.heap.size w (w1.alloc (.cells #[.int .i64 s, .map (some g)] 181)) := hb1.alloc (by omega) _
  refine (happen1 w.heap.size w1.heap.size g s e _ R3 M3 (by omega) (by omega) (by omega)).mono ?_; rintro x w2 ⟨rfl, R4, M4, hb4⟩
  have b4 := hide (b3.trans hb4)
  have x0 := RowIs.cell (j := 0) R4 rfl
  have xl := R4.lt
  rw [hn] at x0 ⊢
  dsimp only at x0 ⊢
  clear hn M4 R4 hb4 b3 M3 R3 M1 hb1
  go_wp2_with fail
  go_ret2
  exact ⟨rfl, b4.out⟩
theorem nx_ms (s : Int) : (nxV s 7).2 = msV s := by
  rcases st_cases s with rfl | rfl | rfl | rfl | rfl | hs
  rotate_left 5
  · rw [nx_bad hs]
    obtain ⟨h0, h1, h2, h3, h4⟩ := hs
    simp [msV, h1, h2]
  all_goals decide
theorem implMaySend (s : Int) (w : World) : Calls Tryz.prog 23 #[.int .i64 s] w fun x w' => x = .returned (.bool (msV s)) ∧ Below w.heap.size w w' := by
  rw [← nx_ms]
  go_enter Tryz.func23, Tryz.ntmps23
  go_wp2_with fail
  refine (implNext s 7 _).mono ?_; rintro x w1 ⟨rfl, hb1⟩
  go_wp2_with fail
  go_ret
  exact ⟨rfl, hb1⟩
end Go.Proofs.YtfmeinkhdgbgjaaGreat
