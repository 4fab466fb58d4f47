/- Several small texts of one level, one behind the other. -/
import Derived.Test.YtfmeinkhdgbgjaaGreatQTkG4
import Derived.Test.YtfmeinkhdgbgjaaGreatQTkG2
import Derived.Test.YtfmeinkhdgbgjaaGreatQTkBase
import Derived.Handy
import Derived.Lib.SmallJoins
import Derived.Lib.EndianBits
import Derived.Test.YtfmeinkhdgbgjaaGreatQTkG3
import Derived.RangeFuncNested
import Derived.RangeFuncBound
import Derived.RangeFuncCalls
import Derived.RangeFuncLeaves
import Derived.Shelf.Abstract
import Derived.Shelf.RegionOpen
import Derived.WalkKit
import Derived.OwnWalkIn
import Derived.TacticsInMore
import Derived.LoopNIn
import Derived.LoopIn
import Derived.Maps.AppendAt
import Derived.RangeFuncBox
import Derived.Laws.AppendOwn
import Derived.Laws.IdiomStrings
import Derived.Lib.BufferRead
import Derived.Deep.RegionHeld3
import Derived.Deep.Cut
import Derived.Deep.DeepCutAuto
import Derived.Deep.QuietTactic
import Derived.Laws.BitsLemmas
import Derived.Deep.WholeRow
import Derived.Laws.CopyRow
import Derived.OpenShut
import Derived.ChangeOld
/- Entry in memory: its datum, its make; counted, copied, held against each other, marked, read again (by gen_shape.py). -/
namespace Go.Proofs.YtfmeinkhdgbgjaaGreat
open Go.RowKit
set_option maxRecDepth 100000
set_option linter.unusedSimpArgs false
set_option linter.unusedVariables false

/-- What a Entry holds. -/
structure EntryD where
  id : Int
  state : Int
def EntryD.cs (d : EntryD) : List Value := [.int .i64 d.id, .int .i64 d.state]
def entryS : Shp EntryD where
  size := 2
  ty := 101
  rd := fun _ cs d => cs = d.cs
  own := fun _ cs d bs => cs = d.cs ∧ bs = []
  pos := by decide
  rd_len := fun h => by subst h; rfl
  rd_one := fun h u hu => by subst h; simp only [EntryD.cs, List.mem_cons, List.not_mem_nil, or_false] at hu; rcases hu with rfl | rfl <;> rfl
  rd_new := fun h _ => h
  own_rd := fun h => h.1
  own_keep := fun h _ _ => h
  own_lt := fun h b hb => by rw [h.2] at hb; cases hb
def szEntryS (L : List EntryD) : Int := L.length
theorem szEntryS_nn (L : List EntryD) : 0 ≤ szEntryS L := by unfold szEntryS; omega
theorem szEntryS_len (L : List EntryD) : (L.length : Int) ≤ szEntryS L := by unfold szEntryS; omega
/-- The marks of one in a row, from k on; how many; and of a row. -/
def mkEntry (d : EntryD) (k : Nat) : EntryD := ⟨((k : Nat) : Int), ((k + 1 : Nat) : Int)⟩
def cntEntry (d : EntryD) : Nat := 1 + 1
def mkEntryS (L : List EntryD) (k : Nat) : List EntryD := mkLs mkEntry cntEntry L k
def cntEntryS (L : List EntryD) : Nat := cntLs cntEntry L
theorem toEntry1 (d : EntryD) (w : World) : Calls Tryz.prog 220 #[.agg #[.int .i64 d.id, .int .i64 d.state]] w fun x w' => x = .returned (.agg #[.int .i64 d.id, .int .i64 d.state]) ∧ Below w.heap.size w w' := by
  go_enter Tryz.func220, Tryz.ntmps220
  go_wp2
  go_returns
  exact ⟨rfl, (by repeat' (first | (with_reducible exact Below.refl _ _) | (with_reducible refine Below.drew ?_) | (with_reducible refine bo_drewN _ ?_) | (with_reducible refine bo_alloc ?_ _) | (refine bchain ?_ (by with_reducible assumption)) | (with_reducible refine Below.setCell ?_ ?_ _) | go_size))⟩
theorem eqEntry1 (d : EntryD) (w : World) : Calls Tryz.prog 228 #[.agg #[.int .i64 d.id, .int .i64 d.state], .agg #[.int .i64 d.id, .int .i64 d.state]] w fun x w' => x = .returned (.bool true) ∧ Below w.heap.size w w' := by
  go_enter Tryz.func228, Tryz.ntmps228
  go_wp2
  go_ret
  exact ⟨rfl, (by repeat' (first | (with_reducible exact Below.refl _ _) | (with_reducible refine Below.drew ?_) | (with_reducible refine bo_drewN _ ?_) | (with_reducible refine bo_alloc ?_ _) | (refine bchain ?_ (by with_reducible assumption)) | (with_reducible refine Below.setCell ?_ ?_ _) | go_size))⟩
set_option maxHeartbeats 2000000 in
theorem toEntryS (L : List EntryD) (v : Value) (w : World) (hr : RdR entryS w v L) (hz : szEntryS L ≤ 1048576) :
    Calls Tryz.prog 154 #[v] w fun x w' => ∃ v', x = .returned v' ∧ OwX entryS w' w.heap.size w'.heap.size v' L ∧ Below w.heap.size w w' := by
  have hL : L.length ≤ 1048576 := by have := szEntryS_len L; omega
  obtain ⟨M, hM, hmk⟩ := make_row 24 101 (.agg #[.int .i64 0, .int .i64 0]) 2 16 Tryz.underlying24 (by kernel_rfl) rfl (by decide) (by decide) L.length hL
  have hst := filling_start (E := entryS) (owns_made w M 101 2 L.length hM hL)
  obtain ⟨ad, cap, rfl, h1, h2⟩ := hr.form
  have HR := hide hr
  clear hr
  have HZ := hide hz
  clear hz
  go_enter Tryz.func154, Tryz.ntmps154
  go_wp2_with fail
  go_loopw [4] (fun i wr => ∃ (k : Nat), i = .int .i64 k ∧ k ≤ L.length ∧ Hid (Filling entryS w wr L k)) (fun i _ => L.length - (intOf i).toNat)
  case atStart => exact ⟨0, rfl, Nat.zero_le _, hst⟩
  case round =>
    clear hst hmk
    obtain ⟨k, rfl, hk, HFI⟩ := hrel
    by_cases hlt : k < L.length
    · have hb : Below w.heap.size w wr := HFI.out.2.1
      have hrk := (HR.out.new hb).at k hlt
      have hmem : L[k] ∈ L := List.getElem_mem hlt
      obtain ⟨d, hd⟩ : ∃ d, d = L[k] := ⟨_, rfl⟩
      rw [← hd] at hrk hmem
      obtain ⟨b, o, cs, rfl, hbw, hrd, hc⟩ := hrk
      obtain rfl := hrd
      have c0 : wr.cell? ⟨b, o + k * 2, none⟩ = some (.int .i64 d.id) := hc 0 _ rfl
      have c1 : wr.cell? ⟨b, o + k * 2 + 1, none⟩ = some (.int .i64 d.state) := hc 1 _ rfl
      clear hc
      have HD := hide hd
      clear hd hmem
      go_wp2_with fail
      refine (toEntry1 d _).mono ?_; rintro x w1 ⟨rfl, hb1⟩
      have hoe : OwE entryS w1 wr.heap.size w1.heap.size [.int .i64 d.id, .int .i64 d.state] d := ⟨[], ⟨rfl, rfl⟩, by simp, fun b hb => by cases hb⟩
      rw [HD.out] at hoe
      obtain ⟨hcell, hfr, hlw, hfi⟩ := filling_step HFI.out hlt hb1 hoe
      rw [← HD.out] at hfi
      obtain ⟨x0, hx0⟩ : ∃ u, w1.cell? ⟨w.heap.size, k * 2, none⟩ = some u := hcell 0 (by decide)
      obtain ⟨x1, hx1⟩ : ∃ u, w1.cell? ⟨w.heap.size, k * 2 + 1, none⟩ = some u := hcell 1 (by decide)
      have e6 := hfr
      have HF2 := hide hfi
      clear hcell hfr hfi hoe
      go_wp2_with fail
      go_roundw
      case rel => exact ⟨k + 1, by go_num, by omega, HF2.out⟩
      case measure => simp [intOf]; omega
    · obtain rfl : k = L.length := by omega
      obtain ⟨hox, hbx⟩ := filling_end HFI.out
      have HX := hide hox
      clear hox
      go_wp2_with fail
      go_ret
      exact ⟨_, rfl, HX.out, hbx⟩
set_option maxHeartbeats 1000000 in
theorem eqEntryS (L : List EntryD) (v v' : Value) (w : World) (hr0 : RdR entryS w v L) (hr1 : RdR entryS w v' L) :
    Calls Tryz.prog 163 #[v, v'] w fun x w' => x = .returned (.bool true) ∧ Below w.heap.size w w' := by
  obtain ⟨ad, cap, rfl, h1, h2⟩ := hr0.form
  obtain ⟨ad', cap', rfl, h1', h2'⟩ := hr1.form
  have HR := hide hr0; have HR' := hide hr1
  clear hr0 hr1
  go_enter Tryz.func163, Tryz.ntmps163
  go_wp2_with fail
  go_loopw [5] (fun i wr => ∃ (k : Nat), i = .int .i64 k ∧ k ≤ L.length ∧ Below w.heap.size w wr) (fun i _ => L.length - (intOf i).toNat)
  case atStart => exact ⟨0, rfl, Nat.zero_le _, Below.refl _ _⟩
  case round =>
    obtain ⟨k, rfl, hk, hb⟩ := hrel
    by_cases hlt : k < L.length
    · have hrk := (HR.out.new hb).at k hlt
      have hrk' := (HR'.out.new hb).at k hlt
      obtain ⟨d, hd⟩ : ∃ d, d = L[k] := ⟨_, rfl⟩
      rw [← hd] at hrk hrk'
      clear hd
      obtain ⟨b, o, cs, rfl, hb1, hrd, hc⟩ := hrk
      obtain ⟨b', o', cs', rfl, hb2, hrd', hc'⟩ := hrk'
      obtain rfl := hrd
      obtain rfl := hrd'
      have c0 : wr.cell? ⟨b, o + k * 2, none⟩ = some (.int .i64 d.id) := hc 0 _ rfl
      have c1 : wr.cell? ⟨b, o + k * 2 + 1, none⟩ = some (.int .i64 d.state) := hc 1 _ rfl
      have d0 : wr.cell? ⟨b', o' + k * 2, none⟩ = some (.int .i64 d.id) := hc' 0 _ rfl
      have d1 : wr.cell? ⟨b', o' + k * 2 + 1, none⟩ = some (.int .i64 d.state) := hc' 1 _ rfl
      clear hc hc'
      go_wp2_with fail
      have qa0 : ∀ y : Later wr, y.w.cell? ⟨b, o + k * 2, none⟩ = some (.int .i64 d.id) := fun y => (y.b.cell (p := ⟨b, o + k * 2, none⟩) hb1).trans c0
      have qa1 : ∀ y : Later wr, y.w.cell? ⟨b, o + k * 2 + 1, none⟩ = some (.int .i64 d.state) := fun y => (y.b.cell (p := ⟨b, o + k * 2 + 1, none⟩) hb1).trans c1
      have qb0 : ∀ y : Later wr, y.w.cell? ⟨b', o' + k * 2, none⟩ = some (.int .i64 d.id) := fun y => (y.b.cell (p := ⟨b', o' + k * 2, none⟩) hb2).trans d0
      have qb1 : ∀ y : Later wr, y.w.cell? ⟨b', o' + k * 2 + 1, none⟩ = some (.int .i64 d.state) := fun y => (y.b.cell (p := ⟨b', o' + k * 2 + 1, none⟩) hb2).trans d1
      clear c0 c1 d0 d1
      have hne : Nonempty (Later wr) := ⟨⟨wr, Below.refl _ _⟩⟩; refine region_later (by kernel_rfl) (by kernel_rfl) ?_
      repeat (go_big_quiet_step (fail))
      go_big_quiet_want; go_big_quiet_op
      refine ⟨.bool true, fun y => later_calls (x := y) (eqEntry1 d y.w), ?_⟩
      go_big_quiet_on
      repeat (go_big_quiet_step (fail))
      refine wpQuiet_nil ?_; intro _ hw'; obtain ⟨y, hw''⟩ := hw'; subst hw''; have hby := y.b
      go_wp2_with fail
      go_roundw
      case rel => exact ⟨k + 1, by go_num, by omega, bchain hb hby⟩
      case measure => simp [intOf]; omega
    · go_wp2_with fail
      go_ret
      exact ⟨rfl, hb⟩
set_option maxHeartbeats 1000000 in
theorem szEntryS1 (L : List EntryD) (v : Value) (left : Int) (w : World) (hr : RdR entryS w v L) (h0 : 0 ≤ left) (h1 : left ≤ 1048576) :
    Calls Tryz.prog 148 #[v, .int .i64 left] w fun x w' => (x = .returned (.int .i64 (-1)) ∨ (x = .returned (.int .i64 (left - szEntryS L)) ∧ 0 ≤ left - szEntryS L)) ∧ Below w.heap.size w w' := by
  obtain ⟨ad, cap, rfl, h2, h3⟩ := hr.form
  have HR := hide hr
  clear hr
  unfold szEntryS
  by_cases h : left - L.length < 0
  · go_enter Tryz.func148, Tryz.ntmps148
    go_wp2
    go_ret
    exact ⟨.inl rfl, Below.refl _ _⟩
  · go_enter Tryz.func148, Tryz.ntmps148
    go_wp2
    go_ret
    exact ⟨.inr ⟨rfl, by omega⟩, Below.refl _ _⟩
set_option maxHeartbeats 2000000 in
theorem markEntryS (L : List EntryD) (k : Nat) (v : Value) (bs : List Nat) (w : World) (ho : OwR entryS w v L bs) (hn : bs.Nodup) (hk1 : k + cntEntryS L ≤ 1000000000) :
    Calls Tryz.prog 166 #[v, .int .i64 k] w fun x w' => x = .returned (.int .i64 ((k + cntEntryS L : Nat) : Int)) ∧ OwR entryS w' v (mkEntryS L k) bs ∧ TurnB bs w w' := by
  obtain ⟨ad, cap, rfl, h1, h2⟩ := ho.rd.form
  unfold cntEntryS mkEntryS at *
  have HO0 : Hid (OwR entryS w (.slice ad L.length cap) (mixLs mkEntry cntEntry L k 0) bs) := by show OwR _ _ _ _ _; rw [mix_zero]; exact ho
  clear ho
  have HN := hide hn
  clear hn
  go_enter Tryz.func166, Tryz.ntmps166
  go_wp2_with fail
  go_loopw [1, 5] (fun kk i wr => ∃ (j : Nat), i = .int .i64 j ∧ kk = .int .i64 ((k + cntLs cntEntry (L.take j) : Nat) : Int) ∧ j ≤ L.length ∧ Hid (OwR entryS wr (.slice ad L.length cap) (mixLs mkEntry cntEntry L k j) bs) ∧ Hid (TurnB bs w wr)) (fun _ i _ => L.length - (intOf i).toNat)
  case atStart => exact ⟨0, rfl, by simp [cntLs], Nat.zero_le _, HO0, TurnB.refl _ _⟩
  case round =>
    clear HO0
    obtain ⟨j, rfl, rfl, hj, HO, HT⟩ := hrel
    by_cases hlt : j < L.length
    · have hct := cnt_take cntEntry L j hlt
      have hcl := cnt_le cntEntry L (j + 1)
      have hst := mix_step mkEntry cntEntry L k j hlt
      have hat := mix_at mkEntry cntEntry L k j hlt (by rw [mix_len _ _ L k j hj]; exact hlt)
      have hml := mix_len mkEntry cntEntry L k j hj
      obtain ⟨d, hd⟩ : ∃ d, d = L[j] := ⟨_, rfl⟩
      rw [← hd] at hct hst hat
      obtain ⟨K, hK⟩ : ∃ K : Nat, K = k + cntLs cntEntry (L.take j) := ⟨_, rfl⟩
      rw [← hK] at hst ⊢
      obtain ⟨M, hM⟩ : ∃ M, M = mixLs mkEntry cntEntry L k j := ⟨_, rfl⟩
      rw [← hM] at hst hml
      have HO1 : Hid (OwR entryS wr (.slice ad L.length cap) M bs) := by show OwR _ _ _ _ _; rw [hM]; exact HO.out
      have HAT : Hid (∀ h : j < M.length, M[j] = d) := fun h => by subst hM; exact hat
      have hKc : K + cntEntry d = k + cntLs cntEntry (L.take (j + 1)) := by omega
      have HKC := hide hKc
      have hKb : K + cntEntry d ≤ 1000000000 := by omega
      unfold cntEntry at hKb
      have HST := hide hst
      have hjM : j < M.length := by omega
      clear hct hcl hst hat hM HO hd hK hKc
      obtain ⟨g1, c1, cs, bb, e1, hgl1, hgm, hgb, hsub, hbn, hown, hcell, hfr, _, hkeep, hsets⟩ := HO1.out.put HN.out j (by simpa using hjM)
      have eq1 : (M)[j]'(by simpa using hjM) = d := HAT.out hjM
      rw [eq1] at hown
      obtain ⟨rfl, hbb⟩ := hown
      simp only [Value.slice.injEq] at e1
      obtain ⟨rfl, -, -⟩ := e1
      have c1_0 : wr.cell? ⟨g1, j * 2, none⟩ = some (.int .i64 d.id) := hcell 0 _ rfl
      have c1_1 : wr.cell? ⟨g1, j * 2 + 1, none⟩ = some (.int .i64 d.state) := hcell 1 _ rfl
      have HO2 : Hid (OwR entryS (setsFrom wr g1 (j * entryS.size + ([] : List Value).length) [.int .i64 ((K : Nat) : Int), .int .i64 ((K + 1 : Nat) : Int)]) _ ((M).set j ⟨((K : Nat) : Int), ((K + 1 : Nat) : Int)⟩) bs) := hsets [] [.int .i64 d.id, .int .i64 d.state] [] [.int .i64 ((K : Nat) : Int), .int .i64 ((K + 1 : Nat) : Int)] ⟨((K : Nat) : Int), ((K + 1 : Nat) : Int)⟩ rfl rfl ⟨rfl, hbb⟩
      have HT2 : Hid (TurnB bs w (setsFrom wr g1 (j * entryS.size + ([] : List Value).length) [.int .i64 ((K : Nat) : Int), .int .i64 ((K + 1 : Nat) : Int)])) := TurnB.setsFrom g1 hgm _ _ _ HT.out
      have f1 := hfr
      clear hcell hfr hkeep hsets hsub hbn hgb hbb eq1
      go_wp2_with fail
      change Hid (OwR entryS ((wr.setCell ⟨g1, j * 2, none⟩ (.int .i64 ((K : Nat) : Int))).setCell ⟨g1, j * 2 + 1, none⟩ (.int .i64 ((K + 1 : Nat) : Int))) _ _ _) at HO2
      change Hid (TurnB bs w ((wr.setCell ⟨g1, j * 2, none⟩ (.int .i64 ((K : Nat) : Int))).setCell ⟨g1, j * 2 + 1, none⟩ (.int .i64 ((K + 1 : Nat) : Int)))) at HT2
      refine ⟨⟨j + 1, ?_, ?_, ?_, ?_, ?_⟩, ?_⟩
      · go_num
      · exact int_eq (by have h1 := HKC.out; have h2 : cntEntry d = 1 + 1 := rfl; omega)
      · omega
      · show OwR _ _ _ _ _
        rw [← HST.out]
        exact HO2.out
      · exact HT2.out
      · simp [intOf]; omega
    · obtain rfl : j = L.length := by omega
      rw [mix_end] at HO
      rw [List.take_length]
      go_wp2_with fail
      go_ret
      exact ⟨rfl, HO.out, HT.out⟩
set_option maxHeartbeats 1000000 in
theorem heldEntryS (L : List EntryD) (k : Nat) (v : Value) (w : World) (hr : RdR entryS w v (mkEntryS L k)) (hk1 : k + cntEntryS L ≤ 1000000000) :
    Calls Tryz.prog 168 #[v, .int .i64 k] w fun x w' => x = .returned (.int .i64 ((k + cntEntryS L : Nat) : Int)) ∧ Below w.heap.size w w' := by
  obtain ⟨ad, cap, rfl, h1, h2⟩ := hr.form
  unfold cntEntryS mkEntryS at *
  rw [mk_len'] at h1 ⊢
  have HR := hide hr
  clear hr
  go_enter Tryz.func168, Tryz.ntmps168
  go_wp2_with fail
  go_loopw [1, 5] (fun kk i wr => ∃ (j : Nat), i = .int .i64 j ∧ kk = .int .i64 ((k + cntLs cntEntry (L.take j) : Nat) : Int) ∧ j ≤ L.length ∧ Below w.heap.size w wr) (fun _ i _ => L.length - (intOf i).toNat)
  case atStart => exact ⟨0, rfl, by simp [cntLs], Nat.zero_le _, Below.refl _ _⟩
  case round =>
    obtain ⟨j, rfl, rfl, hj, hb⟩ := hrel
    by_cases hlt : j < L.length
    · have hct := cnt_take cntEntry L j hlt
      have hcl := cnt_le cntEntry L (j + 1)
      have hrk := (HR.out.new hb).at j (by rw [mk_len']; exact hlt)
      rw [mk_at _ _ L k j hlt] at hrk
      obtain ⟨d, hd⟩ : ∃ d, d = L[j] := ⟨_, rfl⟩
      rw [← hd] at hct hrk
      obtain ⟨K, hK⟩ : ∃ K : Nat, K = k + cntLs cntEntry (L.take j) := ⟨_, rfl⟩
      rw [← hK] at hrk ⊢
      have hKc : K + cntEntry d = k + cntLs cntEntry (L.take (j + 1)) := by omega
      have HKC := hide hKc
      have hKb : K + cntEntry d ≤ 1000000000 := by omega
      unfold cntEntry at hKb
      clear hct hcl hd hK hKc
      obtain ⟨b, o, cs, rfl, hb1, hrd, hc⟩ := hrk
      obtain rfl := hrd
      have c0 : wr.cell? ⟨b, o + j * 2, none⟩ = some (.int .i64 ((K : Nat) : Int)) := hc 0 _ rfl
      have c1 : wr.cell? ⟨b, o + j * 2 + 1, none⟩ = some (.int .i64 ((K + 1 : Nat) : Int)) := hc 1 _ rfl
      clear hc
      go_wp2_with fail
      go_roundw
      case rel => exact ⟨j + 1, by go_num, int_eq (by have h1 := HKC.out; have h2 : cntEntry d = 1 + 1 := rfl; omega), by omega, hb⟩
      case measure => simp [intOf]; omega
    · obtain rfl : j = L.length := by omega
      rw [List.take_length]
      go_wp2_with fail
      go_ret
      exact ⟨rfl, hb⟩
open Go.ChangeShapes Go.WideShapes Go.ChangeAt Go.Joins in
theorem open_cellsEntry {H : Type} {enc : TypeId × Value → H} {W : World} {base : Nat} {spare : Nat → Bool} {held : Bool} {fuel : Nat} {cs : List Value} {x : DataW H × List MemPlace} (h : DataW.trod enc Tryz.prog W base spare held fuel 257 cs = some x) : ∃ d : EntryD, entryS.rd W cs d := by
  obtain ⟨c0, c1, y0, y1, n, rfl, h0, h1⟩ := scells2 Tryz.underlying257 (by kernel_rfl) (by kernel_rfl) h
  obtain ⟨i0, e0, _⟩ := DataW.trod_int Tryz.underlying2 h0
  simp only [List.cons.injEq, and_true] at e0
  subst e0
  obtain ⟨i1, e1, _⟩ := DataW.trod_int Tryz.underlying2 h1
  simp only [List.cons.injEq, and_true] at e1
  subst e1
  exact ⟨⟨i0, i1⟩, rfl⟩
end Go.Proofs.YtfmeinkhdgbgjaaGreat
/- A text that is bent: the walk. -/
namespace Go.Proofs.YtfmeinkhdgbgjaaGreat
open Go.RowKit
set_option maxRecDepth 100000
set_option linter.unusedSimpArgs false
set_option linter.unusedVariables false
attribute [local go_sem ↓] Go.wp_at_zero Go.wp_at_succ

theorem BR.set {w : World} {base n cap blk : Nat} (h : BR w base (some ⟨blk, 0, none⟩) n cap) (k : Nat) (u : Value) (hu : ByteVal u) : BR (w.setCell ⟨blk, k, none⟩ u) base (some ⟨blk, 0, none⟩) n cap := by
  obtain ⟨h1, h2, h3⟩ := h
  refine ⟨h1, h2, fun hn => ?_⟩
  obtain ⟨b', e, hb, hl, hc⟩ := h3 hn
  simp only [Option.some.injEq, Addr.mk.injEq, and_true] at e
  subst e
  refine ⟨blk, rfl, hb, by simpa using hl, fun j hj => ?_⟩
  obtain ⟨⟨v, hv, hcv⟩, hf⟩ := hc j hj
  refine ⟨?_, by rw [World.frozen?_setCell]; exact hf⟩
  by_cases hjk : k = j
  · subst hjk
    exact ⟨u, hu, World.cell?_setCell_same' _ _ _ (by rw [hcv]; rfl)⟩
  · refine ⟨v, hv, ?_⟩
    exact (World.cell?_setCell_other _ ⟨blk, k, none⟩ ⟨blk, j, none⟩ _ (by simp [hjk])).trans hcv

end Go.Proofs.YtfmeinkhdgbgjaaGreat
/- Packing signs of five bits into bytes, and back, in plain words: what is unpacked of what was packed is what was packed, and what ends well is what it is packed as. -/
namespace Go.Proofs.YtfmeinkhdgbgjaaGreat

/-- Two to the h, for a few bits. -/
def tw (h : Nat) : Int := 2 ^ h
/-- The bytes that signs ns take behind h bits, whose number is v. -/
def packF : List Int → Nat → Int → List Int
  | [], h, v => if 0 < h then [v * tw (8 - h) + (tw (8 - h) - 1)] else []
  | n :: ns, h, v => if 8 ≤ h + 5 then ((v * 32 + n) / tw (h + 5 - 8)) :: packF ns (h + 5 - 8) ((v * 32 + n) % tw (h + 5 - 8)) else packF ns (h + 5) (v * 32 + n)

theorem packF_nil {h : Nat} {v : Int} : packF [] h v = if 0 < h then [v * tw (8 - h) + (tw (8 - h) - 1)] else [] := rfl
theorem packF_full {n : Int} {ns : List Int} {h : Nat} {v : Int} (k : 8 ≤ h + 5) : packF (n :: ns) h v = ((v * 32 + n) / tw (h + 5 - 8)) :: packF ns (h + 5 - 8) ((v * 32 + n) % tw (h + 5 - 8)) := by rw [packF, if_pos k]
theorem packF_part {n : Int} {ns : List Int} {h : Nat} {v : Int} (k : ¬ 8 ≤ h + 5) : packF (n :: ns) h v = packF ns (h + 5) (v * 32 + n) := by rw [packF, if_neg k]

theorem packF_len : ∀ (ns : List Int) (h : Nat) (v : Int), h < 8 → (packF ns h v).length = (h + 5 * ns.length + 7) / 8 := by
  intro ns
  induction ns with
  | nil => intro h v hh; rw [packF_nil]; split <;> simp <;> omega
  | cons n ns ih =>
    intro h v hh
    by_cases k : 8 ≤ h + 5
    · rw [packF_full k, List.length_cons, ih _ _ (by omega), List.length_cons]; omega
    · rw [packF_part k, ih _ _ (by omega), List.length_cons]; omega

/-- Reading signs: c bits are held, their number is u; bs are to come. The signs, and what is left when no byte is to come and no further sign is; none: a number of ones only ahead of a byte. -/
def rawF : Nat → Nat → Int → List Int → Option (List Int × Nat × Int)
  | 0, _, _, _ => none
  | k + 1, c, u, bs => if c < 5 then (match bs with
      | [] => some ([], c, u)
      | b :: bs => rawF k (c + 8) (u * 256 + b) bs)
    else if 31 ≤ u / tw (c - 5) then (if bs = [] then some ([], c, u) else none)
    else (rawF k (c - 5) (u % tw (c - 5)) bs).map fun r => (u / tw (c - 5) :: r.1, r.2)

/-- How many steps are enough. -/
def enF (c : Nat) (bs : List Int) : Nat := 9 * bs.length + c + 1

theorem rawF_more {k c : Nat} {u b : Int} {bs : List Int} (h : c < 5) : rawF (k + 1) c u (b :: bs) = rawF k (c + 8) (u * 256 + b) bs := by rw [rawF, if_pos h]
theorem rawF_end {k c : Nat} {u : Int} (h : c < 5) : rawF (k + 1) c u [] = some ([], c, u) := by rw [rawF, if_pos h]
theorem rawF_ones {k c : Nat} {u : Int} {bs : List Int} (h : ¬ c < 5) (h1 : 31 ≤ u / tw (c - 5)) : rawF (k + 1) c u bs = if bs = [] then some ([], c, u) else none := by cases bs <;> simp [rawF, h, h1]
theorem rawF_sign {k c : Nat} {u : Int} {bs : List Int} (h : ¬ c < 5) (h1 : ¬ 31 ≤ u / tw (c - 5)) : rawF (k + 1) c u bs = (rawF k (c - 5) (u % tw (c - 5)) bs).map fun r => (u / tw (c - 5) :: r.1, r.2) := by cases bs <;> simp [rawF, h, h1]

/-- What is left is ones only, less than a byte of them. -/
def okEnd (r : List Int × Nat × Int) : Prop := r.2.1 < 8 ∧ r.2.2 = tw r.2.1 - 1

/-- The bytes that are to come, those of which bits are held among them, the bits ahead of these being v. -/
def ahead (c : Nat) (u : Int) (bs : List Int) (v : Int) : List Int :=
  if c = 0 then bs else if c < 8 then (v * tw c + u) :: bs else if c = 8 then u :: bs else (v * tw (c - 8) + u / 256) :: (u % 256) :: bs
def hidden (c : Nat) : Nat := if c = 0 then 0 else if c < 8 then 8 - c else if c = 8 then 0 else 8 - (c - 8)

set_option maxHeartbeats 2000000 in
theorem raw_pack : ∀ (k c : Nat) (u : Int) (bs : List Int) (r : List Int × Nat × Int), rawF k c u bs = some r → c ≤ 12 → 0 ≤ u → u < tw c → (∀ b ∈ bs, 0 ≤ b ∧ b ≤ 255) →
    ∀ v, 0 ≤ v → v < tw (hidden c) → (okEnd r ↔ packF r.1 (hidden c) v = ahead c u bs v) := by
  intro k
  induction k with
  | zero => intro c u bs r h; simp [rawF] at h
  | succ k ih =>
    intro c u bs r h hc h0 h1 hb v v0 v1
    by_cases h5 : c < 5
    · cases bs with
      | nil =>
        rw [rawF_end h5] at h
        obtain rfl := (Option.some.inj h).symm
        have : c = 0 ∨ c = 1 ∨ c = 2 ∨ c = 3 ∨ c = 4 := by omega
        rcases this with rfl | rfl | rfl | rfl | rfl <;> simp [okEnd, hidden, ahead, packF_nil, tw] at * <;> omega
      | cons b bs =>
        rw [rawF_more h5] at h
        have hb0 := hb b (by simp)
        have hbs : ∀ x ∈ bs, 0 ≤ x ∧ x ≤ 255 := fun x hx => hb x (by simp [hx])
        have K := ih _ _ _ _ h (by omega) (by omega)
        have : c = 0 ∨ c = 1 ∨ c = 2 ∨ c = 3 ∨ c = 4 := by omega
        rcases this with rfl | rfl | rfl | rfl | rfl
        · obtain rfl : u = 0 := by simp [tw] at h1; omega
          have K := K (by simp [tw]; omega) hbs v v0 v1
          rw [K]; simp [hidden, ahead]
        all_goals
          have K := K (by simp [tw] at *; omega) hbs v v0 v1
          rw [K]
          have e1 : (u * 256 + b) / 256 = u := by omega
          have e2 : (u * 256 + b) % 256 = b := by omega
          simp [hidden, ahead, e1, e2]
    · by_cases hs : 31 ≤ u / tw (c - 5)
      · rw [rawF_ones h5 hs] at h
        split at h
        · rename_i hbs
          subst hbs
          obtain rfl := (Option.some.inj h).symm
          have : c = 5 ∨ c = 6 ∨ c = 7 ∨ c = 8 ∨ c = 9 ∨ c = 10 ∨ c = 11 ∨ c = 12 := by omega
          rcases this with rfl | rfl | rfl | rfl | rfl | rfl | rfl | rfl <;> simp [okEnd, hidden, ahead, packF_nil, tw] at * <;> omega
        · cases h
      · rw [rawF_sign h5 hs] at h
        cases hr : rawF k (c - 5) (u % tw (c - 5)) bs with
        | none => rw [hr] at h; cases h
        | some r' =>
          rw [hr] at h
          obtain rfl := (Option.some.inj h).symm
          have hok : okEnd (u / tw (c - 5) :: r'.1, r'.2) ↔ okEnd r' := Iff.rfl
          rw [hok]
          have K := ih _ _ _ _ hr (by omega)
          have : c = 5 ∨ c = 6 ∨ c = 7 ∨ c = 8 ∨ c = 9 ∨ c = 10 ∨ c = 11 ∨ c = 12 := by omega
          rcases this with rfl | rfl | rfl | rfl | rfl | rfl | rfl | rfl
          · have K := K (by simp [tw]) (by simp [tw]) hb 0 (by omega) (by simp [hidden, tw])
            rw [K]; simp [hidden, ahead, packF, tw] at h0 h1 v0 v1 ⊢
          · have K := K (by simp [tw] at *; omega) (by simp [tw] at *; omega) hb (v * 32 + u / 2) (by simp [hidden, tw] at *; omega) (by simp [hidden, tw] at *; omega)
            rw [K]; simp [hidden, ahead, packF, tw] at h0 h1 v0 v1 ⊢
            rw [show (v * 32 + u / 2) * 2 + u % 2 = v * 64 + u from by omega]
          · have K := K (by simp [tw] at *; omega) (by simp [tw] at *; omega) hb (v * 32 + u / 4) (by simp [hidden, tw] at *; omega) (by simp [hidden, tw] at *; omega)
            rw [K]; simp [hidden, ahead, packF, tw] at h0 h1 v0 v1 ⊢
            rw [show (v * 32 + u / 4) * 4 + u % 4 = v * 128 + u from by omega]
          · have K := K (by simp [tw] at *; omega) (by simp [tw] at *; omega) hb (v * 32 + u / 8) (by simp [hidden, tw] at *; omega) (by simp [hidden, tw] at *; omega)
            rw [K]; simp [hidden, ahead, packF, tw] at h0 h1 v0 v1 ⊢
            rw [show (v * 32 + u / 8) * 8 + u % 8 = u from by omega]
          · have K := K (by simp [tw] at *; omega) (by simp [tw] at *; omega) hb ((v * 32 + u / 16) % 16) (by simp [hidden, tw] at *; omega) (by simp [hidden, tw] at *; omega)
            rw [K]; simp [hidden, ahead, packF, tw] at h0 h1 v0 v1 ⊢
            rw [show (v * 32 + u / 16) % 16 * 16 + u % 16 = u % 256 from by omega, show (v * 32 + u / 16) / 16 = v * 2 + u / 256 from by omega]; simp
          · have K := K (by simp [tw] at *; omega) (by simp [tw] at *; omega) hb ((v * 32 + u / 32) % 8) (by simp [hidden, tw] at *; omega) (by simp [hidden, tw] at *; omega)
            rw [K]; simp [hidden, ahead, packF, tw] at h0 h1 v0 v1 ⊢
            rw [show (v * 32 + u / 32) % 8 * 32 + u % 32 = u % 256 from by omega, show (v * 32 + u / 32) / 8 = v * 4 + u / 256 from by omega]; simp
          · have K := K (by simp [tw] at *; omega) (by simp [tw] at *; omega) hb ((v * 32 + u / 64) % 4) (by simp [hidden, tw] at *; omega) (by simp [hidden, tw] at *; omega)
            rw [K]; simp [hidden, ahead, packF, tw] at h0 h1 v0 v1 ⊢
            rw [show (v * 32 + u / 64) % 4 * 64 + u % 64 = u % 256 from by omega, show (v * 32 + u / 64) / 4 = v * 8 + u / 256 from by omega]; simp
          · have K := K (by simp [tw] at *; omega) (by simp [tw] at *; omega) hb ((v * 32 + u / 128) % 2) (by simp [hidden, tw] at *; omega) (by simp [hidden, tw] at *; omega)
            rw [K]; simp [hidden, ahead, packF, tw] at h0 h1 v0 v1 ⊢
            rw [show (v * 32 + u / 128) % 2 * 128 + u % 128 = u % 256 from by omega, show (v * 32 + u / 128) / 2 = v * 16 + u / 256 from by omega]; simp

end Go.Proofs.YtfmeinkhdgbgjaaGreat
/- What a Field weighs, and the rows of a Table: in plain words, of the program and of the model. -/
namespace Go.Proofs.YtfmeinkhdgbgjaaGreat
open Go.RowKit
set_option maxRecDepth 100000
set_option linter.unusedSimpArgs false
set_option linter.unusedVariables false

/-- Is it right? -/
def okF (f : Fd) : Bool := inB f.n.size 1 40 && decide ((f.v.size : Int) ≤ 60)
/-- What it weighs. -/
def wt (f : Fd) : Int := if okF f then (f.n.size : Int) + f.v.size + 8 else 0
def sumW : List Fd → Int
  | [] => 0
  | f :: L => wt f + sumW L
theorem okF_parts {f : Fd} (h : okF f = true) : (1 : Int) ≤ f.n.size ∧ (f.n.size : Int) ≤ 40 ∧ (f.v.size : Int) ≤ 60 := by
  unfold okF at h
  simp only [Bool.and_eq_true, decide_eq_true_eq] at h
  have := inB_true h.1
  omega
theorem wt_ok {f : Fd} (h : okF f = true) : wt f = f.n.size + f.v.size + 8 := by simp [wt, h]
theorem wt_no {f : Fd} (h : okF f = false) : wt f = 0 := by simp [wt, h]
theorem wt_range (f : Fd) : 0 ≤ wt f ∧ wt f ≤ 108 := by
  cases h : okF f
  · rw [wt_no h]; omega
  · rw [wt_ok h]; have := okF_parts h; omega
theorem wt_pos {f : Fd} (h : okF f = true) : 9 ≤ wt f := by rw [wt_ok h]; have := okF_parts h; omega
theorem wt_zero (f : Fd) : (wt f = 0) ↔ okF f = false := by
  cases h : okF f
  · simp [wt_no h]
  · have := wt_pos h; simp; omega
theorem sumW_range (L : List Fd) : 0 ≤ sumW L ∧ sumW L ≤ 108 * L.length := by
  induction L with
  | nil => simp [sumW]
  | cons f L ih => have := wt_range f; simp only [sumW, List.length_cons]; omega
theorem sumW_app (A B : List Fd) : sumW (A ++ B) = sumW A + sumW B := by
  induction A with
  | nil => simp [sumW]
  | cons f A ih => simp only [List.cons_append, sumW, ih]; omega
theorem sumW_succ (L : List Fd) (k : Nat) (h : k < L.length) : sumW (L.take (k + 1)) = sumW (L.take k) + wt L[k] := by
  rw [List.take_succ_eq_append_getElem h, sumW_app]; simp [sumW]
theorem sumW_ge {L : List Fd} (h : ∀ f ∈ L, okF f = true) : 9 * (L.length : Int) ≤ sumW L := by
  induction L with
  | nil => simp [sumW]
  | cons f L ih => have := wt_pos (h f (by simp)); have := ih fun g hg => h g (by simp [hg]); simp only [sumW, List.length_cons]; omega

/-- Is a Table of this Room and these Rows right? -/
def okT (room : Int) (L : List Fd) : Bool := inB room 0 1000 && (L.all okF && decide (sumW L ≤ room))
theorem okT_parts {room : Int} {L : List Fd} (h : okT room L = true) : 0 ≤ room ∧ room ≤ 1000 ∧ (∀ f ∈ L, okF f = true) ∧ sumW L ≤ room ∧ L.length ≤ 111 := by
  unfold okT at h
  simp only [Bool.and_eq_true, decide_eq_true_eq, List.all_eq_true] at h
  have h1 := inB_true h.1
  have h2 := sumW_ge h.2.1
  exact ⟨h1.1, h1.2, h.2.1, h.2.2, by omega⟩

/-- The last ones go as long as they weigh more than the room. -/
def shrN (room : Int) : Nat → List Fd → List Fd
  | 0, L => L
  | n + 1, L => if room < sumW L then shrN room n L.dropLast else L
def shr (room : Int) (L : List Fd) : List Fd := shrN room L.length L
theorem shr_stop {room : Int} {L : List Fd} (h : ¬ room < sumW L) : shr room L = L := by
  unfold shr
  cases L.length with
  | zero => rfl
  | succ n => simp [shrN, h]
theorem shr_go {room : Int} {L : List Fd} (h : room < sumW L) : shr room L = shr room L.dropLast := by
  unfold shr
  cases hn : L.length with
  | zero =>
    have : L = [] := List.length_eq_zero_iff.1 hn
    subst this
    rfl
  | succ n => rw [shrN, if_pos h, List.length_dropLast, hn]; rfl
theorem shr_mem {room : Int} (n : Nat) : ∀ {L : List Fd}, ∀ f ∈ shrN room n L, f ∈ L := by
  induction n with
  | zero => intro L f hf; exact hf
  | succ n ih =>
    intro L f hf
    rw [shrN] at hf
    split at hf
    · exact (List.dropLast_sublist _).subset (ih f hf)
    · exact hf
theorem shr_all {room : Int} {L : List Fd} (h : ∀ f ∈ L, okF f = true) : ∀ f ∈ shr room L, okF f = true := fun f hf => h f (shr_mem _ f hf)
theorem fine_of {f : Fd} (h : okF f = true) : f.fine := by have := okF_parts h; exact ⟨by omega, by omega⟩

theorem implWt (f : Fd) (w : World) (hf : f.fine) : Calls Tryz.prog 278 #[.agg #[.string f.n, .string f.v]] w fun x w' => x = .returned (.int .i64 (wt f)) ∧ Below w.heap.size w w' := by
  obtain ⟨hn, hv⟩ := hf
  cases h : okF f
  · rw [wt_no h]
    unfold okF at h
    cases h1 : inB f.n.size 1 40
    · clear h
      go_enter Tryz.func278, Tryz.ntmps278
      go_wp2_with fail
      go_quiet (fail)
      go_wp2_with fail
      refine (implWithin _ _ _ _).mono ?_; rw [h1]; rintro e w1 ⟨rfl, rfl⟩
      go_wp2_with fail
      go_ret
      exact ⟨rfl, (by repeat' (first | (with_reducible exact Below.refl _ _) | (with_reducible refine Below.drew ?_) | (with_reducible refine bo_drewN _ ?_) | (with_reducible refine bo_alloc ?_ _) | (refine bchain ?_ (by with_reducible assumption)) | (with_reducible refine Below.setCell ?_ ?_ _) | go_size))⟩
    · have h2 : ¬ ((f.v.size : Int) ≤ 60) := by simpa [h1] using h
      clear h
      go_enter Tryz.func278, Tryz.ntmps278
      go_wp2_with fail
      go_quiet (fail)
      go_wp2_with fail
      refine (implWithin _ _ _ _).mono ?_; rw [h1]; rintro e w1 ⟨rfl, rfl⟩
      go_wp2_with fail
      go_ret
      exact ⟨rfl, (by repeat' (first | (with_reducible exact Below.refl _ _) | (with_reducible refine Below.drew ?_) | (with_reducible refine bo_drewN _ ?_) | (with_reducible refine bo_alloc ?_ _) | (refine bchain ?_ (by with_reducible assumption)) | (with_reducible refine Below.setCell ?_ ?_ _) | go_size))⟩
  · rw [wt_ok h]
    obtain ⟨p1, p2, p3⟩ := okF_parts h
    have h1 : inB f.n.size 1 40 = true := by unfold okF at h; simp only [Bool.and_eq_true] at h; exact h.1
    clear h
    go_enter Tryz.func278, Tryz.ntmps278
    go_wp2_with fail
    go_quiet (fail)
    go_wp2_with fail
    refine (implWithin _ _ _ _).mono ?_; rw [h1]; rintro e w1 ⟨rfl, rfl⟩
    go_wp2_with fail
    go_ret
    exact ⟨rfl, (by repeat' (first | (with_reducible exact Below.refl _ _) | (with_reducible refine Below.drew ?_) | (with_reducible refine bo_drewN _ ?_) | (with_reducible refine bo_alloc ?_ _) | (refine bchain ?_ (by with_reducible assumption)) | (with_reducible refine Below.setCell ?_ ?_ _) | go_size))⟩

theorem implRight (f : Fd) (w : World) (hf : f.fine) : Calls Tryz.prog 254 #[.agg #[.string f.n, .string f.v]] w fun x w' => x = .returned (.bool (okF f)) ∧ Below w.heap.size w w' := by
  have hz := wt_zero f
  cases h : okF f
  · have h0 := hz.2 h
    go_enter Tryz.func254, Tryz.ntmps254
    go_wp2_with fail
    refine (implWt f _ hf).mono ?_; rw [h0]; rintro e w1 ⟨rfl, hb1⟩
    go_wp2_with fail
    go_ret
    exact ⟨rfl, (by repeat' (first | (with_reducible exact Below.refl _ _) | (with_reducible refine Below.drew ?_) | (with_reducible refine bo_drewN _ ?_) | (with_reducible refine bo_alloc ?_ _) | (refine bchain ?_ (by with_reducible assumption)) | (with_reducible refine Below.setCell ?_ ?_ _) | go_size))⟩
  · have h0 : ¬ wt f = 0 := fun e => by rw [hz.1 e] at h; cases h
    go_enter Tryz.func254, Tryz.ntmps254
    go_wp2_with fail
    refine (implWt f _ hf).mono ?_; rintro e w1 ⟨rfl, hb1⟩
    generalize wt f = z at *
    clear hz
    go_wp2_with fail
    go_ret
    exact ⟨by simp [h0], (by repeat' (first | (with_reducible exact Below.refl _ _) | (with_reducible refine Below.drew ?_) | (with_reducible refine bo_drewN _ ?_) | (with_reducible refine bo_alloc ?_ _) | (refine bchain ?_ (by with_reducible assumption)) | (with_reducible refine Below.setCell ?_ ?_ _) | go_size))⟩
theorem implRoom (r : Int) (w : World) : Calls Tryz.prog 253 #[.int .i64 r] w fun e w' => e = .returned (.bool (inB r 0 1000)) ∧ w' = w := by
  go_enter Tryz.func253, Tryz.ntmps253
  go_wp2_with (go_at_call 127; refine (implWithin _ _ _ _).mono ?_; rintro e w' ⟨rfl, rfl⟩)
  go_ret
  exact ⟨rfl, rfl⟩
theorem specField (f : Fd) (w : World) (hf : f.fine) : Calls Tryz.prog 123 #[.agg #[.string f.n, .string f.v]] w fun x w' => x = .returned (.bool (okF f)) ∧ Below w.heap.size w w' := by
  obtain ⟨hn, hv⟩ := hf
  unfold okF
  cases h1 : inB f.n.size 1 40
  · go_enter Tryz.func123, Tryz.ntmps123
    go_wp2_with fail
    refine (specIn _ _ _ _).mono ?_; rw [h1]; rintro e w1 ⟨rfl, rfl⟩
    go_wp2_with fail
    go_ret
    exact ⟨rfl, (by repeat' (first | (with_reducible exact Below.refl _ _) | (with_reducible refine Below.drew ?_) | (with_reducible refine bo_drewN _ ?_) | (with_reducible refine bo_alloc ?_ _) | (refine bchain ?_ (by with_reducible assumption)) | (with_reducible refine Below.setCell ?_ ?_ _) | go_size))⟩
  · go_enter Tryz.func123, Tryz.ntmps123
    go_wp2_with fail
    refine (specIn _ _ _ _).mono ?_; rw [h1]; rintro e w1 ⟨rfl, rfl⟩
    go_wp2_with fail
    go_ret
    exact ⟨by simp, (by repeat' (first | (with_reducible exact Below.refl _ _) | (with_reducible refine Below.drew ?_) | (with_reducible refine bo_drewN _ ?_) | (with_reducible refine bo_alloc ?_ _) | (refine bchain ?_ (by with_reducible assumption)) | (with_reducible refine Below.setCell ?_ ?_ _) | go_size))⟩
theorem specWt (f : Fd) (w : World) (hf : f.fine) : Calls Tryz.prog 209 #[.agg #[.string f.n, .string f.v]] w fun x w' => x = .returned (.int .i64 (wt f)) ∧ Below w.heap.size w w' := by
  have hf' := hf
  obtain ⟨hn, hv⟩ := hf'
  cases h : okF f
  · rw [wt_no h]
    go_enter Tryz.func209, Tryz.ntmps209
    go_wp2_with fail
    refine (specField f _ hf).mono ?_; rw [h]; rintro e w1 ⟨rfl, hb1⟩
    go_wp2_with fail
    go_ret
    exact ⟨rfl, (by repeat' (first | (with_reducible exact Below.refl _ _) | (with_reducible refine Below.drew ?_) | (with_reducible refine bo_drewN _ ?_) | (with_reducible refine bo_alloc ?_ _) | (refine bchain ?_ (by with_reducible assumption)) | (with_reducible refine Below.setCell ?_ ?_ _) | go_size))⟩
  · rw [wt_ok h]
    obtain ⟨p1, p2, p3⟩ := okF_parts h
    go_enter Tryz.func209, Tryz.ntmps209
    go_wp2_with fail
    refine (specField f _ hf).mono ?_; rw [h]; rintro e w1 ⟨rfl, hb1⟩; have hc1 := fun o => hb1.cell (p := ⟨w.heap.size, o, none⟩) (by first | (simp; done) | (simp; omega) | omega); have hf1 := fun o => hb1.frozen (p := ⟨w.heap.size, o, none⟩) (by first | (simp; done) | (simp; omega) | omega)
    go_wp2_with fail
    go_ret
    exact ⟨rfl, (by repeat' (first | (with_reducible exact Below.refl _ _) | (with_reducible refine Below.drew ?_) | (with_reducible refine bo_drewN _ ?_) | (with_reducible refine bo_alloc ?_ _) | (refine bchain ?_ (by with_reducible assumption)) | (with_reducible refine Below.setCell ?_ ?_ _) | go_size))⟩
set_option maxHeartbeats 1000000 in
theorem specSum (L : List Fd) (v : Value) (w : World) (hr0 : Reads w v L.length 2 (fv L)) (hf : ∀ f ∈ L, f.fine) (hL : L.length ≤ 201) :
    Calls Tryz.prog 124 #[v] w fun x w' => x = .returned (.int .i64 (sumW L)) ∧ Below w.heap.size w w' := by
  obtain ⟨hl, ad, cap, rfl, h1, h2, h3⟩ := hr0
  have H3 := hide h3; have HF := hide hf
  clear h3 hf
  unfold maxLen at h2
  go_enter Tryz.func124, Tryz.ntmps124
  go_wp2_with fail
  go_loopw [3, 4] (fun s i wr => ∃ (k : Nat), i = .int .i64 k ∧ s = .int .i64 (sumW (L.take k)) ∧ k ≤ L.length ∧ Below w.heap.size w wr) (fun _ i _ => L.length - (intOf i).toNat)
  case atStart => exact ⟨0, rfl, by simp [sumW], Nat.zero_le _, Below.refl _ _⟩
  case round =>
    obtain ⟨k, rfl, rfl, hk, hb⟩ := hrel
    by_cases hlt : k < L.length
    · obtain ⟨b, o, rfl, hbw, hc⟩ := H3.out (by omega)
      obtain ⟨s0, s1⟩ := fv_get L k hlt
      have hfk := HF.out _ (List.getElem_mem hlt)
      have hsu := sumW_succ L k hlt
      have hrg := sumW_range (L.take k)
      rw [List.length_take, Nat.min_eq_left (by omega)] at hrg
      obtain ⟨f, hff⟩ : ∃ f, f = L[k] := ⟨_, rfl⟩
      rw [← hff] at s0 s1 hfk hsu
      have c0 : wr.cell? ⟨b, o + k * 2, none⟩ = some (.string f.n) := by rw [hb.cell (p := ⟨b, o + k * 2, none⟩) hbw]; exact hc _ _ s0
      have c1 : wr.cell? ⟨b, o + k * 2 + 1, none⟩ = some (.string f.v) := by rw [hb.cell (p := ⟨b, o + k * 2 + 1, none⟩) hbw]; exact hc _ _ s1
      clear hc s0 s1 hff
      have HU := hide hsu
      have hwr := wt_range f
      generalize sumW (L.take k) = A at *
      clear hsu
      go_wp2_with fail
      refine (specWt f _ hfk).mono ?_; rintro x w1 ⟨rfl, hb1⟩
      generalize wt f = z at *
      go_wp2_with fail
      exact ⟨⟨k + 1, by go_num, by rw [HU.out], by omega, bchain hb hb1⟩, by simp [intOf]; omega⟩
    · obtain rfl : k = L.length := by omega
      rw [List.take_length]
      go_wp2_with fail
      go_ret
      exact ⟨rfl, hb⟩
end Go.Proofs.YtfmeinkhdgbgjaaGreat
/- Rows of Fields as a make: counted, copied, held against each other, marked, read again. -/
namespace Go.Proofs.YtfmeinkhdgbgjaaGreat
open Go.RowKit
set_option maxRecDepth 100000
set_option linter.unusedSimpArgs false
set_option linter.unusedVariables false
section
variable {D : Type} {E : Shp D}
theorem OwR.flat {f : D → List Value} (hf : ∀ w cs d bs, E.own w cs d bs → cs = f d ∧ bs = []) {w : World} {v : Value} {L : List D} {bs : List Nat} (h : OwR E w v L bs) : w.ownsRow 0 E.ty E.size v L.length (L.flatMap f) ∧ bs = v.ownBlock.toList := by
  obtain ⟨ts, rfl, ho, hE, rfl⟩ := h
  have e : ts.flatMap (fun t => t.1) = (ts.map (fun t => t.2.1)).flatMap f := by
    rw [List.flatMap_map]
    have hh : ∀ t ∈ ts, t.1 = f t.2.1 := fun t ht => (hf _ _ _ _ (hE t ht)).1
    clear ho hE
    induction ts with
    | nil => rfl
    | cons t ts ih => simp only [List.flatMap_cons]; rw [ih (fun x hx => hh x (by simp [hx])), ← hh t (by simp)]
  have e2 : ts.flatMap (fun t => t.2.2) = [] := by
    have hh : ∀ t ∈ ts, t.2.2 = [] := fun t ht => (hf _ _ _ _ (hE t ht)).2
    clear ho hE e
    induction ts with
    | nil => rfl
    | cons t ts ih => simp only [List.flatMap_cons]; rw [ih (fun x hx => hh x (by simp [hx])), hh t (by simp)]; rfl
  rw [e] at ho
  exact ⟨by simpa using ho, by rw [e2]; simp⟩
theorem owR_flat {f : D → List Value} {w : World} {v : Value} {L : List D} (hf : ∀ d ∈ L, E.own w (f d) d []) (h : w.ownsRow 0 E.ty E.size v L.length (L.flatMap f)) : OwR E w v L v.ownBlock.toList := by
  refine ⟨L.map fun d => (f d, d, []), by simp [Function.comp_def], ?_, fun t ht => ?_, ?_⟩
  · simpa [List.flatMap_map] using h
  · obtain ⟨d, hd, rfl⟩ := List.mem_map.1 ht
    exact hf d hd
  · have : ∀ M : List D, (M.map fun d => ((f d, d, []) : List Value × D × List Nat)).flatMap (fun t => t.2.2) = [] := fun M => by induction M <;> simp_all
    rw [this]; simp
end
def fieldS : Shp Fd where
  size := 2
  ty := 163
  rd := fun _ cs d => cs = d.cs ∧ d.fine
  own := fun _ cs d bs => cs = d.cs ∧ d.fine ∧ bs = []
  pos := by decide
  rd_len := fun h => by obtain ⟨rfl, _⟩ := h; rfl
  rd_one := fun h u hu => by obtain ⟨rfl, _⟩ := h; simp only [Fd.cs, List.mem_cons, List.not_mem_nil, or_false] at hu; rcases hu with rfl | rfl <;> rfl
  rd_new := fun h _ => h
  own_rd := fun h => ⟨h.1, h.2.1⟩
  own_keep := fun h _ _ => h
  own_lt := fun h b hb => by rw [h.2.2] at hb; cases hb
theorem rd_fv {w : World} {v : Value} {L : List Fd} (h : RdR fieldS w v L) : Reads w v L.length 2 (fv L) := RdR.flat (E := fieldS) (f := Fd.cs) (fun _ _ _ h => h.1) h
theorem rd_fine {w : World} {v : Value} {L : List Fd} (h : RdR fieldS w v L) : ∀ f ∈ L, f.fine := by
  obtain ⟨ts, rfl, _, hE⟩ := h
  intro x hx
  obtain ⟨t, ht, rfl⟩ := List.mem_map.1 hx
  exact (hE t ht).2
theorem owr_fv {w : World} {v : Value} {L : List Fd} {bs : List Nat} (h : OwR fieldS w v L bs) : w.ownsRow 0 163 2 v L.length (fv L) ∧ bs = v.ownBlock.toList := OwR.flat (E := fieldS) (f := Fd.cs) (fun _ _ _ _ h => ⟨h.1, h.2.2⟩) h
theorem fv_owr {w : World} {v : Value} {L : List Fd} (h : w.ownsRow 0 163 2 v L.length (fv L)) (hs : ∀ f ∈ L, f.fine) : OwR fieldS w v L v.ownBlock.toList := owR_flat (E := fieldS) (f := Fd.cs) (fun d hd => ⟨rfl, hs d hd, rfl⟩) h
theorem fv_ow {w : World} {lo : Nat} {v : Value} {L : List Fd} (h : w.ownsRow lo 163 2 v L.length (fv L)) (hs : ∀ f ∈ L, f.fine) : OwX fieldS w lo w.heap.size v L := owX_flat (E := fieldS) (f := Fd.cs) (fun d hd => ⟨rfl, hs d hd, rfl⟩) h
/-- How much they hold, as the laws count. -/
def szFieldS (L : List Fd) : Int := L.length + szL L
theorem szFieldS_nn (L : List Fd) : 0 ≤ szFieldS L := by unfold szFieldS; have := szL_pos L; omega
theorem szFieldS_len (L : List Fd) : (L.length : Int) ≤ szFieldS L := by unfold szFieldS; have := szL_pos L; omega
/-- The marks, from k on. -/
def mkFieldS (L : List Fd) (k : Nat) : List Fd := mkLs (fun _ k => ⟨mtx k, mtx (k + 1)⟩) (fun _ => 2) L k
def cntFieldS (L : List Fd) : Nat := cntLs (fun _ => 2) L
theorem cntFieldS_len (L : List Fd) : cntFieldS L = L.length * 2 := by
  unfold cntFieldS
  induction L with
  | nil => rfl
  | cons x L ih => simp only [cntLs, List.length_cons, ih]; omega
theorem mkFld_len (L : List Fd) (k : Nat) : (mkFieldS L k).length = L.length := mk_len' _ _ L k
theorem mkFld_at (L : List Fd) (k j : Nat) (h : j < L.length) (h' : j < (mkFieldS L k).length) : (mkFieldS L k)[j] = ⟨mtx (k + j * 2), mtx (k + j * 2 + 1)⟩ := by
  have e := mk_at (fun (_ : Fd) k => (⟨mtx k, mtx (k + 1)⟩ : Fd)) (fun _ => 2) L k j h h'
  have h2 := cntFieldS_len (L.take j)
  unfold cntFieldS at h2
  rw [h2, List.length_take, Nat.min_eq_left (by omega)] at e
  exact e
theorem mkFld_fv (L : List Fd) (k : Nat) : fv (mkFieldS L k) = mkT k (L.length * 2) := by
  apply List.ext_getElem?
  intro i
  by_cases hi : i < L.length * 2
  · obtain ⟨j, r, hr, rfl⟩ : ∃ j r, r < 2 ∧ i = j * 2 + r := ⟨i / 2, i % 2, by omega, by omega⟩
    have hj : j < L.length := by omega
    have hj' : j < (mkFieldS L k).length := by rw [mkFld_len]; exact hj
    obtain ⟨g1, g2⟩ := fv_get (mkFieldS L k) j hj'
    rw [mkFld_at L k j hj hj'] at g1 g2
    rw [mkT_get k _ _ hi]
    rcases (show r = 0 ∨ r = 1 by omega) with rfl | rfl
    · rw [Nat.add_zero]; exact g1
    · exact g2
  · rw [List.getElem?_eq_none (by rw [fv_len, mkFld_len]; omega), List.getElem?_eq_none (by rw [mkT_len]; omega)]
theorem mkFld_fine (L : List Fd) (k : Nat) (hk : k + cntFieldS L ≤ 1000000000) : ∀ f ∈ mkFieldS L k, f.fine := by
  intro x hx
  obtain ⟨j, hj, rfl⟩ := List.getElem_of_mem hx
  have hj2 : j < L.length := by rw [← mkFld_len L k]; exact hj
  rw [mkFld_at L k j hj2]
  have h1 := mtx_size (k + j * 2)
  have h2 := mtx_size (k + j * 2 + 1)
  have h3 := cntFieldS_len L
  exact ⟨by simp only; omega, by simp only; omega⟩
theorem toFieldS (L : List Fd) (v : Value) (w : World) (hr : RdR fieldS w v L) (hz : szFieldS L ≤ 1048576) :
    Calls Tryz.prog 155 #[v] w fun x w' => ∃ v', x = .returned v' ∧ OwX fieldS w' w.heap.size w'.heap.size v' L ∧ Below w.heap.size w w' := by
  refine (toFields L v w (rd_fv hr) (by have := szFieldS_len L; omega)).mono ?_
  rintro x w' ⟨v', rfl, ho, hb⟩
  exact ⟨v', rfl, fv_ow ho (rd_fine hr), hb⟩
theorem eqFieldS (L : List Fd) (v v' : Value) (w : World) (hr0 : RdR fieldS w v L) (hr1 : RdR fieldS w v' L) :
    Calls Tryz.prog 164 #[v, v'] w fun x w' => x = .returned (.bool true) ∧ Below w.heap.size w w' := eqFields L v v' w (rd_fv hr0) (rd_fv hr1)
theorem szFieldS1 (L : List Fd) (v : Value) (left : Int) (w : World) (hr : RdR fieldS w v L) (h0 : 0 ≤ left) (h1 : left ≤ 1048576) :
    Calls Tryz.prog 149 #[v, .int .i64 left] w fun x w' => (x = .returned (.int .i64 (-1)) ∨ (x = .returned (.int .i64 (left - szFieldS L)) ∧ 0 ≤ left - szFieldS L)) ∧ Below w.heap.size w w' := by
  refine (szFields L v left w (rd_fv hr) (rd_fine hr) h0 h1).mono ?_
  rintro x w' ⟨rfl, hb⟩
  refine ⟨?_, hb⟩
  unfold szFieldS
  by_cases c : left - L.length - szL L < 0
  · exact .inl (by rw [if_pos c])
  · exact .inr ⟨by rw [if_neg c, show left - L.length - szL L = left - (L.length + szL L) by omega], by omega⟩
theorem markFieldS (L : List Fd) (k : Nat) (v : Value) (bs : List Nat) (w : World) (ho : OwR fieldS w v L bs) (hn : bs.Nodup) (hk1 : k + cntFieldS L ≤ 1000000000) :
    Calls Tryz.prog 167 #[v, .int .i64 k] w fun x w' => x = .returned (.int .i64 ((k + cntFieldS L : Nat) : Int)) ∧ OwR fieldS w' v (mkFieldS L k) bs ∧ TurnB bs w w' := by
  obtain ⟨ho1, rfl⟩ := owr_fv ho
  have hc := cntFieldS_len L
  refine (markFields L.length k v (fv L) 0 w ho1 (by omega)).mono ?_
  rintro x w' ⟨rfl, ho2, hg⟩
  rw [hc]
  refine ⟨rfl, fv_owr ?_ (mkFld_fine L k hk1), ⟨hg.os, hg.tape, hg.output, hg.size, fun q hq hn => hg.block q hq fun e => hn (by rw [← e]; simp)⟩⟩
  rw [mkFld_fv, mkFld_len]
  exact ho2
theorem heldFieldS (L : List Fd) (k : Nat) (v : Value) (w : World) (hr : RdR fieldS w v (mkFieldS L k)) (hk1 : k + cntFieldS L ≤ 1000000000) :
    Calls Tryz.prog 169 #[v, .int .i64 k] w fun x w' => x = .returned (.int .i64 ((k + cntFieldS L : Nat) : Int)) ∧ Below w.heap.size w w' := by
  have h := rd_fv hr
  rw [mkFld_fv, mkFld_len] at h
  rw [cntFieldS_len] at hk1 ⊢
  exact heldFields L.length k v w h hk1
open Go.ChangeShapes Go.WideShapes Go.ChangeAt Go.Joins in
theorem open_cellsField {H : Type} {enc : TypeId × Value → H} {W : World} {base : Nat} {spare : Nat → Bool} {held : Bool} {fuel : Nat} {cs : List Value} {x : DataW H × List MemPlace} (h : DataW.trod enc Tryz.prog W base spare held fuel 254 cs = some x) : ∃ d : Fd, fieldS.rd W cs d := by
  obtain ⟨c0, c1, y0, y1, n, rfl, h0, h1⟩ := scells2 Tryz.underlying254 (by kernel_rfl) (by kernel_rfl) h
  obtain ⟨i0, e0, _, hs0⟩ := DataW.trod_string Tryz.underlying9 h0
  simp only [List.cons.injEq, and_true] at e0
  subst e0
  obtain ⟨i1, e1, _, hs1⟩ := DataW.trod_string Tryz.underlying9 h1
  simp only [List.cons.injEq, and_true] at e1
  subst e1
  exact ⟨⟨i0, i1⟩, rfl, by unfold maxLen at hs0; simp only; omega, by unfold maxLen at hs1; simp only; omega⟩
end Go.Proofs.YtfmeinkhdgbgjaaGreat
/- Tables of the laws: counted, copied, held against each other, marked, read again; and one that came in. -/
namespace Go.Proofs.YtfmeinkhdgbgjaaGreat
open Go.RowKit
set_option maxRecDepth 100000
set_option linter.unusedSimpArgs false
set_option linter.unusedVariables false

theorem szTable1 (L : List Fd) (room : Int) (v : Value) (left : Int) (w : World) (hr0 : Reads w v L.length 2 (fv L)) (hf : ∀ f ∈ L, f.fine) (h0 : 0 ≤ left) (h1 : left ≤ 1048576) :
    Calls Tryz.prog 68 #[.agg #[.int .i64 room, v], .int .i64 left] w fun x w' => x = .returned (.int .i64 (if left - L.length - szL L < 0 then -1 else left - L.length - szL L)) ∧ Below w.heap.size w w' := by
  obtain ⟨ad, cap, rfl, _⟩ := hr0.2
  have HR := hide hr0
  clear hr0
  obtain ⟨R, hR⟩ : ∃ R : Int, R = if left - L.length - szL L < 0 then -1 else left - L.length - szL L := ⟨_, rfl⟩
  rw [← hR]
  go_enter Tryz.func68, Tryz.ntmps68
  have HRR := hide hR
  clear hR
  go_wp2_with fail
  refine (szFields L _ left _ (HR.out.new ((Below.refl _ _).alloc (Nat.le_refl _) _)) hf h0 h1).mono ?_; rw [← HRR.out]; rintro x w1 ⟨rfl, hb1⟩
  have hz := HRR.out
  by_cases h : left - L.length - szL L < 0
  · rw [if_pos h] at hz
    subst hz
    go_wp2_with fail
    go_ret
    exact ⟨rfl, (by repeat' (first | (with_reducible exact Below.refl _ _) | (with_reducible refine Below.drew ?_) | (with_reducible refine bo_drewN _ ?_) | (with_reducible refine bo_alloc ?_ _) | (refine bchain ?_ (by with_reducible assumption)) | (with_reducible refine Below.setCell ?_ ?_ _) | go_size))⟩
  · rw [if_neg h] at hz
    have hz0 : ¬ R < 0 := by omega
    clear hz
    go_wp2_with fail
    go_ret
    exact ⟨rfl, (by repeat' (first | (with_reducible exact Below.refl _ _) | (with_reducible refine Below.drew ?_) | (with_reducible refine bo_drewN _ ?_) | (with_reducible refine bo_alloc ?_ _) | (refine bchain ?_ (by with_reducible assumption)) | (with_reducible refine Below.setCell ?_ ?_ _) | go_size))⟩

theorem toTable1 (L : List Fd) (room : Int) (v : Value) (w : World) (hr0 : Reads w v L.length 2 (fv L)) (hL : L.length ≤ 1048576) :
    Calls Tryz.prog 72 #[.agg #[.int .i64 room, v]] w fun x w' => ∃ v', x = .returned (.agg #[.int .i64 room, v']) ∧ w'.ownsRow w.heap.size 163 2 v' L.length (fv L) ∧ Below w.heap.size w w' := by
  obtain ⟨ad, cap, rfl, _⟩ := hr0.2
  have HR := hide hr0
  clear hr0
  go_enter Tryz.func72, Tryz.ntmps72
  go_wp2_with fail
  refine (toFields L _ _ ?c1 hL).mono ?_
  case c1 => exact HR.out.new (by repeat' (first | (with_reducible exact Below.refl _ _) | (with_reducible refine Below.drew ?_) | (with_reducible refine bo_drewN _ ?_) | (with_reducible refine bo_alloc ?_ _) | (refine bchain ?_ (by with_reducible assumption)) | (with_reducible refine Below.setCell ?_ ?_ _) | go_size))
  rintro x w1 ⟨v1, rfl, ho, hb1⟩; have hz1 := hb1.size; (try simp at hz1); have hc1 := fun o => hb1.cell (p := ⟨w.heap.size, o, none⟩) (by first | (simp; done) | (simp; omega) | omega); have hf1 := fun o => hb1.frozen (p := ⟨w.heap.size, o, none⟩) (by first | (simp; done) | (simp; omega) | omega); have hcn1 := fun o => hb1.cell (p := ⟨w.heap.size + 1, o, none⟩) (by first | (simp; done) | (simp; omega) | omega); have hfn1 := fun o => hb1.frozen (p := ⟨w.heap.size + 1, o, none⟩) (by first | (simp; done) | (simp; omega) | omega); have hcm1 := fun o => hb1.cell (p := ⟨w.heap.size + 2, o, none⟩) (by first | (simp; done) | (simp; omega) | omega); have hfm1 := fun o => hb1.frozen (p := ⟨w.heap.size + 2, o, none⟩) (by first | (simp; done) | (simp; omega) | omega)
  have hbw : Below w.heap.size w w1 := (by repeat' (first | (with_reducible exact Below.refl _ _) | (with_reducible refine Below.drew ?_) | (with_reducible refine bo_drewN _ ?_) | (with_reducible refine bo_alloc ?_ _) | (refine bchain ?_ (by with_reducible assumption)) | (with_reducible refine Below.setCell ?_ ?_ _) | go_size))
  obtain ⟨ad1, cap1, rfl, _⟩ := owns_form ho
  have hc2 : ∀ k, (Value.slice ad1 L.length cap1).ownBlock = some k → w.heap.size + 3 ≤ k ∧ k < w1.heap.size := fun k hk => by have := ho.lt k hk; simpa using this
  have HO := hide ho
  clear ho
  have HC := hide hc2
  clear hc2
  go_wp2_with fail
  refine bodyPost_ret (v := .agg #[.int .i64 room, .slice ad1 L.length cap1]) (by simp [results, Tryz.results72, go_sem, *]) rfl ?_
  have ho : w1.ownsRow w.heap.size 163 2 (.slice ad1 L.length cap1) L.length (fv L) := owns_base HO.out fun k hk => by have := HC.out k hk; omega
  have hv : ∀ k, (Value.slice ad1 L.length cap1).ownBlock = some k → w.heap.size + 3 ≤ k := fun k hk => (HC.out k hk).1
  exact ⟨_, rfl, (by repeat' (first | (with_reducible exact ho) | (with_reducible refine owns_far _ ?_ hv _ _ ?_) | (with_reducible refine World.ownsRow.alloc ?_ _) | (simp; done) | (simp; omega))), (by repeat' (first | (with_reducible exact Below.refl _ _) | (with_reducible refine Below.drew ?_) | (with_reducible refine bo_drewN _ ?_) | (with_reducible refine bo_alloc ?_ _) | (refine bchain ?_ (by with_reducible assumption)) | (with_reducible refine Below.setCell ?_ ?_ _) | go_size))⟩

theorem eqTable1 (L : List Fd) (room : Int) (v v' : Value) (w : World) (hr0 : Reads w v L.length 2 (fv L)) (hr1 : Reads w v' L.length 2 (fv L)) :
    Calls Tryz.prog 79 #[.agg #[.int .i64 room, v], .agg #[.int .i64 room, v']] w fun x w' => x = .returned (.bool true) ∧ Below w.heap.size w w' := by
  obtain ⟨ad, cap, rfl, _⟩ := hr0.2
  obtain ⟨ad', cap', rfl, _⟩ := hr1.2
  have HR := hide hr0; have HR' := hide hr1
  clear hr0 hr1
  go_enter Tryz.func79, Tryz.ntmps79
  go_wp2_with fail
  refine (eqFields L _ _ _ ?c1 ?c2).mono ?_
  case c1 => exact HR.out.new (by repeat' (first | (with_reducible exact Below.refl _ _) | (with_reducible refine Below.drew ?_) | (with_reducible refine bo_drewN _ ?_) | (with_reducible refine bo_alloc ?_ _) | (refine bchain ?_ (by with_reducible assumption)) | (with_reducible refine Below.setCell ?_ ?_ _) | go_size))
  case c2 => exact HR'.out.new (by repeat' (first | (with_reducible exact Below.refl _ _) | (with_reducible refine Below.drew ?_) | (with_reducible refine bo_drewN _ ?_) | (with_reducible refine bo_alloc ?_ _) | (refine bchain ?_ (by with_reducible assumption)) | (with_reducible refine Below.setCell ?_ ?_ _) | go_size))
  rintro x w1 ⟨rfl, hb1⟩
  go_wp2_with fail
  go_ret
  exact ⟨rfl, (by repeat' (first | (with_reducible exact Below.refl _ _) | (with_reducible refine Below.drew ?_) | (with_reducible refine bo_drewN _ ?_) | (with_reducible refine bo_alloc ?_ _) | (refine bchain ?_ (by with_reducible assumption)) | (with_reducible refine Below.setCell ?_ ?_ _) | go_size))⟩

theorem heldTable1 (n k : Nat) (room : Int) (v : Value) (w : World) (hr0 : Reads w v n 2 (mkT k (n * 2))) (hk1 : k + n * 2 ≤ 1000000000) :
    Calls Tryz.prog 87 #[.agg #[.int .i64 room, v], .int .i64 k] w fun x w' => x = .returned (.int .i64 ((k + n * 2 : Nat) : Int)) ∧ Below w.heap.size w w' := by
  obtain ⟨ad, cap, rfl, _⟩ := hr0.2
  have HR := hide hr0
  clear hr0
  obtain ⟨K, hK⟩ : ∃ K : Nat, K = k + n * 2 := ⟨_, rfl⟩
  rw [← hK]
  have HK := hide hK
  clear hK
  go_enter Tryz.func87, Tryz.ntmps87
  go_wp2_with fail
  refine (heldFields n k _ _ ?c1 hk1).mono ?_
  case c1 => exact HR.out.new (by repeat' (first | (with_reducible exact Below.refl _ _) | (with_reducible refine Below.drew ?_) | (with_reducible refine bo_drewN _ ?_) | (with_reducible refine bo_alloc ?_ _) | (refine bchain ?_ (by with_reducible assumption)) | (with_reducible refine Below.setCell ?_ ?_ _) | go_size))
  rw [← HK.out]
  rintro x w1 ⟨rfl, hb1⟩
  go_wp2_with fail
  go_ret
  exact ⟨rfl, (by repeat' (first | (with_reducible exact Below.refl _ _) | (with_reducible refine Below.drew ?_) | (with_reducible refine bo_drewN _ ?_) | (with_reducible refine bo_alloc ?_ _) | (refine bchain ?_ (by with_reducible assumption)) | (with_reducible refine Below.setCell ?_ ?_ _) | go_size))⟩

theorem markTable1 (n k : Nat) (room : Int) (v : Value) (xs : List Value) (lo : Nat) (w : World) (ho : w.ownsRow lo 163 2 v n xs) (hk1 : k + n * 2 ≤ 1000000000) :
    Calls Tryz.prog 83 #[.agg #[.int .i64 room, v], .int .i64 k] w fun x w' => x = .returned (.int .i64 ((k + n * 2 : Nat) : Int)) ∧ w'.ownsRow lo 163 2 v n (mkT k (n * 2)) ∧ w.grownBy w' v.ownBlock := by
  obtain ⟨ad, cap, rfl, h1, h2⟩ := owns_form ho
  have HO := hide ho
  clear ho
  obtain ⟨K, hK⟩ : ∃ K : Nat, K = k + n * 2 := ⟨_, rfl⟩
  rw [← hK]
  have HK := hide hK
  clear hK
  go_enter Tryz.func83, Tryz.ntmps83
  go_wp2_with fail
  refine (markFields n k _ _ lo _ (HO.out.alloc _) hk1).mono ?_
  rw [← HK.out]
  rintro x w1 ⟨rfl, ho1, hg1⟩
  have HO1 := hide ho1
  have HG := hide (gb_trans (gb_new ((Below.refl w.heap.size w).alloc (Nat.le_refl _) _) _) hg1)
  clear ho1 hg1
  go_wp2_with fail
  go_ret
  exact ⟨rfl, HO1.out, HG.out⟩

end Go.Proofs.YtfmeinkhdgbgjaaGreat
/- Chapter 16's model: NewTunnel, In, Out, Back, Torn, Over. -/
namespace Go.Proofs.YtfmeinkhdgbgjaaGreat
open Go.RowKit
set_option maxRecDepth 100000
set_option linter.unusedSimpArgs false
set_option linter.unusedVariables false
theorem specMin16 (a b : Int) (w : World) : Calls Tryz.prog 142 #[.int .i64 a, .int .i64 b] w fun x w' => x = .returned (.int .i64 (min a b)) ∧ w' = w := by
  by_cases h : a < b
  · rw [show min a b = a by omega]
    go_enter Tryz.func142, Tryz.ntmps142
    go_wp2_with fail
    go_ret
    exact ⟨rfl, rfl⟩
  · rw [show min a b = b by omega]
    go_enter Tryz.func142, Tryz.ntmps142
    go_wp2_with fail
    go_ret
    exact ⟨rfl, rfl⟩
theorem specMax16 (a b : Int) (w : World) : Calls Tryz.prog 151 #[.int .i64 a, .int .i64 b] w fun x w' => x = .returned (.int .i64 (max a b)) ∧ w' = w := by
  by_cases h : b < a
  · rw [show max a b = a by omega]
    go_enter Tryz.func151, Tryz.ntmps151
    go_wp2_with fail
    go_ret
    exact ⟨rfl, rfl⟩
  · rw [show max a b = b by omega]
    go_enter Tryz.func151, Tryz.ntmps151
    go_wp2_with fail
    go_ret
    exact ⟨rfl, rfl⟩
end Go.Proofs.YtfmeinkhdgbgjaaGreat
/- Chapter 7's numbers as bytes: Number and Bytes, of the program and of the model. -/
namespace Go.Proofs.YtfmeinkhdgbgjaaGreat
open Go.RowKit
set_option maxRecDepth 100000
set_option linter.unusedSimpArgs false
set_option linter.unusedVariables false

/-- What Bytes answers. -/
def bysV (n c : Int) : ByteArray := if inB c 1 4 = true ∧ inB n 0 (256 ^ c.toNat - 1) = true then bytV c.toNat n else ⟨#[]⟩
theorem row_end {xs : List Value} {l : List Int} (h : xs.drop 0 = l.map (Value.int .u8)) : xs = l.map (Value.int .u8) := by simpa using h
theorem drop_set (xs : List Value) (a : Nat) (v : Value) (l : List Int) (x : Int) (hv : v = .int .u8 x) (h : xs.drop (a + 1) = l.map (Value.int .u8)) (ha : a < xs.length) : (xs.set a v).drop a = (x :: l).map (Value.int .u8) := by
  rw [List.drop_eq_getElem_cons (by simpa using ha), List.getElem_set_self, hv, List.map_cons]
  congr 1
  rw [List.drop_set_of_lt (by omega)]
  exact h
theorem bytL_step (a : Nat) (m : Int) (l : List Int) : bytL (a + 1) m ++ l = bytL a (m / 256) ++ (m % 256 :: l) := by simp [bytL]
set_option maxHeartbeats 1000000 in
theorem specBytes7 (n : Int) (c : Nat) (w : World) (h0 : 0 ≤ n) (h1 : n ≤ 9223372036854775807) (hc1 : 1 ≤ c) (hc : c ≤ 4) :
    Calls Tryz.prog 177 #[.int .i64 n, .int .i64 c] w fun e w' => e = .returned (.string (bytV c n)) ∧ Below w.heap.size w w' := by
  obtain ⟨M, hM, hmk⟩ := make_row 22 5 (.int .u8 0) 1 1 Tryz.underlying22 (by kernel_rfl) rfl (by decide) (by decide) c (by omega)
  have ho := owns_made w M 5 1 c hM (by omega)
  have hMl : M.toList.length = c := by simp [hM]
  obtain ⟨L, hL⟩ : ∃ L, bytL c n = L := ⟨_, rfl⟩
  have hv : bytV c n = strOf L := by unfold bytV; rw [hL]
  have HX : Hid (∀ x ∈ L, 0 ≤ x ∧ x ≤ 255) := by show ∀ x ∈ _, _; rw [← hL]; exact bytL_range c n
  rw [hv]
  have HL := hide hL
  clear hv hL
  go_enter Tryz.func177, Tryz.ntmps177
  go_wp2_with fail
  go_loopw [0, 6] (fun nv i wr => ∃ (a : Nat) (m : Int) (xs : List Value) (l : List Int), i = .int .i64 ((a : Int) - 1) ∧ nv = .int .i64 m ∧ a ≤ c ∧ 0 ≤ m ∧ m ≤ 9223372036854775807 ∧ L = bytL a m ++ l ∧ xs.drop a = l.map (Value.int .u8) ∧ wr.ownsRow w.heap.size 5 1 (.slice (some ⟨w.heap.size, 0, none⟩) c c) c xs ∧ Below w.heap.size w wr) (fun _ i _ => (intOf i + 1).toNat)
  case atStart => exact ⟨c, n, _, [], rfl, rfl, Nat.le_refl _, h0, h1, by rw [HL.out]; simp, by simp [← hMl], ho, (Below.refl _ _).alloc (Nat.le_refl _) _⟩
  case round =>
    obtain ⟨a, m, xs, l, rfl, rfl, ha, m0, m1, hpre, hd, hown, hb⟩ := hrel
    have hxl := hown.1
    cases a with
    | zero =>
      have hxs := row_end hd
      subst hxs
      have hLl : L = l := by rw [hpre]; rfl
      have hcv := row_string (l := l) (by simpa using hown) (by rw [← hLl]; exact HX.out)
      rw [← hLl] at hcv
      clear hpre hd hown hLl
      go_wp2_with fail
      go_ret
      exact ⟨rfl, hb⟩
    | succ a =>
      obtain ⟨g, cap', e1, e2, e3, e4, _, _, e5, e6⟩ := owns_open hown (by omega)
      simp only [Value.slice.injEq, Option.some.injEq, Addr.mk.injEq] at e1
      obtain ⟨⟨rfl, _, _⟩, _, rfl⟩ := e1
      obtain ⟨u0, hu0⟩ : ∃ u, wr.cell? ⟨w.heap.size, a, none⟩ = some u := ⟨_, e5 _ _ (List.getElem?_eq_getElem (by omega))⟩
      have HO := hide (owns_set hown rfl a (.int .u8 (m % 256)))
      have HD := hide (drop_set xs a (.int .u8 (m % 256)) l (m % 256) rfl hd (by omega))
      have HP := hide (hpre.trans (bytL_step a m l))
      have hi1 : (((a + 1 : Nat) : Int) - 1) = a := by omega
      rw [hi1]
      clear hpre hd hown e5 e2 hi1
      go_wp2_with fail
      exact ⟨⟨a, m / 256, _, _, by go_num, rfl, by omega, by omega, by omega, HP.out, HD.out, HO.out, hb.setCell (by simp) _⟩, by first | (simp [intOf]; done) | (simp [intOf]; omega)⟩
set_option maxHeartbeats 1000000 in
theorem implLow8 (c : Int) (w : World) (h1 : 1 ≤ c) (h4 : c ≤ 4) : Calls Tryz.prog 227 #[.int .i64 (c * 8)] w fun e w' => e = .returned (.int .i64 (256 ^ c.toNat - 1)) ∧ w' = w := by
  have : c = 1 ∨ c = 2 ∨ c = 3 ∨ c = 4 := by omega
  rcases this with rfl | rfl | rfl | rfl
  all_goals
    go_enter Tryz.func227, Tryz.ntmps227
    go_wp2_with fail
    go_ret
    exact ⟨rfl, rfl⟩
set_option maxHeartbeats 1000000 in
theorem implBytes (n c : Int) (w : World) :
    Calls Tryz.prog 162 #[.int .i64 n, .int .i64 c] w fun e w' => e = .returned (.string (bysV n c)) ∧ Below w.heap.size w w' := by
  cases hc : inB c 1 4
  · have hv : bysV n c = ⟨#[]⟩ := by simp [bysV, hc]
    rw [hv]
    go_enter Tryz.func162, Tryz.ntmps162
    go_wp2_with fail
    refine (implWithin _ _ _ _).mono ?_; rw [hc]; rintro e w1 ⟨rfl, rfl⟩
    go_wp2_with fail
    go_ret
    exact ⟨rfl, Below.refl _ _⟩
  obtain ⟨hc1, hc4⟩ := inB_true hc
  cases hn : inB n 0 (256 ^ c.toNat - 1)
  · have hv : bysV n c = ⟨#[]⟩ := by simp [bysV, hn]
    rw [hv]
    go_enter Tryz.func162, Tryz.ntmps162
    go_wp2_with fail
    refine (implWithin _ _ _ _).mono ?_; rw [hc]; rintro e w1 ⟨rfl, rfl⟩
    go_wp2_with fail
    refine (implLow8 c _ hc1 hc4).mono ?_; rintro e w1 ⟨rfl, rfl⟩
    go_wp2_with fail
    refine (implWithin _ _ _ _).mono ?_; rw [hn]; rintro e w1 ⟨rfl, rfl⟩
    go_wp2_with fail
    go_ret
    exact ⟨rfl, Below.refl _ _⟩
  obtain ⟨h0, h1⟩ := inB_true hn
  obtain ⟨C, rfl⟩ : ∃ C : Nat, c = C := ⟨c.toNat, by omega⟩
  rw [Int.toNat_natCast] at hn h1
  have hv : bysV n C = bytV C n := by unfold bysV; rw [Int.toNat_natCast, if_pos ⟨hc, hn⟩]
  have h1' : n ≤ 9223372036854775807 := by
    have : (256 : Int) ^ C ≤ 256 ^ 4 := by exact_mod_cast Nat.pow_le_pow_right (by omega : 0 < 256) (by omega : C ≤ 4)
    omega
  obtain ⟨M, hM, hmk⟩ := make_row 22 5 (.int .u8 0) 1 1 Tryz.underlying22 (by kernel_rfl) rfl (by decide) (by decide) C (by omega)
  have ho := owns_made w M 5 1 C hM (by omega)
  have hMl : M.toList.length = C := by simp [hM]
  obtain ⟨L, hL⟩ : ∃ L, bytL C n = L := ⟨_, rfl⟩
  have hv2 : bytV C n = strOf L := by unfold bytV; rw [hL]
  have HX : Hid (∀ x ∈ L, 0 ≤ x ∧ x ≤ 255) := by show ∀ x ∈ _, _; rw [← hL]; exact bytL_range C n
  rw [hv, hv2]
  have HL := hide hL
  have HN := hide hn
  clear hv hL hv2 h1 hn
  go_enter Tryz.func162, Tryz.ntmps162
  go_wp2_with fail
  refine (implWithin _ _ _ _).mono ?_; rw [hc]; rintro e w1 ⟨rfl, rfl⟩
  go_wp2_with fail
  refine (implLow8 (C : Int) _ hc1 hc4).mono ?_; rintro e w1 ⟨rfl, rfl⟩
  go_wp2_with fail
  refine (implWithin _ _ _ _).mono ?_; rw [HN.out]; rintro e w1 ⟨rfl, rfl⟩
  go_wp2_with fail
  go_loopw [0, 6] (fun nv i wr => ∃ (a : Nat) (m : Int) (xs : List Value) (l : List Int), i = .int .i64 ((a : Int) - 1) ∧ nv = .int .i64 m ∧ a ≤ C ∧ 0 ≤ m ∧ m ≤ 9223372036854775807 ∧ L = bytL a m ++ l ∧ xs.drop a = l.map (Value.int .u8) ∧ wr.ownsRow w1.heap.size 5 1 (.slice (some ⟨w1.heap.size, 0, none⟩) C C) C xs ∧ Below w1.heap.size w1 wr) (fun _ i _ => (intOf i + 1).toNat)
  case atStart => exact ⟨C, n, _, [], rfl, rfl, Nat.le_refl _, h0, h1', by rw [HL.out]; simp, by simp [← hMl], ho, (Below.refl _ _).alloc (Nat.le_refl _) _⟩
  case round =>
    obtain ⟨a, m, xs, l, rfl, rfl, ha, m0, m1, hpre, hd, hown, hb⟩ := hrel
    have hxl := hown.1
    cases a with
    | zero =>
      have hxs := row_end hd
      subst hxs
      have hLl : L = l := by rw [hpre]; rfl
      have hcv := row_string (l := l) (by simpa using hown) (by rw [← hLl]; exact HX.out)
      rw [← hLl] at hcv
      clear hpre hd hown hLl
      go_wp2_with fail
      go_ret
      exact ⟨rfl, hb⟩
    | succ a =>
      obtain ⟨g, cap', e1, e2, e3, e4, _, _, e5, e6⟩ := owns_open hown (by omega)
      simp only [Value.slice.injEq, Option.some.injEq, Addr.mk.injEq] at e1
      obtain ⟨⟨rfl, _, _⟩, _, rfl⟩ := e1
      obtain ⟨u0, hu0⟩ : ∃ u, wr.cell? ⟨w1.heap.size, a, none⟩ = some u := ⟨_, e5 _ _ (List.getElem?_eq_getElem (by omega))⟩
      have HO := hide (owns_set hown rfl a (.int .u8 (m % 256)))
      have HD := hide (drop_set xs a (.int .u8 (m % 256)) l (m % 256) rfl hd (by omega))
      have HP := hide (hpre.trans (bytL_step a m l))
      have hi1 : (((a + 1 : Nat) : Int) - 1) = a := by omega
      rw [hi1]
      clear hpre hd hown e5 e2 hi1
      go_wp2_with fail
      exact ⟨⟨a, m / 256, _, _, by go_num, rfl, by omega, by omega, by omega, HP.out, HD.out, HO.out, hb.setCell (by simp) _⟩, by first | (simp [intOf]; done) | (simp [intOf]; omega)⟩
end Go.Proofs.YtfmeinkhdgbgjaaGreat
/- Rows of Frames: read, held against each other, marked, read again; one Frame that came in. (Written ahead of the landing of chapter 7: not yet built in a seat that has these functions.) -/
namespace Go.Proofs.YtfmeinkhdgbgjaaGreat
open Go.RowKit
set_option maxRecDepth 100000
set_option linter.unusedSimpArgs false
set_option linter.unusedVariables false

def Fr.cs (f : Fr) : List Value := [.int .i64 f.k, .int .i64 f.fl, .int .i64 f.st, .string f.b]
/-- As Go's types have it. -/
def Fr.fine (f : Fr) : Prop := f.b.size ≤ 9223372036854775807
def fr (L : List Fr) : List Value := L.flatMap Fr.cs
theorem frcs_len (s : Fr) : s.cs.length = 4 := rfl
theorem fr_get (L : List Fr) (k : Nat) (h : k < L.length) : (fr L)[k * 4]? = some (.int .i64 L[k].k) ∧ (fr L)[k * 4 + 1]? = some (.int .i64 L[k].fl) ∧ (fr L)[k * 4 + 2]? = some (.int .i64 L[k].st) ∧ (fr L)[k * 4 + 3]? = some (.string L[k].b) :=
  ⟨flat_get Fr.cs 4 frcs_len L k h 0 (by decide), flat_get Fr.cs 4 frcs_len L k h 1 (by decide), flat_get Fr.cs 4 frcs_len L k h 2 (by decide), flat_get Fr.cs 4 frcs_len L k h 3 (by decide)⟩
theorem fr_one (L : List Fr) : ∀ u ∈ fr L, u.oneCell' = true := by
  intro u hu
  obtain ⟨f, _, hf⟩ := List.mem_flatMap.1 hu
  simp only [Fr.cs, List.mem_cons, List.not_mem_nil, or_false] at hf
  rcases hf with rfl | rfl | rfl | rfl <;> rfl
theorem fr_app (A B : List Fr) : fr (A ++ B) = fr A ++ fr B := by simp [fr]

theorem eqFrame1 (f : Fr) (w : World) : Calls Tryz.prog 81 #[.agg #[.int .i64 (f).k, .int .i64 (f).fl, .int .i64 (f).st, .string (f).b], .agg #[.int .i64 (f).k, .int .i64 (f).fl, .int .i64 (f).st, .string (f).b]] w fun x w' => x = .returned (.bool true) ∧ Below w.heap.size w w' := by
  go_enter Tryz.func81, Tryz.ntmps81
  go_wp2
  go_ret
  exact ⟨rfl, (by repeat' (first | (with_reducible exact Below.refl _ _) | (with_reducible refine Below.drew ?_) | (with_reducible refine bo_drewN _ ?_) | (with_reducible refine bo_alloc ?_ _) | (refine bchain ?_ (by with_reducible assumption)) | (with_reducible refine Below.setCell ?_ ?_ _) | go_size))⟩
set_option maxHeartbeats 1000000 in
theorem eqFrames (L : List Fr) (v v' : Value) (w : World) (hr0 : Reads w v L.length 4 (fr L)) (hr1 : Reads w v' L.length 4 (fr L)) :
    Calls Tryz.prog 30 #[v, v'] w fun x w' => x = .returned (.bool true) ∧ Below w.heap.size w w' := by
  obtain ⟨hl, ad, cap, rfl, h1, h2, h3⟩ := hr0
  obtain ⟨hl', ad', cap', rfl, h1', h2', h3'⟩ := hr1
  have H3 := hide h3
  have H3' := hide h3'
  clear h3 h3'
  unfold maxLen at h2 h2'
  go_enter Tryz.func30, Tryz.ntmps30
  go_wp2_with fail
  go_loopw [5] (fun i wr => ∃ (k : Nat), i = .int .i64 k ∧ k ≤ L.length ∧ Below w.heap.size w wr) (fun i _ => L.length - (intOf i).toNat)
  case atStart => exact ⟨0, rfl, Nat.zero_le _, Below.refl _ _⟩
  case round =>
    obtain ⟨k, rfl, hk, hb⟩ := hrel
    by_cases hlt : k < L.length
    · obtain ⟨b, o, rfl, hbw, hc⟩ := H3.out (by omega)
      obtain ⟨b', o', rfl, hbw', hc'⟩ := H3'.out (by omega)
      obtain ⟨s0, s1, s2, s3⟩ := fr_get L k hlt
      have c0 : wr.cell? ⟨b, o + k * 4, none⟩ = some (.int .i64 L[k].k) := by rw [hb.cell (p := ⟨b, o + k * 4, none⟩) hbw]; exact hc _ _ s0
      have c1 : wr.cell? ⟨b, o + k * 4 + 1, none⟩ = some (.int .i64 L[k].fl) := by rw [hb.cell (p := ⟨b, o + k * 4 + 1, none⟩) hbw]; exact hc _ _ s1
      have c2 : wr.cell? ⟨b, o + k * 4 + 2, none⟩ = some (.int .i64 L[k].st) := by rw [hb.cell (p := ⟨b, o + k * 4 + 2, none⟩) hbw]; exact hc _ _ s2
      have c3 : wr.cell? ⟨b, o + k * 4 + 3, none⟩ = some (.string L[k].b) := by rw [hb.cell (p := ⟨b, o + k * 4 + 3, none⟩) hbw]; exact hc _ _ s3
      have d0 : wr.cell? ⟨b', o' + k * 4, none⟩ = some (.int .i64 L[k].k) := by rw [hb.cell (p := ⟨b', o' + k * 4, none⟩) hbw']; exact hc' _ _ s0
      have d1 : wr.cell? ⟨b', o' + k * 4 + 1, none⟩ = some (.int .i64 L[k].fl) := by rw [hb.cell (p := ⟨b', o' + k * 4 + 1, none⟩) hbw']; exact hc' _ _ s1
      have d2 : wr.cell? ⟨b', o' + k * 4 + 2, none⟩ = some (.int .i64 L[k].st) := by rw [hb.cell (p := ⟨b', o' + k * 4 + 2, none⟩) hbw']; exact hc' _ _ s2
      have d3 : wr.cell? ⟨b', o' + k * 4 + 3, none⟩ = some (.string L[k].b) := by rw [hb.cell (p := ⟨b', o' + k * 4 + 3, none⟩) hbw']; exact hc' _ _ s3
      have hsb := hb.size
      have hb1 : b < wr.heap.size := by omega
      have hb2 : b' < wr.heap.size := by omega
      clear hc hc' s0 s1 s2 s3
      go_wp2_with fail
      have q0 : ∀ y : Later wr, y.w.cell? ⟨b, o + k * 4, none⟩ = some (.int .i64 L[k].k) := fun y => (y.b.cell (p := ⟨b, o + k * 4, none⟩) hb1).trans c0
      have q1 : ∀ y : Later wr, y.w.cell? ⟨b, o + k * 4 + 1, none⟩ = some (.int .i64 L[k].fl) := fun y => (y.b.cell (p := ⟨b, o + k * 4 + 1, none⟩) hb1).trans c1
      have q2 : ∀ y : Later wr, y.w.cell? ⟨b, o + k * 4 + 2, none⟩ = some (.int .i64 L[k].st) := fun y => (y.b.cell (p := ⟨b, o + k * 4 + 2, none⟩) hb1).trans c2
      have q3 : ∀ y : Later wr, y.w.cell? ⟨b, o + k * 4 + 3, none⟩ = some (.string L[k].b) := fun y => (y.b.cell (p := ⟨b, o + k * 4 + 3, none⟩) hb1).trans c3
      have r0 : ∀ y : Later wr, y.w.cell? ⟨b', o' + k * 4, none⟩ = some (.int .i64 L[k].k) := fun y => (y.b.cell (p := ⟨b', o' + k * 4, none⟩) hb2).trans d0
      have r1 : ∀ y : Later wr, y.w.cell? ⟨b', o' + k * 4 + 1, none⟩ = some (.int .i64 L[k].fl) := fun y => (y.b.cell (p := ⟨b', o' + k * 4 + 1, none⟩) hb2).trans d1
      have r2 : ∀ y : Later wr, y.w.cell? ⟨b', o' + k * 4 + 2, none⟩ = some (.int .i64 L[k].st) := fun y => (y.b.cell (p := ⟨b', o' + k * 4 + 2, none⟩) hb2).trans d2
      have r3 : ∀ y : Later wr, y.w.cell? ⟨b', o' + k * 4 + 3, none⟩ = some (.string L[k].b) := fun y => (y.b.cell (p := ⟨b', o' + k * 4 + 3, none⟩) hb2).trans d3
      clear c0 c1 c2 c3 d0 d1 d2 d3
      have hne : Nonempty (Later wr) := ⟨⟨wr, Below.refl _ _⟩⟩; refine region_later (by kernel_rfl) (by kernel_rfl) ?_
      repeat (go_big_quiet_step (fail))
      go_big_quiet_want; go_big_quiet_op; refine ⟨.bool true, fun y => later_calls (x := y) (eqFrame1 L[k] y.w), ?_⟩; go_big_quiet_on
      repeat (go_big_quiet_step (fail))
      refine wpQuiet_nil ?_; intro _ hw'; obtain ⟨y, hw''⟩ := hw'; subst hw''; have hby := y.b
      go_wp2_with fail
      go_roundw
      case rel => exact ⟨k + 1, by go_num, by omega, bchain hb hby⟩
      case measure => simp [intOf]; omega
    · go_wp2_with fail
      go_ret
      exact ⟨rfl, hb⟩
/-- The marks of a row of n Frames, from k on. -/
def mkC (k j : Nat) : List Value := [.int .i64 ((k + j * 4 : Nat) : Int), .int .i64 (((k + j * 4 : Nat) : Int) + 1), .int .i64 (((k + j * 4 : Nat) : Int) + 2), .string (mtx (k + j * 4 + 3))]
theorem mkC_len (k j : Nat) : (mkC k j).length = 4 := rfl
def mkFr (k n : Nat) : List Value := (List.range n).flatMap (mkC k)
theorem mkFr_len (k n : Nat) : (mkFr k n).length = n * 4 := by have := flat_length (mkC k) 4 (mkC_len k) (List.range n); simpa [mkFr] using this
theorem mkFr_get (k n j : Nat) (h : j < n) : (mkFr k n)[j * 4]? = some (.int .i64 ((k + j * 4 : Nat) : Int)) ∧ (mkFr k n)[j * 4 + 1]? = some (.int .i64 (((k + j * 4 : Nat) : Int) + 1)) ∧ (mkFr k n)[j * 4 + 2]? = some (.int .i64 (((k + j * 4 : Nat) : Int) + 2)) ∧ (mkFr k n)[j * 4 + 3]? = some (.string (mtx (k + j * 4 + 3))) := by
  have hg := flat_get (mkC k) 4 (mkC_len k) (List.range n) j (by simpa using h)
  have h0 := hg 0 (by decide)
  have h1 := hg 1 (by decide)
  have h2 := hg 2 (by decide)
  have h3 := hg 3 (by decide)
  rw [List.getElem_range] at h0 h1 h2 h3
  exact ⟨h0, h1, h2, h3⟩
set_option maxHeartbeats 1000000 in
theorem heldFrames (n k : Nat) (v : Value) (w : World) (hr0 : Reads w v n 4 (mkFr k n)) (hk1 : k + n * 4 ≤ 1000000000) :
    Calls Tryz.prog 34 #[v, .int .i64 k] w fun x w' => x = .returned (.int .i64 ((k + n * 4 : Nat) : Int)) ∧ Below w.heap.size w w' := by
  obtain ⟨hl, ad, cap, rfl, h1, h2, h3⟩ := hr0
  have H3 := hide h3
  clear h3
  unfold maxLen at h2
  go_enter Tryz.func34, Tryz.ntmps34
  go_wp2_with fail
  go_loopw [1, 5] (fun kk i wr => ∃ (j : Nat), i = .int .i64 j ∧ kk = .int .i64 ((k + j * 4 : Nat) : Int) ∧ j ≤ n ∧ Below w.heap.size w wr) (fun _ i _ => n - (intOf i).toNat)
  case atStart => exact ⟨0, rfl, by simp, Nat.zero_le _, Below.refl _ _⟩
  case round =>
    obtain ⟨j, rfl, rfl, hj, hb⟩ := hrel
    by_cases hlt : j < n
    · obtain ⟨b, o, rfl, hbw, hc⟩ := H3.out (by omega)
      obtain ⟨s0, s1, s2, s3⟩ := mkFr_get k n j hlt
      obtain ⟨K, hK⟩ : ∃ K : Nat, K = k + j * 4 := ⟨_, rfl⟩
      rw [← hK] at s0 s1 s2 s3
      have c0 : wr.cell? ⟨b, o + j * 4, none⟩ = some (.int .i64 (K : Int)) := by rw [hb.cell (p := ⟨b, o + j * 4, none⟩) hbw]; exact hc _ _ s0
      have c1 : wr.cell? ⟨b, o + j * 4 + 1, none⟩ = some (.int .i64 ((K : Int) + 1)) := by rw [hb.cell (p := ⟨b, o + j * 4 + 1, none⟩) hbw]; exact hc _ _ s1
      have c2 : wr.cell? ⟨b, o + j * 4 + 2, none⟩ = some (.int .i64 ((K : Int) + 2)) := by rw [hb.cell (p := ⟨b, o + j * 4 + 2, none⟩) hbw]; exact hc _ _ s2
      have c3 : wr.cell? ⟨b, o + j * 4 + 3, none⟩ = some (.string (mtx (K + 3))) := by rw [hb.cell (p := ⟨b, o + j * 4 + 3, none⟩) hbw]; exact hc _ _ s3
      have hsb := hb.size
      have hb1 : b < wr.heap.size := by omega
      clear hc s0 s1 s2 s3
      have hkb : K + 3 ≤ 1000000000 := by omega
      rw [← hK]
      have HK := hide hK
      clear hK
      go_wp2_with fail
      have q0 : ∀ y : Later wr, y.w.cell? ⟨b, o + j * 4 + 3, none⟩ = some (.string (mtx (K + 3))) := fun y => (y.b.cell (p := ⟨b, o + j * 4 + 3, none⟩) hb1).trans c3
      have hne : Nonempty (Later wr) := ⟨⟨wr, Below.refl _ _⟩⟩; refine region_later (by kernel_rfl) (by kernel_rfl) ?_
      repeat (go_big_quiet_step (fail))
      go_big_quiet_want; go_big_quiet_op; refine ⟨.string (mtx (K + 3)), fun y => later_calls (x := y) ((fun u => markTx (K + 3) u (by omega)) y.w), ?_⟩; go_big_quiet_on
      repeat (go_big_quiet_step (fail))
      refine wpQuiet_nil ?_; intro _ hw'; obtain ⟨y, hw''⟩ := hw'; subst hw''; have hby := y.b
      go_wp2_with fail
      go_roundw
      case rel => exact ⟨j + 1, by go_num, int_eq (by have := HK.out; omega), by omega, bchain hb hby⟩
      case measure => simp [intOf]; omega
    · obtain rfl : j = n := by omega
      go_wp2_with fail
      go_ret
      exact ⟨rfl, hb⟩
set_option maxHeartbeats 1000000 in
theorem markFrames (n k : Nat) (v : Value) (xs : List Value) (lo : Nat) (w : World) (ho : w.ownsRow lo 34 4 v n xs) (hk1 : k + n * 4 ≤ 1000000000) :
    Calls Tryz.prog 32 #[v, .int .i64 k] w fun x w' => x = .returned (.int .i64 ((k + n * 4 : Nat) : Int)) ∧ w'.ownsRow lo 34 4 v n (mkFr k n) ∧ w.grownBy w' v.ownBlock := by
  obtain ⟨ad, cap, rfl, h1, h2⟩ := owns_form ho
  unfold maxLen at h2
  have HO := hide ho
  clear ho
  go_enter Tryz.func32, Tryz.ntmps32
  go_wp2_with fail
  go_loopw [1, 5] (fun kk i wr => ∃ (j : Nat) (ys : List Value), i = .int .i64 j ∧ kk = .int .i64 ((k + j * 4 : Nat) : Int) ∧ j ≤ n ∧ wr.ownsRow lo 34 4 (.slice ad n cap) n ys ∧ (∀ t, t < j * 4 → ys[t]? = (mkFr k n)[t]?) ∧ w.grownBy wr (Value.slice ad n cap).ownBlock) (fun _ i _ => n - (intOf i).toNat)
  case atStart => exact ⟨0, _, rfl, by simp, Nat.zero_le _, HO.out, fun t ht => absurd ht (by omega), gb_refl _ _⟩
  case round =>
    obtain ⟨j, ys, rfl, rfl, hj, hown, hy, ht⟩ := hrel
    by_cases hlt : j < n
    · obtain ⟨s0, s1, s2, s3⟩ := mkFr_get k n j hlt
      obtain ⟨K, hK⟩ : ∃ K : Nat, K = k + j * 4 := ⟨_, rfl⟩
      rw [← hK] at s0 s1 s2 s3 ⊢
      have hkb : K + 3 ≤ 1000000000 := by omega
      have HK := hide hK
      obtain ⟨g, cap', e1, e2, e3, e4, _, _, e5, e6⟩ := owns_open hown (by omega)
      simp only [Value.slice.injEq] at e1
      obtain ⟨rfl, _, rfl⟩ := e1
      have hl1 := hown.1
      obtain ⟨u0, hu0⟩ : ∃ u, wr.cell? ⟨g, j * 4, none⟩ = some u := ⟨_, e5 _ _ (List.getElem?_eq_getElem (by omega))⟩
      obtain ⟨u1, hu1⟩ : ∃ u, wr.cell? ⟨g, j * 4 + 1, none⟩ = some u := ⟨_, e5 _ _ (List.getElem?_eq_getElem (by omega))⟩
      obtain ⟨u2, hu2⟩ : ∃ u, wr.cell? ⟨g, j * 4 + 2, none⟩ = some u := ⟨_, e5 _ _ (List.getElem?_eq_getElem (by omega))⟩
      obtain ⟨W, hW⟩ : ∃ W, ((wr.setCell ⟨g, j * 4, none⟩ (.int .i64 (K : Int))).setCell ⟨g, j * 4 + 1, none⟩ (.int .i64 ((K : Int) + 1))).setCell ⟨g, j * 4 + 2, none⟩ (.int .i64 ((K : Int) + 1 + 1)) = W := ⟨_, rfl⟩
      have HO2 := hide (owns_set (g := g) (owns_set (g := g) (owns_set (g := g) hown rfl (j * 4) (.int .i64 (K : Int))) rfl (j * 4 + 1) (.int .i64 ((K : Int) + 1))) rfl (j * 4 + 2) (.int .i64 ((K : Int) + 1 + 1)))
      have HP2 := hide (pre_set (j * 4 + 3) (pre_set (j * 4 + 2) (pre_set (j * 4 + 1) hy s0 (by omega) rfl) s1 (by simp; omega) rfl) s2 (by simp; omega) (by omega))
      have ht2 : Hid (w.grownBy (((wr.setCell ⟨g, j * 4, none⟩ (.int .i64 (K : Int))).setCell ⟨g, j * 4 + 1, none⟩ (.int .i64 ((K : Int) + 1))).setCell ⟨g, j * 4 + 2, none⟩ (.int .i64 ((K : Int) + 1 + 1))) (Value.slice (some ⟨g, 0, none⟩) n cap).ownBlock) := by
        show World.grownBy _ _ _
        refine gb_set ?_ _ _ (by rfl); refine gb_set ?_ _ _ (by rfl); refine gb_set ?_ _ _ (by rfl); exact ht
      have S3 := hide s3
      have HW := hide hW
      clear hy hown hK ht e5 e2 s0 s1 s2 s3 hW
      go_wp2_with fail
      have hW := HW.out
      rw [hW] at HO2 ht2
      rw [show ((K : Int) + 1 + 1 : Int) = (K : Int) + 2 by omega] at HO2
      first | rw [hW] | (rw [show ((K : Int) + 1 + 1 : Int) = (K : Int) + 2 by omega] at hW; rw [hW])
      clear hW HW hu0 hu1 hu2
      refine (markTx (K + 3) _ (by omega)).mono ?_; rintro x w3 ⟨rfl, hb3⟩
      have hown3 := owns_new HO2.out hb3
      obtain ⟨g', cap'', f1, f2, f3, f4, _, _, f5, f6⟩ := owns_open hown3 (by omega)
      simp only [Value.slice.injEq, Option.some.injEq, Addr.mk.injEq] at f1
      obtain ⟨⟨rfl, _, _⟩, _, rfl⟩ := f1
      have hl3 := hown3.1
      obtain ⟨u3, hu3⟩ : ∃ u, w3.cell? ⟨g, j * 4 + 3, none⟩ = some u := ⟨_, f5 _ _ (List.getElem?_eq_getElem (by omega))⟩
      have HO3 := hide (owns_set (g := g) hown3 rfl (j * 4 + 3) (.string (mtx (K + 3))))
      have HP3 := hide (pre_set ((j + 1) * 4) (a := .string (mtx (K + 3))) HP2.out S3.out (by rw [List.length_set, List.length_set, List.length_set] at hl3 ⊢; omega) (by omega))
      have ht3 := hide (gb_set (gb_trans ht2.out (gb_new hb3 _)) ⟨g, j * 4 + 3, none⟩ (.string (mtx (K + 3))) (by rfl))
      clear f5 f2 hown3
      go_wp2_with fail
      exact ⟨⟨j + 1, _, by go_num, int_eq (by have := HK.out; omega), by omega, HO3.out, HP3.out, ht3.out⟩, by simp [intOf]; omega⟩
    · obtain rfl : j = n := by omega
      have hys : ys = mkFr k j := pre_end hown.1 (mkFr_len _ _) hy
      subst hys
      go_wp2_with fail
      go_ret
      exact ⟨rfl, hown, ht⟩
end Go.Proofs.YtfmeinkhdgbgjaaGreat
/- A row that a slice literal makes, and rows of int64 behind an append. -/
namespace Go.Proofs.YtfmeinkhdgbgjaaGreat
open Go.RowKit
set_option maxRecDepth 100000
set_option linter.unusedSimpArgs false
set_option linter.unusedVariables false
theorem owns_lit (w : World) (e : TypeId) (size n : Nat) (xs : Array Value) (hx : xs.size = n * size) (hn : n ≤ 1000000) : (w.alloc (.cells xs e)).ownsRow w.heap.size e size (.slice (some ⟨w.heap.size, 0, none⟩) n n) n xs.toList :=
  ⟨by simp [hx], .inr ⟨w.heap.size, n, xs, rfl, Nat.le_refl _, heap_alloc_last w _, Nat.le_refl _, by unfold maxLen; omega, hx, by rw [List.take_of_length_le (by simp [hx])]⟩⟩
end Go.Proofs.YtfmeinkhdgbgjaaGreat
/- Chapter 9's model: Next, MaySend, MayGet, After. -/
namespace Go.Proofs.YtfmeinkhdgbgjaaGreat
open Go.RowKit
set_option maxRecDepth 100000
set_option linter.unusedSimpArgs false
set_option linter.unusedVariables false
set_option maxHeartbeats 4000000 in
theorem specNext (s e : Int) (w : World) : Calls Tryz.prog 208 #[.int .i64 s, .int .i64 e] w fun x w' => x = .returned (.tuple #[.int .i64 (nxV s e).1, .bool (nxV s e).2]) ∧ w' = w := by
  rcases st_cases s with rfl | rfl | rfl | rfl | rfl | hs
  rotate_left 5
  · rw [nx_bad hs]
    obtain ⟨h0, h1, h2, h3, h4⟩ := hs
    rcases ev_cases e with rfl | rfl | rfl | rfl | rfl | rfl | rfl | ⟨e1, e2, e3, e4, e5, e6, e7⟩
    all_goals (
      go_enter Tryz.func208, Tryz.ntmps208
      go_wp2_with fail
      go_ret2
      exact ⟨rfl, rfl⟩)
  all_goals (
    rcases ev_cases e with rfl | rfl | rfl | rfl | rfl | rfl | rfl | he
    rotate_left 7
    · rw [nx_none he]
      obtain ⟨e1, e2, e3, e4, e5, e6, e7⟩ := he
      have q1 : (e == 1) = false := (by simpa using e1); have q2 : (e == 2) = false := (by simpa using e2); have q3 : (e == 3) = false := (by simpa using e3); have q4 : (e == 4) = false := (by simpa using e4); have q5 : (e == 5) = false := (by simpa using e5); have q6 : (e == 6) = false := (by simpa using e6); have q7 : (e == 7) = false := (by simpa using e7)
      clear e1 e2 e3 e4 e5 e6 e7
      go_enter Tryz.func208, Tryz.ntmps208
      go_wp2_with fail
      go_ret2
      exact ⟨rfl, rfl⟩
    all_goals (
      go_enter Tryz.func208, Tryz.ntmps208
      go_wp2_with fail
      go_ret2
      exact ⟨rfl, rfl⟩))
end Go.Proofs.YtfmeinkhdgbgjaaGreat
/- A row that is owned, with one more behind an append. -/
namespace Go.Proofs.YtfmeinkhdgbgjaaGreat
open Go.RowKit
set_option maxRecDepth 100000
set_option linter.unusedSimpArgs false
set_option linter.unusedVariables false
/-- A row that is owned, opened for an append: its cells, and what the append leaves. -/
theorem OwX.grow {D : Type} {E : Shp D} {w : World} {lo mid : Nat} {v : Value} {L : List D} (h : OwX E w lo mid v L) (hmid : mid ≤ w.heap.size) (hlm : lo ≤ mid) : ∃ xs, w.ownsRow 0 E.ty E.size v L.length xs ∧
    ∀ (w1 : World) (v' : Value) (cs : List Value) (x : D), OwE E w mid w.heap.size cs x → w1.ownsRow 0 E.ty E.size v' (L.length + 1) (xs ++ cs) → w.grownBy w1 v.ownBlock → (v'.ownBlock = v.ownBlock ∨ v'.ownBlock = some w.heap.size) → OwX E w1 lo w1.heap.size v' (L ++ [x]) := by
  obtain ⟨bs, ⟨ts, hL, ho, hE, rfl⟩, hn, hb⟩ := h
  have hlen : L.length = ts.length := by rw [hL]; simp
  refine ⟨ts.flatMap (·.1), by rw [hlen]; exact ho, fun w1 v' cs x hx ho' hg hat => ?_⟩
  exact OwX.app (mid := mid) (hi := w.heap.size) hL ho hE hn hb hmid (by omega) hx hlm (by rw [← hlen]; exact ho') hg hat
end Go.Proofs.YtfmeinkhdgbgjaaGreat
/- A struct in the midst of a block, loaded and stored as a whole. -/
namespace Go.Proofs.YtfmeinkhdgbgjaaGreat
open Go.RowKit
set_option maxRecDepth 100000
set_option linter.unusedSimpArgs false
set_option linter.unusedVariables false
section
variable {P : Program}
theorem run_loadVar_mid (w : World) (b o : Nat) (ty : TypeId) (cs : List Value) (d : TypeDesc) (hc : ∀ j u, cs[j]? = some u → w.cell? ⟨b, o + j, none⟩ = some u)
    (hu : P.underlying ty = some d) (hd : (match d with | .struct _ | .array _ _ => true | _ => false) = true) (hi : (P.info? ty).map (·.size) = some cs.length) :
    (loadVar ty ⟨b, o, none⟩).run P w = .ok (.agg cs.toArray) w := by
  have hl : (loadCells ⟨b, o, none⟩ cs.length).run P w = .ok cs.toArray w :=
    run_loadCells_list (P := P) w ⟨b, o, none⟩ cs (fun j v hv => by
      have hadd : (⟨b, o, none⟩ : Addr).add j = ⟨b, o + j, none⟩ := by unfold Addr.add; split <;> simp_all
      rw [hadd]; exact hc j v hv)
  cases hq : P.info? ty with
  | none => simp [hq] at hi
  | some i =>
    have hs : i.size = cs.length := by simpa [hq] using hi
    have hagg : (isAgg ty).run P w = .ok true w := by
      unfold isAgg
      rw [Sem.run_bind, run_underlying hu w]
      cases d <;> simp_all
    simp [loadVar, hagg, sizeOf, typeInfo, hq, hs, hl]
theorem wp_load_mid {op : Oper} {a : Act} {w : World} {K : Act → World → Prop} {Q : Exit → Act → World → Prop} (ty : TypeId) (x : Operand) (ho : op.op = .load ty x)
    (b o : Nat) (hx : a.eval x = .pointer (some ⟨b, o, none⟩)) (cs : List Value) (d : TypeDesc) (hc : ∀ j u, cs[j]? = some u → w.cell? ⟨b, o + j, none⟩ = some u)
    (hu : P.underlying ty = some d) (hd : (match d with | .struct _ | .array _ _ => true | _ => false) = true) (hi : (P.info? ty).map (·.size) = some cs.length)
    (h : K (a.put op.dst (.agg cs.toArray)) w) : op.wp P a w K Q := by
  unfold Oper.wp execOp
  simp only [ho, hx, Instr.loadAt, Instr.sureAddr, Sem.run_bind, Sem.run_pure, Result.andThen_ok, run_loadVar_mid w b o ty cs d hc hu hd hi]
  exact h
theorem wpList_load_mid {ops : Array Oper} {rest : List Oper} {op : Oper} {a : Act} {w : World} {Q : Exit → Act → World → Prop} (hgd : op.guard = none) (ty : TypeId) (x : Operand) (ho : op.op = .load ty x)
    (b o : Nat) (hx : a.eval x = .pointer (some ⟨b, o, none⟩)) (cs : List Value) (d : TypeDesc) (hc : ∀ j u, cs[j]? = some u → w.cell? ⟨b, o + j, none⟩ = some u)
    (hu : P.underlying ty = some d) (hd : (match d with | .struct _ | .array _ _ => true | _ => false) = true) (hi : (P.info? ty).map (·.size) = some cs.length)
    (h : wpList P ops Q rest (a.put op.dst (.agg cs.toArray)) w) : wpList P ops Q (op :: rest) a w :=
  wpList_plain hgd fun _ hK => wp_load_mid ty x ho b o hx cs d hc hu hd hi (hK _ _ h)
theorem run_storeVar_mid (w : World) (b o : Nat) (t ty : TypeId) (A C old cs : List Value) (hg : MidIs w b t A C o old) (hi : (P.info? ty).map (·.size) = some cs.length) (hl : old.length = cs.length) (h1 : ∀ u ∈ cs, u.oneCell' = true) :
    (storeVar ty ⟨b, o, none⟩ (.agg cs.toArray)).run P w = .ok () (w.setRow b (A ++ cs ++ C).toArray) := by
  have hoff := hg.off
  have hrow : w.heap[b]? = some (.cells (A ++ old ++ C).toArray t (0, 0)) := hg.row
  have := run_storeCells_at (P := P) b o t cs 0 (A ++ old ++ C).toArray w hrow (by simp; omega) h1
  have e : (A ++ old ++ C).toArray.toList.take (o + 0) ++ cs ++ (A ++ old ++ C).toArray.toList.drop (o + 0 + cs.length) = A ++ cs ++ C := by
    subst hoff
    simp only [Nat.add_zero, List.append_assoc]
    rw [List.take_left, show A.length + cs.length = A.length + old.length by omega, ← List.append_assoc A old C, ← List.length_append, List.drop_left]
  rw [e] at this
  cases hq : P.info? ty with
  | none => simp [hq] at hi
  | some i =>
    have hs : cs.length = i.size := by simp [hq] at hi; omega
    simp [storeVar, sizeOf, typeInfo, hq, Value.cells, hs, this]
theorem MidIs.setRow {w : World} {b o : Nat} {t : TypeId} {A C old : List Value} (h : MidIs w b t A C o old) (cs : List Value) : MidIs (w.setRow b (A ++ cs ++ C).toArray) b t A C o cs := ⟨rowIs_setRow (cs' := A ++ cs ++ C) h.row, h.off⟩
theorem turnB_setRow (w : World) (b : Nat) (cs : Array Value) : TurnB [b] w (w.setRow b cs) := ⟨rfl, rfl, rfl, by rw [setRow_size]; exact Nat.le_refl _, fun k _ hk => setRow_other _ _ _ _ (by simpa using hk)⟩
theorem wp_store_mid {op : Oper} {a : Act} {w : World} {K : Act → World → Prop} {Q : Exit → Act → World → Prop} (ty : TypeId) (x y : Operand) (ho : op.op = .store ty x y)
    (b o : Nat) (cs : List Value) (hx : a.eval x = .pointer (some ⟨b, o, none⟩)) (hy : a.eval y = .agg cs.toArray) (t : TypeId) (A C old : List Value) (hc : MidIs w b t A C o old)
    (hi : (P.info? ty).map (·.size) = some cs.length) (hl : old.length = cs.length) (h1 : ∀ u ∈ cs, u.oneCell' = true)
    (h : ∀ w', MidIs w' b t A C o cs → TurnB [b] w w' → K (a.put op.dst undef) w') : op.wp P a w K Q := by
  unfold Oper.wp execOp
  simp only [ho, hx, hy, Instr.storeAt, Instr.sureAddr, Sem.run_bind, Sem.run_pure, Result.andThen_ok, run_storeVar_mid w b o t ty A C old cs hc hi hl h1]
  exact h _ (hc.setRow cs) (turnB_setRow w b _)
theorem wpList_store_mid {ops : Array Oper} {rest : List Oper} {op : Oper} {a : Act} {w : World} {Q : Exit → Act → World → Prop} (hgd : op.guard = none) (ty : TypeId) (x y : Operand) (ho : op.op = .store ty x y)
    (b o : Nat) (cs : List Value) (hx : a.eval x = .pointer (some ⟨b, o, none⟩)) (hy : a.eval y = .agg cs.toArray) (t : TypeId) (A C old : List Value) (hc : MidIs w b t A C o old)
    (hi : (P.info? ty).map (·.size) = some cs.length) (hl : old.length = cs.length) (h1 : ∀ u ∈ cs, u.oneCell' = true)
    (h : ∀ w', MidIs w' b t A C o cs → TurnB [b] w w' → wpList P ops Q rest (a.put op.dst undef) w') : wpList P ops Q (op :: rest) a w :=
  wpList_plain hgd fun _ hK => wp_store_mid ty x y ho b o cs hx hy t A C old hc hi hl h1 fun w' h2 h3 => hK _ _ (h w' h2 h3)
end
/-- A part of a run of cells. -/
theorem MidIs.part {w : World} {b o : Nat} {t : TypeId} {A C p m q : List Value} (h : MidIs w b t A C o (p ++ m ++ q)) : MidIs w b t (A ++ p) (q ++ C) (o + p.length) m :=
  ⟨by have := h.row; simpa using this, by rw [List.length_append, h.off]⟩
theorem MidIs.whole {w : World} {b o o' : Nat} {t : TypeId} {A C p m q : List Value} (h : MidIs w b t (A ++ p) (q ++ C) o' m) (ho : A.length = o) : MidIs w b t A C o (p ++ m ++ q) :=
  ⟨by have := h.row; simpa using this, ho⟩
/-- A part of a row that is owned, in place. -/
theorem owns_mid {w : World} {base : Nat} {e : TypeId} {size n : Nat} {v : Value} {A B C : List Value} (h : w.ownsRow base e size v n (A ++ B ++ C)) (hB : B ≠ []) :
    ∃ g cap S, v = .slice (some ⟨g, 0, none⟩) n cap ∧ v.ownBlock = some g ∧ base ≤ g ∧ g < w.heap.size ∧ n ≤ cap ∧ cap ≤ maxLen ∧ MidIs w g e A (C ++ S) A.length B ∧
      ∀ w' B', B'.length = B.length → MidIs w' g e A (C ++ S) A.length B' → w'.ownsRow base e size v n (A ++ B' ++ C) := by
  obtain ⟨hl, hr⟩ := h
  rcases hr with ⟨hv, h0⟩ | ⟨g, cap, arr, hv, hb0, hheap, h1, h2, h3, h4⟩
  · subst h0
    have : (A ++ B ++ C).length = 0 := by rw [hl]; simp
    simp at this
    exact absurd this.2.1 hB
  · have hS : arr.toList = A ++ B ++ (C ++ arr.toList.drop (n * size)) := by rw [← List.append_assoc, ← h4, List.take_append_drop]
    refine ⟨g, cap, arr.toList.drop (n * size), hv, by rw [hv]; rfl, hb0, (Array.getElem?_eq_some_iff.1 hheap).1, h1, h2, ⟨?_, rfl⟩, fun w' B' hBl hm => ?_⟩
    · show w.heap[g]? = some (.cells _ e (0, 0))
      rw [hheap, ← hS]
    · refine ⟨by rw [← hl]; simp [hBl], .inr ⟨g, cap, (A ++ B' ++ (C ++ arr.toList.drop (n * size))).toArray, hv, hb0, hm.row, h1, h2, ?_, ?_⟩⟩
      · have e1 := congrArg List.length hS
        rw [← h3]
        simp only [List.length_append, Array.length_toList, List.size_toArray] at e1 ⊢
        omega
      · have e2 : A ++ B' ++ (C ++ arr.toList.drop (n * size)) = (A ++ B' ++ C) ++ arr.toList.drop (n * size) := by simp
        show List.take _ _ = _
        rw [e2, List.take_append_of_le_length (by rw [← hl]; simp [hBl]), List.take_of_length_le (by rw [← hl]; simp [hBl])]
theorem list_set_same {α : Type} {l : List α} {j : Nat} {u : α} (h : l[j]? = some u) : l.set j u = l := by
  obtain ⟨hj, e⟩ := List.getElem?_eq_some_iff.1 h
  rw [← e]; exact List.set_getElem_self hj
end Go.Proofs.YtfmeinkhdgbgjaaGreat
/- Chapter 16's program: lanes that embed a way up and a way down; in, out, back. -/
namespace Go.Proofs.YtfmeinkhdgbgjaaGreat
open Go.RowKit
set_option maxRecDepth 100000
set_option linter.unusedSimpArgs false
set_option linter.unusedVariables false
abbrev lncs (t : TuD) : List Value := [.int .i64 t.up.r, .string t.up.b, .bool t.up.e, .bool t.up.k, .int .i64 t.went, .int .i64 t.dn.r, .string t.dn.b, .bool t.dn.e, .bool t.dn.k, .int .i64 t.came]
abbrev lnv (t : TuD) : Value := .agg #[.int .i64 t.up.r, .string t.up.b, .bool t.up.e, .bool t.up.k, .int .i64 t.went, .int .i64 t.dn.r, .string t.dn.b, .bool t.dn.e, .bool t.dn.k, .int .i64 t.came]
theorem outTu_size (t : TuD) (n : Int) (h : okTu t = true) : (outTu t n).1.up.b.size ≤ 2000000 ∧ (outTu t n).1.dn.b.size ≤ 2000000 := by
  obtain ⟨hu, hd, _, _⟩ := okTu_true h
  have h1 := okPp_true hu
  have h2 := okPp_true hd
  unfold outTu
  rw [if_neg (by rw [h]; decide)]
  refine ⟨?_, by show t.dn.b.size ≤ _; omega⟩
  show (t.up.b.extract _ _).size ≤ _
  rw [ByteArray.size_extract]; omega
set_option maxHeartbeats 1000000 in
theorem lanes16 (t : TuD) (w : World) : Calls Tryz.prog 157 #[tuv t] w fun x w' => x = .returned (lnv t) ∧ Below w.heap.size w w' := by
  obtain ⟨⟨r, b, e, k⟩, ⟨r2, b2, e2, k2⟩, wt, cm⟩ := t
  dsimp only [tuv, lnv] at *
  obtain ⟨W, hW⟩ : ∃ W, ((w.alloc (.cells #[.int .i64 r, .string b, .bool e, .bool k, .int .i64 r2, .string b2, .bool e2, .bool k2, .int .i64 wt, .int .i64 cm] 55)).alloc (.cells #[.int .i64 0, .string ⟨#[]⟩, .bool false, .bool false, .int .i64 0, .int .i64 0, .string ⟨#[]⟩, .bool false, .bool false, .int .i64 0] 202)) = W := ⟨_, rfl⟩
  have RX : RowIs W w.heap.size 55 [.int .i64 r, .string b, .bool e, .bool k, .int .i64 r2, .string b2, .bool e2, .bool k2, .int .i64 wt, .int .i64 cm] := by rw [← hW]; exact (rowIs_new w 55 [.int .i64 r, .string b, .bool e, .bool k, .int .i64 r2, .string b2, .bool e2, .bool k2, .int .i64 wt, .int .i64 cm]).alloc _
  have RY : RowIs W (w.heap.size + 1) 202 [.int .i64 0, .string ⟨#[]⟩, .bool false, .bool false, .int .i64 0, .int .i64 0, .string ⟨#[]⟩, .bool false, .bool false, .int .i64 0] := by have := rowIs_new (w.alloc (.cells #[.int .i64 r, .string b, .bool e, .bool k, .int .i64 r2, .string b2, .bool e2, .bool k2, .int .i64 wt, .int .i64 cm] 55)) 202 [.int .i64 0, .string ⟨#[]⟩, .bool false, .bool false, .int .i64 0, .int .i64 0, .string ⟨#[]⟩, .bool false, .bool false, .int .i64 0]; rw [hW] at this; simpa using this
  have HB : Below w.heap.size w W := by rw [← hW]; exact (((Below.refl _ _).alloc (Nat.le_refl _) _).alloc (by simp) _)
  go_enter Tryz.func157, Tryz.ntmps157
  have x0 := RowIs.cell (j := 0) RX rfl
  have x1 := RowIs.cell (j := 1) RX rfl
  have x2 := RowIs.cell (j := 2) RX rfl
  have x3 := RowIs.cell (j := 3) RX rfl
  have x4 := RowIs.cell (j := 4) RX rfl
  have x5 := RowIs.cell (j := 5) RX rfl
  have x6 := RowIs.cell (j := 6) RX rfl
  have x7 := RowIs.cell (j := 7) RX rfl
  have x8 := RowIs.cell (j := 8) RX rfl
  have x9 := RowIs.cell (j := 9) RX rfl
  have xf := fun j => RowIs.frozen RX j
  have xl := RX.lt
  go_wp2_with (refine wpList_store_row (by rfl) 202 _ _ (by rfl) (w.heap.size + 1) [.int .i64 r, .string b, .bool e, .bool k, .int .i64 wt, .int .i64 r2, .string b2, .bool e2, .bool k2, .int .i64 cm] (by rfl) (by rfl) 202 [.int .i64 0, .string ⟨#[]⟩, .bool false, .bool false, .int .i64 0, .int .i64 0, .string ⟨#[]⟩, .bool false, .bool false, .int .i64 0] RY (by kernel_rfl) rfl (by intro u hu; simp at hu; rcases hu with rfl | rfl | rfl | rfl | rfl | rfl | rfl | rfl | rfl | rfl <;> rfl) ?_)
  clear x0 x1 x2 x3 x4 x5 x6 x7 x8 x9 xf xl
  clear hW
  have NRX := RX.kept (setRow_other W (w.heap.size + 1) #[.int .i64 r, .string b, .bool e, .bool k, .int .i64 wt, .int .i64 r2, .string b2, .bool e2, .bool k2, .int .i64 cm] w.heap.size (by omega))
  have NRY : RowIs (W.setRow (w.heap.size + 1) #[.int .i64 r, .string b, .bool e, .bool k, .int .i64 wt, .int .i64 r2, .string b2, .bool e2, .bool k2, .int .i64 cm]) (w.heap.size + 1) 202 [.int .i64 r, .string b, .bool e, .bool k, .int .i64 wt, .int .i64 r2, .string b2, .bool e2, .bool k2, .int .i64 cm] := rowIs_setRow (cs' := [.int .i64 r, .string b, .bool e, .bool k, .int .i64 wt, .int .i64 r2, .string b2, .bool e2, .bool k2, .int .i64 cm]) RY
  have NHB := below_setRow HB (show w.heap.size ≤ (w.heap.size + 1) by omega) #[.int .i64 r, .string b, .bool e, .bool k, .int .i64 wt, .int .i64 r2, .string b2, .bool e2, .bool k2, .int .i64 cm]
  generalize hV : W.setRow (w.heap.size + 1) #[.int .i64 r, .string b, .bool e, .bool k, .int .i64 wt, .int .i64 r2, .string b2, .bool e2, .bool k2, .int .i64 cm] = V1 at *
  clear hV
  clear RX
  have RX := NRX
  clear NRX
  clear RY
  have RY := NRY
  clear NRY
  clear HB
  have HB := NHB
  clear NHB
  have y0 := RowIs.cell (j := 0) RY rfl
  have y1 := RowIs.cell (j := 1) RY rfl
  have y2 := RowIs.cell (j := 2) RY rfl
  have y3 := RowIs.cell (j := 3) RY rfl
  have y4 := RowIs.cell (j := 4) RY rfl
  have y5 := RowIs.cell (j := 5) RY rfl
  have y6 := RowIs.cell (j := 6) RY rfl
  have y7 := RowIs.cell (j := 7) RY rfl
  have y8 := RowIs.cell (j := 8) RY rfl
  have y9 := RowIs.cell (j := 9) RY rfl
  have yf := fun j => RowIs.frozen RY j
  have yl := RY.lt
  refine bodyPost_ret (v := .agg #[.int .i64 r, .string b, .bool e, .bool k, .int .i64 wt, .int .i64 r2, .string b2, .bool e2, .bool k2, .int .i64 cm]) (by simp [results, Tryz.results157, go_sem, *]) rfl ?_
  exact ⟨rfl, HB⟩
set_option maxHeartbeats 1000000 in
theorem lanesRight16 (t : TuD) (w : World) (h1 : t.up.b.size ≤ maxLen) (h2 : t.dn.b.size ≤ maxLen) : Calls Tryz.prog 158 #[lnv t] w fun x w' => x = .returned (.bool (okTu t)) ∧ Below w.heap.size w w' := by
  obtain ⟨⟨r, b, e, k⟩, ⟨r2, b2, e2, k2⟩, wt, cm⟩ := t
  unfold okTu
  dsimp only [lnv] at *
  have RX := rowIs_new w 202 [.int .i64 r, .string b, .bool e, .bool k, .int .i64 wt, .int .i64 r2, .string b2, .bool e2, .bool k2, .int .i64 cm]
  have HB : Below w.heap.size w (w.alloc (.cells #[.int .i64 r, .string b, .bool e, .bool k, .int .i64 wt, .int .i64 r2, .string b2, .bool e2, .bool k2, .int .i64 cm] 202)) := (Below.refl _ _).alloc (Nat.le_refl _) _
  cases hu : okPp ⟨r, b, e, k⟩
  · go_enter Tryz.func158, Tryz.ntmps158
    go_wp2_with fail
    refine (right r b e k _ h1).mono ?_; rw [show okB r b k = _ from hu]; rintro x w1 ⟨rfl, hb⟩
    replace RX := RX.new hb
    replace HB := bchain HB hb
    clear hb
    have x0 := RowIs.cell (j := 0) RX rfl
    have x1 := RowIs.cell (j := 1) RX rfl
    have x2 := RowIs.cell (j := 2) RX rfl
    have x3 := RowIs.cell (j := 3) RX rfl
    have x4 := RowIs.cell (j := 4) RX rfl
    have x5 := RowIs.cell (j := 5) RX rfl
    have x6 := RowIs.cell (j := 6) RX rfl
    have x7 := RowIs.cell (j := 7) RX rfl
    have x8 := RowIs.cell (j := 8) RX rfl
    have x9 := RowIs.cell (j := 9) RX rfl
    have xf := fun j => RowIs.frozen RX j
    have xl := RX.lt
    go_wp2_with fail
    go_ret
    exact ⟨rfl, HB⟩
  cases hd : okPp ⟨r2, b2, e2, k2⟩
  · go_enter Tryz.func158, Tryz.ntmps158
    go_wp2_with fail
    refine (right r b e k _ h1).mono ?_; rw [show okB r b k = _ from hu]; rintro x w1 ⟨rfl, hb⟩
    replace RX := RX.new hb
    replace HB := bchain HB hb
    clear hb
    have x0 := RowIs.cell (j := 0) RX rfl
    have x1 := RowIs.cell (j := 1) RX rfl
    have x2 := RowIs.cell (j := 2) RX rfl
    have x3 := RowIs.cell (j := 3) RX rfl
    have x4 := RowIs.cell (j := 4) RX rfl
    have x5 := RowIs.cell (j := 5) RX rfl
    have x6 := RowIs.cell (j := 6) RX rfl
    have x7 := RowIs.cell (j := 7) RX rfl
    have x8 := RowIs.cell (j := 8) RX rfl
    have x9 := RowIs.cell (j := 9) RX rfl
    have xf := fun j => RowIs.frozen RX j
    have xl := RX.lt
    go_wp2_with fail
    clear x0 x1 x2 x3 x4 x5 x6 x7 x8 x9 xf xl
    refine (right r2 b2 e2 k2 _ h2).mono ?_; rw [show okB r2 b2 k2 = _ from hd]; rintro x w2 ⟨rfl, hb⟩
    replace RX := RX.new hb
    replace HB := bchain HB hb
    clear hb
    have x0 := RowIs.cell (j := 0) RX rfl
    have x1 := RowIs.cell (j := 1) RX rfl
    have x2 := RowIs.cell (j := 2) RX rfl
    have x3 := RowIs.cell (j := 3) RX rfl
    have x4 := RowIs.cell (j := 4) RX rfl
    have x5 := RowIs.cell (j := 5) RX rfl
    have x6 := RowIs.cell (j := 6) RX rfl
    have x7 := RowIs.cell (j := 7) RX rfl
    have x8 := RowIs.cell (j := 8) RX rfl
    have x9 := RowIs.cell (j := 9) RX rfl
    have xf := fun j => RowIs.frozen RX j
    have xl := RX.lt
    go_wp2_with fail
    go_ret
    exact ⟨rfl, HB⟩
  cases hw : inB wt 0 1000000
  · go_enter Tryz.func158, Tryz.ntmps158
    go_wp2_with fail
    refine (right r b e k _ h1).mono ?_; rw [show okB r b k = _ from hu]; rintro x w1 ⟨rfl, hb⟩
    replace RX := RX.new hb
    replace HB := bchain HB hb
    clear hb
    have x0 := RowIs.cell (j := 0) RX rfl
    have x1 := RowIs.cell (j := 1) RX rfl
    have x2 := RowIs.cell (j := 2) RX rfl
    have x3 := RowIs.cell (j := 3) RX rfl
    have x4 := RowIs.cell (j := 4) RX rfl
    have x5 := RowIs.cell (j := 5) RX rfl
    have x6 := RowIs.cell (j := 6) RX rfl
    have x7 := RowIs.cell (j := 7) RX rfl
    have x8 := RowIs.cell (j := 8) RX rfl
    have x9 := RowIs.cell (j := 9) RX rfl
    have xf := fun j => RowIs.frozen RX j
    have xl := RX.lt
    go_wp2_with fail
    clear x0 x1 x2 x3 x4 x5 x6 x7 x8 x9 xf xl
    refine (right r2 b2 e2 k2 _ h2).mono ?_; rw [show okB r2 b2 k2 = _ from hd]; rintro x w2 ⟨rfl, hb⟩
    replace RX := RX.new hb
    replace HB := bchain HB hb
    clear hb
    have x0 := RowIs.cell (j := 0) RX rfl
    have x1 := RowIs.cell (j := 1) RX rfl
    have x2 := RowIs.cell (j := 2) RX rfl
    have x3 := RowIs.cell (j := 3) RX rfl
    have x4 := RowIs.cell (j := 4) RX rfl
    have x5 := RowIs.cell (j := 5) RX rfl
    have x6 := RowIs.cell (j := 6) RX rfl
    have x7 := RowIs.cell (j := 7) RX rfl
    have x8 := RowIs.cell (j := 8) RX rfl
    have x9 := RowIs.cell (j := 9) RX rfl
    have xf := fun j => RowIs.frozen RX j
    have xl := RX.lt
    go_wp2_with fail
    refine (implWithin _ _ _ _).mono ?_; rw [hw]; rintro e w7 ⟨rfl, hsame⟩; obtain rfl := hsame.symm; clear hsame
    go_wp2_with fail
    go_ret
    exact ⟨rfl, HB⟩
  cases hm : inB cm 0 1000000
  · go_enter Tryz.func158, Tryz.ntmps158
    go_wp2_with fail
    refine (right r b e k _ h1).mono ?_; rw [show okB r b k = _ from hu]; rintro x w1 ⟨rfl, hb⟩
    replace RX := RX.new hb
    replace HB := bchain HB hb
    clear hb
    have x0 := RowIs.cell (j := 0) RX rfl
    have x1 := RowIs.cell (j := 1) RX rfl
    have x2 := RowIs.cell (j := 2) RX rfl
    have x3 := RowIs.cell (j := 3) RX rfl
    have x4 := RowIs.cell (j := 4) RX rfl
    have x5 := RowIs.cell (j := 5) RX rfl
    have x6 := RowIs.cell (j := 6) RX rfl
    have x7 := RowIs.cell (j := 7) RX rfl
    have x8 := RowIs.cell (j := 8) RX rfl
    have x9 := RowIs.cell (j := 9) RX rfl
    have xf := fun j => RowIs.frozen RX j
    have xl := RX.lt
    go_wp2_with fail
    clear x0 x1 x2 x3 x4 x5 x6 x7 x8 x9 xf xl
    refine (right r2 b2 e2 k2 _ h2).mono ?_; rw [show okB r2 b2 k2 = _ from hd]; rintro x w2 ⟨rfl, hb⟩
    replace RX := RX.new hb
    replace HB := bchain HB hb
    clear hb
    have x0 := RowIs.cell (j := 0) RX rfl
    have x1 := RowIs.cell (j := 1) RX rfl
    have x2 := RowIs.cell (j := 2) RX rfl
    have x3 := RowIs.cell (j := 3) RX rfl
    have x4 := RowIs.cell (j := 4) RX rfl
    have x5 := RowIs.cell (j := 5) RX rfl
    have x6 := RowIs.cell (j := 6) RX rfl
    have x7 := RowIs.cell (j := 7) RX rfl
    have x8 := RowIs.cell (j := 8) RX rfl
    have x9 := RowIs.cell (j := 9) RX rfl
    have xf := fun j => RowIs.frozen RX j
    have xl := RX.lt
    go_wp2_with fail
    refine (implWithin _ _ _ _).mono ?_; rw [hw]; rintro e w7 ⟨rfl, hsame⟩; obtain rfl := hsame.symm; clear hsame
    go_wp2_with fail
    refine (implWithin _ _ _ _).mono ?_; rw [hm]; rintro e w8 ⟨rfl, hsame⟩; obtain rfl := hsame.symm; clear hsame
    go_wp2_with fail
    go_ret
    exact ⟨rfl, HB⟩
  go_enter Tryz.func158, Tryz.ntmps158
  go_wp2_with fail
  refine (right r b e k _ h1).mono ?_; rw [show okB r b k = _ from hu]; rintro x w1 ⟨rfl, hb⟩
  replace RX := RX.new hb
  replace HB := bchain HB hb
  clear hb
  have x0 := RowIs.cell (j := 0) RX rfl
  have x1 := RowIs.cell (j := 1) RX rfl
  have x2 := RowIs.cell (j := 2) RX rfl
  have x3 := RowIs.cell (j := 3) RX rfl
  have x4 := RowIs.cell (j := 4) RX rfl
  have x5 := RowIs.cell (j := 5) RX rfl
  have x6 := RowIs.cell (j := 6) RX rfl
  have x7 := RowIs.cell (j := 7) RX rfl
  have x8 := RowIs.cell (j := 8) RX rfl
  have x9 := RowIs.cell (j := 9) RX rfl
  have xf := fun j => RowIs.frozen RX j
  have xl := RX.lt
  go_wp2_with fail
  clear x0 x1 x2 x3 x4 x5 x6 x7 x8 x9 xf xl
  refine (right r2 b2 e2 k2 _ h2).mono ?_; rw [show okB r2 b2 k2 = _ from hd]; rintro x w2 ⟨rfl, hb⟩
  replace RX := RX.new hb
  replace HB := bchain HB hb
  clear hb
  have x0 := RowIs.cell (j := 0) RX rfl
  have x1 := RowIs.cell (j := 1) RX rfl
  have x2 := RowIs.cell (j := 2) RX rfl
  have x3 := RowIs.cell (j := 3) RX rfl
  have x4 := RowIs.cell (j := 4) RX rfl
  have x5 := RowIs.cell (j := 5) RX rfl
  have x6 := RowIs.cell (j := 6) RX rfl
  have x7 := RowIs.cell (j := 7) RX rfl
  have x8 := RowIs.cell (j := 8) RX rfl
  have x9 := RowIs.cell (j := 9) RX rfl
  have xf := fun j => RowIs.frozen RX j
  have xl := RX.lt
  go_wp2_with fail
  refine (implWithin _ _ _ _).mono ?_; rw [hw]; rintro e w7 ⟨rfl, hsame⟩; obtain rfl := hsame.symm; clear hsame
  go_wp2_with fail
  refine (implWithin _ _ _ _).mono ?_; rw [hm]; rintro e w8 ⟨rfl, hsame⟩; obtain rfl := hsame.symm; clear hsame
  go_wp2_with fail
  go_ret
  exact ⟨rfl, HB⟩
set_option maxHeartbeats 1000000 in
theorem lanesTunnel16 (t : TuD) (w : World) (h1 : t.up.b.size ≤ 281474976710656) (h2 : t.dn.b.size ≤ 281474976710656) : Calls Tryz.prog 160 #[lnv t] w fun x w' => x = .returned (tuv t) ∧ Below w.heap.size w w' := by
  obtain ⟨⟨r, b, e, k⟩, ⟨r2, b2, e2, k2⟩, wt, cm⟩ := t
  dsimp only [tuv, lnv] at *
  obtain ⟨W, hW⟩ : ∃ W, ((w.alloc (.cells #[.int .i64 r, .string b, .bool e, .bool k, .int .i64 wt, .int .i64 r2, .string b2, .bool e2, .bool k2, .int .i64 cm] 202)).alloc (.cells #[.int .i64 0, .string ⟨#[]⟩, .bool false, .bool false, .int .i64 0, .string ⟨#[]⟩, .bool false, .bool false, .int .i64 0, .int .i64 0] 55)) = W := ⟨_, rfl⟩
  have RX : RowIs W w.heap.size 202 [.int .i64 r, .string b, .bool e, .bool k, .int .i64 wt, .int .i64 r2, .string b2, .bool e2, .bool k2, .int .i64 cm] := by rw [← hW]; exact (rowIs_new w 202 [.int .i64 r, .string b, .bool e, .bool k, .int .i64 wt, .int .i64 r2, .string b2, .bool e2, .bool k2, .int .i64 cm]).alloc _
  have RY : RowIs W (w.heap.size + 1) 55 [.int .i64 0, .string ⟨#[]⟩, .bool false, .bool false, .int .i64 0, .string ⟨#[]⟩, .bool false, .bool false, .int .i64 0, .int .i64 0] := by have := rowIs_new (w.alloc (.cells #[.int .i64 r, .string b, .bool e, .bool k, .int .i64 wt, .int .i64 r2, .string b2, .bool e2, .bool k2, .int .i64 cm] 202)) 55 [.int .i64 0, .string ⟨#[]⟩, .bool false, .bool false, .int .i64 0, .string ⟨#[]⟩, .bool false, .bool false, .int .i64 0, .int .i64 0]; rw [hW] at this; simpa using this
  have HB : Below w.heap.size w W := by rw [← hW]; exact (((Below.refl _ _).alloc (Nat.le_refl _) _).alloc (by simp) _)
  go_enter Tryz.func160, Tryz.ntmps160
  go_upto_region 1 with fail
  try rw [hW]
  clear hW
  refine wp_region_held_drew (S := (fun u => RowIs u w.heap.size 202 [.int .i64 r, .string b, .bool e, .bool k, .int .i64 wt, .int .i64 r2, .string b2, .bool e2, .bool k2, .int .i64 cm])) (by kernel_rfl) (show RowIs (World.drew W) w.heap.size 202 [.int .i64 r, .string b, .bool e, .bool k, .int .i64 wt, .int .i64 r2, .string b2, .bool e2, .bool k2, .int .i64 cm] from RX) (fun hS => ?_)
  replace RY : RowIs (World.drew W) (w.heap.size + 1) 55 [.int .i64 0, .string ⟨#[]⟩, .bool false, .bool false, .int .i64 0, .string ⟨#[]⟩, .bool false, .bool false, .int .i64 0, .int .i64 0] := RY
  replace HB := HB.drew
  clear RX
  generalize World.drew W = u0 at *
  refine wpAnyH_take (i := 0) (v := ?_) rfl (by kernel_rfl) (by kernel_rfl) (by kernel_rfl) (fun _ _ _ h => h) (Or.inl ⟨by kernel_rfl, ?_⟩) hS ?_; rotate_left; focus (intro uu hu; clear hu; go_simp; try with_reducible rfl)
  try simp only [Act.put, List.getElem_toArray, List.getElem_cons_succ, List.getElem_cons_zero, List.setIfInBounds_toArray, List.set_cons_zero, List.set_cons_succ]
  refine wpAnyH_take (i := 1) (v := ?_) rfl (by kernel_rfl) (by kernel_rfl) (by kernel_rfl) (fun _ _ _ h => h) (Or.inl ⟨by kernel_rfl, ?_⟩) hS ?_; rotate_left; focus (intro uu hu; clear hu; go_simp; try with_reducible rfl)
  try simp only [Act.put, List.getElem_toArray, List.getElem_cons_succ, List.getElem_cons_zero, List.setIfInBounds_toArray, List.set_cons_zero, List.set_cons_succ]
  refine wpAnyH_take (i := 2) (v := .agg #[.int .i64 r, .string b, .bool e, .bool k]) rfl (by kernel_rfl) (by kernel_rfl) (by kernel_rfl) (fun _ _ _ h => h) (Or.inl ⟨by kernel_rfl, ?ld⟩) hS ?_; case ld => (intro uu hu; have l0 := RowIs.cell (j := 0) hu rfl; have l1 := RowIs.cell (j := 1) hu rfl; have l2 := RowIs.cell (j := 2) hu rfl; have l3 := RowIs.cell (j := 3) hu rfl; have ll := hu.lt; clear hu; go_simp)
  try simp only [Act.put, List.getElem_toArray, List.getElem_cons_succ, List.getElem_cons_zero, List.setIfInBounds_toArray, List.set_cons_zero, List.set_cons_succ]
  refine wpAnyH_take (i := 4) (v := ?_) rfl (by kernel_rfl) (by kernel_rfl) (by kernel_rfl) (fun _ _ _ h => h) (Or.inl ⟨by kernel_rfl, ?_⟩) hS ?_; rotate_left; focus (intro uu hu; clear hu; go_simp; try with_reducible rfl)
  try simp only [Act.put, List.getElem_toArray, List.getElem_cons_succ, List.getElem_cons_zero, List.setIfInBounds_toArray, List.set_cons_zero, List.set_cons_succ]
  refine wpAnyH_take (i := 5) (v := ?_) rfl (by kernel_rfl) (by kernel_rfl) (by kernel_rfl) (fun _ _ _ h => h) (Or.inl ⟨by kernel_rfl, ?_⟩) hS ?_; rotate_left; focus (intro uu hu; clear hu; go_simp; try with_reducible rfl)
  try simp only [Act.put, List.getElem_toArray, List.getElem_cons_succ, List.getElem_cons_zero, List.setIfInBounds_toArray, List.set_cons_zero, List.set_cons_succ]
  refine wpAnyH_take (i := 6) (v := .agg #[.int .i64 r2, .string b2, .bool e2, .bool k2]) rfl (by kernel_rfl) (by kernel_rfl) (by kernel_rfl) (fun _ _ _ h => h) (Or.inl ⟨by kernel_rfl, ?ld⟩) hS ?_; case ld => (intro uu hu; have l5 := RowIs.cell (j := 5) hu rfl; have l6 := RowIs.cell (j := 6) hu rfl; have l7 := RowIs.cell (j := 7) hu rfl; have l8 := RowIs.cell (j := 8) hu rfl; have ll := hu.lt; clear hu; go_simp)
  try simp only [Act.put, List.getElem_toArray, List.getElem_cons_succ, List.getElem_cons_zero, List.setIfInBounds_toArray, List.set_cons_zero, List.set_cons_succ]
  refine wpAnyH_take (i := 8) (v := ?_) rfl (by kernel_rfl) (by kernel_rfl) (by kernel_rfl) (fun _ _ _ h => h) (Or.inl ⟨by kernel_rfl, ?_⟩) hS ?_; rotate_left; focus (intro uu hu; clear hu; go_simp; try with_reducible rfl)
  try simp only [Act.put, List.getElem_toArray, List.getElem_cons_succ, List.getElem_cons_zero, List.setIfInBounds_toArray, List.set_cons_zero, List.set_cons_succ]
  refine wpAnyH_take (i := 9) (v := ?_) rfl (by kernel_rfl) (by kernel_rfl) (by kernel_rfl) (fun _ _ _ h => h) (Or.inl ⟨by kernel_rfl, ?_⟩) hS ?_; rotate_left; focus (intro uu hu; clear hu; go_simp; try with_reducible rfl)
  try simp only [Act.put, List.getElem_toArray, List.getElem_cons_succ, List.getElem_cons_zero, List.setIfInBounds_toArray, List.set_cons_zero, List.set_cons_succ]
  refine wpAnyH_take (i := 10) (v := .int .i64 wt) rfl (by kernel_rfl) (by kernel_rfl) (by kernel_rfl) (fun _ _ _ h => h) (Or.inl ⟨by kernel_rfl, ?ld⟩) hS ?_; case ld => (intro uu hu; have l4 := RowIs.cell (j := 4) hu rfl; have ll := hu.lt; clear hu; go_simp)
  try simp only [Act.put, List.getElem_toArray, List.getElem_cons_succ, List.getElem_cons_zero, List.setIfInBounds_toArray, List.set_cons_zero, List.set_cons_succ]
  refine wpAnyH_take (i := 11) (v := ?_) rfl (by kernel_rfl) (by kernel_rfl) (by kernel_rfl) (fun _ _ _ h => h) (Or.inl ⟨by kernel_rfl, ?_⟩) hS ?_; rotate_left; focus (intro uu hu; clear hu; go_simp; try with_reducible rfl)
  try simp only [Act.put, List.getElem_toArray, List.getElem_cons_succ, List.getElem_cons_zero, List.setIfInBounds_toArray, List.set_cons_zero, List.set_cons_succ]
  refine wpAnyH_take (i := 12) (v := ?_) rfl (by kernel_rfl) (by kernel_rfl) (by kernel_rfl) (fun _ _ _ h => h) (Or.inl ⟨by kernel_rfl, ?_⟩) hS ?_; rotate_left; focus (intro uu hu; clear hu; go_simp; try with_reducible rfl)
  try simp only [Act.put, List.getElem_toArray, List.getElem_cons_succ, List.getElem_cons_zero, List.setIfInBounds_toArray, List.set_cons_zero, List.set_cons_succ]
  refine wpAnyH_take (i := 13) (v := .int .i64 cm) rfl (by kernel_rfl) (by kernel_rfl) (by kernel_rfl) (fun _ _ _ h => h) (Or.inl ⟨by kernel_rfl, ?ld⟩) hS ?_; case ld => (intro uu hu; have l9 := RowIs.cell (j := 9) hu rfl; have ll := hu.lt; clear hu; go_simp)
  try simp only [Act.put, List.getElem_toArray, List.getElem_cons_succ, List.getElem_cons_zero, List.setIfInBounds_toArray, List.set_cons_zero, List.set_cons_succ]
  refine wpAnyH_ready (rs := [3]) (by kernel_rfl) (by simp) ?_; refine AllReadyH.cons rfl (fun K hK => ?_) AllReadyH.nil; rw [if_pos (by kernel_rfl)]; go_simp
  refine (apart r b e k _ (by omega)).mono ?_; rintro x u1 ⟨rfl, hb⟩
  replace RY := RY.new hb
  replace HB := bchain HB hb
  refine hK.out _ _ (hS.new hb) (fun hS => ?_)
  clear hK K hb
  try simp only [Act.put, List.getElem_toArray, List.getElem_cons_succ, List.getElem_cons_zero, List.setIfInBounds_toArray, List.set_cons_zero, List.set_cons_succ]
  refine wpAnyH_ready (rs := [7]) (by kernel_rfl) (by simp) ?_; refine AllReadyH.cons rfl (fun K hK => ?_) AllReadyH.nil; rw [if_pos (by kernel_rfl)]; go_simp
  refine (apart r2 b2 e2 k2 _ (by omega)).mono ?_; rintro x u2 ⟨rfl, hb⟩
  replace RY := RY.new hb
  replace HB := bchain HB hb
  refine hK.out _ _ (hS.new hb) (fun hS => ?_)
  clear hK K hb
  try simp only [Act.put, List.getElem_toArray, List.getElem_cons_succ, List.getElem_cons_zero, List.setIfInBounds_toArray, List.set_cons_zero, List.set_cons_succ]
  refine wpAnyH_take (i := 14) (v := ?_) rfl (by kernel_rfl) (by kernel_rfl) (by kernel_rfl) (fun _ _ _ h => h) (Or.inl ⟨by kernel_rfl, ?_⟩) hS ?_; rotate_left; focus (intro uu hu; clear hu; go_simp; try with_reducible rfl)
  try simp only [Act.put, List.getElem_toArray, List.getElem_cons_succ, List.getElem_cons_zero, List.setIfInBounds_toArray, List.set_cons_zero, List.set_cons_succ]
  refine wpAnyH_ready (rs := [15]) (by kernel_rfl) (by simp) ?_; refine AllReadyH.cons rfl (fun K hK => ?_) AllReadyH.nil; rw [if_pos (by kernel_rfl)]
  refine wp_store_row 55 (.tmp 2) (.tmp 17) rfl (w.heap.size + 1) #[.int .i64 r, .string b, .bool e, .bool k, .int .i64 r2, .string b2, .bool e2, .bool k2, .int .i64 wt, .int .i64 cm] rfl rfl 55 #[.int .i64 0, .string ⟨#[]⟩, .bool false, .bool false, .int .i64 0, .string ⟨#[]⟩, .bool false, .bool false, .int .i64 0, .int .i64 0] RY (by kernel_rfl) rfl (by simp [Value.oneCell']) ?_
  have NY : RowIs (u2.setRow (w.heap.size + 1) #[.int .i64 r, .string b, .bool e, .bool k, .int .i64 r2, .string b2, .bool e2, .bool k2, .int .i64 wt, .int .i64 cm]) (w.heap.size + 1) 55 [.int .i64 r, .string b, .bool e, .bool k, .int .i64 r2, .string b2, .bool e2, .bool k2, .int .i64 wt, .int .i64 cm] := rowIs_setRow (cs' := [.int .i64 r, .string b, .bool e, .bool k, .int .i64 r2, .string b2, .bool e2, .bool k2, .int .i64 wt, .int .i64 cm]) RY
  replace HB := below_setRow HB (show w.heap.size ≤ w.heap.size + 1 by omega) #[.int .i64 r, .string b, .bool e, .bool k, .int .i64 r2, .string b2, .bool e2, .bool k2, .int .i64 wt, .int .i64 cm]
  have hS2 := hS.kept (setRow_other u2 (w.heap.size + 1) #[.int .i64 r, .string b, .bool e, .bool k, .int .i64 r2, .string b2, .bool e2, .bool k2, .int .i64 wt, .int .i64 cm] w.heap.size (by omega))
  clear RY
  generalize hV : u2.setRow (w.heap.size + 1) #[.int .i64 r, .string b, .bool e, .bool k, .int .i64 r2, .string b2, .bool e2, .bool k2, .int .i64 wt, .int .i64 cm] = V9 at *
  clear hV
  refine hK.out _ _ hS2 (fun hS => ?_)
  clear hK K hS2
  try simp only [Act.put, List.getElem_toArray, List.getElem_cons_succ, List.getElem_cons_zero, List.setIfInBounds_toArray, List.set_cons_zero, List.set_cons_succ]
  refine wpAnyH_done (by kernel_rfl) ?_ _
  clear hS
  have RY := NY
  go_wp2_with fail
  have y0 := RowIs.cell (j := 0) RY rfl
  have y1 := RowIs.cell (j := 1) RY rfl
  have y2 := RowIs.cell (j := 2) RY rfl
  have y3 := RowIs.cell (j := 3) RY rfl
  have y4 := RowIs.cell (j := 4) RY rfl
  have y5 := RowIs.cell (j := 5) RY rfl
  have y6 := RowIs.cell (j := 6) RY rfl
  have y7 := RowIs.cell (j := 7) RY rfl
  have y8 := RowIs.cell (j := 8) RY rfl
  have y9 := RowIs.cell (j := 9) RY rfl
  have yf := fun j => RowIs.frozen RY j
  have yl := RY.lt
  refine bodyPost_ret (v := .agg #[.int .i64 r, .string b, .bool e, .bool k, .int .i64 r2, .string b2, .bool e2, .bool k2, .int .i64 wt, .int .i64 cm]) (by simp [results, Tryz.results160, go_sem, *]) rfl ?_
  exact ⟨rfl, HB⟩
set_option maxHeartbeats 1000000 in
theorem letOut16_ (r : Int) (b : ByteArray) (e k : Bool) (r2 : Int) (b2 : ByteArray) (e2 k2 : Bool) (wt cm : Int) (n : Int) (g : Nat) (w : World) (R : RowIs w g 202 [.int .i64 r, .string b, .bool e, .bool k, .int .i64 wt, .int .i64 r2, .string b2, .bool e2, .bool k2, .int .i64 cm]) (hb : b.size ≤ 2000) (h0 : 0 ≤ wt) (h1 : wt ≤ 1000000) :
    Calls Tryz.prog 159 #[.pointer (some ⟨g, 0, none⟩), .int .i64 n] w fun x w' => x = .returned (.string (b.extract 0 (max 0 (min (min n (1000000 - wt)) (b.size : Int))).toNat)) ∧ RowIs w' g 202 [.int .i64 r, .string (b.extract (max 0 (min (min n (1000000 - wt)) (b.size : Int))).toNat b.size), .bool e, .bool k, .int .i64 (wt + ((max 0 (min (min n (1000000 - wt)) (b.size : Int))).toNat : Nat)), .int .i64 r2, .string b2, .bool e2, .bool k2, .int .i64 cm] ∧ Turn g (g + 1) w w' := by
  obtain ⟨m, hm⟩ : ∃ m : Nat, (max 0 (min (min n (1000000 - wt)) (b.size : Int))).toNat = m := ⟨_, rfl⟩
  have hm1 : (m : Int) ≤ b.size := by omega
  have hm2 : (m : Int) ≤ 1000000 := by omega
  have e1 : IntKind.i64.wrap (1000000 - wt) = 1000000 - wt := by rw [IntKind.wrap_i64]; omega
  have hpl := fun (u : World) => pull r b e k (min n (1000000 - wt)) u hb
  rw [hm]
  simp only [hm] at hpl
  have hsz : (b.extract 0 m).size = m := by rw [ByteArray.size_extract]; omega
  obtain ⟨q, hq⟩ : ∃ q, b.extract 0 m = q := ⟨_, rfl⟩
  obtain ⟨z, hz⟩ : ∃ z, b.extract m b.size = z := ⟨_, rfl⟩
  rw [hq] at hsz
  simp only [hq, hz] at hpl ⊢
  have hszI : (q.size : Int) = m := by omega
  have he2 : IntKind.i64.wrap (wt + (m : Int)) = wt + m := by rw [IntKind.wrap_i64]; omega
  clear hm hq hz
  have HB : Turn g (g + 1) w w := Turn.refl _ _ _
  go_enter Tryz.func159, Tryz.ntmps159
  go_upto_region 2 with fail
  have R0 : Hid (RowIs (World.drew w) g 202 [.int .i64 r, .string b, .bool e, .bool k, .int .i64 wt, .int .i64 r2, .string b2, .bool e2, .bool k2, .int .i64 cm]) := hide R
  have HB0 : Hid (Turn g (g + 1) w (World.drew w)) := hide HB.drew
  clear R HB
  refine wp_region_any (by kernel_rfl) ?_
  change wpAny _ _ _ _ _ _ _ (World.drew w)
  generalize World.drew w = V at *
  refine wpAny_take (i := 0) (v := ?_) rfl (by kernel_rfl) (by kernel_rfl) (by kernel_rfl) (fun _ _ _ h => h) (Or.inl ⟨by rfl, ?_⟩) ?_; rotate_left; focus (intro uu; go_simp; try with_reducible rfl)
  try simp only [Act.put, List.getElem_toArray, List.getElem_cons_succ, List.getElem_cons_zero, List.setIfInBounds_toArray, List.set_cons_zero, List.set_cons_succ]
  refine wpAny_take (i := 1) (v := ?_) rfl (by kernel_rfl) (by kernel_rfl) (by kernel_rfl) (fun _ _ _ h => h) (Or.inl ⟨by rfl, ?_⟩) ?_; rotate_left; focus (intro uu; go_simp; try with_reducible rfl)
  try simp only [Act.put, List.getElem_toArray, List.getElem_cons_succ, List.getElem_cons_zero, List.setIfInBounds_toArray, List.set_cons_zero, List.set_cons_succ]
  refine wpAny_take (i := 2) (v := ?_) rfl (by kernel_rfl) (by kernel_rfl) (by kernel_rfl) (fun _ _ _ h => h) (Or.inl ⟨by rfl, ?_⟩) ?_; rotate_left; focus (intro uu; go_simp; try with_reducible rfl)
  try simp only [Act.put, List.getElem_toArray, List.getElem_cons_succ, List.getElem_cons_zero, List.setIfInBounds_toArray, List.set_cons_zero, List.set_cons_succ]
  refine wpAny_take (i := 3) (v := ?_) rfl (by kernel_rfl) (by kernel_rfl) (by kernel_rfl) (fun _ _ _ h => h) (Or.inl ⟨by rfl, ?_⟩) ?_; rotate_left; focus (intro uu; go_simp; try with_reducible rfl)
  try simp only [Act.put, List.getElem_toArray, List.getElem_cons_succ, List.getElem_cons_zero, List.setIfInBounds_toArray, List.set_cons_zero, List.set_cons_succ]
  refine wpAny_take (i := 5) (v := ?_) rfl (by kernel_rfl) (by kernel_rfl) (by kernel_rfl) (fun _ _ _ h => h) (Or.inl ⟨by rfl, ?_⟩) ?_; rotate_left; focus (intro uu; go_simp; try with_reducible rfl)
  try simp only [Act.put, List.getElem_toArray, List.getElem_cons_succ, List.getElem_cons_zero, List.setIfInBounds_toArray, List.set_cons_zero, List.set_cons_succ]
  refine wpAny_take (i := 6) (v := ?_) rfl (by kernel_rfl) (by kernel_rfl) (by kernel_rfl) (fun _ _ _ h => h) (Or.inl ⟨by rfl, ?_⟩) ?_; rotate_left; focus (intro uu; go_simp; try with_reducible rfl)
  try simp only [Act.put, List.getElem_toArray, List.getElem_cons_succ, List.getElem_cons_zero, List.setIfInBounds_toArray, List.set_cons_zero, List.set_cons_succ]
  refine wpAny_take (i := 7) (v := ?_) rfl (by kernel_rfl) (by kernel_rfl) (by kernel_rfl) (fun _ _ _ h => h) (Or.inl ⟨by rfl, ?_⟩) ?_; rotate_left; focus (intro uu; go_simp; try with_reducible rfl)
  try simp only [Act.put, List.getElem_toArray, List.getElem_cons_succ, List.getElem_cons_zero, List.setIfInBounds_toArray, List.set_cons_zero, List.set_cons_succ]
  refine wpAny_take (i := 8) (v := ?_) rfl (by kernel_rfl) (by kernel_rfl) (by kernel_rfl) (fun _ _ _ h => h) (Or.inl ⟨by rfl, ?_⟩) ?_; rotate_left; focus (intro uu; go_simp; try with_reducible rfl)
  try simp only [Act.put, List.getElem_toArray, List.getElem_cons_succ, List.getElem_cons_zero, List.setIfInBounds_toArray, List.set_cons_zero, List.set_cons_succ]
  refine wpAny_ready (rs := [4, 9]) (by kernel_rfl) (by simp) ?_
  refine (AllReady.cons rfl (fun K hK => ?_) (AllReady.cons rfl (fun K hK => ?_) AllReady.nil))
  · skip
    try rw [if_pos (by kernel_rfl)]
    have l0 := RowIs.cell (j := 0) R0.out rfl
    have l1 := RowIs.cell (j := 1) R0.out rfl
    have l2 := RowIs.cell (j := 2) R0.out rfl
    have l3 := RowIs.cell (j := 3) R0.out rfl
    have ll := R0.out.lt
    go_simp
    refine hK _ _ ?_; clear hK K
    clear l0 l1 l2 l3 ll
    try simp only [Act.put, List.getElem_toArray, List.getElem_cons_succ, List.getElem_cons_zero, List.setIfInBounds_toArray, List.set_cons_zero, List.set_cons_succ]
    refine wpAny_ready (rs := [9]) (by kernel_rfl) (by simp) ?_
    refine (AllReady.cons rfl (fun K hK => ?_) AllReady.nil)
    try rw [if_pos (by kernel_rfl)]
    have l4 := RowIs.cell (j := 4) R0.out rfl
    have ll := R0.out.lt
    go_simp
    refine hK _ _ ?_; clear hK K
    clear l4 ll
    try simp only [Act.put, List.getElem_toArray, List.getElem_cons_succ, List.getElem_cons_zero, List.setIfInBounds_toArray, List.set_cons_zero, List.set_cons_succ]
    refine wpAny_take (i := 10) (v := ?_) rfl (by kernel_rfl) (by kernel_rfl) (by kernel_rfl) (fun _ _ _ h => h) (Or.inl ⟨by rfl, ?_⟩) ?_; rotate_left; focus (intro uu; go_simp; try with_reducible rfl)
    try simp only [Act.put, List.getElem_toArray, List.getElem_cons_succ, List.getElem_cons_zero, List.setIfInBounds_toArray, List.set_cons_zero, List.set_cons_succ]
    refine wpAny_take (i := 11) (v := ?_) rfl (by kernel_rfl) (by kernel_rfl) (by kernel_rfl) (fun _ _ _ h => h) (Or.inl ⟨by rfl, ?_⟩) ?_; rotate_left; focus (intro uu; go_simp; try with_reducible rfl)
    try simp only [Act.put, List.getElem_toArray, List.getElem_cons_succ, List.getElem_cons_zero, List.setIfInBounds_toArray, List.set_cons_zero, List.set_cons_succ]
    refine wpAny_ready (rs := [12]) (by kernel_rfl) (by simp) ?_
    refine (AllReady.cons rfl (fun K hK => ?_) AllReady.nil)
    try rw [if_pos (by kernel_rfl)]
    go_simp
    refine (hpl _).mono ?_; rintro x u3 ⟨rfl, hb9⟩
    replace R0 := hide (R0.out.new hb9)
    replace HB0 := hide (HB0.out.trans (turn_new hb9 _ _))
    refine hK _ _ ?_; clear hK K hb9
    try simp only [Act.put, List.getElem_toArray, List.getElem_cons_succ, List.getElem_cons_zero, List.setIfInBounds_toArray, List.set_cons_zero, List.set_cons_succ]
    refine wpAny_take (i := 13) (v := ?_) rfl (by kernel_rfl) (by kernel_rfl) (by kernel_rfl) (fun _ _ _ h => h) (Or.inl ⟨by rfl, ?_⟩) ?_; rotate_left; focus (intro uu; go_simp; try with_reducible rfl)
    try simp only [Act.put, List.getElem_toArray, List.getElem_cons_succ, List.getElem_cons_zero, List.setIfInBounds_toArray, List.set_cons_zero, List.set_cons_succ]
    refine wpAny_take (i := 14) (v := ?_) rfl (by kernel_rfl) (by kernel_rfl) (by kernel_rfl) (fun _ _ _ h => h) (Or.inl ⟨by rfl, ?_⟩) ?_; rotate_left; focus (intro uu; go_simp; try with_reducible rfl)
    try simp only [Act.put, List.getElem_toArray, List.getElem_cons_succ, List.getElem_cons_zero, List.setIfInBounds_toArray, List.set_cons_zero, List.set_cons_succ]
    refine wpAny_take (i := 15) (v := ?_) rfl (by kernel_rfl) (by kernel_rfl) (by kernel_rfl) (fun _ _ _ h => h) (Or.inl ⟨by rfl, ?_⟩) ?_; rotate_left; focus (intro uu; go_simp; try with_reducible rfl)
    try simp only [Act.put, List.getElem_toArray, List.getElem_cons_succ, List.getElem_cons_zero, List.setIfInBounds_toArray, List.set_cons_zero, List.set_cons_succ]
    refine wpAny_take (i := 16) (v := ?_) rfl (by kernel_rfl) (by kernel_rfl) (by kernel_rfl) (fun _ _ _ h => h) (Or.inl ⟨by rfl, ?_⟩) ?_; rotate_left; focus (intro uu; go_simp; try with_reducible rfl)
    try simp only [Act.put, List.getElem_toArray, List.getElem_cons_succ, List.getElem_cons_zero, List.setIfInBounds_toArray, List.set_cons_zero, List.set_cons_succ]
    refine wpAny_take (i := 17) (v := ?_) rfl (by kernel_rfl) (by kernel_rfl) (by kernel_rfl) (fun _ _ _ h => h) (Or.inl ⟨by rfl, ?_⟩) ?_; rotate_left; focus (intro uu; go_simp; try with_reducible rfl)
    try simp only [Act.put, List.getElem_toArray, List.getElem_cons_succ, List.getElem_cons_zero, List.setIfInBounds_toArray, List.set_cons_zero, List.set_cons_succ]
    refine wpAny_ready (rs := [18]) (by kernel_rfl) (by simp) ?_
    refine (AllReady.cons rfl (fun K hK => ?_) AllReady.nil)
    try rw [if_pos (by kernel_rfl)]
    have l0 := RowIs.cell (j := 0) R0.out rfl
    have l1 := RowIs.cell (j := 1) R0.out rfl
    have l2 := RowIs.cell (j := 2) R0.out rfl
    have l3 := RowIs.cell (j := 3) R0.out rfl
    have lf := fun j => RowIs.frozen R0.out j
    have ll := R0.out.lt
    go_simp
    have NR : Hid (RowIs ((((u3.setCell ⟨g, 0, none⟩ (.int .i64 r)).setCell ⟨g, 1, none⟩ (.string z)).setCell ⟨g, 2, none⟩ (.bool e)).setCell ⟨g, 3, none⟩ (.bool k)) g 202 [.int .i64 r, .string z, .bool e, .bool k, .int .i64 wt, .int .i64 r2, .string b2, .bool e2, .bool k2, .int .i64 cm]) := hide ((((R0.out.set 0 (.int .i64 r)).set 1 (.string z)).set 2 (.bool e)).set 3 (.bool k))
    have NB : Hid (Turn g (g + 1) w ((((u3.setCell ⟨g, 0, none⟩ (.int .i64 r)).setCell ⟨g, 1, none⟩ (.string z)).setCell ⟨g, 2, none⟩ (.bool e)).setCell ⟨g, 3, none⟩ (.bool k))) := hide (Turn.setCell (Turn.setCell (Turn.setCell (Turn.setCell HB0.out (p := ⟨g, 0, none⟩) (.int .i64 r) (.inl ⟨Nat.le_refl _, Nat.lt_succ_self _⟩)) (p := ⟨g, 1, none⟩) (.string z) (.inl ⟨Nat.le_refl _, Nat.lt_succ_self _⟩)) (p := ⟨g, 2, none⟩) (.bool e) (.inl ⟨Nat.le_refl _, Nat.lt_succ_self _⟩)) (p := ⟨g, 3, none⟩) (.bool k) (.inl ⟨Nat.le_refl _, Nat.lt_succ_self _⟩))
    generalize hV : ((((u3.setCell ⟨g, 0, none⟩ (.int .i64 r)).setCell ⟨g, 1, none⟩ (.string z)).setCell ⟨g, 2, none⟩ (.bool e)).setCell ⟨g, 3, none⟩ (.bool k)) = u4 at *
    clear hV R0 HB0 l0 l1 l2 l3 lf ll
    have R0 := NR
    have HB0 := NB
    clear NR NB
    refine hK _ _ ?_; clear hK K
    try simp only [Act.put, List.getElem_toArray, List.getElem_cons_succ, List.getElem_cons_zero, List.setIfInBounds_toArray, List.set_cons_zero, List.set_cons_succ]
    refine wpAny_take (i := 19) (v := ?_) rfl (by kernel_rfl) (by kernel_rfl) (by kernel_rfl) (fun _ _ _ h => h) (Or.inl ⟨by rfl, ?_⟩) ?_; rotate_left; focus (intro uu; go_simp; try with_reducible rfl)
    try simp only [Act.put, List.getElem_toArray, List.getElem_cons_succ, List.getElem_cons_zero, List.setIfInBounds_toArray, List.set_cons_zero, List.set_cons_succ]
    refine wpAny_done (by kernel_rfl) ?_ _
    have R := R0.out
    have HB := HB0.out
    clear R0 HB0
    have y4 := RowIs.cell (j := 4) R rfl
    have yf := fun j => RowIs.frozen R j
    have yl := R.lt
    go_upto_region 4 with fail
    clear y4 yf yl
    have NR : RowIs (u4.setCell ⟨g, 4, none⟩ (.int .i64 (wt + (m : Int)))) g 202 [.int .i64 r, .string z, .bool e, .bool k, .int .i64 (wt + (m : Int)), .int .i64 r2, .string b2, .bool e2, .bool k2, .int .i64 cm] := (R.set 4 (.int .i64 (wt + (m : Int))))
    have NHB : Turn g (g + 1) w (u4.setCell ⟨g, 4, none⟩ (.int .i64 (wt + (m : Int)))) := (Turn.setCell HB (p := ⟨g, 4, none⟩) (.int .i64 (wt + (m : Int))) (.inl ⟨Nat.le_refl _, Nat.lt_succ_self _⟩))
    generalize hV : (u4.setCell ⟨g, 4, none⟩ (.int .i64 (wt + (m : Int)))) = V1 at *
    clear hV
    clear R
    have R := NR
    clear NR
    clear HB
    have HB := NHB
    clear NHB
    go_wp2_with fail
    go_ret
    exact ⟨rfl, R, HB⟩
  · skip
    try rw [if_pos (by kernel_rfl)]
    have l4 := RowIs.cell (j := 4) R0.out rfl
    have ll := R0.out.lt
    go_simp
    refine hK _ _ ?_; clear hK K
    clear l4 ll
    try simp only [Act.put, List.getElem_toArray, List.getElem_cons_succ, List.getElem_cons_zero, List.setIfInBounds_toArray, List.set_cons_zero, List.set_cons_succ]
    refine wpAny_take (i := 10) (v := ?_) rfl (by kernel_rfl) (by kernel_rfl) (by kernel_rfl) (fun _ _ _ h => h) (Or.inl ⟨by rfl, ?_⟩) ?_; rotate_left; focus (intro uu; go_simp; try with_reducible rfl)
    try simp only [Act.put, List.getElem_toArray, List.getElem_cons_succ, List.getElem_cons_zero, List.setIfInBounds_toArray, List.set_cons_zero, List.set_cons_succ]
    refine wpAny_take (i := 11) (v := ?_) rfl (by kernel_rfl) (by kernel_rfl) (by kernel_rfl) (fun _ _ _ h => h) (Or.inl ⟨by rfl, ?_⟩) ?_; rotate_left; focus (intro uu; go_simp; try with_reducible rfl)
    try simp only [Act.put, List.getElem_toArray, List.getElem_cons_succ, List.getElem_cons_zero, List.setIfInBounds_toArray, List.set_cons_zero, List.set_cons_succ]
    refine wpAny_ready (rs := [4]) (by kernel_rfl) (by simp) ?_
    refine (AllReady.cons rfl (fun K hK => ?_) AllReady.nil)
    try rw [if_pos (by kernel_rfl)]
    have l0 := RowIs.cell (j := 0) R0.out rfl
    have l1 := RowIs.cell (j := 1) R0.out rfl
    have l2 := RowIs.cell (j := 2) R0.out rfl
    have l3 := RowIs.cell (j := 3) R0.out rfl
    have ll := R0.out.lt
    go_simp
    refine hK _ _ ?_; clear hK K
    clear l0 l1 l2 l3 ll
    try simp only [Act.put, List.getElem_toArray, List.getElem_cons_succ, List.getElem_cons_zero, List.setIfInBounds_toArray, List.set_cons_zero, List.set_cons_succ]
    refine wpAny_ready (rs := [12]) (by kernel_rfl) (by simp) ?_
    refine (AllReady.cons rfl (fun K hK => ?_) AllReady.nil)
    try rw [if_pos (by kernel_rfl)]
    go_simp
    refine (hpl _).mono ?_; rintro x u7 ⟨rfl, hb9⟩
    replace R0 := hide (R0.out.new hb9)
    replace HB0 := hide (HB0.out.trans (turn_new hb9 _ _))
    refine hK _ _ ?_; clear hK K hb9
    try simp only [Act.put, List.getElem_toArray, List.getElem_cons_succ, List.getElem_cons_zero, List.setIfInBounds_toArray, List.set_cons_zero, List.set_cons_succ]
    refine wpAny_take (i := 13) (v := ?_) rfl (by kernel_rfl) (by kernel_rfl) (by kernel_rfl) (fun _ _ _ h => h) (Or.inl ⟨by rfl, ?_⟩) ?_; rotate_left; focus (intro uu; go_simp; try with_reducible rfl)
    try simp only [Act.put, List.getElem_toArray, List.getElem_cons_succ, List.getElem_cons_zero, List.setIfInBounds_toArray, List.set_cons_zero, List.set_cons_succ]
    refine wpAny_take (i := 14) (v := ?_) rfl (by kernel_rfl) (by kernel_rfl) (by kernel_rfl) (fun _ _ _ h => h) (Or.inl ⟨by rfl, ?_⟩) ?_; rotate_left; focus (intro uu; go_simp; try with_reducible rfl)
    try simp only [Act.put, List.getElem_toArray, List.getElem_cons_succ, List.getElem_cons_zero, List.setIfInBounds_toArray, List.set_cons_zero, List.set_cons_succ]
    refine wpAny_take (i := 15) (v := ?_) rfl (by kernel_rfl) (by kernel_rfl) (by kernel_rfl) (fun _ _ _ h => h) (Or.inl ⟨by rfl, ?_⟩) ?_; rotate_left; focus (intro uu; go_simp; try with_reducible rfl)
    try simp only [Act.put, List.getElem_toArray, List.getElem_cons_succ, List.getElem_cons_zero, List.setIfInBounds_toArray, List.set_cons_zero, List.set_cons_succ]
    refine wpAny_take (i := 16) (v := ?_) rfl (by kernel_rfl) (by kernel_rfl) (by kernel_rfl) (fun _ _ _ h => h) (Or.inl ⟨by rfl, ?_⟩) ?_; rotate_left; focus (intro uu; go_simp; try with_reducible rfl)
    try simp only [Act.put, List.getElem_toArray, List.getElem_cons_succ, List.getElem_cons_zero, List.setIfInBounds_toArray, List.set_cons_zero, List.set_cons_succ]
    refine wpAny_take (i := 17) (v := ?_) rfl (by kernel_rfl) (by kernel_rfl) (by kernel_rfl) (fun _ _ _ h => h) (Or.inl ⟨by rfl, ?_⟩) ?_; rotate_left; focus (intro uu; go_simp; try with_reducible rfl)
    try simp only [Act.put, List.getElem_toArray, List.getElem_cons_succ, List.getElem_cons_zero, List.setIfInBounds_toArray, List.set_cons_zero, List.set_cons_succ]
    refine wpAny_ready (rs := [18]) (by kernel_rfl) (by simp) ?_
    refine (AllReady.cons rfl (fun K hK => ?_) AllReady.nil)
    try rw [if_pos (by kernel_rfl)]
    have l0 := RowIs.cell (j := 0) R0.out rfl
    have l1 := RowIs.cell (j := 1) R0.out rfl
    have l2 := RowIs.cell (j := 2) R0.out rfl
    have l3 := RowIs.cell (j := 3) R0.out rfl
    have lf := fun j => RowIs.frozen R0.out j
    have ll := R0.out.lt
    go_simp
    have NR : Hid (RowIs ((((u7.setCell ⟨g, 0, none⟩ (.int .i64 r)).setCell ⟨g, 1, none⟩ (.string z)).setCell ⟨g, 2, none⟩ (.bool e)).setCell ⟨g, 3, none⟩ (.bool k)) g 202 [.int .i64 r, .string z, .bool e, .bool k, .int .i64 wt, .int .i64 r2, .string b2, .bool e2, .bool k2, .int .i64 cm]) := hide ((((R0.out.set 0 (.int .i64 r)).set 1 (.string z)).set 2 (.bool e)).set 3 (.bool k))
    have NB : Hid (Turn g (g + 1) w ((((u7.setCell ⟨g, 0, none⟩ (.int .i64 r)).setCell ⟨g, 1, none⟩ (.string z)).setCell ⟨g, 2, none⟩ (.bool e)).setCell ⟨g, 3, none⟩ (.bool k))) := hide (Turn.setCell (Turn.setCell (Turn.setCell (Turn.setCell HB0.out (p := ⟨g, 0, none⟩) (.int .i64 r) (.inl ⟨Nat.le_refl _, Nat.lt_succ_self _⟩)) (p := ⟨g, 1, none⟩) (.string z) (.inl ⟨Nat.le_refl _, Nat.lt_succ_self _⟩)) (p := ⟨g, 2, none⟩) (.bool e) (.inl ⟨Nat.le_refl _, Nat.lt_succ_self _⟩)) (p := ⟨g, 3, none⟩) (.bool k) (.inl ⟨Nat.le_refl _, Nat.lt_succ_self _⟩))
    generalize hV : ((((u7.setCell ⟨g, 0, none⟩ (.int .i64 r)).setCell ⟨g, 1, none⟩ (.string z)).setCell ⟨g, 2, none⟩ (.bool e)).setCell ⟨g, 3, none⟩ (.bool k)) = u8 at *
    clear hV R0 HB0 l0 l1 l2 l3 lf ll
    have R0 := NR
    have HB0 := NB
    clear NR NB
    refine hK _ _ ?_; clear hK K
    try simp only [Act.put, List.getElem_toArray, List.getElem_cons_succ, List.getElem_cons_zero, List.setIfInBounds_toArray, List.set_cons_zero, List.set_cons_succ]
    refine wpAny_take (i := 19) (v := ?_) rfl (by kernel_rfl) (by kernel_rfl) (by kernel_rfl) (fun _ _ _ h => h) (Or.inl ⟨by rfl, ?_⟩) ?_; rotate_left; focus (intro uu; go_simp; try with_reducible rfl)
    try simp only [Act.put, List.getElem_toArray, List.getElem_cons_succ, List.getElem_cons_zero, List.setIfInBounds_toArray, List.set_cons_zero, List.set_cons_succ]
    refine wpAny_done (by kernel_rfl) ?_ _
    have R := R0.out
    have HB := HB0.out
    clear R0 HB0
    have y4 := RowIs.cell (j := 4) R rfl
    have yf := fun j => RowIs.frozen R j
    have yl := R.lt
    go_upto_region 4 with fail
    clear y4 yf yl
    have NR : RowIs (u8.setCell ⟨g, 4, none⟩ (.int .i64 (wt + (m : Int)))) g 202 [.int .i64 r, .string z, .bool e, .bool k, .int .i64 (wt + (m : Int)), .int .i64 r2, .string b2, .bool e2, .bool k2, .int .i64 cm] := (R.set 4 (.int .i64 (wt + (m : Int))))
    have NHB : Turn g (g + 1) w (u8.setCell ⟨g, 4, none⟩ (.int .i64 (wt + (m : Int)))) := (Turn.setCell HB (p := ⟨g, 4, none⟩) (.int .i64 (wt + (m : Int))) (.inl ⟨Nat.le_refl _, Nat.lt_succ_self _⟩))
    generalize hV : (u8.setCell ⟨g, 4, none⟩ (.int .i64 (wt + (m : Int)))) = V1 at *
    clear hV
    clear R
    have R := NR
    clear NR
    clear HB
    have HB := NHB
    clear NHB
    go_wp2_with fail
    go_ret
    exact ⟨rfl, R, HB⟩
theorem letOut16 (t : TuD) (n : Int) (g : Nat) (w : World) (ho : okTu t = true) (R : RowIs w g 202 (lncs t)) :
    Calls Tryz.prog 159 #[.pointer (some ⟨g, 0, none⟩), .int .i64 n] w fun x w' => x = .returned (.string (outTu t n).2) ∧ RowIs w' g 202 (lncs (outTu t n).1) ∧ Turn g (g + 1) w w' := by
  obtain ⟨hu, hd, hw, hm⟩ := okTu_true ho
  obtain ⟨q1, q2, q3, q4⟩ := okPp_true hu
  have hv : outTu t n = (⟨⟨t.up.r, t.up.b.extract (outN t n) t.up.b.size, t.up.e, t.up.k⟩, t.dn, t.went + outN t n, t.came⟩, t.up.b.extract 0 (outN t n)) := by
    unfold outTu; rw [if_neg (by rw [ho]; decide)]
  rw [hv]
  clear hv ho hu hd hm
  obtain ⟨⟨r, b, e, k⟩, ⟨r2, b2, e2, k2⟩, wt, cm⟩ := t
  dsimp only [lncs] at *
  exact letOut16_ r b e k r2 b2 e2 k2 wt cm n g w R (by omega) hw.1 hw.2
set_option maxHeartbeats 1000000 in
theorem implTunnelOk (t : TuD) (w : World) (h1 : t.up.b.size ≤ maxLen) (h2 : t.dn.b.size ≤ maxLen) : Calls Tryz.prog 196 #[tuv t] w fun x w' => x = .returned (.bool (okTu t)) ∧ Below w.heap.size w w' := by
  obtain ⟨⟨r, b, e, k⟩, ⟨r2, b2, e2, k2⟩, wt, cm⟩ := t
  dsimp only [tuv] at *
  obtain ⟨W, hW⟩ : ∃ W, (w.alloc (.cells #[.int .i64 r, .string b, .bool e, .bool k, .int .i64 r2, .string b2, .bool e2, .bool k2, .int .i64 wt, .int .i64 cm] 55)) = W := ⟨_, rfl⟩
  have RX : RowIs W w.heap.size 55 [.int .i64 r, .string b, .bool e, .bool k, .int .i64 r2, .string b2, .bool e2, .bool k2, .int .i64 wt, .int .i64 cm] := by rw [← hW]; exact rowIs_new w 55 [.int .i64 r, .string b, .bool e, .bool k, .int .i64 r2, .string b2, .bool e2, .bool k2, .int .i64 wt, .int .i64 cm]
  have HB : Below w.heap.size w W := by rw [← hW]; exact (Below.refl _ _).alloc (Nat.le_refl _) _
  have hri := fun (u : World) => lanesRight16 ⟨⟨r, b, e, k⟩, ⟨r2, b2, e2, k2⟩, wt, cm⟩ u h1 h2
  go_enter Tryz.func196, Tryz.ntmps196
  go_wp2_with (refine wpList_load_row (by rfl) 55 _ (by rfl) w.heap.size (by rfl) [.int .i64 r, .string b, .bool e, .bool k, .int .i64 r2, .string b2, .bool e2, .bool k2, .int .i64 wt, .int .i64 cm] _ 55 RX Tryz.underlying55 rfl (by kernel_rfl) ?_)
  clear hW
  refine (lanes16 ⟨⟨r, b, e, k⟩, ⟨r2, b2, e2, k2⟩, wt, cm⟩ _).mono ?_; rintro x w1 ⟨rfl, hb⟩
  replace RX := RX.new hb
  replace HB := bchain HB hb
  clear hb
  go_wp2_with fail
  refine (hri _).mono ?_; rintro x w2 ⟨rfl, hb⟩
  replace RX := RX.new hb
  replace HB := bchain HB hb
  clear hb
  go_wp2_with fail
  go_ret
  exact ⟨rfl, HB⟩
set_option maxHeartbeats 2000000 in
theorem implOut (t : TuD) (n : Int) (w : World) (h1 : t.up.b.size ≤ maxLen) (h2 : t.dn.b.size ≤ maxLen) : Calls Tryz.prog 75 #[tuv t, .int .i64 n] w fun x w' => x = .returned (.tuple #[tuv (outTu t n).1, .string (outTu t n).2]) ∧ Below w.heap.size w w' := by
  obtain ⟨⟨r, b, e, k⟩, ⟨r2, b2, e2, k2⟩, wt, cm⟩ := t
  dsimp only [tuv] at *
  have hri := fun (u : World) => lanesRight16 ⟨⟨r, b, e, k⟩, ⟨r2, b2, e2, k2⟩, wt, cm⟩ u h1 h2
  cases hk : okTu ⟨⟨r, b, e, k⟩, ⟨r2, b2, e2, k2⟩, wt, cm⟩
  · have hv : outTu ⟨⟨r, b, e, k⟩, ⟨r2, b2, e2, k2⟩, wt, cm⟩ n = (zTu, ⟨#[]⟩) := by unfold outTu; rw [if_pos hk]
    rw [hv]
    rw [hk] at hri
    dsimp only [zTu, zPp]
    obtain ⟨W, hW⟩ : ∃ W, ((w.alloc (.cells #[.int .i64 r, .string b, .bool e, .bool k, .int .i64 r2, .string b2, .bool e2, .bool k2, .int .i64 wt, .int .i64 cm] 55)).alloc (.cells #[.int .i64 0, .string ⟨#[]⟩, .bool false, .bool false, .int .i64 0, .string ⟨#[]⟩, .bool false, .bool false, .int .i64 0, .int .i64 0] 55)) = W := ⟨_, rfl⟩
    have RX : RowIs W w.heap.size 55 [.int .i64 r, .string b, .bool e, .bool k, .int .i64 r2, .string b2, .bool e2, .bool k2, .int .i64 wt, .int .i64 cm] := by rw [← hW]; exact (rowIs_new w 55 [.int .i64 r, .string b, .bool e, .bool k, .int .i64 r2, .string b2, .bool e2, .bool k2, .int .i64 wt, .int .i64 cm]).alloc _
    have RY : RowIs W (w.heap.size + 1) 55 [.int .i64 0, .string ⟨#[]⟩, .bool false, .bool false, .int .i64 0, .string ⟨#[]⟩, .bool false, .bool false, .int .i64 0, .int .i64 0] := by have := rowIs_new (w.alloc (.cells #[.int .i64 r, .string b, .bool e, .bool k, .int .i64 r2, .string b2, .bool e2, .bool k2, .int .i64 wt, .int .i64 cm] 55)) 55 [.int .i64 0, .string ⟨#[]⟩, .bool false, .bool false, .int .i64 0, .string ⟨#[]⟩, .bool false, .bool false, .int .i64 0, .int .i64 0]; rw [hW] at this; simpa using this
    have HB : Below w.heap.size w W := by rw [← hW]; exact (((Below.refl _ _).alloc (Nat.le_refl _) _).alloc (by simp) _)
    go_enter Tryz.func75, Tryz.ntmps75
    go_wp2_with (refine wpList_load_row (by rfl) 55 _ (by rfl) w.heap.size (by rfl) [.int .i64 r, .string b, .bool e, .bool k, .int .i64 r2, .string b2, .bool e2, .bool k2, .int .i64 wt, .int .i64 cm] _ 55 RX Tryz.underlying55 rfl (by kernel_rfl) ?_)
    clear hW
    refine (lanes16 ⟨⟨r, b, e, k⟩, ⟨r2, b2, e2, k2⟩, wt, cm⟩ _).mono ?_; rintro x w1 ⟨rfl, hb⟩
    replace RX := RX.new hb
    replace RY := RY.new hb
    replace HB := bchain HB hb
    clear hb
    dsimp only [lnv]
    go_upto_region 2 with (refine wpList_store_row (by rfl) 202 _ _ (by rfl) w1.heap.size [.int .i64 r, .string b, .bool e, .bool k, .int .i64 wt, .int .i64 r2, .string b2, .bool e2, .bool k2, .int .i64 cm] (by rfl) (by rfl) 202 [.int .i64 0, .string ⟨#[]⟩, .bool false, .bool false, .int .i64 0, .int .i64 0, .string ⟨#[]⟩, .bool false, .bool false, .int .i64 0] (rowIs_new w1 202 [.int .i64 0, .string ⟨#[]⟩, .bool false, .bool false, .int .i64 0, .int .i64 0, .string ⟨#[]⟩, .bool false, .bool false, .int .i64 0]) (by kernel_rfl) rfl (by intro u hu; simp at hu; rcases hu with rfl | rfl | rfl | rfl | rfl | rfl | rfl | rfl | rfl | rfl <;> rfl) ?_)
    have RL : RowIs ((w1.alloc (.cells #[.int .i64 0, .string ⟨#[]⟩, .bool false, .bool false, .int .i64 0, .int .i64 0, .string ⟨#[]⟩, .bool false, .bool false, .int .i64 0] 202)).setRow w1.heap.size #[.int .i64 r, .string b, .bool e, .bool k, .int .i64 wt, .int .i64 r2, .string b2, .bool e2, .bool k2, .int .i64 cm]) w1.heap.size 202 [.int .i64 r, .string b, .bool e, .bool k, .int .i64 wt, .int .i64 r2, .string b2, .bool e2, .bool k2, .int .i64 cm] := rowIs_setRow (cs' := [.int .i64 r, .string b, .bool e, .bool k, .int .i64 wt, .int .i64 r2, .string b2, .bool e2, .bool k2, .int .i64 cm]) (rowIs_new w1 202 [.int .i64 0, .string ⟨#[]⟩, .bool false, .bool false, .int .i64 0, .int .i64 0, .string ⟨#[]⟩, .bool false, .bool false, .int .i64 0])
    have hbV : Below w1.heap.size w1 ((w1.alloc (.cells #[.int .i64 0, .string ⟨#[]⟩, .bool false, .bool false, .int .i64 0, .int .i64 0, .string ⟨#[]⟩, .bool false, .bool false, .int .i64 0] 202)).setRow w1.heap.size #[.int .i64 r, .string b, .bool e, .bool k, .int .i64 wt, .int .i64 r2, .string b2, .bool e2, .bool k2, .int .i64 cm]) := below_setRow ((Below.refl _ _).alloc (Nat.le_refl _) _) (Nat.le_refl _) #[.int .i64 r, .string b, .bool e, .bool k, .int .i64 wt, .int .i64 r2, .string b2, .bool e2, .bool k2, .int .i64 cm]
    have hgl : w.heap.size + 1 < w1.heap.size := RY.lt
    replace RX := RX.new hbV
    replace RY := RY.new hbV
    replace HB := bchain HB hbV
    clear hbV
    generalize hV : (w1.alloc (.cells #[.int .i64 0, .string ⟨#[]⟩, .bool false, .bool false, .int .i64 0, .int .i64 0, .string ⟨#[]⟩, .bool false, .bool false, .int .i64 0] 202)).setRow w1.heap.size #[.int .i64 r, .string b, .bool e, .bool k, .int .i64 wt, .int .i64 r2, .string b2, .bool e2, .bool k2, .int .i64 cm] = V0 at *
    clear hV
    generalize w1.heap.size = gL at *
    go_wp2_with (refine wpList_load_row (by rfl) 202 _ (by rfl) gL (by rfl) [.int .i64 r, .string b, .bool e, .bool k, .int .i64 wt, .int .i64 r2, .string b2, .bool e2, .bool k2, .int .i64 cm] _ 202 RL Tryz.underlying202 rfl (by kernel_rfl) ?_)
    refine (hri _).mono ?_; rintro x w2 ⟨rfl, hb⟩
    replace RX := RX.new hb
    replace RY := RY.new hb
    replace RL := RL.new hb
    replace HB := bchain HB hb
    clear hb
    go_wp2_with (refine wpList_store_row (by rfl) 55 _ _ (by rfl) (w.heap.size + 1) [.int .i64 0, .string ⟨#[]⟩, .bool false, .bool false, .int .i64 0, .string ⟨#[]⟩, .bool false, .bool false, .int .i64 0, .int .i64 0] (by rfl) (by rfl) 55 [.int .i64 0, .string ⟨#[]⟩, .bool false, .bool false, .int .i64 0, .string ⟨#[]⟩, .bool false, .bool false, .int .i64 0, .int .i64 0] RY (by kernel_rfl) rfl (by intro u hu; simp at hu; rcases hu with rfl | rfl | rfl | rfl | rfl | rfl | rfl | rfl | rfl | rfl <;> rfl) ?_)
    have NRX := RX.kept (setRow_other w2 (w.heap.size + 1) #[.int .i64 0, .string ⟨#[]⟩, .bool false, .bool false, .int .i64 0, .string ⟨#[]⟩, .bool false, .bool false, .int .i64 0, .int .i64 0] w.heap.size (by omega))
    have NRY : RowIs (w2.setRow (w.heap.size + 1) #[.int .i64 0, .string ⟨#[]⟩, .bool false, .bool false, .int .i64 0, .string ⟨#[]⟩, .bool false, .bool false, .int .i64 0, .int .i64 0]) (w.heap.size + 1) 55 [.int .i64 0, .string ⟨#[]⟩, .bool false, .bool false, .int .i64 0, .string ⟨#[]⟩, .bool false, .bool false, .int .i64 0, .int .i64 0] := rowIs_setRow (cs' := [.int .i64 0, .string ⟨#[]⟩, .bool false, .bool false, .int .i64 0, .string ⟨#[]⟩, .bool false, .bool false, .int .i64 0, .int .i64 0]) RY
    have NRL := RL.kept (setRow_other w2 (w.heap.size + 1) #[.int .i64 0, .string ⟨#[]⟩, .bool false, .bool false, .int .i64 0, .string ⟨#[]⟩, .bool false, .bool false, .int .i64 0, .int .i64 0] gL (by omega))
    have NHB := below_setRow HB (show w.heap.size ≤ (w.heap.size + 1) by omega) #[.int .i64 0, .string ⟨#[]⟩, .bool false, .bool false, .int .i64 0, .string ⟨#[]⟩, .bool false, .bool false, .int .i64 0, .int .i64 0]
    generalize hV : w2.setRow (w.heap.size + 1) #[.int .i64 0, .string ⟨#[]⟩, .bool false, .bool false, .int .i64 0, .string ⟨#[]⟩, .bool false, .bool false, .int .i64 0, .int .i64 0] = V3 at *
    clear hV
    clear RX
    have RX := NRX
    clear NRX
    clear RY
    have RY := NRY
    clear NRY
    clear RL
    have RL := NRL
    clear NRL
    clear HB
    have HB := NHB
    clear NHB
    have y0 := RowIs.cell (j := 0) RY rfl
    have y1 := RowIs.cell (j := 1) RY rfl
    have y2 := RowIs.cell (j := 2) RY rfl
    have y3 := RowIs.cell (j := 3) RY rfl
    have y4 := RowIs.cell (j := 4) RY rfl
    have y5 := RowIs.cell (j := 5) RY rfl
    have y6 := RowIs.cell (j := 6) RY rfl
    have y7 := RowIs.cell (j := 7) RY rfl
    have y8 := RowIs.cell (j := 8) RY rfl
    have y9 := RowIs.cell (j := 9) RY rfl
    have yf := fun j => RowIs.frozen RY j
    have yl := RY.lt
    refine bodyPost_ret (v := .tuple #[.agg #[.int .i64 0, .string ⟨#[]⟩, .bool false, .bool false, .int .i64 0, .string ⟨#[]⟩, .bool false, .bool false, .int .i64 0, .int .i64 0], .string ⟨#[]⟩]) (by simp [results, Tryz.results75, go_sem, *]) rfl ?_
    exact ⟨rfl, HB⟩
  rw [hk] at hri
  obtain ⟨W, hW⟩ : ∃ W, ((w.alloc (.cells #[.int .i64 r, .string b, .bool e, .bool k, .int .i64 r2, .string b2, .bool e2, .bool k2, .int .i64 wt, .int .i64 cm] 55)).alloc (.cells #[.int .i64 0, .string ⟨#[]⟩, .bool false, .bool false, .int .i64 0, .string ⟨#[]⟩, .bool false, .bool false, .int .i64 0, .int .i64 0] 55)) = W := ⟨_, rfl⟩
  have RX : RowIs W w.heap.size 55 [.int .i64 r, .string b, .bool e, .bool k, .int .i64 r2, .string b2, .bool e2, .bool k2, .int .i64 wt, .int .i64 cm] := by rw [← hW]; exact (rowIs_new w 55 [.int .i64 r, .string b, .bool e, .bool k, .int .i64 r2, .string b2, .bool e2, .bool k2, .int .i64 wt, .int .i64 cm]).alloc _
  have RY : RowIs W (w.heap.size + 1) 55 [.int .i64 0, .string ⟨#[]⟩, .bool false, .bool false, .int .i64 0, .string ⟨#[]⟩, .bool false, .bool false, .int .i64 0, .int .i64 0] := by have := rowIs_new (w.alloc (.cells #[.int .i64 r, .string b, .bool e, .bool k, .int .i64 r2, .string b2, .bool e2, .bool k2, .int .i64 wt, .int .i64 cm] 55)) 55 [.int .i64 0, .string ⟨#[]⟩, .bool false, .bool false, .int .i64 0, .string ⟨#[]⟩, .bool false, .bool false, .int .i64 0, .int .i64 0]; rw [hW] at this; simpa using this
  have HB : Below w.heap.size w W := by rw [← hW]; exact (((Below.refl _ _).alloc (Nat.le_refl _) _).alloc (by simp) _)
  obtain ⟨sz1, sz2⟩ := outTu_size ⟨⟨r, b, e, k⟩, ⟨r2, b2, e2, k2⟩, wt, cm⟩ n hk
  have hpt := fun (g : Nat) (u : World) (R : RowIs u g 202 (lncs ⟨⟨r, b, e, k⟩, ⟨r2, b2, e2, k2⟩, wt, cm⟩)) => letOut16 ⟨⟨r, b, e, k⟩, ⟨r2, b2, e2, k2⟩, wt, cm⟩ n g u hk R
  obtain ⟨⟨⟨⟨ar, ab, ae, ak⟩, ⟨ar2, ab2, ae2, ak2⟩, awt, acm⟩, z⟩, hv⟩ : ∃ v, outTu ⟨⟨r, b, e, k⟩, ⟨r2, b2, e2, k2⟩, wt, cm⟩ n = v := ⟨_, rfl⟩
  rw [hv] at sz1 sz2 hpt
  rw [hv]
  clear hv
  dsimp only [lncs] at *
  go_enter Tryz.func75, Tryz.ntmps75
  go_wp2_with (refine wpList_load_row (by rfl) 55 _ (by rfl) w.heap.size (by rfl) [.int .i64 r, .string b, .bool e, .bool k, .int .i64 r2, .string b2, .bool e2, .bool k2, .int .i64 wt, .int .i64 cm] _ 55 RX Tryz.underlying55 rfl (by kernel_rfl) ?_)
  clear hW
  refine (lanes16 ⟨⟨r, b, e, k⟩, ⟨r2, b2, e2, k2⟩, wt, cm⟩ _).mono ?_; rintro x w1 ⟨rfl, hb⟩
  replace RX := RX.new hb
  replace RY := RY.new hb
  replace HB := bchain HB hb
  clear hb
  dsimp only [lnv]
  go_upto_region 2 with (refine wpList_store_row (by rfl) 202 _ _ (by rfl) w1.heap.size [.int .i64 r, .string b, .bool e, .bool k, .int .i64 wt, .int .i64 r2, .string b2, .bool e2, .bool k2, .int .i64 cm] (by rfl) (by rfl) 202 [.int .i64 0, .string ⟨#[]⟩, .bool false, .bool false, .int .i64 0, .int .i64 0, .string ⟨#[]⟩, .bool false, .bool false, .int .i64 0] (rowIs_new w1 202 [.int .i64 0, .string ⟨#[]⟩, .bool false, .bool false, .int .i64 0, .int .i64 0, .string ⟨#[]⟩, .bool false, .bool false, .int .i64 0]) (by kernel_rfl) rfl (by intro u hu; simp at hu; rcases hu with rfl | rfl | rfl | rfl | rfl | rfl | rfl | rfl | rfl | rfl <;> rfl) ?_)
  have RL : RowIs ((w1.alloc (.cells #[.int .i64 0, .string ⟨#[]⟩, .bool false, .bool false, .int .i64 0, .int .i64 0, .string ⟨#[]⟩, .bool false, .bool false, .int .i64 0] 202)).setRow w1.heap.size #[.int .i64 r, .string b, .bool e, .bool k, .int .i64 wt, .int .i64 r2, .string b2, .bool e2, .bool k2, .int .i64 cm]) w1.heap.size 202 [.int .i64 r, .string b, .bool e, .bool k, .int .i64 wt, .int .i64 r2, .string b2, .bool e2, .bool k2, .int .i64 cm] := rowIs_setRow (cs' := [.int .i64 r, .string b, .bool e, .bool k, .int .i64 wt, .int .i64 r2, .string b2, .bool e2, .bool k2, .int .i64 cm]) (rowIs_new w1 202 [.int .i64 0, .string ⟨#[]⟩, .bool false, .bool false, .int .i64 0, .int .i64 0, .string ⟨#[]⟩, .bool false, .bool false, .int .i64 0])
  have hbV : Below w1.heap.size w1 ((w1.alloc (.cells #[.int .i64 0, .string ⟨#[]⟩, .bool false, .bool false, .int .i64 0, .int .i64 0, .string ⟨#[]⟩, .bool false, .bool false, .int .i64 0] 202)).setRow w1.heap.size #[.int .i64 r, .string b, .bool e, .bool k, .int .i64 wt, .int .i64 r2, .string b2, .bool e2, .bool k2, .int .i64 cm]) := below_setRow ((Below.refl _ _).alloc (Nat.le_refl _) _) (Nat.le_refl _) #[.int .i64 r, .string b, .bool e, .bool k, .int .i64 wt, .int .i64 r2, .string b2, .bool e2, .bool k2, .int .i64 cm]
  have hgl : w.heap.size + 1 < w1.heap.size := RY.lt
  replace RX := RX.new hbV
  replace RY := RY.new hbV
  replace HB := bchain HB hbV
  clear hbV
  generalize hV : (w1.alloc (.cells #[.int .i64 0, .string ⟨#[]⟩, .bool false, .bool false, .int .i64 0, .int .i64 0, .string ⟨#[]⟩, .bool false, .bool false, .int .i64 0] 202)).setRow w1.heap.size #[.int .i64 r, .string b, .bool e, .bool k, .int .i64 wt, .int .i64 r2, .string b2, .bool e2, .bool k2, .int .i64 cm] = V0 at *
  clear hV
  generalize w1.heap.size = gL at *
  go_wp2_with (refine wpList_load_row (by rfl) 202 _ (by rfl) gL (by rfl) [.int .i64 r, .string b, .bool e, .bool k, .int .i64 wt, .int .i64 r2, .string b2, .bool e2, .bool k2, .int .i64 cm] _ 202 RL Tryz.underlying202 rfl (by kernel_rfl) ?_)
  refine (hri _).mono ?_; rintro x w2 ⟨rfl, hb⟩
  replace RX := RX.new hb
  replace RY := RY.new hb
  replace RL := RL.new hb
  replace HB := bchain HB hb
  clear hb
  go_wp2_with fail
  refine (hpt _ _ RL).mono ?_; rintro x w7 ⟨rfl, hr, ht⟩
  replace RX := RX.kept (ht.block _ RX.lt (by omega))
  replace RY := RY.kept (ht.block _ RY.lt (by omega))
  replace HB := HB.trans (ht.below (show w.heap.size ≤ gL by omega) HB.size)
  clear RL ht hpt
  have RL := hr
  clear hr
  go_wp2_with (refine wpList_load_row (by rfl) 202 _ (by rfl) gL (by rfl) [.int .i64 ar, .string ab, .bool ae, .bool ak, .int .i64 awt, .int .i64 ar2, .string ab2, .bool ae2, .bool ak2, .int .i64 acm] _ 202 RL Tryz.underlying202 rfl (by kernel_rfl) ?_)
  refine (lanesTunnel16 ⟨⟨ar, ab, ae, ak⟩, ⟨ar2, ab2, ae2, ak2⟩, awt, acm⟩ _ (by show ab.size ≤ _; omega) (by show ab2.size ≤ _; omega)).mono ?_; rintro x w3 ⟨rfl, hb⟩
  replace RX := RX.new hb
  replace RY := RY.new hb
  replace RL := RL.new hb
  replace HB := bchain HB hb
  clear hb
  dsimp only [tuv]
  go_wp2_with (refine wpList_store_row (by rfl) 55 _ _ (by rfl) (w.heap.size + 1) [.int .i64 ar, .string ab, .bool ae, .bool ak, .int .i64 ar2, .string ab2, .bool ae2, .bool ak2, .int .i64 awt, .int .i64 acm] (by rfl) (by rfl) 55 [.int .i64 0, .string ⟨#[]⟩, .bool false, .bool false, .int .i64 0, .string ⟨#[]⟩, .bool false, .bool false, .int .i64 0, .int .i64 0] RY (by kernel_rfl) rfl (by intro u hu; simp at hu; rcases hu with rfl | rfl | rfl | rfl | rfl | rfl | rfl | rfl | rfl | rfl <;> rfl) ?_)
  have NRX := RX.kept (setRow_other w3 (w.heap.size + 1) #[.int .i64 ar, .string ab, .bool ae, .bool ak, .int .i64 ar2, .string ab2, .bool ae2, .bool ak2, .int .i64 awt, .int .i64 acm] w.heap.size (by omega))
  have NRY : RowIs (w3.setRow (w.heap.size + 1) #[.int .i64 ar, .string ab, .bool ae, .bool ak, .int .i64 ar2, .string ab2, .bool ae2, .bool ak2, .int .i64 awt, .int .i64 acm]) (w.heap.size + 1) 55 [.int .i64 ar, .string ab, .bool ae, .bool ak, .int .i64 ar2, .string ab2, .bool ae2, .bool ak2, .int .i64 awt, .int .i64 acm] := rowIs_setRow (cs' := [.int .i64 ar, .string ab, .bool ae, .bool ak, .int .i64 ar2, .string ab2, .bool ae2, .bool ak2, .int .i64 awt, .int .i64 acm]) RY
  have NRL := RL.kept (setRow_other w3 (w.heap.size + 1) #[.int .i64 ar, .string ab, .bool ae, .bool ak, .int .i64 ar2, .string ab2, .bool ae2, .bool ak2, .int .i64 awt, .int .i64 acm] gL (by omega))
  have NHB := below_setRow HB (show w.heap.size ≤ (w.heap.size + 1) by omega) #[.int .i64 ar, .string ab, .bool ae, .bool ak, .int .i64 ar2, .string ab2, .bool ae2, .bool ak2, .int .i64 awt, .int .i64 acm]
  generalize hV : w3.setRow (w.heap.size + 1) #[.int .i64 ar, .string ab, .bool ae, .bool ak, .int .i64 ar2, .string ab2, .bool ae2, .bool ak2, .int .i64 awt, .int .i64 acm] = V4 at *
  clear hV
  clear RX
  have RX := NRX
  clear NRX
  clear RY
  have RY := NRY
  clear NRY
  clear RL
  have RL := NRL
  clear NRL
  clear HB
  have HB := NHB
  clear NHB
  have y0 := RowIs.cell (j := 0) RY rfl
  have y1 := RowIs.cell (j := 1) RY rfl
  have y2 := RowIs.cell (j := 2) RY rfl
  have y3 := RowIs.cell (j := 3) RY rfl
  have y4 := RowIs.cell (j := 4) RY rfl
  have y5 := RowIs.cell (j := 5) RY rfl
  have y6 := RowIs.cell (j := 6) RY rfl
  have y7 := RowIs.cell (j := 7) RY rfl
  have y8 := RowIs.cell (j := 8) RY rfl
  have y9 := RowIs.cell (j := 9) RY rfl
  have yf := fun j => RowIs.frozen RY j
  have yl := RY.lt
  refine bodyPost_ret (v := .tuple #[.agg #[.int .i64 ar, .string ab, .bool ae, .bool ak, .int .i64 ar2, .string ab2, .bool ae2, .bool ak2, .int .i64 awt, .int .i64 acm], .string z]) (by simp [results, Tryz.results75, go_sem, *]) rfl ?_
  exact ⟨rfl, HB⟩
end Go.Proofs.YtfmeinkhdgbgjaaGreat
