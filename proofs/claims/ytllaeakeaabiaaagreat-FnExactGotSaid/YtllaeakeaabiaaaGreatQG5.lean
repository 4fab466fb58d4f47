/- Several small texts of one level, one behind the other. -/
import Derived.Test.YtllaeakeaabiaaaGreatQG4
import Derived.Test.YtllaeakeaabiaaaGreatQG2
import Derived.Handy
import Derived.Test.YtllaeakeaabiaaaGreatQG3
import Derived.RangeFuncNested
import Derived.RangeFuncBound
import Derived.RangeFuncCalls
import Derived.RangeFuncLeaves
import Derived.Shelf.Abstract
import Derived.Shelf.RegionOpen
import Derived.WalkKit
import Derived.OwnWalkIn
import Derived.TacticsInMore
import Derived.LoopNIn
import Derived.LoopIn
import Derived.Maps.AppendAt
import Derived.RangeFuncBox
import Derived.Lib.SmallJoins
import Derived.Laws.AppendOwn
import Derived.Laws.IdiomStrings
import Derived.Lib.BufferRead
import Derived.OpenShut
import Derived.ChangeOld
import Derived.Deep.Cut
import Derived.Deep.DeepCutAuto
import Derived.Laws.BitsLemmas
import Derived.Deep.WholeRow
import Derived.Laws.StructEq
import Derived.Laws.CopyRow
import Derived.Maps.OwnOps
import Derived.Deep.RegionHeld3
/- Entry in memory: its datum, its make; counted, copied, held against each other, marked, read again (by gen_shape.py). -/
namespace Go.Proofs.YtllaeakeaabiaaaGreat
open Go.RowKit
set_option maxRecDepth 100000
set_option linter.unusedSimpArgs false
set_option linter.unusedVariables false

/-- What a Entry holds. -/
structure EntryD where
  id : Int
  state : Int
def EntryD.cs (d : EntryD) : List Value := [.int .i64 d.id, .int .i64 d.state]
def entryS : Shp EntryD where
  size := 2
  ty := 103
  rd := fun _ cs d => cs = d.cs
  own := fun _ cs d bs => cs = d.cs ∧ bs = []
  pos := by decide
  rd_len := fun h => by subst h; rfl
  rd_one := fun h u hu => by subst h; simp only [EntryD.cs, List.mem_cons, List.not_mem_nil, or_false] at hu; rcases hu with rfl | rfl <;> rfl
  rd_new := fun h _ => h
  own_rd := fun h => h.1
  own_keep := fun h _ _ => h
  own_lt := fun h b hb => by rw [h.2] at hb; cases hb
def szEntryS (L : List EntryD) : Int := L.length
theorem szEntryS_nn (L : List EntryD) : 0 ≤ szEntryS L := by unfold szEntryS; omega
theorem szEntryS_len (L : List EntryD) : (L.length : Int) ≤ szEntryS L := by unfold szEntryS; omega
/-- The marks of one in a row, from k on; how many; and of a row. -/
def mkEntry (d : EntryD) (k : Nat) : EntryD := ⟨((k : Nat) : Int), ((k + 1 : Nat) : Int)⟩
def cntEntry (d : EntryD) : Nat := 1 + 1
def mkEntryS (L : List EntryD) (k : Nat) : List EntryD := mkLs mkEntry cntEntry L k
def cntEntryS (L : List EntryD) : Nat := cntLs cntEntry L
theorem toEntry1 (d : EntryD) (w : World) : Calls Tryz.prog 114 #[.agg #[.int .i64 d.id, .int .i64 d.state]] w fun x w' => x = .returned (.agg #[.int .i64 d.id, .int .i64 d.state]) ∧ Below w.heap.size w w' := by
  go_enter Tryz.func114, Tryz.ntmps114
  go_wp2
  go_returns
  exact ⟨rfl, (by repeat' (first | (with_reducible exact Below.refl _ _) | (with_reducible refine Below.drew ?_) | (with_reducible refine bo_drewN _ ?_) | (with_reducible refine bo_alloc ?_ _) | (refine bchain ?_ (by with_reducible assumption)) | (with_reducible refine Below.setCell ?_ ?_ _) | go_size))⟩
theorem eqEntry1 (d : EntryD) (w : World) : Calls Tryz.prog 138 #[.agg #[.int .i64 d.id, .int .i64 d.state], .agg #[.int .i64 d.id, .int .i64 d.state]] w fun x w' => x = .returned (.bool true) ∧ Below w.heap.size w w' := by
  go_enter Tryz.func138, Tryz.ntmps138
  go_wp2
  go_ret
  exact ⟨rfl, (by repeat' (first | (with_reducible exact Below.refl _ _) | (with_reducible refine Below.drew ?_) | (with_reducible refine bo_drewN _ ?_) | (with_reducible refine bo_alloc ?_ _) | (refine bchain ?_ (by with_reducible assumption)) | (with_reducible refine Below.setCell ?_ ?_ _) | go_size))⟩
set_option maxHeartbeats 2000000 in
theorem toEntryS (L : List EntryD) (v : Value) (w : World) (hr : RdR entryS w v L) (hz : szEntryS L ≤ 1048576) :
    Calls Tryz.prog 66 #[v] w fun x w' => ∃ v', x = .returned v' ∧ OwX entryS w' w.heap.size w'.heap.size v' L ∧ Below w.heap.size w w' := by
  have hL : L.length ≤ 1048576 := by have := szEntryS_len L; omega
  obtain ⟨M, hM, hmk⟩ := make_row 35 103 (.agg #[.int .i64 0, .int .i64 0]) 2 16 Tryz.underlying35 (by kernel_rfl) rfl (by decide) (by decide) L.length hL
  have hst := filling_start (E := entryS) (owns_made w M 103 2 L.length hM hL)
  obtain ⟨ad, cap, rfl, h1, h2⟩ := hr.form
  have HR := hide hr
  clear hr
  have HZ := hide hz
  clear hz
  go_enter Tryz.func66, Tryz.ntmps66
  go_wp2_with fail
  go_loopw [4] (fun i wr => ∃ (k : Nat), i = .int .i64 k ∧ k ≤ L.length ∧ Hid (Filling entryS w wr L k)) (fun i _ => L.length - (intOf i).toNat)
  case atStart => exact ⟨0, rfl, Nat.zero_le _, hst⟩
  case round =>
    clear hst hmk
    obtain ⟨k, rfl, hk, HFI⟩ := hrel
    by_cases hlt : k < L.length
    · have hb : Below w.heap.size w wr := HFI.out.2.1
      have hrk := (HR.out.new hb).at k hlt
      have hmem : L[k] ∈ L := List.getElem_mem hlt
      obtain ⟨d, hd⟩ : ∃ d, d = L[k] := ⟨_, rfl⟩
      rw [← hd] at hrk hmem
      obtain ⟨b, o, cs, rfl, hbw, hrd, hc⟩ := hrk
      obtain rfl := hrd
      have c0 : wr.cell? ⟨b, o + k * 2, none⟩ = some (.int .i64 d.id) := hc 0 _ rfl
      have c1 : wr.cell? ⟨b, o + k * 2 + 1, none⟩ = some (.int .i64 d.state) := hc 1 _ rfl
      clear hc
      have HD := hide hd
      clear hd hmem
      go_wp2_with fail
      refine (toEntry1 d _).mono ?_; rintro x w1 ⟨rfl, hb1⟩
      have hoe : OwE entryS w1 wr.heap.size w1.heap.size [.int .i64 d.id, .int .i64 d.state] d := ⟨[], ⟨rfl, rfl⟩, by simp, fun b hb => by cases hb⟩
      rw [HD.out] at hoe
      obtain ⟨hcell, hfr, hlw, hfi⟩ := filling_step HFI.out hlt hb1 hoe
      rw [← HD.out] at hfi
      obtain ⟨x0, hx0⟩ : ∃ u, w1.cell? ⟨w.heap.size, k * 2, none⟩ = some u := hcell 0 (by decide)
      obtain ⟨x1, hx1⟩ : ∃ u, w1.cell? ⟨w.heap.size, k * 2 + 1, none⟩ = some u := hcell 1 (by decide)
      have e6 := hfr
      have HF2 := hide hfi
      clear hcell hfr hfi hoe
      go_wp2_with fail
      go_roundw
      case rel => exact ⟨k + 1, by go_num, by omega, HF2.out⟩
      case measure => simp [intOf]; omega
    · obtain rfl : k = L.length := by omega
      obtain ⟨hox, hbx⟩ := filling_end HFI.out
      have HX := hide hox
      clear hox
      go_wp2_with fail
      go_ret
      exact ⟨_, rfl, HX.out, hbx⟩
set_option maxHeartbeats 1000000 in
theorem eqEntryS (L : List EntryD) (v v' : Value) (w : World) (hr0 : RdR entryS w v L) (hr1 : RdR entryS w v' L) :
    Calls Tryz.prog 76 #[v, v'] w fun x w' => x = .returned (.bool true) ∧ Below w.heap.size w w' := by
  obtain ⟨ad, cap, rfl, h1, h2⟩ := hr0.form
  obtain ⟨ad', cap', rfl, h1', h2'⟩ := hr1.form
  have HR := hide hr0; have HR' := hide hr1
  clear hr0 hr1
  go_enter Tryz.func76, Tryz.ntmps76
  go_wp2_with fail
  go_loopw [5] (fun i wr => ∃ (k : Nat), i = .int .i64 k ∧ k ≤ L.length ∧ Below w.heap.size w wr) (fun i _ => L.length - (intOf i).toNat)
  case atStart => exact ⟨0, rfl, Nat.zero_le _, Below.refl _ _⟩
  case round =>
    obtain ⟨k, rfl, hk, hb⟩ := hrel
    by_cases hlt : k < L.length
    · have hrk := (HR.out.new hb).at k hlt
      have hrk' := (HR'.out.new hb).at k hlt
      obtain ⟨d, hd⟩ : ∃ d, d = L[k] := ⟨_, rfl⟩
      rw [← hd] at hrk hrk'
      clear hd
      obtain ⟨b, o, cs, rfl, hb1, hrd, hc⟩ := hrk
      obtain ⟨b', o', cs', rfl, hb2, hrd', hc'⟩ := hrk'
      obtain rfl := hrd
      obtain rfl := hrd'
      have c0 : wr.cell? ⟨b, o + k * 2, none⟩ = some (.int .i64 d.id) := hc 0 _ rfl
      have c1 : wr.cell? ⟨b, o + k * 2 + 1, none⟩ = some (.int .i64 d.state) := hc 1 _ rfl
      have d0 : wr.cell? ⟨b', o' + k * 2, none⟩ = some (.int .i64 d.id) := hc' 0 _ rfl
      have d1 : wr.cell? ⟨b', o' + k * 2 + 1, none⟩ = some (.int .i64 d.state) := hc' 1 _ rfl
      clear hc hc'
      go_wp2_with fail
      have qa0 : ∀ y : Later wr, y.w.cell? ⟨b, o + k * 2, none⟩ = some (.int .i64 d.id) := fun y => (y.b.cell (p := ⟨b, o + k * 2, none⟩) hb1).trans c0
      have qa1 : ∀ y : Later wr, y.w.cell? ⟨b, o + k * 2 + 1, none⟩ = some (.int .i64 d.state) := fun y => (y.b.cell (p := ⟨b, o + k * 2 + 1, none⟩) hb1).trans c1
      have qb0 : ∀ y : Later wr, y.w.cell? ⟨b', o' + k * 2, none⟩ = some (.int .i64 d.id) := fun y => (y.b.cell (p := ⟨b', o' + k * 2, none⟩) hb2).trans d0
      have qb1 : ∀ y : Later wr, y.w.cell? ⟨b', o' + k * 2 + 1, none⟩ = some (.int .i64 d.state) := fun y => (y.b.cell (p := ⟨b', o' + k * 2 + 1, none⟩) hb2).trans d1
      clear c0 c1 d0 d1
      have hne : Nonempty (Later wr) := ⟨⟨wr, Below.refl _ _⟩⟩; refine region_later (by kernel_rfl) (by kernel_rfl) ?_
      repeat (go_big_quiet_step (fail))
      go_big_quiet_want; go_big_quiet_op
      refine ⟨.bool true, fun y => later_calls (x := y) (eqEntry1 d y.w), ?_⟩
      go_big_quiet_on
      repeat (go_big_quiet_step (fail))
      refine wpQuiet_nil ?_; intro _ hw'; obtain ⟨y, hw''⟩ := hw'; subst hw''; have hby := y.b
      go_wp2_with fail
      go_roundw
      case rel => exact ⟨k + 1, by go_num, by omega, bchain hb hby⟩
      case measure => simp [intOf]; omega
    · go_wp2_with fail
      go_ret
      exact ⟨rfl, hb⟩
set_option maxHeartbeats 1000000 in
theorem szEntryS1 (L : List EntryD) (v : Value) (left : Int) (w : World) (hr : RdR entryS w v L) (h0 : 0 ≤ left) (h1 : left ≤ 1048576) :
    Calls Tryz.prog 45 #[v, .int .i64 left] w fun x w' => (x = .returned (.int .i64 (-1)) ∨ (x = .returned (.int .i64 (left - szEntryS L)) ∧ 0 ≤ left - szEntryS L)) ∧ Below w.heap.size w w' := by
  obtain ⟨ad, cap, rfl, h2, h3⟩ := hr.form
  have HR := hide hr
  clear hr
  unfold szEntryS
  by_cases h : left - L.length < 0
  · go_enter Tryz.func45, Tryz.ntmps45
    go_wp2
    go_ret
    exact ⟨.inl rfl, Below.refl _ _⟩
  · go_enter Tryz.func45, Tryz.ntmps45
    go_wp2
    go_ret
    exact ⟨.inr ⟨rfl, by omega⟩, Below.refl _ _⟩
set_option maxHeartbeats 2000000 in
theorem markEntryS (L : List EntryD) (k : Nat) (v : Value) (bs : List Nat) (w : World) (ho : OwR entryS w v L bs) (hn : bs.Nodup) (hk1 : k + cntEntryS L ≤ 1000000000) :
    Calls Tryz.prog 79 #[v, .int .i64 k] w fun x w' => x = .returned (.int .i64 ((k + cntEntryS L : Nat) : Int)) ∧ OwR entryS w' v (mkEntryS L k) bs ∧ TurnB bs w w' := by
  obtain ⟨ad, cap, rfl, h1, h2⟩ := ho.rd.form
  unfold cntEntryS mkEntryS at *
  have HO0 : Hid (OwR entryS w (.slice ad L.length cap) (mixLs mkEntry cntEntry L k 0) bs) := by show OwR _ _ _ _ _; rw [mix_zero]; exact ho
  clear ho
  have HN := hide hn
  clear hn
  go_enter Tryz.func79, Tryz.ntmps79
  go_wp2_with fail
  go_loopw [1, 5] (fun kk i wr => ∃ (j : Nat), i = .int .i64 j ∧ kk = .int .i64 ((k + cntLs cntEntry (L.take j) : Nat) : Int) ∧ j ≤ L.length ∧ Hid (OwR entryS wr (.slice ad L.length cap) (mixLs mkEntry cntEntry L k j) bs) ∧ Hid (TurnB bs w wr)) (fun _ i _ => L.length - (intOf i).toNat)
  case atStart => exact ⟨0, rfl, by simp [cntLs], Nat.zero_le _, HO0, TurnB.refl _ _⟩
  case round =>
    clear HO0
    obtain ⟨j, rfl, rfl, hj, HO, HT⟩ := hrel
    by_cases hlt : j < L.length
    · have hct := cnt_take cntEntry L j hlt
      have hcl := cnt_le cntEntry L (j + 1)
      have hst := mix_step mkEntry cntEntry L k j hlt
      have hat := mix_at mkEntry cntEntry L k j hlt (by rw [mix_len _ _ L k j hj]; exact hlt)
      have hml := mix_len mkEntry cntEntry L k j hj
      obtain ⟨d, hd⟩ : ∃ d, d = L[j] := ⟨_, rfl⟩
      rw [← hd] at hct hst hat
      obtain ⟨K, hK⟩ : ∃ K : Nat, K = k + cntLs cntEntry (L.take j) := ⟨_, rfl⟩
      rw [← hK] at hst ⊢
      obtain ⟨M, hM⟩ : ∃ M, M = mixLs mkEntry cntEntry L k j := ⟨_, rfl⟩
      rw [← hM] at hst hml
      have HO1 : Hid (OwR entryS wr (.slice ad L.length cap) M bs) := by show OwR _ _ _ _ _; rw [hM]; exact HO.out
      have HAT : Hid (∀ h : j < M.length, M[j] = d) := fun h => by subst hM; exact hat
      have hKc : K + cntEntry d = k + cntLs cntEntry (L.take (j + 1)) := by omega
      have HKC := hide hKc
      have hKb : K + cntEntry d ≤ 1000000000 := by omega
      unfold cntEntry at hKb
      have HST := hide hst
      have hjM : j < M.length := by omega
      clear hct hcl hst hat hM HO hd hK hKc
      obtain ⟨g1, c1, cs, bb, e1, hgl1, hgm, hgb, hsub, hbn, hown, hcell, hfr, _, hkeep, hsets⟩ := HO1.out.put HN.out j (by simpa using hjM)
      have eq1 : (M)[j]'(by simpa using hjM) = d := HAT.out hjM
      rw [eq1] at hown
      obtain ⟨rfl, hbb⟩ := hown
      simp only [Value.slice.injEq] at e1
      obtain ⟨rfl, -, -⟩ := e1
      have c1_0 : wr.cell? ⟨g1, j * 2, none⟩ = some (.int .i64 d.id) := hcell 0 _ rfl
      have c1_1 : wr.cell? ⟨g1, j * 2 + 1, none⟩ = some (.int .i64 d.state) := hcell 1 _ rfl
      have HO2 : Hid (OwR entryS (setsFrom wr g1 (j * entryS.size + ([] : List Value).length) [.int .i64 ((K : Nat) : Int), .int .i64 ((K + 1 : Nat) : Int)]) _ ((M).set j ⟨((K : Nat) : Int), ((K + 1 : Nat) : Int)⟩) bs) := hsets [] [.int .i64 d.id, .int .i64 d.state] [] [.int .i64 ((K : Nat) : Int), .int .i64 ((K + 1 : Nat) : Int)] ⟨((K : Nat) : Int), ((K + 1 : Nat) : Int)⟩ rfl rfl ⟨rfl, hbb⟩
      have HT2 : Hid (TurnB bs w (setsFrom wr g1 (j * entryS.size + ([] : List Value).length) [.int .i64 ((K : Nat) : Int), .int .i64 ((K + 1 : Nat) : Int)])) := TurnB.setsFrom g1 hgm _ _ _ HT.out
      have f1 := hfr
      clear hcell hfr hkeep hsets hsub hbn hgb hbb eq1
      go_wp2_with fail
      change Hid (OwR entryS ((wr.setCell ⟨g1, j * 2, none⟩ (.int .i64 ((K : Nat) : Int))).setCell ⟨g1, j * 2 + 1, none⟩ (.int .i64 ((K + 1 : Nat) : Int))) _ _ _) at HO2
      change Hid (TurnB bs w ((wr.setCell ⟨g1, j * 2, none⟩ (.int .i64 ((K : Nat) : Int))).setCell ⟨g1, j * 2 + 1, none⟩ (.int .i64 ((K + 1 : Nat) : Int)))) at HT2
      refine ⟨⟨j + 1, ?_, ?_, ?_, ?_, ?_⟩, ?_⟩
      · go_num
      · exact int_eq (by have h1 := HKC.out; have h2 : cntEntry d = 1 + 1 := rfl; omega)
      · omega
      · show OwR _ _ _ _ _
        rw [← HST.out]
        exact HO2.out
      · exact HT2.out
      · simp [intOf]; omega
    · obtain rfl : j = L.length := by omega
      rw [mix_end] at HO
      rw [List.take_length]
      go_wp2_with fail
      go_ret
      exact ⟨rfl, HO.out, HT.out⟩
set_option maxHeartbeats 1000000 in
theorem heldEntryS (L : List EntryD) (k : Nat) (v : Value) (w : World) (hr : RdR entryS w v (mkEntryS L k)) (hk1 : k + cntEntryS L ≤ 1000000000) :
    Calls Tryz.prog 81 #[v, .int .i64 k] w fun x w' => x = .returned (.int .i64 ((k + cntEntryS L : Nat) : Int)) ∧ Below w.heap.size w w' := by
  obtain ⟨ad, cap, rfl, h1, h2⟩ := hr.form
  unfold cntEntryS mkEntryS at *
  rw [mk_len'] at h1 ⊢
  have HR := hide hr
  clear hr
  go_enter Tryz.func81, Tryz.ntmps81
  go_wp2_with fail
  go_loopw [1, 5] (fun kk i wr => ∃ (j : Nat), i = .int .i64 j ∧ kk = .int .i64 ((k + cntLs cntEntry (L.take j) : Nat) : Int) ∧ j ≤ L.length ∧ Below w.heap.size w wr) (fun _ i _ => L.length - (intOf i).toNat)
  case atStart => exact ⟨0, rfl, by simp [cntLs], Nat.zero_le _, Below.refl _ _⟩
  case round =>
    obtain ⟨j, rfl, rfl, hj, hb⟩ := hrel
    by_cases hlt : j < L.length
    · have hct := cnt_take cntEntry L j hlt
      have hcl := cnt_le cntEntry L (j + 1)
      have hrk := (HR.out.new hb).at j (by rw [mk_len']; exact hlt)
      rw [mk_at _ _ L k j hlt] at hrk
      obtain ⟨d, hd⟩ : ∃ d, d = L[j] := ⟨_, rfl⟩
      rw [← hd] at hct hrk
      obtain ⟨K, hK⟩ : ∃ K : Nat, K = k + cntLs cntEntry (L.take j) := ⟨_, rfl⟩
      rw [← hK] at hrk ⊢
      have hKc : K + cntEntry d = k + cntLs cntEntry (L.take (j + 1)) := by omega
      have HKC := hide hKc
      have hKb : K + cntEntry d ≤ 1000000000 := by omega
      unfold cntEntry at hKb
      clear hct hcl hd hK hKc
      obtain ⟨b, o, cs, rfl, hb1, hrd, hc⟩ := hrk
      obtain rfl := hrd
      have c0 : wr.cell? ⟨b, o + j * 2, none⟩ = some (.int .i64 ((K : Nat) : Int)) := hc 0 _ rfl
      have c1 : wr.cell? ⟨b, o + j * 2 + 1, none⟩ = some (.int .i64 ((K + 1 : Nat) : Int)) := hc 1 _ rfl
      clear hc
      go_wp2_with fail
      go_roundw
      case rel => exact ⟨j + 1, by go_num, int_eq (by have h1 := HKC.out; have h2 : cntEntry d = 1 + 1 := rfl; omega), by omega, hb⟩
      case measure => simp [intOf]; omega
    · obtain rfl : j = L.length := by omega
      rw [List.take_length]
      go_wp2_with fail
      go_ret
      exact ⟨rfl, hb⟩
open Go.ChangeShapes Go.WideShapes Go.ChangeAt Go.Joins in
theorem open_cellsEntry {H : Type} {enc : TypeId × Value → H} {W : World} {base : Nat} {spare : Nat → Bool} {held : Bool} {fuel : Nat} {cs : List Value} {x : DataW H × List MemPlace} (h : DataW.trod enc Tryz.prog W base spare held fuel 164 cs = some x) : ∃ d : EntryD, entryS.rd W cs d := by
  obtain ⟨c0, c1, y0, y1, n, rfl, h0, h1⟩ := scells2 Tryz.underlying164 (by kernel_rfl) (by kernel_rfl) h
  obtain ⟨i0, e0, _⟩ := DataW.trod_int Tryz.underlying2 h0
  simp only [List.cons.injEq, and_true] at e0
  subst e0
  obtain ⟨i1, e1, _⟩ := DataW.trod_int Tryz.underlying2 h1
  simp only [List.cons.injEq, and_true] at e1
  subst e1
  exact ⟨⟨i0, i1⟩, rfl⟩
end Go.Proofs.YtllaeakeaabiaaaGreat
/- A text that is bent: the walk. -/
namespace Go.Proofs.YtllaeakeaabiaaaGreat
open Go.RowKit
set_option maxRecDepth 100000
set_option linter.unusedSimpArgs false
set_option linter.unusedVariables false
attribute [local go_sem ↓] Go.wp_at_zero Go.wp_at_succ

theorem moves_bytes {g : Nat} {w a : World} (h : Moves g w a) (s : ByteArray) : Moves g w (Lib.bytesWorld a 5 s) :=
  h.trans ⟨rfl, rfl, rfl, by rw [Lib.bytesWorld_size]; omega, fun k hk _ => Lib.bytesWorld_at_old a 5 s k hk⟩

theorem BR.set {w : World} {base n cap blk : Nat} (h : BR w base (some ⟨blk, 0, none⟩) n cap) (k : Nat) (u : Value) (hu : ByteVal u) : BR (w.setCell ⟨blk, k, none⟩ u) base (some ⟨blk, 0, none⟩) n cap := by
  obtain ⟨h1, h2, h3⟩ := h
  refine ⟨h1, h2, fun hn => ?_⟩
  obtain ⟨b', e, hb, hl, hc⟩ := h3 hn
  simp only [Option.some.injEq, Addr.mk.injEq, and_true] at e
  subst e
  refine ⟨blk, rfl, hb, by simpa using hl, fun j hj => ?_⟩
  obtain ⟨⟨v, hv, hcv⟩, hf⟩ := hc j hj
  refine ⟨?_, by rw [World.frozen?_setCell]; exact hf⟩
  by_cases hjk : k = j
  · subst hjk
    exact ⟨u, hu, World.cell?_setCell_same' _ _ _ (by rw [hcv]; rfl)⟩
  · refine ⟨v, hv, ?_⟩
    exact (World.cell?_setCell_other _ ⟨blk, k, none⟩ ⟨blk, j, none⟩ _ (by simp [hjk])).trans hcv

theorem owns_ad {w : World} {base : Nat} {e : TypeId} {size n cap : Nat} {ad : Option Addr} {xs : List Value} (h : w.ownsRow base e size (.slice ad n cap) n xs) : ad = none ∨ ∃ b o, ad = some ⟨b, o, none⟩ := by
  rcases h.2 with ⟨h2, _⟩ | ⟨g, cap', cur, e1, _⟩
  · simp only [Value.slice.injEq] at h2; exact .inl h2.1
  · simp only [Value.slice.injEq] at e1; exact .inr ⟨g, 0, e1.1⟩

end Go.Proofs.YtllaeakeaabiaaaGreat
/- Plain mathematics of chapter 3: a number that is read from bytes, as the model reads it and by the parts that the program's iterator gives. -/
namespace Go.Proofs.YtllaeakeaabiaaaGreat
open Go.RowKit
set_option maxRecDepth 100000
set_option linter.unusedVariables false

/-- The place of byte i is p. -/
def Plc (i : Nat) (p : Int) : Prop := (i = 1 ∧ p = 1) ∨ (i = 2 ∧ p = 128) ∨ (i = 3 ∧ p = 16384) ∨ (i = 4 ∧ p = 2097152) ∨ (i = 5 ∧ p = 268435456) ∨ (i = 6 ∧ p = 34359738368)
theorem Plc.next {i : Nat} {p : Int} (h : Plc i p) (hi : i ≤ 5) : Plc (i + 1) (p * 128) := by unfold Plc at *; omega
theorem Plc.lo {i : Nat} {p : Int} (h : Plc i p) : 1 ≤ i ∧ i ≤ 6 ∧ 1 ≤ p ∧ p ≤ 34359738368 ∧ (i ≤ 5 ↔ p ≤ 268435456) := by unfold Plc at *; omega

/-- As the model reads it: k bytes at most, n so far, the place p, byte i. -/
def rdF : Nat → Int → Int → Nat → List Int → Int × Int
  | 0, _, _, _, _ => (-1, 0)
  | _ + 1, _, _, _, [] => (-1, 0)
  | k + 1, n, p, i, c :: cs => if c < 128 then (if 268435456 < n + c % 128 * p ∨ (1 < i ∧ c = 0) then (-1, 0) else (n + c % 128 * p, (i : Int) + 1)) else rdF k (n + c % 128 * p) (p * 128) (i + 1) cs
/-- What ReadPrefixed answers. -/
def rdV (s : ByteArray) (b : Int) : Int × Int :=
  if h : 0 < s.size then if inB b 1 8 = true then (if (s[0].toNat : Int) % pw b < pw b - 1 then ((s[0].toNat : Int) % pw b, 1) else rdF 5 ((s[0].toNat : Int) % pw b) 1 1 ((bys s).drop 1)) else (-1, 0) else (-1, 0)
theorem rdV_empty {s : ByteArray} {b : Int} (h : s.size = 0) : rdV s b = (-1, 0) := by simp [rdV, h]
theorem rdV_bits {s : ByteArray} {b : Int} (h : inB b 1 8 = false) : rdV s b = (-1, 0) := by unfold rdV; split <;> simp [h]
theorem rdV_small {s : ByteArray} {b : Int} (h : 0 < s.size) (hb : inB b 1 8 = true) (hx : (s[0].toNat : Int) % pw b < pw b - 1) : rdV s b = ((s[0].toNat : Int) % pw b, 1) := by simp [rdV, h, hb, hx]
theorem rdV_more {s : ByteArray} {b : Int} (h : 0 < s.size) (hb : inB b 1 8 = true) (hx : ¬ (s[0].toNat : Int) % pw b < pw b - 1) : rdV s b = rdF 5 ((s[0].toNat : Int) % pw b) 1 1 ((bys s).drop 1) := by
  simp only [rdV, dif_pos h, if_pos hb, if_neg hx]

/-- The parts that the program's iterator gives. -/
def ptF : Nat → Int → List Int → List (Int × Bool)
  | 0, _, _ => []
  | _ + 1, _, [] => []
  | k + 1, p, c :: cs => if c < 128 then [(c % 128 * p, true)] else (c % 128 * p, false) :: ptF k (p * 128) cs
def ptV (s : ByteArray) (b : Int) : List (Int × Bool) :=
  if h : 0 < s.size then (if (s[0].toNat : Int) % pw b < pw b - 1 then [((s[0].toNat : Int) % pw b, true)] else ((s[0].toNat : Int) % pw b, false) :: ptF 5 1 ((bys s).drop 1)) else []
theorem ptF_nil (k : Nat) (p : Int) : ptF k p [] = [] := by cases k <;> rfl
theorem ptF_last {k : Nat} {p c : Int} {cs : List Int} (h : c < 128) : ptF (k + 1) p (c :: cs) = [(c % 128 * p, true)] := by simp [ptF, h]
theorem ptF_more {k : Nat} {p c : Int} {cs : List Int} (h : 128 ≤ c) : ptF (k + 1) p (c :: cs) = (c % 128 * p, false) :: ptF k (p * 128) cs := by simp only [ptF]; rw [if_neg (by omega)]
theorem ptV_empty {s : ByteArray} {b : Int} (h : s.size = 0) : ptV s b = [] := by simp [ptV, h]
theorem ptV_small {s : ByteArray} {b : Int} (h : 0 < s.size) (hx : (s[0].toNat : Int) % pw b < pw b - 1) : ptV s b = [((s[0].toNat : Int) % pw b, true)] := by simp [ptV, h, hx]
theorem ptV_more {s : ByteArray} {b : Int} (h : 0 < s.size) (hx : ¬ (s[0].toNat : Int) % pw b < pw b - 1) : ptV s b = ((s[0].toNat : Int) % pw b, false) :: ptF 5 1 ((bys s).drop 1) := by
  simp only [ptV, dif_pos h, if_neg hx]
theorem ptF_len (k : Nat) : ∀ (p : Int) (cs : List Int), (ptF k p cs).length ≤ k := by
  induction k with
  | zero => intro p cs; simp [ptF]
  | succ k ih =>
    intro p cs
    cases cs with
    | nil => simp [ptF]
    | cons c cs =>
      simp only [ptF]
      split
      · simp
      · have := ih (p * 128) cs; simp; omega
theorem ptV_len (s : ByteArray) (b : Int) : (ptV s b).length ≤ 6 := by
  unfold ptV
  split
  · split
    · simp
    · have := ptF_len 5 1 ((bys s).drop 1); rw [List.length_cons]; omega
  · simp

def sumP (l : List (Int × Bool)) : Int := (l.map (·.1)).sum
def sumWr (l : List (Int × Bool)) : Int := l.foldl (fun a x => wrap64 (a + x.1)) 0
def lastB (l : List (Int × Bool)) : Bool := l.foldl (fun _ x => x.2) false
theorem sumW_snoc (l : List (Int × Bool)) (x : Int × Bool) : sumWr (l ++ [x]) = wrap64 (sumWr l + x.1) := by simp [sumWr]
theorem lastB_snoc (l : List (Int × Bool)) (x : Int × Bool) : lastB (l ++ [x]) = x.2 := by simp [lastB]
theorem lastB_cons (x y : Int × Bool) (l : List (Int × Bool)) : lastB (x :: y :: l) = lastB (y :: l) := by simp [lastB]

theorem sumW_eq (l : List (Int × Bool)) : ∀ a : Int, 0 ≤ a → a + l.length * 34359738368 ≤ 1000000000000 → (∀ x ∈ l, 0 ≤ x.1 ∧ x.1 ≤ 34359738368) → l.foldl (fun a x => wrap64 (a + x.1)) a = a + sumP l := by
  induction l with
  | nil => intro a _ _ _; simp [sumP]
  | cons x l ih =>
    intro a h0 h1 h2
    have hx := h2 x List.mem_cons_self
    have e : wrap64 (a + x.1) = a + x.1 := by unfold wrap64; simp at h1; omega
    rw [List.foldl_cons, e, ih (a + x.1) (by omega) (by simp at h1; omega) (fun y hy => h2 y (List.mem_cons_of_mem _ hy))]
    simp [sumP]; omega

theorem ptF_range (k : Nat) : ∀ (p : Int) (i : Nat) (cs : List Int), Plc i p → k + i = 6 → (∀ c ∈ cs, 0 ≤ c ∧ c ≤ 255) → ∀ x ∈ ptF k p cs, 0 ≤ x.1 ∧ x.1 ≤ 34359738368 := by
  induction k with
  | zero => intro p i cs _ _ _ x hx; simp [ptF] at hx
  | succ k ih =>
    intro p i cs hp hk hc x hx
    cases cs with
    | nil => simp [ptF] at hx
    | cons c cs =>
      have hcc := hc c List.mem_cons_self
      have hq : 0 ≤ c % 128 * p ∧ c % 128 * p ≤ 34359738368 := by unfold Plc at hp; rcases hp with ⟨_, rfl⟩ | ⟨_, rfl⟩ | ⟨_, rfl⟩ | ⟨_, rfl⟩ | ⟨_, rfl⟩ | ⟨_, rfl⟩ <;> omega
      by_cases h : c < 128
      · rw [ptF_last h] at hx; simp at hx; subst hx; exact hq
      · rw [ptF_more (by omega)] at hx
        rcases List.mem_cons.1 hx with rfl | hx
        · exact hq
        · exact ih (p * 128) (i + 1) cs (hp.next (by omega)) (by omega) (fun y hy => hc y (List.mem_cons_of_mem _ hy)) x hx

theorem ptV_range {s : ByteArray} {b : Int} (h1 : 1 ≤ b) (h8 : b ≤ 8) : ∀ x ∈ ptV s b, 0 ≤ x.1 ∧ x.1 ≤ 34359738368 := by
  have hp := pw_lo h1 h8
  intro x hx
  by_cases h : 0 < s.size
  · have hm := Int.emod_lt_of_pos (s[0].toNat : Int) (show (0 : Int) < pw b by omega)
    have hm0 := Int.emod_nonneg (s[0].toNat : Int) (show pw b ≠ 0 by omega)
    by_cases hs : (s[0].toNat : Int) % pw b < pw b - 1
    · rw [ptV_small h hs] at hx; simp at hx; subst hx; simp only; omega
    · rw [ptV_more h hs] at hx
      rcases List.mem_cons.1 hx with rfl | hx
      · simp only; omega
      · exact ptF_range 5 1 1 _ (.inl ⟨rfl, rfl⟩) rfl (fun c hc => bys_range s c (List.mem_of_mem_drop hc)) x hx
  · rw [ptV_empty (by omega)] at hx; simp at hx
theorem sumW_ptV {s : ByteArray} {b : Int} (h1 : 1 ≤ b) (h8 : b ≤ 8) : sumWr (ptV s b) = sumP (ptV s b) := by
  have hl := ptV_len s b
  have := sumW_eq (ptV s b) 0 (by omega) (by omega) (ptV_range h1 h8)
  unfold sumWr
  omega

/-- What the program makes of the parts. -/
def endR (n took : Int) (ended : Bool) (b : Int) : Int × Int := if ended = true ∧ wdV n b = took then (n, took) else (-1, 0)

def len4 (r : Int) : Int := if r < 128 then 1 else if r < 16384 then 2 else if r < 2097152 then 3 else if r < 268435456 then 4 else 5
theorem restF_len4 (r : Int) (h : 0 ≤ r) : ((restF 4 r).length : Int) = len4 r := by
  unfold len4
  by_cases h1 : r < 128
  · rw [restF_small h1]; simp [h1]
  rw [if_neg h1, restF_big (by omega)]
  by_cases h2 : r < 16384
  · rw [restF_small (by omega)]; simp [h2]
  rw [if_neg h2, restF_big (by omega)]
  by_cases h3 : r < 2097152
  · rw [restF_small (by omega)]; simp [h3]
  rw [if_neg h3, restF_big (by omega)]
  by_cases h4 : r < 268435456
  · rw [restF_small (by omega)]; simp [h4]
  rw [if_neg h4, restF_big (by omega)]
  simp [restF]
theorem wdV_len4 {n b : Int} (h1 : 1 ≤ b) (h8 : b ≤ 8) (hn : pw b - 1 ≤ n) : wdV n b = if n ≤ 268435456 then 1 + len4 (n - (pw b - 1)) else 0 := by
  have hp := pw_lo h1 h8
  by_cases hm : n ≤ 268435456
  · have hok : okN n b = true := decide_eq_true ⟨by omega, hm, h1, h8⟩
    rw [wdV_yes hok, if_pos hm]
    unfold bytesOf
    rw [if_neg (by omega), List.length_cons]
    have := restF_len4 (n - (pw b - 1)) (by omega)
    omega
  · rw [if_neg hm]
    exact wdV_no (decide_eq_false (by omega))

theorem endR_ptF {b : Int} (h1 : 1 ≤ b) (h8 : b ≤ 8) (k : Nat) : ∀ (n p : Int) (i : Nat) (cs : List Int), Plc i p → k + i = 6 → pw b - 1 ≤ n → n < pw b - 1 + p → (∀ c ∈ cs, 0 ≤ c ∧ c ≤ 255) →
    endR (n + sumP (ptF k p cs)) ((i : Int) + (ptF k p cs).length) (lastB (ptF k p cs)) b = rdF k n p i cs := by
  induction k with
  | zero => intro n p i cs _ _ _ _ _; simp [ptF, rdF, endR, lastB]
  | succ k ih =>
    intro n p i cs hp hk hn0 hn1 hc
    cases cs with
    | nil => simp [ptF, rdF, endR, lastB]
    | cons c cs =>
      have hcc := hc c List.mem_cons_self
      by_cases h : c < 128
      · rw [ptF_last h]
        simp only [rdF, if_pos h]
        have hq : pw b - 1 ≤ n + c % 128 * p := by unfold Plc at hp; rcases hp with ⟨_, rfl⟩ | ⟨_, rfl⟩ | ⟨_, rfl⟩ | ⟨_, rfl⟩ | ⟨_, rfl⟩ | ⟨_, rfl⟩ <;> omega
        have hw := wdV_len4 h1 h8 hq
        have e1 : sumP [(c % 128 * p, true)] = c % 128 * p := by simp [sumP]
        have e2 : lastB [(c % 128 * p, true)] = true := by simp [lastB]
        rw [e1, e2]
        unfold endR
        have key : (true = true ∧ wdV (n + c % 128 * p) b = (i : Int) + ([(c % 128 * p, true)] : List (Int × Bool)).length) ↔ ¬ (268435456 < n + c % 128 * p ∨ (1 < i ∧ c = 0)) := by
          rw [hw]
          simp only [List.length_cons, List.length_nil, true_and, Nat.zero_add]
          unfold len4
          unfold Plc at hp
          rcases hp with ⟨rfl, rfl⟩ | ⟨rfl, rfl⟩ | ⟨rfl, rfl⟩ | ⟨rfl, rfl⟩ | ⟨rfl, rfl⟩ | ⟨rfl, rfl⟩ <;> (repeat' split) <;> omega
        by_cases hr : 268435456 < n + c % 128 * p ∨ (1 < i ∧ c = 0)
        · rw [if_pos hr, if_neg (fun x => (key.1 x) hr)]
        · rw [if_neg hr, if_pos (key.2 hr)]; simp
      · rw [ptF_more (by omega)]
        simp only [rdF, if_neg h]
        have hq : pw b - 1 ≤ n + c % 128 * p ∧ n + c % 128 * p < pw b - 1 + p * 128 := by unfold Plc at hp; rcases hp with ⟨_, rfl⟩ | ⟨_, rfl⟩ | ⟨_, rfl⟩ | ⟨_, rfl⟩ | ⟨_, rfl⟩ | ⟨_, rfl⟩ <;> omega
        rw [← ih (n + c % 128 * p) (p * 128) (i + 1) cs (hp.next (by omega)) (by omega) hq.1 hq.2 (fun y hy => hc y (List.mem_cons_of_mem _ hy))]
        have e1 : n + sumP ((c % 128 * p, false) :: ptF k (p * 128) cs) = n + c % 128 * p + sumP (ptF k (p * 128) cs) := by simp [sumP]; omega
        have e2 : (i : Int) + (((c % 128 * p, false) :: ptF k (p * 128) cs).length : Nat) = ((i + 1 : Nat) : Int) + (ptF k (p * 128) cs).length := by simp; omega
        have e3 : lastB ((c % 128 * p, false) :: ptF k (p * 128) cs) = lastB (ptF k (p * 128) cs) := by
          cases ptF k (p * 128) cs with
          | nil => simp [lastB]
          | cons y l => exact lastB_cons _ _ _
        rw [e1, e2, e3]

theorem endR_ptV {s : ByteArray} {b : Int} (hb : inB b 1 8 = true) : endR (sumWr (ptV s b)) ((ptV s b).length : Int) (lastB (ptV s b)) b = rdV s b := by
  obtain ⟨h1, h8⟩ := inB_true hb
  have hp := pw_lo h1 h8
  rw [sumW_ptV h1 h8]
  by_cases h : 0 < s.size
  · have hm := Int.emod_lt_of_pos (s[0].toNat : Int) (show (0 : Int) < pw b by omega)
    have hm0 := Int.emod_nonneg (s[0].toNat : Int) (show pw b ≠ 0 by omega)
    by_cases hs : (s[0].toNat : Int) % pw b < pw b - 1
    · rw [ptV_small h hs, rdV_small h hb hs]
      have hok : okN ((s[0].toNat : Int) % pw b) b = true := decide_eq_true ⟨hm0, by omega, h1, h8⟩
      have hw : wdV ((s[0].toNat : Int) % pw b) b = 1 := by rw [wdV_yes hok]; simp [bytesOf, hs]
      simp [endR, sumP, lastB, hw]
    · rw [ptV_more h hs, rdV_more h hb hs]
      rw [← endR_ptF h1 h8 5 ((s[0].toNat : Int) % pw b) 1 1 ((bys s).drop 1) (.inl ⟨rfl, rfl⟩) rfl (by omega) (by omega) (fun c hc => bys_range s c (List.mem_of_mem_drop hc))]
      have e3 : lastB (((s[0].toNat : Int) % pw b, false) :: ptF 5 1 ((bys s).drop 1)) = lastB (ptF 5 1 ((bys s).drop 1)) := by
        cases ptF 5 1 ((bys s).drop 1) with
        | nil => simp [lastB]
        | cons y l => exact lastB_cons _ _ _
      rw [e3]
      congr 1
      simp; omega
  · rw [ptV_empty (by omega), rdV_empty (by omega)]
    simp [endR, lastB]

theorem rdV_pos {s : ByteArray} {b : Int} (hb : inB b 1 8 = true) : rdV s b = (-1, 0) ∨ (lastB (ptV s b) = true ∧ wdV (sumWr (ptV s b)) b = ((ptV s b).length : Int) ∧ rdV s b = (sumWr (ptV s b), ((ptV s b).length : Int))) := by
  rw [← endR_ptV hb]
  unfold endR
  by_cases h : lastB (ptV s b) = true ∧ wdV (sumWr (ptV s b)) b = ((ptV s b).length : Int)
  · rw [if_pos h]; exact .inr ⟨h.1, h.2, rfl⟩
  · rw [if_neg h]; exact .inl rfl
end Go.Proofs.YtllaeakeaabiaaaGreat
/- Chapter 3's iterator over a number's bytes: whoever ranges over it gets just these bytes, in their order. -/
namespace Go.Proofs.YtllaeakeaabiaaaGreat
open Go.RowKit Go.Shelf
attribute [local go_sem] Oper.semAt_some
set_option linter.unusedSimpArgs false
set_option linter.unusedVariables false

/-- Two blocks lie as they lay. -/
def Kept2 (a b : Nat) (W W' : World) : Prop := W'.heap[a]? = W.heap[a]? ∧ W'.heap[b]? = W.heap[b]?
theorem kept2_t {a b : Nat} {A B C : World} (h : Kept2 a b A B) (k : Kept2 a b B C) : Kept2 a b A C := ⟨k.1.trans h.1, k.2.trans h.2⟩
theorem kept2_b {a b : Nat} {w : World} (ha : a < w.heap.size) (hb : b < w.heap.size) (W : World) (l : Nat) (o o' : Obj) (hl : w.heap.size ≤ l) (h : W.heap[l]? = some o) (_ : o.isCells = false) (_ : o.isWalk = false) : Kept2 a b W (W.putObj l o') :=
  ⟨World.putObj_heap_other (by omega), World.putObj_heap_other (by omega)⟩
theorem Kept2.boxed1 {a b : Nat} {W W' : World} (h : Kept2 a b W W') {t : TypeId} {v : Value} (hb : Boxed W a t v) : Boxed W' a t v := h.1.trans hb
theorem Kept2.boxed2 {a b : Nat} {W W' : World} (h : Kept2 a b W W') {t : TypeId} {v : Value} (hb : Boxed W b t v) : Boxed W' b t v := h.2.trans hb

set_option maxRecDepth 100000 in
set_option maxHeartbeats 2000000 in
theorem bytes1_in (m : Nat) (hm : 1 ≤ m) (l Bn Bb : Nat) (n b : Int) (hn0 : 0 ≤ n) (hn : n ≤ 268435456) (h1 : 1 ≤ b) (h8 : b ≤ 8) (J Jx : List Int → World → Prop)
    (hY : ∀ pre x W, J pre W → pre.length < (bytesOf n (pw b - 1)).length → YieldAt Fence.wide (m - 1) Tryz.prog l #[.int .u8 x] W fun e W' =>
      (e = .returned (.bool true) ∧ J (pre ++ [x]) W' ∧ Kept2 Bn Bb W W') ∨ (e = .returned (.bool false) ∧ Jx (pre ++ [x]) W'))
    (W : World) (hBn : Boxed W Bn 2 (.int .i64 n)) (hBb : Boxed W Bb 2 (.int .i64 b)) (h0 : J [] W) :
    CallsIn Fence.wide m Tryz.prog 260 #[.func (.yield l) #[] #[], .pointer (some ⟨Bb, 0, none⟩), .pointer (some ⟨Bn, 0, none⟩)] W fun e W' => (∃ v, e = .returned v) ∧
      ((∃ ys, ys = bytesOf n (pw b - 1) ∧ J ys W') ∨ (∃ pre, True ∧ Jx pre W')) := by
  obtain ⟨hp1, hp2⟩ := pw_lo h1 h8
  have cn := hBn.cell
  have cb := hBb.cell
  have hB1 := (bytesOf_len n (pw b - 1)).1
  by_cases hlt : n < pw b - 1
  · have hbo : bytesOf n (pw b - 1) = [n] := by simp [bytesOf, hlt]
    obtain ⟨fn, tmps, assign, body, hy, hR⟩ := hY [] n W h0 hB1
    refine callsIn_of_wp Tryz.func260 rfl trivial ?_ rfl
    simp only [Tryz.ntmps260, List.size_toArray, List.length_cons, List.length_nil, Nat.reduceAdd, Nat.reduceSub, Array.replicate_succ, Array.replicate_zero, List.push_toArray, List.append_toArray, List.nil_append, List.cons_append]
    gi_wp2_with (refine ⟨trivial, ?_⟩; gi_at_call 171; refine (callsIn_wide.2 (implLowest b _ h1 h8)).mono ?_; rintro e w' ⟨rfl, rfl⟩)
    refine hR.mono ?_
    rintro e W3 (⟨rfl, hJ3, hk3⟩ | ⟨rfl, hJx3⟩)
    · gi_wp2
      refine bodyPost_ret (results_none rfl _ _ _) rfl ?_
      exact ⟨⟨_, rfl⟩, .inl ⟨[n], hbo.symm, hJ3⟩⟩
    · gi_wp2
      refine bodyPost_ret (results_none rfl _ _ _) rfl ?_
      exact ⟨⟨_, rfl⟩, .inr ⟨_, trivial, hJx3⟩⟩
  · have hbo : bytesOf n (pw b - 1) = (pw b - 1) :: restF 4 (n - (pw b - 1)) := by simp only [bytesOf]; rw [if_neg hlt]
    obtain ⟨fn, tmps, assign, body, hy, hR⟩ := hY [] (pw b - 1) W h0 hB1
    refine callsIn_of_wp Tryz.func260 rfl trivial ?_ rfl
    simp only [Tryz.ntmps260, List.size_toArray, List.length_cons, List.length_nil, Nat.reduceAdd, Nat.reduceSub, Array.replicate_succ, Array.replicate_zero, List.push_toArray, List.append_toArray, List.nil_append, List.cons_append]
    gi_wp2_with (refine ⟨trivial, ?_⟩; gi_at_call 171; refine (callsIn_wide.2 (implLowest b _ h1 h8)).mono ?_; rintro e w' ⟨rfl, rfl⟩)
    refine hR.mono ?_
    rintro e W3 (⟨rfl, hJ3, hk3⟩ | ⟨rfl, hJx3⟩)
    · have cn3 := (hk3.boxed1 hBn).cell
      gi_wp2
      gi_loopw [5] (fun r wr => ∃ (k : Nat) (z : Int) (pre : List Int), r = .int .i64 z ∧ 0 ≤ z ∧ z < 128 ^ (k + 1) ∧ z ≤ 268435456 ∧ bytesOf n (pw b - 1) = pre ++ restF k z ∧ J pre wr) (fun r _ => (intOf r).toNat)
      case atStart => exact ⟨4, n - (pw b - 1), [pw b - 1], rfl, by omega, by simp; omega, by omega, hbo, hJ3⟩
      case round =>
        obtain ⟨k, z, pre, rfl, hz0, hz1, hz2, hpre, hJs⟩ := hrel
        have hpl : pre.length < (bytesOf n (pw b - 1)).length := by rw [hpre, List.length_append]; have := restF_ne k z; omega
        by_cases hz : z < 128
        · have hbe : bytesOf n (pw b - 1) = pre ++ [z] := by rw [hpre, restF_small hz]
          obtain ⟨fn4, tmps4, assign4, body4, hy4, hR4⟩ := hY pre z wr hJs hpl
          gi_wp2
          refine hR4.mono ?_
          rintro e W4 (⟨rfl, hJ4, hk4⟩ | ⟨rfl, hJx4⟩)
          · gi_wp2
            go_end0
            exact ⟨⟨_, rfl⟩, .inl ⟨_, hbe.symm, hJ4⟩⟩
          · gi_wp2
            go_end0
            exact ⟨⟨_, rfl⟩, .inr ⟨_, trivial, hJx4⟩⟩
        · obtain ⟨k', rfl⟩ : ∃ k', k = k' + 1 := ⟨k - 1, by cases k with | zero => simp at hz1; omega | succ k => rfl⟩
          obtain ⟨fn4, tmps4, assign4, body4, hy4, hR4⟩ := hY pre (z % 128 + 128) wr hJs hpl
          have HB : Hid (bytesOf n (pw b - 1) = (pre ++ [z % 128 + 128]) ++ restF k' (z / 128)) := by show _ = _; rw [hpre, restF_big (by omega)]; simp
          have HZ : Hid (z / 128 < 128 ^ (k' + 1)) := by show _ < _; rw [Int.pow_succ] at hz1; omega
          clear hz1 hpre
          gi_wp2
          refine hR4.mono ?_
          rintro e W4 (⟨rfl, hJ4, hk4⟩ | ⟨rfl, hJx4⟩)
          · gi_wp2
            go_roundw
            case rel => exact ⟨k', z / 128, _, by go_num, by omega, HZ.out, by omega, HB.out, hJ4⟩
            case measure => simp [intOf]; omega
          · gi_wp2
            refine bodyPost_ret (results_none rfl _ _ _) rfl ?_
            exact ⟨⟨_, rfl⟩, .inr ⟨_, trivial, hJx4⟩⟩
    · gi_wp2
      refine bodyPost_ret (results_none rfl _ _ _) rfl ?_
      exact ⟨⟨_, rfl⟩, .inr ⟨_, trivial, hJx3⟩⟩

set_option maxHeartbeats 1000000 in
/-- The closure's maker: both arguments are boxed. -/
theorem prefixBytes_in (m : Nat) (n b : Int) (w : World) :
    CallsIn Fence.wide m Tryz.prog 258 #[.int .i64 n, .int .i64 b] w fun e w' => e = .returned (.func (.func 260) #[] #[.pointer (some ⟨w.heap.size + 1, 0, none⟩), .pointer (some ⟨w.heap.size, 0, none⟩)])
      ∧ w' = (w.alloc (.cells #[.int .i64 n] 2)).alloc (.cells #[.int .i64 b] 2) := by
  refine callsIn_of_wp Tryz.func258 rfl trivial ?_ rfl
  simp only [Tryz.ntmps258, List.size_toArray, List.length_cons, List.length_nil, Nat.reduceAdd, Nat.reduceSub, Array.replicate_succ, Array.replicate_zero, List.push_toArray, List.append_toArray, List.nil_append, List.cons_append]
  gi_wp2
  go_ret
  exact ⟨rfl, rfl⟩

theorem bytes_stops (m : Nat) (hm : 1 ≤ m) (Bn Bb : Nat) (n b : Int) (hn0 : 0 ≤ n) (hn : n ≤ 268435456) (h1 : 1 ≤ b) (h8 : b ≤ 8) (w : World) (hBn : Boxed w Bn 2 (.int .i64 n)) (hBb : Boxed w Bb 2 (.int .i64 b)) :
    SeqStopsK Fence.wide m Tryz.prog 260 #[.pointer (some ⟨Bb, 0, none⟩), .pointer (some ⟨Bn, 0, none⟩)] (fun x : Int => #[Value.int .u8 x]) (Kept2 Bn Bb) (fun ys => ys = bytesOf n (pw b - 1)) (fun _ => True) (bytesOf n (pw b - 1)).length w :=
  fun l J Jx W hW _ _ hY h0 => bytes1_in m hm l Bn Bb n b hn0 hn h1 h8 J Jx hY W ((hW.block Bn hBn.lt).trans hBn) ((hW.block Bb hBb.lt).trans hBb) h0
end Go.Proofs.YtllaeakeaabiaaaGreat
/- Chapter 3's model: the bytes that it writes. -/
namespace Go.Proofs.YtllaeakeaabiaaaGreat
open Go.RowKit
set_option maxRecDepth 100000
set_option linter.unusedSimpArgs false
set_option linter.unusedVariables false

/-- The first of a row with something added. -/
def addHead (h : Int) : List Int → List Int
  | [] => []
  | x :: xs => (h + x) :: xs
theorem addHead_len (h : Int) (l : List Int) : (addHead h l).length = l.length := by cases l <;> rfl

set_option maxHeartbeats 2000000 in
theorem specL3 (n b h : Int) (w : World) (hn0 : 0 ≤ n) (hn : n ≤ 268435456) (h1 : 1 ≤ b) (h8 : b ≤ 8) (hh : 0 ≤ h) (hf : h + (pw b - 1) ≤ 255) :
    Calls Tryz.prog 192 #[.int .i64 n, .int .i64 b, .int .i64 h] w fun e w' => e = .returned (.string (strOf (addHead h (bytesOf n (pw b - 1))))) ∧ Below w.heap.size w w' := by
  obtain ⟨hp1, hp2⟩ := pw_lo h1 h8
  have hpw : (2 : Int) ^ b.toNat = pw b := rfl
  obtain ⟨i0, hi, hz0, hz1, hz2⟩ := info_parts (P := Tryz.prog) (e := 5) (z := .int .u8 0) (size := 1) (bytes := 1) (by kernel_rfl)
  by_cases hlt : n < pw b - 1
  · have hbo : addHead h (bytesOf n (pw b - 1)) = [h + n] := by simp [bytesOf, hlt, addHead]
    rw [hbo]
    have hcv := row_string (l := [h + n]) (ownsRow_one w 5 (Value.int .u8 (h + n))) (by intro x hx; simp at hx; omega)
    go_enter Tryz.func192, Tryz.ntmps192
    go_wp2_with fail
    go_ret
    exact ⟨rfl, (Below.refl _ _).alloc (Nat.le_refl _) _⟩
  · have hbo : addHead h (bytesOf n (pw b - 1)) = (h + (pw b - 1)) :: restF 4 (n - (pw b - 1)) := by simp only [bytesOf]; rw [if_neg hlt]; rfl
    have hle : pw b - 1 ≤ n := by omega
    obtain ⟨L, hL⟩ : ∃ L, addHead h (bytesOf n (pw b - 1)) = L := ⟨_, rfl⟩
    have hLl : L.length ≤ 6 := by rw [← hL, addHead_len]; exact (bytesOf_len n _).2
    rw [hL] at hbo ⊢
    go_enter Tryz.func192, Tryz.ntmps192
    go_wp2_with fail
    go_loopw [0, 8] (fun r v wr => ∃ (k : Nat) (z : Int) (pre : List Int), r = .int .i64 z ∧ 0 ≤ z ∧ z < 128 ^ (k + 1) ∧ z ≤ 268435456 ∧ L = pre ++ restF k z ∧ (∀ x ∈ pre, 0 ≤ x ∧ x ≤ 255) ∧ wr.ownsRow w.heap.size 5 1 v pre.length (pre.map (Value.int .u8)) ∧ Below w.heap.size w wr) (fun r _ _ => (intOf r).toNat)
    case atStart =>
      exact ⟨4, n - (pw b - 1), [h + (pw b - 1)], by go_num, by omega, by simp; omega, by omega, hbo, by intro x hx; simp at hx; omega, ownsRow_one w 5 (Value.int .u8 (h + (pw b - 1))), (Below.refl _ _).alloc (Nat.le_refl _) _⟩
    case round =>
      obtain ⟨k, z, pre, rfl, hz0', hz1', hz2', hpre, hx, hown, hB⟩ := hrel
      have hpl : pre.length + 1 ≤ 6 := by have := restF_ne k z; rw [hpre, List.length_append] at hLl; omega
      have hsz := hB.size
      by_cases hz : z < 128
      · have HL : Hid (L = pre ++ [z]) := by show _ = _; rw [hpre, restF_small hz]
        have hown2 := hown.alloc (.cells #[.int .u8 z] 5)
        clear hz1' hpre hbo hL
        go_wp2_with (at_builtin; refine wpList_append_own _ rfl _ _ 131 rfl w.heap.size 5 i0 (.int .u8 0) 1 1 Tryz.underlying131 hi hz0 hz1 hz2 rfl (by decide) _ _ _ rfl hown2 ⟨wr.heap.size, 0, none⟩ 1 1 [.int .u8 z] rfl rfl ?c1 ?c2 ?c3 ?c4 ?c5 ?_)
        case c1 => exact cell_one_new _ _ _
        case c2 => intro u hu; simp at hu; subst hu; rfl
        case c3 => unfold maxLen; omega
        case c4 => omega
        case c5 => simp; omega
        intro v' w3 hown3 hgrow _
        have hcv := row_string (l := pre ++ [z]) (by simpa using hown3) (by intro x hx2; rcases List.mem_append.1 hx2 with h | h; exact hx x h; simp at h; omega)
        have hB3 : Below w.heap.size w w3 := (hB.alloc hB.size _).grown hgrow (by simp; omega) (fun k hk => (hown2.lt k hk).1)
        go_wp2_with fail
        go_ret
        exact ⟨by rw [HL.out]; rfl, hB3⟩
      · obtain ⟨k', rfl⟩ : ∃ k', k = k' + 1 := ⟨k - 1, by cases k with | zero => simp at hz1'; omega | succ k => rfl⟩
        have HL : Hid (L = (pre ++ [z % 128 + 128]) ++ restF k' (z / 128)) := by show _ = _; rw [hpre, restF_big (by omega)]; simp
        have HZ : Hid (z / 128 < 128 ^ (k' + 1)) := by show _ < _; rw [Int.pow_succ] at hz1'; omega
        have hown2 := hown.alloc (.cells #[.int .u8 (z % 128 + 128)] 5)
        clear hz1' hpre hbo hL
        go_wp2_with (at_builtin; refine wpList_append_own _ rfl _ _ 131 rfl w.heap.size 5 i0 (.int .u8 0) 1 1 Tryz.underlying131 hi hz0 hz1 hz2 rfl (by decide) _ _ _ rfl hown2 ⟨wr.heap.size, 0, none⟩ 1 1 [.int .u8 (z % 128 + 128)] rfl rfl (cell_one_new _ _ _) ?d2 ?d3 ?d4 ?d5 ?_)
        case d2 => first | rfl | (intro u hu; simp at hu; subst hu; rfl)
        case d3 => first | omega | (unfold maxLen; omega)
        case d4 => omega
        case d5 => first | omega | (simp; omega)
        intro v' w3 hown3 hgrow _
        have HX : Hid (∀ x ∈ pre ++ [z % 128 + 128], 0 ≤ x ∧ x ≤ 255) := by show ∀ _ ∈ _, _; intro x hx2; rcases List.mem_append.1 hx2 with h | h; exact hx x h; simp at h; omega
        have hB3 : Below w.heap.size w w3 := (hB.alloc hB.size _).grown hgrow (by simp; omega) (fun k hk => (hown2.lt k hk).1)
        have HO : Hid (w3.ownsRow w.heap.size 5 1 v' (pre ++ [z % 128 + 128]).length ((pre ++ [z % 128 + 128]).map (Value.int .u8))) := by show World.ownsRow _ _ _ _ _ _ _; simpa using hown3
        clear hown3 hown2 hown hx
        go_wp2_with fail
        go_roundw
        case rel => exact ⟨k', z / 128, _, by go_num, by omega, HZ.out, by omega, HL.out, HX.out, HO.out, hB3⟩
        case measure => simp [intOf]; omega

end Go.Proofs.YtllaeakeaabiaaaGreat
/- What a Field weighs, and the rows of a Table: in plain words, of the program and of the model. -/
namespace Go.Proofs.YtllaeakeaabiaaaGreat
open Go.RowKit
set_option maxRecDepth 100000
set_option linter.unusedSimpArgs false
set_option linter.unusedVariables false

/-- Is it right? -/
def okF (f : Fd) : Bool := inB f.n.size 1 40 && decide ((f.v.size : Int) ≤ 60)
/-- What it weighs. -/
def wt (f : Fd) : Int := if okF f then (f.n.size : Int) + f.v.size + 8 else 0
def sumW : List Fd → Int
  | [] => 0
  | f :: L => wt f + sumW L
theorem okF_parts {f : Fd} (h : okF f = true) : (1 : Int) ≤ f.n.size ∧ (f.n.size : Int) ≤ 40 ∧ (f.v.size : Int) ≤ 60 := by
  unfold okF at h
  simp only [Bool.and_eq_true, decide_eq_true_eq] at h
  have := inB_true h.1
  omega
theorem wt_ok {f : Fd} (h : okF f = true) : wt f = f.n.size + f.v.size + 8 := by simp [wt, h]
theorem wt_no {f : Fd} (h : okF f = false) : wt f = 0 := by simp [wt, h]
theorem wt_range (f : Fd) : 0 ≤ wt f ∧ wt f ≤ 108 := by
  cases h : okF f
  · rw [wt_no h]; omega
  · rw [wt_ok h]; have := okF_parts h; omega
theorem wt_pos {f : Fd} (h : okF f = true) : 9 ≤ wt f := by rw [wt_ok h]; have := okF_parts h; omega
theorem wt_zero (f : Fd) : (wt f = 0) ↔ okF f = false := by
  cases h : okF f
  · simp [wt_no h]
  · have := wt_pos h; simp; omega
theorem sumW_range (L : List Fd) : 0 ≤ sumW L ∧ sumW L ≤ 108 * L.length := by
  induction L with
  | nil => simp [sumW]
  | cons f L ih => have := wt_range f; simp only [sumW, List.length_cons]; omega
theorem sumW_app (A B : List Fd) : sumW (A ++ B) = sumW A + sumW B := by
  induction A with
  | nil => simp [sumW]
  | cons f A ih => simp only [List.cons_append, sumW, ih]; omega
theorem sumW_succ (L : List Fd) (k : Nat) (h : k < L.length) : sumW (L.take (k + 1)) = sumW (L.take k) + wt L[k] := by
  rw [List.take_succ_eq_append_getElem h, sumW_app]; simp [sumW]
theorem sumW_ge {L : List Fd} (h : ∀ f ∈ L, okF f = true) : 9 * (L.length : Int) ≤ sumW L := by
  induction L with
  | nil => simp [sumW]
  | cons f L ih => have := wt_pos (h f (by simp)); have := ih fun g hg => h g (by simp [hg]); simp only [sumW, List.length_cons]; omega

/-- Is a Table of this Room and these Rows right? -/
def okT (room : Int) (L : List Fd) : Bool := inB room 0 1000 && (L.all okF && decide (sumW L ≤ room))
theorem okT_parts {room : Int} {L : List Fd} (h : okT room L = true) : 0 ≤ room ∧ room ≤ 1000 ∧ (∀ f ∈ L, okF f = true) ∧ sumW L ≤ room ∧ L.length ≤ 111 := by
  unfold okT at h
  simp only [Bool.and_eq_true, decide_eq_true_eq, List.all_eq_true] at h
  have h1 := inB_true h.1
  have h2 := sumW_ge h.2.1
  exact ⟨h1.1, h1.2, h.2.1, h.2.2, by omega⟩

/-- The last ones go as long as they weigh more than the room. -/
def shrN (room : Int) : Nat → List Fd → List Fd
  | 0, L => L
  | n + 1, L => if room < sumW L then shrN room n L.dropLast else L
def shr (room : Int) (L : List Fd) : List Fd := shrN room L.length L
theorem shr_stop {room : Int} {L : List Fd} (h : ¬ room < sumW L) : shr room L = L := by
  unfold shr
  cases L.length with
  | zero => rfl
  | succ n => simp [shrN, h]
theorem shr_go {room : Int} {L : List Fd} (h : room < sumW L) : shr room L = shr room L.dropLast := by
  unfold shr
  cases hn : L.length with
  | zero =>
    have : L = [] := List.length_eq_zero_iff.1 hn
    subst this
    rfl
  | succ n => rw [shrN, if_pos h, List.length_dropLast, hn]; rfl
theorem shr_mem {room : Int} (n : Nat) : ∀ {L : List Fd}, ∀ f ∈ shrN room n L, f ∈ L := by
  induction n with
  | zero => intro L f hf; exact hf
  | succ n ih =>
    intro L f hf
    rw [shrN] at hf
    split at hf
    · exact (List.dropLast_sublist _).subset (ih f hf)
    · exact hf
theorem shr_all {room : Int} {L : List Fd} (h : ∀ f ∈ L, okF f = true) : ∀ f ∈ shr room L, okF f = true := fun f hf => h f (shr_mem _ f hf)
theorem shr_len {room : Int} (L : List Fd) : (shr room L).length ≤ L.length := by
  have : ∀ n (L : List Fd), (shrN room n L).length ≤ L.length := fun n => by
    induction n with
    | zero => intro L; exact Nat.le_refl _
    | succ n ih =>
      intro L
      rw [shrN]
      split
      · have := ih L.dropLast; rw [List.length_dropLast] at this; omega
      · exact Nat.le_refl _
  exact this _ _

theorem fine_of {f : Fd} (h : okF f = true) : f.fine := by have := okF_parts h; exact ⟨by omega, by omega⟩

theorem implWt (f : Fd) (w : World) (hf : f.fine) : Calls Tryz.prog 226 #[.agg #[.string f.n, .string f.v]] w fun x w' => x = .returned (.int .i64 (wt f)) ∧ Below w.heap.size w w' := by
  obtain ⟨hn, hv⟩ := hf
  cases h : okF f
  · rw [wt_no h]
    unfold okF at h
    cases h1 : inB f.n.size 1 40
    · clear h
      go_enter Tryz.func226, Tryz.ntmps226
      go_wp2_with fail
      go_quiet (fail)
      go_wp2_with fail
      refine (implWithin _ _ _ _).mono ?_; rw [h1]; rintro e w1 ⟨rfl, rfl⟩
      go_wp2_with fail
      go_ret
      exact ⟨rfl, (by repeat' (first | (with_reducible exact Below.refl _ _) | (with_reducible refine Below.drew ?_) | (with_reducible refine bo_drewN _ ?_) | (with_reducible refine bo_alloc ?_ _) | (refine bchain ?_ (by with_reducible assumption)) | (with_reducible refine Below.setCell ?_ ?_ _) | go_size))⟩
    · have h2 : ¬ ((f.v.size : Int) ≤ 60) := by simpa [h1] using h
      clear h
      go_enter Tryz.func226, Tryz.ntmps226
      go_wp2_with fail
      go_quiet (fail)
      go_wp2_with fail
      refine (implWithin _ _ _ _).mono ?_; rw [h1]; rintro e w1 ⟨rfl, rfl⟩
      go_wp2_with fail
      go_ret
      exact ⟨rfl, (by repeat' (first | (with_reducible exact Below.refl _ _) | (with_reducible refine Below.drew ?_) | (with_reducible refine bo_drewN _ ?_) | (with_reducible refine bo_alloc ?_ _) | (refine bchain ?_ (by with_reducible assumption)) | (with_reducible refine Below.setCell ?_ ?_ _) | go_size))⟩
  · rw [wt_ok h]
    obtain ⟨p1, p2, p3⟩ := okF_parts h
    have h1 : inB f.n.size 1 40 = true := by unfold okF at h; simp only [Bool.and_eq_true] at h; exact h.1
    clear h
    go_enter Tryz.func226, Tryz.ntmps226
    go_wp2_with fail
    go_quiet (fail)
    go_wp2_with fail
    refine (implWithin _ _ _ _).mono ?_; rw [h1]; rintro e w1 ⟨rfl, rfl⟩
    go_wp2_with fail
    go_ret
    exact ⟨rfl, (by repeat' (first | (with_reducible exact Below.refl _ _) | (with_reducible refine Below.drew ?_) | (with_reducible refine bo_drewN _ ?_) | (with_reducible refine bo_alloc ?_ _) | (refine bchain ?_ (by with_reducible assumption)) | (with_reducible refine Below.setCell ?_ ?_ _) | go_size))⟩

theorem implRight (f : Fd) (w : World) (hf : f.fine) : Calls Tryz.prog 201 #[.agg #[.string f.n, .string f.v]] w fun x w' => x = .returned (.bool (okF f)) ∧ Below w.heap.size w w' := by
  have hz := wt_zero f
  cases h : okF f
  · have h0 := hz.2 h
    go_enter Tryz.func201, Tryz.ntmps201
    go_wp2_with fail
    refine (implWt f _ hf).mono ?_; rw [h0]; rintro e w1 ⟨rfl, hb1⟩
    go_wp2_with fail
    go_ret
    exact ⟨rfl, (by repeat' (first | (with_reducible exact Below.refl _ _) | (with_reducible refine Below.drew ?_) | (with_reducible refine bo_drewN _ ?_) | (with_reducible refine bo_alloc ?_ _) | (refine bchain ?_ (by with_reducible assumption)) | (with_reducible refine Below.setCell ?_ ?_ _) | go_size))⟩
  · have h0 : ¬ wt f = 0 := fun e => by rw [hz.1 e] at h; cases h
    go_enter Tryz.func201, Tryz.ntmps201
    go_wp2_with fail
    refine (implWt f _ hf).mono ?_; rintro e w1 ⟨rfl, hb1⟩
    generalize wt f = z at *
    clear hz
    go_wp2_with fail
    go_ret
    exact ⟨by simp [h0], (by repeat' (first | (with_reducible exact Below.refl _ _) | (with_reducible refine Below.drew ?_) | (with_reducible refine bo_drewN _ ?_) | (with_reducible refine bo_alloc ?_ _) | (refine bchain ?_ (by with_reducible assumption)) | (with_reducible refine Below.setCell ?_ ?_ _) | go_size))⟩
theorem implRoom (r : Int) (w : World) : Calls Tryz.prog 200 #[.int .i64 r] w fun e w' => e = .returned (.bool (inB r 0 1000)) ∧ w' = w := by
  go_enter Tryz.func200, Tryz.ntmps200
  go_wp2_with (go_at_call 126; refine (implWithin _ _ _ _).mono ?_; rintro e w' ⟨rfl, rfl⟩)
  go_ret
  exact ⟨rfl, rfl⟩
theorem specField (f : Fd) (w : World) (hf : f.fine) : Calls Tryz.prog 96 #[.agg #[.string f.n, .string f.v]] w fun x w' => x = .returned (.bool (okF f)) ∧ Below w.heap.size w w' := by
  obtain ⟨hn, hv⟩ := hf
  unfold okF
  cases h1 : inB f.n.size 1 40
  · go_enter Tryz.func96, Tryz.ntmps96
    go_wp2_with fail
    refine (specIn _ _ _ _).mono ?_; rw [h1]; rintro e w1 ⟨rfl, rfl⟩
    go_wp2_with fail
    go_ret
    exact ⟨rfl, (by repeat' (first | (with_reducible exact Below.refl _ _) | (with_reducible refine Below.drew ?_) | (with_reducible refine bo_drewN _ ?_) | (with_reducible refine bo_alloc ?_ _) | (refine bchain ?_ (by with_reducible assumption)) | (with_reducible refine Below.setCell ?_ ?_ _) | go_size))⟩
  · go_enter Tryz.func96, Tryz.ntmps96
    go_wp2_with fail
    refine (specIn _ _ _ _).mono ?_; rw [h1]; rintro e w1 ⟨rfl, rfl⟩
    go_wp2_with fail
    go_ret
    exact ⟨by simp, (by repeat' (first | (with_reducible exact Below.refl _ _) | (with_reducible refine Below.drew ?_) | (with_reducible refine bo_drewN _ ?_) | (with_reducible refine bo_alloc ?_ _) | (refine bchain ?_ (by with_reducible assumption)) | (with_reducible refine Below.setCell ?_ ?_ _) | go_size))⟩
theorem specWt (f : Fd) (w : World) (hf : f.fine) : Calls Tryz.prog 151 #[.agg #[.string f.n, .string f.v]] w fun x w' => x = .returned (.int .i64 (wt f)) ∧ Below w.heap.size w w' := by
  have hf' := hf
  obtain ⟨hn, hv⟩ := hf'
  cases h : okF f
  · rw [wt_no h]
    go_enter Tryz.func151, Tryz.ntmps151
    go_wp2_with fail
    refine (specField f _ hf).mono ?_; rw [h]; rintro e w1 ⟨rfl, hb1⟩
    go_wp2_with fail
    go_ret
    exact ⟨rfl, (by repeat' (first | (with_reducible exact Below.refl _ _) | (with_reducible refine Below.drew ?_) | (with_reducible refine bo_drewN _ ?_) | (with_reducible refine bo_alloc ?_ _) | (refine bchain ?_ (by with_reducible assumption)) | (with_reducible refine Below.setCell ?_ ?_ _) | go_size))⟩
  · rw [wt_ok h]
    obtain ⟨p1, p2, p3⟩ := okF_parts h
    go_enter Tryz.func151, Tryz.ntmps151
    go_wp2_with fail
    refine (specField f _ hf).mono ?_; rw [h]; rintro e w1 ⟨rfl, hb1⟩; have hc1 := fun o => hb1.cell (p := ⟨w.heap.size, o, none⟩) (by first | (simp; done) | (simp; omega) | omega); have hf1 := fun o => hb1.frozen (p := ⟨w.heap.size, o, none⟩) (by first | (simp; done) | (simp; omega) | omega)
    go_wp2_with fail
    go_ret
    exact ⟨rfl, (by repeat' (first | (with_reducible exact Below.refl _ _) | (with_reducible refine Below.drew ?_) | (with_reducible refine bo_drewN _ ?_) | (with_reducible refine bo_alloc ?_ _) | (refine bchain ?_ (by with_reducible assumption)) | (with_reducible refine Below.setCell ?_ ?_ _) | go_size))⟩
set_option maxHeartbeats 1000000 in
theorem specSum (L : List Fd) (v : Value) (w : World) (hr0 : Reads w v L.length 2 (fv L)) (hf : ∀ f ∈ L, f.fine) (hL : L.length ≤ 201) :
    Calls Tryz.prog 97 #[v] w fun x w' => x = .returned (.int .i64 (sumW L)) ∧ Below w.heap.size w w' := by
  obtain ⟨hl, ad, cap, rfl, h1, h2, h3⟩ := hr0
  have H3 := hide h3; have HF := hide hf
  clear h3 hf
  unfold maxLen at h2
  go_enter Tryz.func97, Tryz.ntmps97
  go_wp2_with fail
  go_loopw [3, 4] (fun s i wr => ∃ (k : Nat), i = .int .i64 k ∧ s = .int .i64 (sumW (L.take k)) ∧ k ≤ L.length ∧ Below w.heap.size w wr) (fun _ i _ => L.length - (intOf i).toNat)
  case atStart => exact ⟨0, rfl, by simp [sumW], Nat.zero_le _, Below.refl _ _⟩
  case round =>
    obtain ⟨k, rfl, rfl, hk, hb⟩ := hrel
    by_cases hlt : k < L.length
    · obtain ⟨b, o, rfl, hbw, hc⟩ := H3.out (by omega)
      obtain ⟨s0, s1⟩ := fv_get L k hlt
      have hfk := HF.out _ (List.getElem_mem hlt)
      have hsu := sumW_succ L k hlt
      have hrg := sumW_range (L.take k)
      rw [List.length_take, Nat.min_eq_left (by omega)] at hrg
      obtain ⟨f, hff⟩ : ∃ f, f = L[k] := ⟨_, rfl⟩
      rw [← hff] at s0 s1 hfk hsu
      have c0 : wr.cell? ⟨b, o + k * 2, none⟩ = some (.string f.n) := by rw [hb.cell (p := ⟨b, o + k * 2, none⟩) hbw]; exact hc _ _ s0
      have c1 : wr.cell? ⟨b, o + k * 2 + 1, none⟩ = some (.string f.v) := by rw [hb.cell (p := ⟨b, o + k * 2 + 1, none⟩) hbw]; exact hc _ _ s1
      clear hc s0 s1 hff
      have HU := hide hsu
      have hwr := wt_range f
      generalize sumW (L.take k) = A at *
      clear hsu
      go_wp2_with fail
      refine (specWt f _ hfk).mono ?_; rintro x w1 ⟨rfl, hb1⟩
      generalize wt f = z at *
      go_wp2_with fail
      exact ⟨⟨k + 1, by go_num, by rw [HU.out], by omega, bchain hb hb1⟩, by simp [intOf]; omega⟩
    · obtain rfl : k = L.length := by omega
      rw [List.take_length]
      go_wp2_with fail
      go_ret
      exact ⟨rfl, hb⟩
end Go.Proofs.YtllaeakeaabiaaaGreat
/- Rows of Fields as a make: counted, copied, held against each other, marked, read again. -/
namespace Go.Proofs.YtllaeakeaabiaaaGreat
open Go.RowKit
set_option maxRecDepth 100000
set_option linter.unusedSimpArgs false
set_option linter.unusedVariables false
section
variable {D : Type} {E : Shp D}
theorem OwR.flat {f : D → List Value} (hf : ∀ w cs d bs, E.own w cs d bs → cs = f d ∧ bs = []) {w : World} {v : Value} {L : List D} {bs : List Nat} (h : OwR E w v L bs) : w.ownsRow 0 E.ty E.size v L.length (L.flatMap f) ∧ bs = v.ownBlock.toList := by
  obtain ⟨ts, rfl, ho, hE, rfl⟩ := h
  have e : ts.flatMap (fun t => t.1) = (ts.map (fun t => t.2.1)).flatMap f := by
    rw [List.flatMap_map]
    have hh : ∀ t ∈ ts, t.1 = f t.2.1 := fun t ht => (hf _ _ _ _ (hE t ht)).1
    clear ho hE
    induction ts with
    | nil => rfl
    | cons t ts ih => simp only [List.flatMap_cons]; rw [ih (fun x hx => hh x (by simp [hx])), ← hh t (by simp)]
  have e2 : ts.flatMap (fun t => t.2.2) = [] := by
    have hh : ∀ t ∈ ts, t.2.2 = [] := fun t ht => (hf _ _ _ _ (hE t ht)).2
    clear ho hE e
    induction ts with
    | nil => rfl
    | cons t ts ih => simp only [List.flatMap_cons]; rw [ih (fun x hx => hh x (by simp [hx])), hh t (by simp)]; rfl
  rw [e] at ho
  exact ⟨by simpa using ho, by rw [e2]; simp⟩
theorem owR_flat {f : D → List Value} {w : World} {v : Value} {L : List D} (hf : ∀ d ∈ L, E.own w (f d) d []) (h : w.ownsRow 0 E.ty E.size v L.length (L.flatMap f)) : OwR E w v L v.ownBlock.toList := by
  refine ⟨L.map fun d => (f d, d, []), by simp [Function.comp_def], ?_, fun t ht => ?_, ?_⟩
  · simpa [List.flatMap_map] using h
  · obtain ⟨d, hd, rfl⟩ := List.mem_map.1 ht
    exact hf d hd
  · have : ∀ M : List D, (M.map fun d => ((f d, d, []) : List Value × D × List Nat)).flatMap (fun t => t.2.2) = [] := fun M => by induction M <;> simp_all
    rw [this]; simp
theorem rdR_flat {f : D → List Value} {w : World} {v : Value} {L : List D} (hf : ∀ d ∈ L, E.rd w (f d) d) (h : Reads w v L.length E.size (L.flatMap f)) : RdR E w v L := by
  refine ⟨L.map fun d => (f d, d), by simp [Function.comp_def], ?_, fun t ht => ?_⟩
  · simpa [List.flatMap_map] using h
  · obtain ⟨d, hd, rfl⟩ := List.mem_map.1 ht
    exact hf d hd
end
def fieldS : Shp Fd where
  size := 2
  ty := 146
  rd := fun _ cs d => cs = d.cs ∧ d.fine
  own := fun _ cs d bs => cs = d.cs ∧ d.fine ∧ bs = []
  pos := by decide
  rd_len := fun h => by obtain ⟨rfl, _⟩ := h; rfl
  rd_one := fun h u hu => by obtain ⟨rfl, _⟩ := h; simp only [Fd.cs, List.mem_cons, List.not_mem_nil, or_false] at hu; rcases hu with rfl | rfl <;> rfl
  rd_new := fun h _ => h
  own_rd := fun h => ⟨h.1, h.2.1⟩
  own_keep := fun h _ _ => h
  own_lt := fun h b hb => by rw [h.2.2] at hb; cases hb
theorem rd_fv {w : World} {v : Value} {L : List Fd} (h : RdR fieldS w v L) : Reads w v L.length 2 (fv L) := RdR.flat (E := fieldS) (f := Fd.cs) (fun _ _ _ h => h.1) h
theorem rd_fine {w : World} {v : Value} {L : List Fd} (h : RdR fieldS w v L) : ∀ f ∈ L, f.fine := by
  obtain ⟨ts, rfl, _, hE⟩ := h
  intro x hx
  obtain ⟨t, ht, rfl⟩ := List.mem_map.1 hx
  exact (hE t ht).2
theorem fv_rd {w : World} {v : Value} {L : List Fd} (h : Reads w v L.length 2 (fv L)) (hs : ∀ f ∈ L, f.fine) : RdR fieldS w v L := rdR_flat (f := Fd.cs) (fun d hd => ⟨rfl, hs d hd⟩) h
theorem owr_fv {w : World} {v : Value} {L : List Fd} {bs : List Nat} (h : OwR fieldS w v L bs) : w.ownsRow 0 146 2 v L.length (fv L) ∧ bs = v.ownBlock.toList := OwR.flat (E := fieldS) (f := Fd.cs) (fun _ _ _ _ h => ⟨h.1, h.2.2⟩) h
theorem fv_owr {w : World} {v : Value} {L : List Fd} (h : w.ownsRow 0 146 2 v L.length (fv L)) (hs : ∀ f ∈ L, f.fine) : OwR fieldS w v L v.ownBlock.toList := owR_flat (E := fieldS) (f := Fd.cs) (fun d hd => ⟨rfl, hs d hd, rfl⟩) h
theorem ow_fv {w : World} {lo hi : Nat} {v : Value} {L : List Fd} (h : OwX fieldS w lo hi v L) : w.ownsRow lo 146 2 v L.length (fv L) := OwX.flat (E := fieldS) (f := Fd.cs) (fun _ _ _ h => h.1) h
theorem fv_ow {w : World} {lo : Nat} {v : Value} {L : List Fd} (h : w.ownsRow lo 146 2 v L.length (fv L)) (hs : ∀ f ∈ L, f.fine) : OwX fieldS w lo w.heap.size v L := owX_flat (E := fieldS) (f := Fd.cs) (fun d hd => ⟨rfl, hs d hd, rfl⟩) h
/-- How much they hold, as the laws count. -/
def szFieldS (L : List Fd) : Int := L.length + szL L
theorem szFieldS_nn (L : List Fd) : 0 ≤ szFieldS L := by unfold szFieldS; have := szL_pos L; omega
theorem szFieldS_len (L : List Fd) : (L.length : Int) ≤ szFieldS L := by unfold szFieldS; have := szL_pos L; omega
/-- The marks, from k on. -/
def mkFieldS (L : List Fd) (k : Nat) : List Fd := mkLs (fun _ k => ⟨mtx k, mtx (k + 1)⟩) (fun _ => 2) L k
def cntFieldS (L : List Fd) : Nat := cntLs (fun _ => 2) L
theorem cntFieldS_len (L : List Fd) : cntFieldS L = L.length * 2 := by
  unfold cntFieldS
  induction L with
  | nil => rfl
  | cons x L ih => simp only [cntLs, List.length_cons, ih]; omega
theorem mkFld_len (L : List Fd) (k : Nat) : (mkFieldS L k).length = L.length := mk_len' _ _ L k
theorem mkFld_at (L : List Fd) (k j : Nat) (h : j < L.length) (h' : j < (mkFieldS L k).length) : (mkFieldS L k)[j] = ⟨mtx (k + j * 2), mtx (k + j * 2 + 1)⟩ := by
  have e := mk_at (fun (_ : Fd) k => (⟨mtx k, mtx (k + 1)⟩ : Fd)) (fun _ => 2) L k j h h'
  have h2 := cntFieldS_len (L.take j)
  unfold cntFieldS at h2
  rw [h2, List.length_take, Nat.min_eq_left (by omega)] at e
  exact e
theorem mkFld_fv (L : List Fd) (k : Nat) : fv (mkFieldS L k) = mkT k (L.length * 2) := by
  apply List.ext_getElem?
  intro i
  by_cases hi : i < L.length * 2
  · obtain ⟨j, r, hr, rfl⟩ : ∃ j r, r < 2 ∧ i = j * 2 + r := ⟨i / 2, i % 2, by omega, by omega⟩
    have hj : j < L.length := by omega
    have hj' : j < (mkFieldS L k).length := by rw [mkFld_len]; exact hj
    obtain ⟨g1, g2⟩ := fv_get (mkFieldS L k) j hj'
    rw [mkFld_at L k j hj hj'] at g1 g2
    rw [mkT_get k _ _ hi]
    rcases (show r = 0 ∨ r = 1 by omega) with rfl | rfl
    · rw [Nat.add_zero]; exact g1
    · exact g2
  · rw [List.getElem?_eq_none (by rw [fv_len, mkFld_len]; omega), List.getElem?_eq_none (by rw [mkT_len]; omega)]
theorem mkFld_fine (L : List Fd) (k : Nat) (hk : k + cntFieldS L ≤ 1000000000) : ∀ f ∈ mkFieldS L k, f.fine := by
  intro x hx
  obtain ⟨j, hj, rfl⟩ := List.getElem_of_mem hx
  have hj2 : j < L.length := by rw [← mkFld_len L k]; exact hj
  rw [mkFld_at L k j hj2]
  have h1 := mtx_size (k + j * 2)
  have h2 := mtx_size (k + j * 2 + 1)
  have h3 := cntFieldS_len L
  exact ⟨by simp only; omega, by simp only; omega⟩
theorem toFieldS (L : List Fd) (v : Value) (w : World) (hr : RdR fieldS w v L) (hz : szFieldS L ≤ 1048576) :
    Calls Tryz.prog 67 #[v] w fun x w' => ∃ v', x = .returned v' ∧ OwX fieldS w' w.heap.size w'.heap.size v' L ∧ Below w.heap.size w w' := by
  refine (toFields L v w (rd_fv hr) (by have := szFieldS_len L; omega)).mono ?_
  rintro x w' ⟨v', rfl, ho, hb⟩
  exact ⟨v', rfl, fv_ow ho (rd_fine hr), hb⟩
theorem eqFieldS (L : List Fd) (v v' : Value) (w : World) (hr0 : RdR fieldS w v L) (hr1 : RdR fieldS w v' L) :
    Calls Tryz.prog 77 #[v, v'] w fun x w' => x = .returned (.bool true) ∧ Below w.heap.size w w' := eqFields L v v' w (rd_fv hr0) (rd_fv hr1)
theorem szFieldS1 (L : List Fd) (v : Value) (left : Int) (w : World) (hr : RdR fieldS w v L) (h0 : 0 ≤ left) (h1 : left ≤ 1048576) :
    Calls Tryz.prog 46 #[v, .int .i64 left] w fun x w' => (x = .returned (.int .i64 (-1)) ∨ (x = .returned (.int .i64 (left - szFieldS L)) ∧ 0 ≤ left - szFieldS L)) ∧ Below w.heap.size w w' := by
  refine (szFields L v left w (rd_fv hr) (rd_fine hr) h0 h1).mono ?_
  rintro x w' ⟨rfl, hb⟩
  refine ⟨?_, hb⟩
  unfold szFieldS
  by_cases c : left - L.length - szL L < 0
  · exact .inl (by rw [if_pos c])
  · exact .inr ⟨by rw [if_neg c, show left - L.length - szL L = left - (L.length + szL L) by omega], by omega⟩
theorem markFieldS (L : List Fd) (k : Nat) (v : Value) (bs : List Nat) (w : World) (ho : OwR fieldS w v L bs) (hn : bs.Nodup) (hk1 : k + cntFieldS L ≤ 1000000000) :
    Calls Tryz.prog 80 #[v, .int .i64 k] w fun x w' => x = .returned (.int .i64 ((k + cntFieldS L : Nat) : Int)) ∧ OwR fieldS w' v (mkFieldS L k) bs ∧ TurnB bs w w' := by
  obtain ⟨ho1, rfl⟩ := owr_fv ho
  have hc := cntFieldS_len L
  refine (markFields L.length k v (fv L) 0 w ho1 (by omega)).mono ?_
  rintro x w' ⟨rfl, ho2, hg⟩
  rw [hc]
  refine ⟨rfl, fv_owr ?_ (mkFld_fine L k hk1), ⟨hg.os, hg.tape, hg.output, hg.size, fun q hq hn => hg.block q hq fun e => hn (by rw [← e]; simp)⟩⟩
  rw [mkFld_fv, mkFld_len]
  exact ho2
theorem heldFieldS (L : List Fd) (k : Nat) (v : Value) (w : World) (hr : RdR fieldS w v (mkFieldS L k)) (hk1 : k + cntFieldS L ≤ 1000000000) :
    Calls Tryz.prog 82 #[v, .int .i64 k] w fun x w' => x = .returned (.int .i64 ((k + cntFieldS L : Nat) : Int)) ∧ Below w.heap.size w w' := by
  have h := rd_fv hr
  rw [mkFld_fv, mkFld_len] at h
  rw [cntFieldS_len] at hk1 ⊢
  exact heldFields L.length k v w h hk1
open Go.ChangeShapes Go.WideShapes Go.ChangeAt Go.Joins in
theorem open_cellsField {H : Type} {enc : TypeId × Value → H} {W : World} {base : Nat} {spare : Nat → Bool} {held : Bool} {fuel : Nat} {cs : List Value} {x : DataW H × List MemPlace} (h : DataW.trod enc Tryz.prog W base spare held fuel 143 cs = some x) : ∃ d : Fd, fieldS.rd W cs d := by
  obtain ⟨c0, c1, y0, y1, n, rfl, h0, h1⟩ := scells2 Tryz.underlying143 (by kernel_rfl) (by kernel_rfl) h
  obtain ⟨i0, e0, _, hs0⟩ := DataW.trod_string Tryz.underlying9 h0
  simp only [List.cons.injEq, and_true] at e0
  subst e0
  obtain ⟨i1, e1, _, hs1⟩ := DataW.trod_string Tryz.underlying9 h1
  simp only [List.cons.injEq, and_true] at e1
  subst e1
  exact ⟨⟨i0, i1⟩, rfl, by unfold maxLen at hs0; simp only; omega, by unfold maxLen at hs1; simp only; omega⟩
end Go.Proofs.YtllaeakeaabiaaaGreat
/- Chapter 16's model: TunnelOk; tunnels counted, copied, held against each other by the laws. -/
namespace Go.Proofs.YtllaeakeaabiaaaGreat
open Go.RowKit
set_option maxRecDepth 100000
set_option linter.unusedSimpArgs false
set_option linter.unusedVariables false
theorem specTime16 (x : Int) (w : World) : Calls Tryz.prog 99 #[.int .i64 x] w fun e w' => e = .returned (.bool (inB x 0 1000000)) ∧ w' = w := by
  go_enter Tryz.func99, Tryz.ntmps99
  go_wp2_with fail
  refine (specIn _ _ _ _).mono ?_; rintro e w1 ⟨rfl, hsame⟩; obtain rfl := hsame.symm; clear hsame
  go_wp2_with fail
  go_ret
  exact ⟨rfl, rfl⟩
theorem specOkP (p : PpD) (w : World) (hb : p.b.size ≤ maxLen) : Calls Tryz.prog 98 #[pv p] w fun x w' => x = .returned (.bool (okPp p)) ∧ Below w.heap.size w w' := specOk p.r p.b p.e p.k w hb
set_option maxHeartbeats 1000000 in
theorem specTunnelOk (t : TuD) (w : World) (h1 : t.up.b.size ≤ maxLen) (h2 : t.dn.b.size ≤ maxLen) : Calls Tryz.prog 53 #[tuv t] w fun x w' => x = .returned (.bool (okTu t)) ∧ Below w.heap.size w w' := by
  obtain ⟨⟨r, b, e, k⟩, ⟨r2, b2, e2, k2⟩, wt, cm⟩ := t
  unfold okTu
  dsimp only [tuv] at *
  have RX := rowIs_new w 87 [.int .i64 r, .string b, .bool e, .bool k, .int .i64 r2, .string b2, .bool e2, .bool k2, .int .i64 wt, .int .i64 cm]
  have HB : Below w.heap.size w (w.alloc (.cells #[.int .i64 r, .string b, .bool e, .bool k, .int .i64 r2, .string b2, .bool e2, .bool k2, .int .i64 wt, .int .i64 cm] 87)) := (Below.refl _ _).alloc (Nat.le_refl _) _
  cases hu : okPp ⟨r, b, e, k⟩
  · go_enter Tryz.func53, Tryz.ntmps53
    go_wp2_with fail
    refine (specOkP ⟨r, b, e, k⟩ _ h1).mono ?_; rw [hu]; rintro x w1 ⟨rfl, hb1⟩
    replace RX := RX.new hb1
    replace HB := bchain HB hb1
    clear hb1
    have x0 := RowIs.cell (j := 0) RX rfl; have x1 := RowIs.cell (j := 1) RX rfl; have x2 := RowIs.cell (j := 2) RX rfl; have x3 := RowIs.cell (j := 3) RX rfl; have x4 := RowIs.cell (j := 4) RX rfl; have x5 := RowIs.cell (j := 5) RX rfl; have x6 := RowIs.cell (j := 6) RX rfl; have x7 := RowIs.cell (j := 7) RX rfl; have x10 := RowIs.cell (j := 8) RX rfl; have x11 := RowIs.cell (j := 9) RX rfl; have x9 := fun j => RowIs.frozen RX j; have x8 := RX.lt
    go_wp2_with fail
    go_ret
    exact ⟨rfl, HB⟩
  cases hd : okPp ⟨r2, b2, e2, k2⟩
  · go_enter Tryz.func53, Tryz.ntmps53
    go_wp2_with fail
    refine (specOkP ⟨r, b, e, k⟩ _ h1).mono ?_; rw [hu]; rintro x w1 ⟨rfl, hb1⟩
    replace RX := RX.new hb1
    replace HB := bchain HB hb1
    clear hb1
    have x0 := RowIs.cell (j := 0) RX rfl; have x1 := RowIs.cell (j := 1) RX rfl; have x2 := RowIs.cell (j := 2) RX rfl; have x3 := RowIs.cell (j := 3) RX rfl; have x4 := RowIs.cell (j := 4) RX rfl; have x5 := RowIs.cell (j := 5) RX rfl; have x6 := RowIs.cell (j := 6) RX rfl; have x7 := RowIs.cell (j := 7) RX rfl; have x10 := RowIs.cell (j := 8) RX rfl; have x11 := RowIs.cell (j := 9) RX rfl; have x9 := fun j => RowIs.frozen RX j; have x8 := RX.lt
    go_wp2_with fail
    clear x0 x1 x2 x3 x4 x5 x6 x7 x10 x11 x9 x8
    refine (specOkP ⟨r2, b2, e2, k2⟩ _ h2).mono ?_; rw [hd]; rintro x w2 ⟨rfl, hb2⟩
    replace RX := RX.new hb2
    replace HB := bchain HB hb2
    clear hb2
    have x0 := RowIs.cell (j := 0) RX rfl; have x1 := RowIs.cell (j := 1) RX rfl; have x2 := RowIs.cell (j := 2) RX rfl; have x3 := RowIs.cell (j := 3) RX rfl; have x4 := RowIs.cell (j := 4) RX rfl; have x5 := RowIs.cell (j := 5) RX rfl; have x6 := RowIs.cell (j := 6) RX rfl; have x7 := RowIs.cell (j := 7) RX rfl; have x10 := RowIs.cell (j := 8) RX rfl; have x11 := RowIs.cell (j := 9) RX rfl; have x9 := fun j => RowIs.frozen RX j; have x8 := RX.lt
    go_wp2_with fail
    go_ret
    exact ⟨rfl, HB⟩
  cases hw : inB wt 0 1000000
  · go_enter Tryz.func53, Tryz.ntmps53
    go_wp2_with fail
    refine (specOkP ⟨r, b, e, k⟩ _ h1).mono ?_; rw [hu]; rintro x w1 ⟨rfl, hb1⟩
    replace RX := RX.new hb1
    replace HB := bchain HB hb1
    clear hb1
    have x0 := RowIs.cell (j := 0) RX rfl; have x1 := RowIs.cell (j := 1) RX rfl; have x2 := RowIs.cell (j := 2) RX rfl; have x3 := RowIs.cell (j := 3) RX rfl; have x4 := RowIs.cell (j := 4) RX rfl; have x5 := RowIs.cell (j := 5) RX rfl; have x6 := RowIs.cell (j := 6) RX rfl; have x7 := RowIs.cell (j := 7) RX rfl; have x10 := RowIs.cell (j := 8) RX rfl; have x11 := RowIs.cell (j := 9) RX rfl; have x9 := fun j => RowIs.frozen RX j; have x8 := RX.lt
    go_wp2_with fail
    clear x0 x1 x2 x3 x4 x5 x6 x7 x10 x11 x9 x8
    refine (specOkP ⟨r2, b2, e2, k2⟩ _ h2).mono ?_; rw [hd]; rintro x w2 ⟨rfl, hb2⟩
    replace RX := RX.new hb2
    replace HB := bchain HB hb2
    clear hb2
    have x0 := RowIs.cell (j := 0) RX rfl; have x1 := RowIs.cell (j := 1) RX rfl; have x2 := RowIs.cell (j := 2) RX rfl; have x3 := RowIs.cell (j := 3) RX rfl; have x4 := RowIs.cell (j := 4) RX rfl; have x5 := RowIs.cell (j := 5) RX rfl; have x6 := RowIs.cell (j := 6) RX rfl; have x7 := RowIs.cell (j := 7) RX rfl; have x10 := RowIs.cell (j := 8) RX rfl; have x11 := RowIs.cell (j := 9) RX rfl; have x9 := fun j => RowIs.frozen RX j; have x8 := RX.lt
    go_wp2_with fail
    refine (specTime16 _ _).mono ?_; rw [hw]; rintro e w3 ⟨rfl, hsame⟩; obtain rfl := hsame.symm; clear hsame
    go_wp2_with fail
    go_ret
    exact ⟨rfl, HB⟩
  cases hm : inB cm 0 1000000
  · go_enter Tryz.func53, Tryz.ntmps53
    go_wp2_with fail
    refine (specOkP ⟨r, b, e, k⟩ _ h1).mono ?_; rw [hu]; rintro x w1 ⟨rfl, hb1⟩
    replace RX := RX.new hb1
    replace HB := bchain HB hb1
    clear hb1
    have x0 := RowIs.cell (j := 0) RX rfl; have x1 := RowIs.cell (j := 1) RX rfl; have x2 := RowIs.cell (j := 2) RX rfl; have x3 := RowIs.cell (j := 3) RX rfl; have x4 := RowIs.cell (j := 4) RX rfl; have x5 := RowIs.cell (j := 5) RX rfl; have x6 := RowIs.cell (j := 6) RX rfl; have x7 := RowIs.cell (j := 7) RX rfl; have x10 := RowIs.cell (j := 8) RX rfl; have x11 := RowIs.cell (j := 9) RX rfl; have x9 := fun j => RowIs.frozen RX j; have x8 := RX.lt
    go_wp2_with fail
    clear x0 x1 x2 x3 x4 x5 x6 x7 x10 x11 x9 x8
    refine (specOkP ⟨r2, b2, e2, k2⟩ _ h2).mono ?_; rw [hd]; rintro x w2 ⟨rfl, hb2⟩
    replace RX := RX.new hb2
    replace HB := bchain HB hb2
    clear hb2
    have x0 := RowIs.cell (j := 0) RX rfl; have x1 := RowIs.cell (j := 1) RX rfl; have x2 := RowIs.cell (j := 2) RX rfl; have x3 := RowIs.cell (j := 3) RX rfl; have x4 := RowIs.cell (j := 4) RX rfl; have x5 := RowIs.cell (j := 5) RX rfl; have x6 := RowIs.cell (j := 6) RX rfl; have x7 := RowIs.cell (j := 7) RX rfl; have x10 := RowIs.cell (j := 8) RX rfl; have x11 := RowIs.cell (j := 9) RX rfl; have x9 := fun j => RowIs.frozen RX j; have x8 := RX.lt
    go_wp2_with fail
    refine (specTime16 _ _).mono ?_; rw [hw]; rintro e w3 ⟨rfl, hsame⟩; obtain rfl := hsame.symm; clear hsame
    go_wp2_with fail
    refine (specTime16 _ _).mono ?_; rw [hm]; rintro e w3 ⟨rfl, hsame⟩; obtain rfl := hsame.symm; clear hsame
    go_wp2_with fail
    go_ret
    exact ⟨rfl, HB⟩
  go_enter Tryz.func53, Tryz.ntmps53
  go_wp2_with fail
  refine (specOkP ⟨r, b, e, k⟩ _ h1).mono ?_; rw [hu]; rintro x w1 ⟨rfl, hb1⟩
  replace RX := RX.new hb1
  replace HB := bchain HB hb1
  clear hb1
  have x0 := RowIs.cell (j := 0) RX rfl; have x1 := RowIs.cell (j := 1) RX rfl; have x2 := RowIs.cell (j := 2) RX rfl; have x3 := RowIs.cell (j := 3) RX rfl; have x4 := RowIs.cell (j := 4) RX rfl; have x5 := RowIs.cell (j := 5) RX rfl; have x6 := RowIs.cell (j := 6) RX rfl; have x7 := RowIs.cell (j := 7) RX rfl; have x10 := RowIs.cell (j := 8) RX rfl; have x11 := RowIs.cell (j := 9) RX rfl; have x9 := fun j => RowIs.frozen RX j; have x8 := RX.lt
  go_wp2_with fail
  clear x0 x1 x2 x3 x4 x5 x6 x7 x10 x11 x9 x8
  refine (specOkP ⟨r2, b2, e2, k2⟩ _ h2).mono ?_; rw [hd]; rintro x w2 ⟨rfl, hb2⟩
  replace RX := RX.new hb2
  replace HB := bchain HB hb2
  clear hb2
  have x0 := RowIs.cell (j := 0) RX rfl; have x1 := RowIs.cell (j := 1) RX rfl; have x2 := RowIs.cell (j := 2) RX rfl; have x3 := RowIs.cell (j := 3) RX rfl; have x4 := RowIs.cell (j := 4) RX rfl; have x5 := RowIs.cell (j := 5) RX rfl; have x6 := RowIs.cell (j := 6) RX rfl; have x7 := RowIs.cell (j := 7) RX rfl; have x10 := RowIs.cell (j := 8) RX rfl; have x11 := RowIs.cell (j := 9) RX rfl; have x9 := fun j => RowIs.frozen RX j; have x8 := RX.lt
  go_wp2_with fail
  refine (specTime16 _ _).mono ?_; rw [hw]; rintro e w3 ⟨rfl, hsame⟩; obtain rfl := hsame.symm; clear hsame
  go_wp2_with fail
  refine (specTime16 _ _).mono ?_; rw [hm]; rintro e w3 ⟨rfl, hsame⟩; obtain rfl := hsame.symm; clear hsame
  go_wp2_with fail
  go_ret
  exact ⟨rfl, HB⟩
def szTu (t : TuD) : Nat := t.up.b.size + t.dn.b.size
set_option maxHeartbeats 1000000 in
theorem szTunnel1 (t : TuD) (w : World) (h1 : t.up.b.size ≤ maxLen) (h2 : t.dn.b.size ≤ maxLen) : Calls Tryz.prog 94 #[tuv t, .int .i64 1048576] w fun x w' => (∃ y : Int, x = .returned (.int .i64 y) ∧ (0 ≤ y → szTu t ≤ 1048576)) ∧ Below w.heap.size w w' := by
  obtain ⟨⟨r, b, e, k⟩, ⟨r2, b2, e2, k2⟩, wt, cm⟩ := t
  unfold szTu
  dsimp only [tuv] at *
  have RX := rowIs_new w 95 [.int .i64 r, .string b, .bool e, .bool k, .int .i64 r2, .string b2, .bool e2, .bool k2, .int .i64 wt, .int .i64 cm]
  have HB : Below w.heap.size w (w.alloc (.cells #[.int .i64 r, .string b, .bool e, .bool k, .int .i64 r2, .string b2, .bool e2, .bool k2, .int .i64 wt, .int .i64 cm] 95)) := (Below.refl _ _).alloc (Nat.le_refl _) _
  by_cases c1 : (1048576 : Int) - b.size < 0
  · go_enter Tryz.func94, Tryz.ntmps94
    go_wp2_with fail
    refine (sz r b e k 1048576 _ h1 (by omega) (by omega)).mono ?_; rw [if_pos (by omega)]; rintro x w1 ⟨rfl, hb1⟩
    replace HB := bchain HB hb1
    go_wp2_with fail
    go_ret
    exact ⟨⟨-1, rfl, by omega⟩, HB⟩
  obtain ⟨q, hq⟩ : ∃ q, (1048576 : Int) - b.size = q := ⟨_, rfl⟩
  have hq0 : ¬ q < 0 := by omega
  by_cases c2 : q - b2.size < 0
  · go_enter Tryz.func94, Tryz.ntmps94
    go_wp2_with fail
    refine (sz r b e k 1048576 _ h1 (by omega) (by omega)).mono ?_; rw [if_neg (by omega), hq]; rintro x w1 ⟨rfl, hb1⟩
    replace HB := bchain HB hb1
    replace RX := RX.new hb1
    have x0 := RowIs.cell (j := 0) RX rfl; have x1 := RowIs.cell (j := 1) RX rfl; have x2 := RowIs.cell (j := 2) RX rfl; have x3 := RowIs.cell (j := 3) RX rfl; have x4 := RowIs.cell (j := 4) RX rfl; have x5 := RowIs.cell (j := 5) RX rfl; have x6 := RowIs.cell (j := 6) RX rfl; have x7 := RowIs.cell (j := 7) RX rfl; have x10 := RowIs.cell (j := 8) RX rfl; have x11 := RowIs.cell (j := 9) RX rfl; have x9 := fun j => RowIs.frozen RX j; have x8 := RX.lt
    go_wp2_with fail
    refine (sz r2 b2 e2 k2 q _ h2 (by omega) (by omega)).mono ?_; rw [if_pos (by omega)]; rintro x w2 ⟨rfl, hb2⟩
    replace HB := bchain HB hb2
    go_wp2_with fail
    go_ret
    exact ⟨⟨-1, rfl, by omega⟩, HB⟩
  obtain ⟨q2, hq2⟩ : ∃ q2, q - b2.size = q2 := ⟨_, rfl⟩
  have hq20 : ¬ q2 < 0 := by omega
  go_enter Tryz.func94, Tryz.ntmps94
  go_wp2_with fail
  refine (sz r b e k 1048576 _ h1 (by omega) (by omega)).mono ?_; rw [if_neg (by omega), hq]; rintro x w1 ⟨rfl, hb1⟩
  replace HB := bchain HB hb1
  replace RX := RX.new hb1
  have x0 := RowIs.cell (j := 0) RX rfl; have x1 := RowIs.cell (j := 1) RX rfl; have x2 := RowIs.cell (j := 2) RX rfl; have x3 := RowIs.cell (j := 3) RX rfl; have x4 := RowIs.cell (j := 4) RX rfl; have x5 := RowIs.cell (j := 5) RX rfl; have x6 := RowIs.cell (j := 6) RX rfl; have x7 := RowIs.cell (j := 7) RX rfl; have x10 := RowIs.cell (j := 8) RX rfl; have x11 := RowIs.cell (j := 9) RX rfl; have x9 := fun j => RowIs.frozen RX j; have x8 := RX.lt
  go_wp2_with fail
  refine (sz r2 b2 e2 k2 q _ h2 (by omega) (by omega)).mono ?_; rw [if_neg (by omega), hq2]; rintro x w2 ⟨rfl, hb2⟩
  replace HB := bchain HB hb2
  go_wp2_with fail
  go_ret
  exact ⟨⟨q2, rfl, fun _ => by omega⟩, HB⟩
set_option maxHeartbeats 1000000 in
theorem toTunnel1 (t : TuD) (w : World) : Calls Tryz.prog 116 #[tuv t] w fun x w' => x = .returned (tuv t) ∧ Below w.heap.size w w' := by
  obtain ⟨⟨r, b, e, k⟩, ⟨r2, b2, e2, k2⟩, wt, cm⟩ := t
  dsimp only [tuv] at *
  obtain ⟨W, hW⟩ : ∃ W, ((w.alloc (.cells #[.int .i64 r, .string b, .bool e, .bool k, .int .i64 r2, .string b2, .bool e2, .bool k2, .int .i64 wt, .int .i64 cm] 95)).alloc (.cells #[.int .i64 0, .string ⟨#[]⟩, .bool false, .bool false, .int .i64 0, .string ⟨#[]⟩, .bool false, .bool false, .int .i64 0, .int .i64 0] 87)).alloc (.cells #[.int .i64 0, .string ⟨#[]⟩, .bool false, .bool false, .int .i64 0, .string ⟨#[]⟩, .bool false, .bool false, .int .i64 0, .int .i64 0] 87) = W := ⟨_, rfl⟩
  have RX : RowIs W w.heap.size 95 [.int .i64 r, .string b, .bool e, .bool k, .int .i64 r2, .string b2, .bool e2, .bool k2, .int .i64 wt, .int .i64 cm] := by rw [← hW]; exact ((rowIs_new w 95 [.int .i64 r, .string b, .bool e, .bool k, .int .i64 r2, .string b2, .bool e2, .bool k2, .int .i64 wt, .int .i64 cm]).alloc _).alloc _
  have RY : RowIs W (w.heap.size + 1) 87 [.int .i64 0, .string ⟨#[]⟩, .bool false, .bool false, .int .i64 0, .string ⟨#[]⟩, .bool false, .bool false, .int .i64 0, .int .i64 0] := by have := (rowIs_new (w.alloc (.cells #[.int .i64 r, .string b, .bool e, .bool k, .int .i64 r2, .string b2, .bool e2, .bool k2, .int .i64 wt, .int .i64 cm] 95)) 87 [.int .i64 0, .string ⟨#[]⟩, .bool false, .bool false, .int .i64 0, .string ⟨#[]⟩, .bool false, .bool false, .int .i64 0, .int .i64 0]).alloc (.cells #[.int .i64 0, .string ⟨#[]⟩, .bool false, .bool false, .int .i64 0, .string ⟨#[]⟩, .bool false, .bool false, .int .i64 0, .int .i64 0] 87); rw [hW] at this; simpa using this
  have RZ : RowIs W (w.heap.size + 1 + 1) 87 [.int .i64 0, .string ⟨#[]⟩, .bool false, .bool false, .int .i64 0, .string ⟨#[]⟩, .bool false, .bool false, .int .i64 0, .int .i64 0] := by have := rowIs_new ((w.alloc (.cells #[.int .i64 r, .string b, .bool e, .bool k, .int .i64 r2, .string b2, .bool e2, .bool k2, .int .i64 wt, .int .i64 cm] 95)).alloc (.cells #[.int .i64 0, .string ⟨#[]⟩, .bool false, .bool false, .int .i64 0, .string ⟨#[]⟩, .bool false, .bool false, .int .i64 0, .int .i64 0] 87)) 87 [.int .i64 0, .string ⟨#[]⟩, .bool false, .bool false, .int .i64 0, .string ⟨#[]⟩, .bool false, .bool false, .int .i64 0, .int .i64 0]; rw [hW] at this; simpa using this
  have HB : Below w.heap.size w W := by rw [← hW]; exact ((((Below.refl _ _).alloc (Nat.le_refl _) _).alloc (by simp) _).alloc (by simp; omega) _)
  go_enter Tryz.func116, Tryz.ntmps116
  have x0 := RowIs.cell (j := 0) RX rfl
  have x1 := RowIs.cell (j := 1) RX rfl
  have x2 := RowIs.cell (j := 2) RX rfl
  have x3 := RowIs.cell (j := 3) RX rfl
  have xf := fun j => RowIs.frozen RX j
  have xl := RX.lt
  go_wp2_with fail
  clear x0 x1 x2 x3 xf xl
  clear hW
  refine (toP r b e k _).mono ?_; rintro x w1 ⟨rfl, hb⟩
  replace RX := RX.new hb
  replace RY := RY.new hb
  replace RZ := RZ.new hb
  replace HB := bchain HB hb
  clear hb
  have z0 := RowIs.cell (j := 0) RZ rfl
  have z1 := RowIs.cell (j := 1) RZ rfl
  have z2 := RowIs.cell (j := 2) RZ rfl
  have z3 := RowIs.cell (j := 3) RZ rfl
  have z4 := RowIs.cell (j := 4) RZ rfl
  have z5 := RowIs.cell (j := 5) RZ rfl
  have z6 := RowIs.cell (j := 6) RZ rfl
  have z7 := RowIs.cell (j := 7) RZ rfl
  have z8 := RowIs.cell (j := 8) RZ rfl
  have z9 := RowIs.cell (j := 9) RZ rfl
  have zf := fun j => RowIs.frozen RZ j
  have zl := RZ.lt
  go_upto_region 3 with fail
  have NRX : RowIs ((((w1.setCell ⟨(w.heap.size + 1 + 1), 0, none⟩ (.int .i64 r)).setCell ⟨(w.heap.size + 1 + 1), 1, none⟩ (.string b)).setCell ⟨(w.heap.size + 1 + 1), 2, none⟩ (.bool e)).setCell ⟨(w.heap.size + 1 + 1), 3, none⟩ (.bool k)) w.heap.size 95 [.int .i64 r, .string b, .bool e, .bool k, .int .i64 r2, .string b2, .bool e2, .bool k2, .int .i64 wt, .int .i64 cm] := ((((RX.far ⟨(w.heap.size + 1 + 1), 0, none⟩ (.int .i64 r) (show (w.heap.size + 1 + 1) ≠ w.heap.size by omega)).far ⟨(w.heap.size + 1 + 1), 1, none⟩ (.string b) (show (w.heap.size + 1 + 1) ≠ w.heap.size by omega)).far ⟨(w.heap.size + 1 + 1), 2, none⟩ (.bool e) (show (w.heap.size + 1 + 1) ≠ w.heap.size by omega)).far ⟨(w.heap.size + 1 + 1), 3, none⟩ (.bool k) (show (w.heap.size + 1 + 1) ≠ w.heap.size by omega))
  have NRY : RowIs ((((w1.setCell ⟨(w.heap.size + 1 + 1), 0, none⟩ (.int .i64 r)).setCell ⟨(w.heap.size + 1 + 1), 1, none⟩ (.string b)).setCell ⟨(w.heap.size + 1 + 1), 2, none⟩ (.bool e)).setCell ⟨(w.heap.size + 1 + 1), 3, none⟩ (.bool k)) (w.heap.size + 1) 87 [.int .i64 0, .string ⟨#[]⟩, .bool false, .bool false, .int .i64 0, .string ⟨#[]⟩, .bool false, .bool false, .int .i64 0, .int .i64 0] := ((((RY.far ⟨(w.heap.size + 1 + 1), 0, none⟩ (.int .i64 r) (show (w.heap.size + 1 + 1) ≠ (w.heap.size + 1) by omega)).far ⟨(w.heap.size + 1 + 1), 1, none⟩ (.string b) (show (w.heap.size + 1 + 1) ≠ (w.heap.size + 1) by omega)).far ⟨(w.heap.size + 1 + 1), 2, none⟩ (.bool e) (show (w.heap.size + 1 + 1) ≠ (w.heap.size + 1) by omega)).far ⟨(w.heap.size + 1 + 1), 3, none⟩ (.bool k) (show (w.heap.size + 1 + 1) ≠ (w.heap.size + 1) by omega))
  have NRZ : RowIs ((((w1.setCell ⟨(w.heap.size + 1 + 1), 0, none⟩ (.int .i64 r)).setCell ⟨(w.heap.size + 1 + 1), 1, none⟩ (.string b)).setCell ⟨(w.heap.size + 1 + 1), 2, none⟩ (.bool e)).setCell ⟨(w.heap.size + 1 + 1), 3, none⟩ (.bool k)) (w.heap.size + 1 + 1) 87 [.int .i64 r, .string b, .bool e, .bool k, .int .i64 0, .string ⟨#[]⟩, .bool false, .bool false, .int .i64 0, .int .i64 0] := ((((RZ.set 0 (.int .i64 r)).set 1 (.string b)).set 2 (.bool e)).set 3 (.bool k))
  have NHB := ((((HB.setCell (p := ⟨(w.heap.size + 1 + 1), 0, none⟩) (show w.heap.size ≤ (w.heap.size + 1 + 1) by omega) (.int .i64 r)).setCell (p := ⟨(w.heap.size + 1 + 1), 1, none⟩) (show w.heap.size ≤ (w.heap.size + 1 + 1) by omega) (.string b)).setCell (p := ⟨(w.heap.size + 1 + 1), 2, none⟩) (show w.heap.size ≤ (w.heap.size + 1 + 1) by omega) (.bool e)).setCell (p := ⟨(w.heap.size + 1 + 1), 3, none⟩) (show w.heap.size ≤ (w.heap.size + 1 + 1) by omega) (.bool k))
  generalize hV : ((((w1.setCell ⟨(w.heap.size + 1 + 1), 0, none⟩ (.int .i64 r)).setCell ⟨(w.heap.size + 1 + 1), 1, none⟩ (.string b)).setCell ⟨(w.heap.size + 1 + 1), 2, none⟩ (.bool e)).setCell ⟨(w.heap.size + 1 + 1), 3, none⟩ (.bool k)) = V2 at *
  clear hV
  clear RX
  have RX := NRX
  clear NRX
  clear RY
  have RY := NRY
  clear NRY
  clear RZ
  have RZ := NRZ
  clear NRZ
  clear HB
  have HB := NHB
  clear NHB
  clear z0 z1 z2 z3 z4 z5 z6 z7 z8 z9 zf zl
  have x4 := RowIs.cell (j := 4) RX rfl
  have x5 := RowIs.cell (j := 5) RX rfl
  have x6 := RowIs.cell (j := 6) RX rfl
  have x7 := RowIs.cell (j := 7) RX rfl
  have xf := fun j => RowIs.frozen RX j
  have xl := RX.lt
  go_wp2_with fail
  clear x4 x5 x6 x7 xf xl
  refine (toP r2 b2 e2 k2 _).mono ?_; rintro x w3 ⟨rfl, hb⟩
  replace RX := RX.new hb
  replace RY := RY.new hb
  replace RZ := RZ.new hb
  replace HB := bchain HB hb
  clear hb
  have z0 := RowIs.cell (j := 0) RZ rfl
  have z1 := RowIs.cell (j := 1) RZ rfl
  have z2 := RowIs.cell (j := 2) RZ rfl
  have z3 := RowIs.cell (j := 3) RZ rfl
  have z4 := RowIs.cell (j := 4) RZ rfl
  have z5 := RowIs.cell (j := 5) RZ rfl
  have z6 := RowIs.cell (j := 6) RZ rfl
  have z7 := RowIs.cell (j := 7) RZ rfl
  have z8 := RowIs.cell (j := 8) RZ rfl
  have z9 := RowIs.cell (j := 9) RZ rfl
  have zf := fun j => RowIs.frozen RZ j
  have zl := RZ.lt
  go_upto_region 4 with fail
  clear z0 z1 z2 z3 z4 z5 z6 z7 z8 z9 zf zl
  have NRX : RowIs ((((w3.setCell ⟨(w.heap.size + 1 + 1), 4, none⟩ (.int .i64 r2)).setCell ⟨(w.heap.size + 1 + 1), 5, none⟩ (.string b2)).setCell ⟨(w.heap.size + 1 + 1), 6, none⟩ (.bool e2)).setCell ⟨(w.heap.size + 1 + 1), 7, none⟩ (.bool k2)) w.heap.size 95 [.int .i64 r, .string b, .bool e, .bool k, .int .i64 r2, .string b2, .bool e2, .bool k2, .int .i64 wt, .int .i64 cm] := ((((RX.far ⟨(w.heap.size + 1 + 1), 4, none⟩ (.int .i64 r2) (show (w.heap.size + 1 + 1) ≠ w.heap.size by omega)).far ⟨(w.heap.size + 1 + 1), 5, none⟩ (.string b2) (show (w.heap.size + 1 + 1) ≠ w.heap.size by omega)).far ⟨(w.heap.size + 1 + 1), 6, none⟩ (.bool e2) (show (w.heap.size + 1 + 1) ≠ w.heap.size by omega)).far ⟨(w.heap.size + 1 + 1), 7, none⟩ (.bool k2) (show (w.heap.size + 1 + 1) ≠ w.heap.size by omega))
  have NRY : RowIs ((((w3.setCell ⟨(w.heap.size + 1 + 1), 4, none⟩ (.int .i64 r2)).setCell ⟨(w.heap.size + 1 + 1), 5, none⟩ (.string b2)).setCell ⟨(w.heap.size + 1 + 1), 6, none⟩ (.bool e2)).setCell ⟨(w.heap.size + 1 + 1), 7, none⟩ (.bool k2)) (w.heap.size + 1) 87 [.int .i64 0, .string ⟨#[]⟩, .bool false, .bool false, .int .i64 0, .string ⟨#[]⟩, .bool false, .bool false, .int .i64 0, .int .i64 0] := ((((RY.far ⟨(w.heap.size + 1 + 1), 4, none⟩ (.int .i64 r2) (show (w.heap.size + 1 + 1) ≠ (w.heap.size + 1) by omega)).far ⟨(w.heap.size + 1 + 1), 5, none⟩ (.string b2) (show (w.heap.size + 1 + 1) ≠ (w.heap.size + 1) by omega)).far ⟨(w.heap.size + 1 + 1), 6, none⟩ (.bool e2) (show (w.heap.size + 1 + 1) ≠ (w.heap.size + 1) by omega)).far ⟨(w.heap.size + 1 + 1), 7, none⟩ (.bool k2) (show (w.heap.size + 1 + 1) ≠ (w.heap.size + 1) by omega))
  have NRZ : RowIs ((((w3.setCell ⟨(w.heap.size + 1 + 1), 4, none⟩ (.int .i64 r2)).setCell ⟨(w.heap.size + 1 + 1), 5, none⟩ (.string b2)).setCell ⟨(w.heap.size + 1 + 1), 6, none⟩ (.bool e2)).setCell ⟨(w.heap.size + 1 + 1), 7, none⟩ (.bool k2)) (w.heap.size + 1 + 1) 87 [.int .i64 r, .string b, .bool e, .bool k, .int .i64 r2, .string b2, .bool e2, .bool k2, .int .i64 0, .int .i64 0] := ((((RZ.set 4 (.int .i64 r2)).set 5 (.string b2)).set 6 (.bool e2)).set 7 (.bool k2))
  have NHB := ((((HB.setCell (p := ⟨(w.heap.size + 1 + 1), 4, none⟩) (show w.heap.size ≤ (w.heap.size + 1 + 1) by omega) (.int .i64 r2)).setCell (p := ⟨(w.heap.size + 1 + 1), 5, none⟩) (show w.heap.size ≤ (w.heap.size + 1 + 1) by omega) (.string b2)).setCell (p := ⟨(w.heap.size + 1 + 1), 6, none⟩) (show w.heap.size ≤ (w.heap.size + 1 + 1) by omega) (.bool e2)).setCell (p := ⟨(w.heap.size + 1 + 1), 7, none⟩) (show w.heap.size ≤ (w.heap.size + 1 + 1) by omega) (.bool k2))
  generalize hV : ((((w3.setCell ⟨(w.heap.size + 1 + 1), 4, none⟩ (.int .i64 r2)).setCell ⟨(w.heap.size + 1 + 1), 5, none⟩ (.string b2)).setCell ⟨(w.heap.size + 1 + 1), 6, none⟩ (.bool e2)).setCell ⟨(w.heap.size + 1 + 1), 7, none⟩ (.bool k2)) = V4 at *
  clear hV
  clear RX
  have RX := NRX
  clear NRX
  clear RY
  have RY := NRY
  clear NRY
  clear RZ
  have RZ := NRZ
  clear NRZ
  clear HB
  have HB := NHB
  clear NHB
  have z8 := RowIs.cell (j := 8) RZ rfl
  have z9 := RowIs.cell (j := 9) RZ rfl
  have zf := fun j => RowIs.frozen RZ j
  have zl := RZ.lt
  have x8 := RowIs.cell (j := 8) RX rfl
  have x9 := RowIs.cell (j := 9) RX rfl
  have xf := fun j => RowIs.frozen RX j
  have xl := RX.lt
  go_upto_region 6 with fail
  clear z8 z9 zf zl
  clear x8 x9 xf xl
  have NRX : RowIs ((V4.setCell ⟨(w.heap.size + 1 + 1), 8, none⟩ (.int .i64 wt)).setCell ⟨(w.heap.size + 1 + 1), 9, none⟩ (.int .i64 cm)) w.heap.size 95 [.int .i64 r, .string b, .bool e, .bool k, .int .i64 r2, .string b2, .bool e2, .bool k2, .int .i64 wt, .int .i64 cm] := ((RX.far ⟨(w.heap.size + 1 + 1), 8, none⟩ (.int .i64 wt) (show (w.heap.size + 1 + 1) ≠ w.heap.size by omega)).far ⟨(w.heap.size + 1 + 1), 9, none⟩ (.int .i64 cm) (show (w.heap.size + 1 + 1) ≠ w.heap.size by omega))
  have NRY : RowIs ((V4.setCell ⟨(w.heap.size + 1 + 1), 8, none⟩ (.int .i64 wt)).setCell ⟨(w.heap.size + 1 + 1), 9, none⟩ (.int .i64 cm)) (w.heap.size + 1) 87 [.int .i64 0, .string ⟨#[]⟩, .bool false, .bool false, .int .i64 0, .string ⟨#[]⟩, .bool false, .bool false, .int .i64 0, .int .i64 0] := ((RY.far ⟨(w.heap.size + 1 + 1), 8, none⟩ (.int .i64 wt) (show (w.heap.size + 1 + 1) ≠ (w.heap.size + 1) by omega)).far ⟨(w.heap.size + 1 + 1), 9, none⟩ (.int .i64 cm) (show (w.heap.size + 1 + 1) ≠ (w.heap.size + 1) by omega))
  have NRZ : RowIs ((V4.setCell ⟨(w.heap.size + 1 + 1), 8, none⟩ (.int .i64 wt)).setCell ⟨(w.heap.size + 1 + 1), 9, none⟩ (.int .i64 cm)) (w.heap.size + 1 + 1) 87 [.int .i64 r, .string b, .bool e, .bool k, .int .i64 r2, .string b2, .bool e2, .bool k2, .int .i64 wt, .int .i64 cm] := ((RZ.set 8 (.int .i64 wt)).set 9 (.int .i64 cm))
  have NHB := ((HB.setCell (p := ⟨(w.heap.size + 1 + 1), 8, none⟩) (show w.heap.size ≤ (w.heap.size + 1 + 1) by omega) (.int .i64 wt)).setCell (p := ⟨(w.heap.size + 1 + 1), 9, none⟩) (show w.heap.size ≤ (w.heap.size + 1 + 1) by omega) (.int .i64 cm))
  generalize hV : ((V4.setCell ⟨(w.heap.size + 1 + 1), 8, none⟩ (.int .i64 wt)).setCell ⟨(w.heap.size + 1 + 1), 9, none⟩ (.int .i64 cm)) = V5 at *
  clear hV
  clear RX
  have RX := NRX
  clear NRX
  clear RY
  have RY := NRY
  clear NRY
  clear RZ
  have RZ := NRZ
  clear NRZ
  clear HB
  have HB := NHB
  clear NHB
  go_wp2_with (first | (refine wpList_load_row (by rfl) 87 _ (by rfl) (w.heap.size + 1 + 1) (by rfl) [.int .i64 r, .string b, .bool e, .bool k, .int .i64 r2, .string b2, .bool e2, .bool k2, .int .i64 wt, .int .i64 cm] _ 87 RZ Tryz.underlying87 rfl (by kernel_rfl) ?_) | (refine wpList_store_row (by rfl) 87 _ _ (by rfl) (w.heap.size + 1) [.int .i64 r, .string b, .bool e, .bool k, .int .i64 r2, .string b2, .bool e2, .bool k2, .int .i64 wt, .int .i64 cm] (by rfl) (by rfl) 87 [.int .i64 0, .string ⟨#[]⟩, .bool false, .bool false, .int .i64 0, .string ⟨#[]⟩, .bool false, .bool false, .int .i64 0, .int .i64 0] RY (by kernel_rfl) rfl (by intro u hu; simp at hu; rcases hu with rfl | rfl | rfl | rfl | rfl | rfl | rfl | rfl | rfl | rfl <;> rfl) ?_))
  have NRX := RX.kept (setRow_other V5 (w.heap.size + 1) #[.int .i64 r, .string b, .bool e, .bool k, .int .i64 r2, .string b2, .bool e2, .bool k2, .int .i64 wt, .int .i64 cm] w.heap.size (by omega))
  have NRY : RowIs (V5.setRow (w.heap.size + 1) #[.int .i64 r, .string b, .bool e, .bool k, .int .i64 r2, .string b2, .bool e2, .bool k2, .int .i64 wt, .int .i64 cm]) (w.heap.size + 1) 87 [.int .i64 r, .string b, .bool e, .bool k, .int .i64 r2, .string b2, .bool e2, .bool k2, .int .i64 wt, .int .i64 cm] := rowIs_setRow (cs' := [.int .i64 r, .string b, .bool e, .bool k, .int .i64 r2, .string b2, .bool e2, .bool k2, .int .i64 wt, .int .i64 cm]) RY
  have NRZ := RZ.kept (setRow_other V5 (w.heap.size + 1) #[.int .i64 r, .string b, .bool e, .bool k, .int .i64 r2, .string b2, .bool e2, .bool k2, .int .i64 wt, .int .i64 cm] (w.heap.size + 1 + 1) (by omega))
  have NHB := below_setRow HB (show w.heap.size ≤ (w.heap.size + 1) by omega) #[.int .i64 r, .string b, .bool e, .bool k, .int .i64 r2, .string b2, .bool e2, .bool k2, .int .i64 wt, .int .i64 cm]
  generalize hV : V5.setRow (w.heap.size + 1) #[.int .i64 r, .string b, .bool e, .bool k, .int .i64 r2, .string b2, .bool e2, .bool k2, .int .i64 wt, .int .i64 cm] = V6 at *
  clear hV
  clear RX
  have RX := NRX
  clear NRX
  clear RY
  have RY := NRY
  clear NRY
  clear RZ
  have RZ := NRZ
  clear NRZ
  clear HB
  have HB := NHB
  clear NHB
  have y0 := RowIs.cell (j := 0) RY rfl
  have y1 := RowIs.cell (j := 1) RY rfl
  have y2 := RowIs.cell (j := 2) RY rfl
  have y3 := RowIs.cell (j := 3) RY rfl
  have y4 := RowIs.cell (j := 4) RY rfl
  have y5 := RowIs.cell (j := 5) RY rfl
  have y6 := RowIs.cell (j := 6) RY rfl
  have y7 := RowIs.cell (j := 7) RY rfl
  have y8 := RowIs.cell (j := 8) RY rfl
  have y9 := RowIs.cell (j := 9) RY rfl
  have yf := fun j => RowIs.frozen RY j
  have yl := RY.lt
  refine bodyPost_ret (v := .agg #[.int .i64 r, .string b, .bool e, .bool k, .int .i64 r2, .string b2, .bool e2, .bool k2, .int .i64 wt, .int .i64 cm]) (by simp [results, Tryz.results116, go_sem, *]) rfl ?_
  exact ⟨rfl, HB⟩
set_option maxHeartbeats 1000000 in
theorem eqTunnel1 (t : TuD) (w : World) : Calls Tryz.prog 140 #[tuv t, tuv t] w fun x w' => x = .returned (.bool true) ∧ Below w.heap.size w w' := by
  obtain ⟨⟨r, b, e, k⟩, ⟨r2, b2, e2, k2⟩, wt, cm⟩ := t
  dsimp only [tuv] at *
  obtain ⟨W, hW⟩ : ∃ W, (w.alloc (.cells #[.int .i64 r, .string b, .bool e, .bool k, .int .i64 r2, .string b2, .bool e2, .bool k2, .int .i64 wt, .int .i64 cm] 87)).alloc (.cells #[.int .i64 r, .string b, .bool e, .bool k, .int .i64 r2, .string b2, .bool e2, .bool k2, .int .i64 wt, .int .i64 cm] 87) = W := ⟨_, rfl⟩
  have RX : RowIs W w.heap.size 87 [.int .i64 r, .string b, .bool e, .bool k, .int .i64 r2, .string b2, .bool e2, .bool k2, .int .i64 wt, .int .i64 cm] := by rw [← hW]; exact (rowIs_new w 87 [.int .i64 r, .string b, .bool e, .bool k, .int .i64 r2, .string b2, .bool e2, .bool k2, .int .i64 wt, .int .i64 cm]).alloc _
  have RY : RowIs W (w.heap.size + 1) 87 [.int .i64 r, .string b, .bool e, .bool k, .int .i64 r2, .string b2, .bool e2, .bool k2, .int .i64 wt, .int .i64 cm] := by have := rowIs_new (w.alloc (.cells #[.int .i64 r, .string b, .bool e, .bool k, .int .i64 r2, .string b2, .bool e2, .bool k2, .int .i64 wt, .int .i64 cm] 87)) 87 [.int .i64 r, .string b, .bool e, .bool k, .int .i64 r2, .string b2, .bool e2, .bool k2, .int .i64 wt, .int .i64 cm]; rw [hW] at this; simpa using this
  have HB : Below w.heap.size w W := by rw [← hW]; exact (((Below.refl _ _).alloc (Nat.le_refl _) _).alloc (by simp) _)
  have hw0 : (wt != wt) = false := by simp
  have hc0 : (cm != cm) = false := by simp
  go_enter Tryz.func140, Tryz.ntmps140
  have x0 := RowIs.cell (j := 0) RX rfl
  have x1 := RowIs.cell (j := 1) RX rfl
  have x2 := RowIs.cell (j := 2) RX rfl
  have x3 := RowIs.cell (j := 3) RX rfl
  have x4 := RowIs.cell (j := 4) RX rfl
  have x5 := RowIs.cell (j := 5) RX rfl
  have x6 := RowIs.cell (j := 6) RX rfl
  have x7 := RowIs.cell (j := 7) RX rfl
  have x8 := RowIs.cell (j := 8) RX rfl
  have x9 := RowIs.cell (j := 9) RX rfl
  have xf := fun j => RowIs.frozen RX j
  have xl := RX.lt
  have y0 := RowIs.cell (j := 0) RY rfl
  have y1 := RowIs.cell (j := 1) RY rfl
  have y2 := RowIs.cell (j := 2) RY rfl
  have y3 := RowIs.cell (j := 3) RY rfl
  have y4 := RowIs.cell (j := 4) RY rfl
  have y5 := RowIs.cell (j := 5) RY rfl
  have y6 := RowIs.cell (j := 6) RY rfl
  have y7 := RowIs.cell (j := 7) RY rfl
  have y8 := RowIs.cell (j := 8) RY rfl
  have y9 := RowIs.cell (j := 9) RY rfl
  have yf := fun j => RowIs.frozen RY j
  have yl := RY.lt
  go_wp2_with fail
  clear x0 x1 x2 x3 x4 x5 x6 x7 x8 x9 xf xl
  clear y0 y1 y2 y3 y4 y5 y6 y7 y8 y9 yf yl
  clear hW
  refine (eqP r b e k _).mono ?_; rintro x w1 ⟨rfl, hb⟩
  replace RX := RX.new hb
  replace RY := RY.new hb
  replace HB := bchain HB hb
  clear hb
  have x0 := RowIs.cell (j := 0) RX rfl
  have x1 := RowIs.cell (j := 1) RX rfl
  have x2 := RowIs.cell (j := 2) RX rfl
  have x3 := RowIs.cell (j := 3) RX rfl
  have x4 := RowIs.cell (j := 4) RX rfl
  have x5 := RowIs.cell (j := 5) RX rfl
  have x6 := RowIs.cell (j := 6) RX rfl
  have x7 := RowIs.cell (j := 7) RX rfl
  have x8 := RowIs.cell (j := 8) RX rfl
  have x9 := RowIs.cell (j := 9) RX rfl
  have xf := fun j => RowIs.frozen RX j
  have xl := RX.lt
  have y0 := RowIs.cell (j := 0) RY rfl
  have y1 := RowIs.cell (j := 1) RY rfl
  have y2 := RowIs.cell (j := 2) RY rfl
  have y3 := RowIs.cell (j := 3) RY rfl
  have y4 := RowIs.cell (j := 4) RY rfl
  have y5 := RowIs.cell (j := 5) RY rfl
  have y6 := RowIs.cell (j := 6) RY rfl
  have y7 := RowIs.cell (j := 7) RY rfl
  have y8 := RowIs.cell (j := 8) RY rfl
  have y9 := RowIs.cell (j := 9) RY rfl
  have yf := fun j => RowIs.frozen RY j
  have yl := RY.lt
  go_wp2_with fail
  clear x0 x1 x2 x3 x4 x5 x6 x7 x8 x9 xf xl
  clear y0 y1 y2 y3 y4 y5 y6 y7 y8 y9 yf yl
  refine (eqP r2 b2 e2 k2 _).mono ?_; rintro x w2 ⟨rfl, hb⟩
  replace RX := RX.new hb
  replace RY := RY.new hb
  replace HB := bchain HB hb
  clear hb
  have x0 := RowIs.cell (j := 0) RX rfl
  have x1 := RowIs.cell (j := 1) RX rfl
  have x2 := RowIs.cell (j := 2) RX rfl
  have x3 := RowIs.cell (j := 3) RX rfl
  have x4 := RowIs.cell (j := 4) RX rfl
  have x5 := RowIs.cell (j := 5) RX rfl
  have x6 := RowIs.cell (j := 6) RX rfl
  have x7 := RowIs.cell (j := 7) RX rfl
  have x8 := RowIs.cell (j := 8) RX rfl
  have x9 := RowIs.cell (j := 9) RX rfl
  have xf := fun j => RowIs.frozen RX j
  have xl := RX.lt
  have y0 := RowIs.cell (j := 0) RY rfl
  have y1 := RowIs.cell (j := 1) RY rfl
  have y2 := RowIs.cell (j := 2) RY rfl
  have y3 := RowIs.cell (j := 3) RY rfl
  have y4 := RowIs.cell (j := 4) RY rfl
  have y5 := RowIs.cell (j := 5) RY rfl
  have y6 := RowIs.cell (j := 6) RY rfl
  have y7 := RowIs.cell (j := 7) RY rfl
  have y8 := RowIs.cell (j := 8) RY rfl
  have y9 := RowIs.cell (j := 9) RY rfl
  have yf := fun j => RowIs.frozen RY j
  have yl := RY.lt
  go_wp2_with fail
  go_ret
  exact ⟨rfl, HB⟩
theorem array10 {α : Type} {cs : Array α} (h : cs.size = 10) : ∃ c0 c1 c2 c3 c4 c5 c6 c7 c8 c9, cs = #[c0, c1, c2, c3, c4, c5, c6, c7, c8, c9] := by
  obtain ⟨l⟩ := cs
  match l, h with
  | [c0, c1, c2, c3, c4, c5, c6, c7, c8, c9], _ => exact ⟨c0, c1, c2, c3, c4, c5, c6, c7, c8, c9, rfl⟩
open Go.ChangeShapes Go.WideShapes Go.ChangeAt Go.Joins in
theorem trod_pipe {H : Type} {enc : TypeId × Value → H} {W : World} {n : Nat} {c0 c1 c2 c3 : Value} {y : DataW H × List MemPlace} (h : DataW.trod enc Tryz.prog W 0 (fun _ => true) true n 93 [c0, c1, c2, c3] = some y) :
    ∃ p : PpD, p.b.size ≤ maxLen ∧ c0 = .int .i64 p.r ∧ c1 = .string p.b ∧ c2 = .bool p.e ∧ c3 = .bool p.k := by
  obtain ⟨y0, y1, y2, y3, m, _, _, h0, h1, h2, h3⟩ := trod_struct4 Tryz.underlying93 h
  have k0 : Tryz.prog.cellsOf 2 = 1 := by kernel_rfl
  have k1 : Tryz.prog.cellsOf 9 = 1 := by kernel_rfl
  have k2 : Tryz.prog.cellsOf 4 = 1 := by kernel_rfl
  simp only [k0, k1, k2, List.drop_zero, List.drop_succ_cons, List.take_succ_cons, List.take_zero] at h0 h1 h2 h3
  obtain ⟨a, e0, _, wa⟩ := DataW.trod_int Tryz.underlying2 h0
  obtain ⟨s, e1, _, ws⟩ := DataW.trod_string Tryz.underlying9 h1
  obtain ⟨x, e2, _⟩ := DataW.trod_bool Tryz.underlying4 h2
  obtain ⟨z, e3, _⟩ := DataW.trod_bool Tryz.underlying4 h3
  simp at e0 e1 e2 e3
  exact ⟨⟨a, s, x, z⟩, ws, e0, e1, e2, e3⟩
open Go.ChangeShapes Go.WideShapes Go.ChangeAt Go.Joins in
/-- A Tunnel of the laws that came in, as a value. -/
theorem open_Tunnel {H : Type} {enc : TypeId × Value → H} {W : World} {base : Nat} {v : Value} {d : DataW H} {p : List MemPlace} (hv : Value.okWide Tryz.prog W .any base 95 v)
    (h : DataW.Trod enc Tryz.prog W 0 (fun _ => true) true 95 v d p) : ∃ t : TuD, t.up.b.size ≤ maxLen ∧ t.dn.b.size ≤ maxLen ∧ v = tuv t := by
  obtain ⟨cs, rfl, hsz⟩ := okWide_struct Tryz.underlying95 hv
  have hc : Tryz.prog.cellsOf 95 = 10 := by kernel_rfl
  obtain ⟨c0, c1, c2, c3, c4, c5, c6, c7, c8, c9, rfl⟩ := array10 (hsz.trans hc)
  obtain ⟨fuel, hf⟩ := h
  obtain ⟨y0, y1, y2, y3, n, _, _, h0, h1, h2, h3⟩ := trod_struct4 Tryz.underlying95 hf
  have k0 : Tryz.prog.cellsOf 2 = 1 := by kernel_rfl
  have k1 : Tryz.prog.cellsOf 93 = 4 := by kernel_rfl
  simp only [k0, k1, Value.cells, List.drop_zero, List.drop_succ_cons, List.take_succ_cons, List.take_zero] at h0 h1 h2 h3
  obtain ⟨p1, q1, rfl, rfl, rfl, rfl⟩ := trod_pipe h0
  obtain ⟨p2, q2, rfl, rfl, rfl, rfl⟩ := trod_pipe h1
  obtain ⟨a, e0, _, wa⟩ := DataW.trod_int Tryz.underlying2 h2
  obtain ⟨a', e1, _, wa'⟩ := DataW.trod_int Tryz.underlying2 h3
  simp at e0 e1
  subst e0 e1
  exact ⟨⟨p1, p2, a, a'⟩, q1, q2, rfl⟩
end Go.Proofs.YtllaeakeaabiaaaGreat
/- Tables of the laws: counted, copied, held against each other, marked, read again; and one that came in. -/
namespace Go.Proofs.YtllaeakeaabiaaaGreat
open Go.RowKit
set_option maxRecDepth 100000
set_option linter.unusedSimpArgs false
set_option linter.unusedVariables false

theorem szTable1 (L : List Fd) (room : Int) (v : Value) (left : Int) (w : World) (hr0 : Reads w v L.length 2 (fv L)) (hf : ∀ f ∈ L, f.fine) (h0 : 0 ≤ left) (h1 : left ≤ 1048576) :
    Calls Tryz.prog 20 #[.agg #[.int .i64 room, v], .int .i64 left] w fun x w' => x = .returned (.int .i64 (if left - L.length - szL L < 0 then -1 else left - L.length - szL L)) ∧ Below w.heap.size w w' := by
  obtain ⟨ad, cap, rfl, _⟩ := hr0.2
  have HR := hide hr0
  clear hr0
  obtain ⟨R, hR⟩ : ∃ R : Int, R = if left - L.length - szL L < 0 then -1 else left - L.length - szL L := ⟨_, rfl⟩
  rw [← hR]
  go_enter Tryz.func20, Tryz.ntmps20
  have HRR := hide hR
  clear hR
  go_wp2_with fail
  refine (szFields L _ left _ (HR.out.new ((Below.refl _ _).alloc (Nat.le_refl _) _)) hf h0 h1).mono ?_; rw [← HRR.out]; rintro x w1 ⟨rfl, hb1⟩
  have hz := HRR.out
  by_cases h : left - L.length - szL L < 0
  · rw [if_pos h] at hz
    subst hz
    go_wp2_with fail
    go_ret
    exact ⟨rfl, (by repeat' (first | (with_reducible exact Below.refl _ _) | (with_reducible refine Below.drew ?_) | (with_reducible refine bo_drewN _ ?_) | (with_reducible refine bo_alloc ?_ _) | (refine bchain ?_ (by with_reducible assumption)) | (with_reducible refine Below.setCell ?_ ?_ _) | go_size))⟩
  · rw [if_neg h] at hz
    have hz0 : ¬ R < 0 := by omega
    clear hz
    go_wp2_with fail
    go_ret
    exact ⟨rfl, (by repeat' (first | (with_reducible exact Below.refl _ _) | (with_reducible refine Below.drew ?_) | (with_reducible refine bo_drewN _ ?_) | (with_reducible refine bo_alloc ?_ _) | (refine bchain ?_ (by with_reducible assumption)) | (with_reducible refine Below.setCell ?_ ?_ _) | go_size))⟩

theorem toTable1 (L : List Fd) (room : Int) (v : Value) (w : World) (hr0 : Reads w v L.length 2 (fv L)) (hL : L.length ≤ 1048576) :
    Calls Tryz.prog 27 #[.agg #[.int .i64 room, v]] w fun x w' => ∃ v', x = .returned (.agg #[.int .i64 room, v']) ∧ w'.ownsRow w.heap.size 146 2 v' L.length (fv L) ∧ Below w.heap.size w w' := by
  obtain ⟨ad, cap, rfl, _⟩ := hr0.2
  have HR := hide hr0
  clear hr0
  go_enter Tryz.func27, Tryz.ntmps27
  go_wp2_with fail
  refine (toFields L _ _ ?c1 hL).mono ?_
  case c1 => exact HR.out.new (by repeat' (first | (with_reducible exact Below.refl _ _) | (with_reducible refine Below.drew ?_) | (with_reducible refine bo_drewN _ ?_) | (with_reducible refine bo_alloc ?_ _) | (refine bchain ?_ (by with_reducible assumption)) | (with_reducible refine Below.setCell ?_ ?_ _) | go_size))
  rintro x w1 ⟨v1, rfl, ho, hb1⟩; have hz1 := hb1.size; (try simp at hz1); have hc1 := fun o => hb1.cell (p := ⟨w.heap.size, o, none⟩) (by first | (simp; done) | (simp; omega) | omega); have hf1 := fun o => hb1.frozen (p := ⟨w.heap.size, o, none⟩) (by first | (simp; done) | (simp; omega) | omega); have hcn1 := fun o => hb1.cell (p := ⟨w.heap.size + 1, o, none⟩) (by first | (simp; done) | (simp; omega) | omega); have hfn1 := fun o => hb1.frozen (p := ⟨w.heap.size + 1, o, none⟩) (by first | (simp; done) | (simp; omega) | omega); have hcm1 := fun o => hb1.cell (p := ⟨w.heap.size + 2, o, none⟩) (by first | (simp; done) | (simp; omega) | omega); have hfm1 := fun o => hb1.frozen (p := ⟨w.heap.size + 2, o, none⟩) (by first | (simp; done) | (simp; omega) | omega)
  have hbw : Below w.heap.size w w1 := (by repeat' (first | (with_reducible exact Below.refl _ _) | (with_reducible refine Below.drew ?_) | (with_reducible refine bo_drewN _ ?_) | (with_reducible refine bo_alloc ?_ _) | (refine bchain ?_ (by with_reducible assumption)) | (with_reducible refine Below.setCell ?_ ?_ _) | go_size))
  obtain ⟨ad1, cap1, rfl, _⟩ := owns_form ho
  have hc2 : ∀ k, (Value.slice ad1 L.length cap1).ownBlock = some k → w.heap.size + 3 ≤ k ∧ k < w1.heap.size := fun k hk => by have := ho.lt k hk; simpa using this
  have HO := hide ho
  clear ho
  have HC := hide hc2
  clear hc2
  go_wp2_with fail
  refine bodyPost_ret (v := .agg #[.int .i64 room, .slice ad1 L.length cap1]) (by simp [results, Tryz.results27, go_sem, *]) rfl ?_
  have ho : w1.ownsRow w.heap.size 146 2 (.slice ad1 L.length cap1) L.length (fv L) := owns_base HO.out fun k hk => by have := HC.out k hk; omega
  have hv : ∀ k, (Value.slice ad1 L.length cap1).ownBlock = some k → w.heap.size + 3 ≤ k := fun k hk => (HC.out k hk).1
  exact ⟨_, rfl, (by repeat' (first | (with_reducible exact ho) | (with_reducible refine owns_far _ ?_ hv _ _ ?_) | (with_reducible refine World.ownsRow.alloc ?_ _) | (simp; done) | (simp; omega))), (by repeat' (first | (with_reducible exact Below.refl _ _) | (with_reducible refine Below.drew ?_) | (with_reducible refine bo_drewN _ ?_) | (with_reducible refine bo_alloc ?_ _) | (refine bchain ?_ (by with_reducible assumption)) | (with_reducible refine Below.setCell ?_ ?_ _) | go_size))⟩

theorem eqTable1 (L : List Fd) (room : Int) (v v' : Value) (w : World) (hr0 : Reads w v L.length 2 (fv L)) (hr1 : Reads w v' L.length 2 (fv L)) :
    Calls Tryz.prog 33 #[.agg #[.int .i64 room, v], .agg #[.int .i64 room, v']] w fun x w' => x = .returned (.bool true) ∧ Below w.heap.size w w' := by
  obtain ⟨ad, cap, rfl, _⟩ := hr0.2
  obtain ⟨ad', cap', rfl, _⟩ := hr1.2
  have HR := hide hr0; have HR' := hide hr1
  clear hr0 hr1
  go_enter Tryz.func33, Tryz.ntmps33
  go_wp2_with fail
  refine (eqFields L _ _ _ ?c1 ?c2).mono ?_
  case c1 => exact HR.out.new (by repeat' (first | (with_reducible exact Below.refl _ _) | (with_reducible refine Below.drew ?_) | (with_reducible refine bo_drewN _ ?_) | (with_reducible refine bo_alloc ?_ _) | (refine bchain ?_ (by with_reducible assumption)) | (with_reducible refine Below.setCell ?_ ?_ _) | go_size))
  case c2 => exact HR'.out.new (by repeat' (first | (with_reducible exact Below.refl _ _) | (with_reducible refine Below.drew ?_) | (with_reducible refine bo_drewN _ ?_) | (with_reducible refine bo_alloc ?_ _) | (refine bchain ?_ (by with_reducible assumption)) | (with_reducible refine Below.setCell ?_ ?_ _) | go_size))
  rintro x w1 ⟨rfl, hb1⟩
  go_wp2_with fail
  go_ret
  exact ⟨rfl, (by repeat' (first | (with_reducible exact Below.refl _ _) | (with_reducible refine Below.drew ?_) | (with_reducible refine bo_drewN _ ?_) | (with_reducible refine bo_alloc ?_ _) | (refine bchain ?_ (by with_reducible assumption)) | (with_reducible refine Below.setCell ?_ ?_ _) | go_size))⟩

theorem heldTable1 (n k : Nat) (room : Int) (v : Value) (w : World) (hr0 : Reads w v n 2 (mkT k (n * 2))) (hk1 : k + n * 2 ≤ 1000000000) :
    Calls Tryz.prog 41 #[.agg #[.int .i64 room, v], .int .i64 k] w fun x w' => x = .returned (.int .i64 ((k + n * 2 : Nat) : Int)) ∧ Below w.heap.size w w' := by
  obtain ⟨ad, cap, rfl, _⟩ := hr0.2
  have HR := hide hr0
  clear hr0
  obtain ⟨K, hK⟩ : ∃ K : Nat, K = k + n * 2 := ⟨_, rfl⟩
  rw [← hK]
  have HK := hide hK
  clear hK
  go_enter Tryz.func41, Tryz.ntmps41
  go_wp2_with fail
  refine (heldFields n k _ _ ?c1 hk1).mono ?_
  case c1 => exact HR.out.new (by repeat' (first | (with_reducible exact Below.refl _ _) | (with_reducible refine Below.drew ?_) | (with_reducible refine bo_drewN _ ?_) | (with_reducible refine bo_alloc ?_ _) | (refine bchain ?_ (by with_reducible assumption)) | (with_reducible refine Below.setCell ?_ ?_ _) | go_size))
  rw [← HK.out]
  rintro x w1 ⟨rfl, hb1⟩
  go_wp2_with fail
  go_ret
  exact ⟨rfl, (by repeat' (first | (with_reducible exact Below.refl _ _) | (with_reducible refine Below.drew ?_) | (with_reducible refine bo_drewN _ ?_) | (with_reducible refine bo_alloc ?_ _) | (refine bchain ?_ (by with_reducible assumption)) | (with_reducible refine Below.setCell ?_ ?_ _) | go_size))⟩

theorem markTable1 (n k : Nat) (room : Int) (v : Value) (xs : List Value) (lo : Nat) (w : World) (ho : w.ownsRow lo 146 2 v n xs) (hk1 : k + n * 2 ≤ 1000000000) :
    Calls Tryz.prog 37 #[.agg #[.int .i64 room, v], .int .i64 k] w fun x w' => x = .returned (.int .i64 ((k + n * 2 : Nat) : Int)) ∧ w'.ownsRow lo 146 2 v n (mkT k (n * 2)) ∧ w.grownBy w' v.ownBlock := by
  obtain ⟨ad, cap, rfl, h1, h2⟩ := owns_form ho
  have HO := hide ho
  clear ho
  obtain ⟨K, hK⟩ : ∃ K : Nat, K = k + n * 2 := ⟨_, rfl⟩
  rw [← hK]
  have HK := hide hK
  clear hK
  go_enter Tryz.func37, Tryz.ntmps37
  go_wp2_with fail
  refine (markFields n k _ _ lo _ (HO.out.alloc _) hk1).mono ?_
  rw [← HK.out]
  rintro x w1 ⟨rfl, ho1, hg1⟩
  have HO1 := hide ho1
  have HG := hide (gb_trans (gb_new ((Below.refl w.heap.size w).alloc (Nat.le_refl _) _) _) hg1)
  clear ho1 hg1
  go_wp2_with fail
  go_ret
  exact ⟨rfl, HO1.out, HG.out⟩

open Go.ChangeShapes Go.WideShapes Go.ChangeAt Go.Joins Go.Deep in
theorem cells2 {H : Type} {enc : TypeId × Value → H} {W : World} {base : Nat} {spare : Nat → Bool} {held : Bool} {t : TypeId} {f0 f1 : Field} {fuel : Nat} {cs : List Value} {x : DataW H × List MemPlace} (hs : Tryz.prog.underlying t = some (.struct #[f0, f1])) (hone : oneCellFields Tryz.prog #[f0, f1] = true) (hC : Tryz.prog.cellsOf t = 2)
    (h : DataW.trod enc Tryz.prog W base spare held fuel t cs = some x) :
    ∃ (c0 c1 : Value) (y0 y1 : DataW H × List MemPlace) (n : Nat), cs = [c0, c1] ∧ DataW.trod enc Tryz.prog W base spare held n f0.type [c0] = some y0 ∧ DataW.trod enc Tryz.prog W base spare held n f1.type [c1] = some y1 := by
  obtain ⟨y0, y1, n, hx, hl, h0, h1⟩ := trod_struct2 hs h
  obtain ⟨o0, k0⟩ := hone_of hone 0 f0 rfl
  obtain ⟨o1, k1⟩ := hone_of hone 1 f1 rfl
  rw [hC] at hl
  match cs, hl with
  | [c0, c1], _ => exact ⟨c0, c1, y0, y1, n, rfl, by simpa [o0, k0] using h0, by simpa [o1, k1] using h1⟩

open Go.ChangeShapes Go.WideShapes Go.ChangeAt Go.Joins in
theorem open_fcells {H : Type} {enc : TypeId × Value → H} {W : World} {base : Nat} {spare : Nat → Bool} {held : Bool} {fuel : Nat} {cs : List Value} {x : DataW H × List MemPlace} (h : DataW.trod enc Tryz.prog W base spare held fuel 143 cs = some x) : ∃ f : Fd, cs = f.cs ∧ f.fine := by
  obtain ⟨a0, a1, z0, z1, n', rfl, h0, h1⟩ := cells2 Tryz.underlying143 (by kernel_rfl) (by kernel_rfl) h
  obtain ⟨s0, e0, _, hs0⟩ := DataW.trod_string Tryz.underlying9 h0
  obtain ⟨s1, e1, _, hs1⟩ := DataW.trod_string Tryz.underlying9 h1
  simp only [List.cons.injEq, and_true] at e0 e1
  subst e0 e1
  exact ⟨⟨s0, s1⟩, rfl, by unfold maxLen at hs0; simp only; omega, by unfold maxLen at hs1; simp only; omega⟩

open Go.ChangeShapes Go.WideShapes Go.ChangeAt Go.Joins in
theorem open_Table {H : Type} {enc : TypeId × Value → H} {W : World} {base : Nat} {v : Value} {d : DataW H} {p : List MemPlace} (hv : Value.okWide Tryz.prog W .any base 27 v)
    (h : DataW.Trod enc Tryz.prog W 0 (fun _ => true) true 27 v d p) : ∃ (room : Int) (rv : Value) (L : List Fd), v = .agg #[.int .i64 room, rv] ∧ Reads W rv L.length 2 (fv L) ∧ ∀ f ∈ L, f.fine := by
  obtain ⟨c0, c1, y0, y1, n, rfl, _, _, hy0, hy1⟩ := open_agg2 Tryz.underlying27 (by kernel_rfl) (by kernel_rfl) hv h
  obtain ⟨i0, e0, _⟩ := DataW.trod_int Tryz.underlying2 hy0
  simp only [List.cons.injEq, and_true] at e0
  subst e0
  obtain ⟨L, hL, hF⟩ := open_rows (α := Fd) ⟨⟨#[]⟩, ⟨#[]⟩⟩ Fd.cs 2 fcs_len Fd.fine Tryz.underlying25 (by kernel_rfl) (by decide) (fun cs n y hy => open_fcells hy) hy1
  exact ⟨i0, c1, L, rfl, hL, hF⟩
open Go.ChangeShapes Go.WideShapes Go.ChangeAt Go.Joins in
theorem open_Field {H : Type} {enc : TypeId × Value → H} {W : World} {base : Nat} {v : Value} {d : DataW H} {p : List MemPlace} (hv : Value.okWide Tryz.prog W .any base 143 v)
    (h : DataW.Trod enc Tryz.prog W 0 (fun _ => true) true 143 v d p) : ∃ f : Fd, v = .agg #[.string f.n, .string f.v] ∧ f.fine := by
  obtain ⟨c0, c1, y0, y1, n, rfl, _, _, hy0, hy1⟩ := open_agg2 Tryz.underlying143 (by kernel_rfl) (by kernel_rfl) hv h
  obtain ⟨s0, e0, _, hs0⟩ := DataW.trod_string Tryz.underlying9 hy0
  obtain ⟨s1, e1, _, hs1⟩ := DataW.trod_string Tryz.underlying9 hy1
  simp only [List.cons.injEq, and_true] at e0 e1
  subst e0 e1
  exact ⟨⟨s0, s1⟩, rfl, by unfold maxLen at hs0; simp only; omega, by unfold maxLen at hs1; simp only; omega⟩
end Go.Proofs.YtllaeakeaabiaaaGreat
/- What the Go functions of chapter 1 that push and pull answer at every argument. -/
namespace Go.Proofs.YtllaeakeaabiaaaGreat
open Go.RowKit
set_option maxRecDepth 100000
set_option linter.unusedSimpArgs false
set_option linter.unusedVariables false

theorem min1 (a b : Int) (w : World) : Calls Tryz.prog 85 #[.int .i64 a, .int .i64 b] w fun x w' => x = .returned (.int .i64 (min a b)) ∧ w' = w := by
  by_cases h : a < b
  · rw [show min a b = a by omega]
    go_enter Tryz.func85, Tryz.ntmps85
    go_wp2
    go_ret
    exact ⟨rfl, rfl⟩
  · rw [show min a b = b by omega]
    go_enter Tryz.func85, Tryz.ntmps85
    go_wp2
    go_ret
    exact ⟨rfl, rfl⟩

theorem max1 (a b : Int) (w : World) : Calls Tryz.prog 141 #[.int .i64 a, .int .i64 b] w fun x w' => x = .returned (.int .i64 (max a b)) ∧ w' = w := by
  by_cases h : b < a
  · rw [show max a b = a by omega]
    go_enter Tryz.func141, Tryz.ntmps141
    go_wp2
    go_ret
    exact ⟨rfl, rfl⟩
  · rw [show max a b = b by omega]
    go_enter Tryz.func141, Tryz.ntmps141
    go_wp2
    go_ret
    exact ⟨rfl, rfl⟩

theorem pull1 (r : Int) (b : ByteArray) (e k : Bool) (n : Int) (g : Nat) (w : World) (hb : b.size ≤ maxLen)
    (hg : w.cell? ⟨g, 1, none⟩ = some (.string b)) (hf : w.frozen? ⟨g, 1, none⟩ = false) :
    Calls Tryz.prog 86 #[.pointer (some ⟨g, 0, none⟩), .int .i64 n] w fun x w' => x = .returned (.string (b.extract 0 (max 0 (min n b.size)).toNat)) ∧ w' = w.setCell ⟨g, 1, none⟩ (.string (b.extract (max 0 (min n b.size)).toNat b.size)) := by
  unfold maxLen at hb
  have h1 : 0 ≤ max 0 (min n (b.size : Int)) := by omega
  have h2 : max 0 (min n (b.size : Int)) ≤ b.size := by omega
  go_enter Tryz.func86, Tryz.ntmps86
  go_wp2_with fail
  refine (min1 _ _ _).mono ?_; rintro x w1 ⟨rfl, rfl⟩
  go_wp2_with fail
  refine (max1 _ _ _).mono ?_; rintro x w1 ⟨rfl, rfl⟩
  go_wp2_with fail
  go_ret
  exact ⟨rfl, rfl⟩

theorem pull (r : Int) (b : ByteArray) (e k : Bool) (n : Int) (w : World) (hb : b.size ≤ 2000) :
    Calls Tryz.prog 184 #[.agg #[.int .i64 r, .string b, .bool e, .bool k], .int .i64 n] w fun x w' => x = .returned (.tuple #[.agg #[.int .i64 r, .string (b.extract (max 0 (min n b.size)).toNat b.size), .bool e, .bool k], .string (b.extract 0 (max 0 (min n b.size)).toNat)]) ∧ Below w.heap.size w w' := by
  obtain ⟨m, hm⟩ : ∃ m : Nat, max 0 (min n (b.size : Int)) = m := ⟨(max 0 (min n (b.size : Int))).toNat, by omega⟩
  rw [hm]
  have hm1 : m ≤ b.size := by omega
  have hm2 : min (max n 0) (b.size : Int) = m := by omega
  have hcv := Lib.run_convert_string_bytes (P := Tryz.prog) ((w.alloc (.cells #[.int .i64 r, .string b, .bool e, .bool k] 85)).alloc (.cells #[.int .i64 0, .string ⟨#[]⟩, .bool false, .bool false] 85)) 9 131 5 b Tryz.underlying9 Tryz.underlying131 Tryz.underlying5
  obtain ⟨hb0, hs0, hy0⟩ := bytes_new1 ((w.alloc (.cells #[.int .i64 r, .string b, .bool e, .bool k] 85)).alloc (.cells #[.int .i64 0, .string ⟨#[]⟩, .bool false, .bool false] 85)) 5 b
  have hcap := grownCap_ge ((w.alloc (.cells #[.int .i64 r, .string b, .bool e, .bool k] 85)).alloc (.cells #[.int .i64 0, .string ⟨#[]⟩, .bool false, .bool false] 85)) b.size 0 5
  generalize Lib.bytesWorld _ 5 b = W1 at hcv hb0 hs0 hy0
  generalize grownCap _ _ _ _ = cap at hcv hcap
  have hz0 := hb0.size; (try simp at hz0); have hc0 := fun o => hb0.cell (p := ⟨w.heap.size, o, none⟩) (by first | (simp; done) | (simp; omega) | omega); have hf0 := fun o => hb0.frozen (p := ⟨w.heap.size, o, none⟩) (by first | (simp; done) | (simp; omega) | omega); have hcn0 := fun o => hb0.cell (p := ⟨w.heap.size + 1, o, none⟩) (by first | (simp; done) | (simp; omega) | omega); have hfn0 := fun o => hb0.frozen (p := ⟨w.heap.size + 1, o, none⟩) (by first | (simp; done) | (simp; omega) | omega)
  simp only [World.size_alloc] at hy0
  have HX : Hid (∀ X : World, Lib.Bytes X (w.heap.size + 1 + 1) 0 b → ∀ i j c : Nat, i + j ≤ b.size → (convert 131 9 (.slice (some ⟨w.heap.size + 1 + 1, i, none⟩) j c)).run Tryz.prog X = .ok (.string (b.extract i (i + j))) X) := fun X hX i j c hij => by
    have := Lib.run_convert_window (P := Tryz.prog) X 131 5 9 Tryz.underlying131 Tryz.underlying5 Tryz.underlying9 (w.heap.size + 1 + 1) 0 b hX i j c hij
    rwa [Nat.zero_add] at this
  by_cases hme : m = b.size
  · have hx1 : ∀ q, (convert 131 9 (.slice (some ⟨w.heap.size + 1 + 1, 0, none⟩) 0 0)).run Tryz.prog (W1.drewN q) = .ok (.string (b.extract 0 0)) (W1.drewN q) := fun q => HX.out _ (hy0.drewN q) 0 0 _ (by omega)
    go_enter Tryz.func184, Tryz.ntmps184
    go_wp2_with fail
    go_quiet (fail)
    go_wp2_with fail
    have hx2 := HX.out _ (bytes_drew (bytes_set (hy0.drewN nq) ⟨w.heap.size, 1, none⟩ (.string ByteArray.empty) (by simp; omega))) 0 b.size b.size (by omega)
    have hx3 := HX.out _ (bytes_drew (bytes_set (bytes_set (bytes_set (bytes_set (bytes_set (hy0.drewN nq) ⟨w.heap.size, 1, none⟩ (.string ByteArray.empty) (by simp; omega)) ⟨w.heap.size + 1, 0, none⟩ (.int .i64 r) (by simp)) ⟨w.heap.size + 1, 1, none⟩ (.string ByteArray.empty) (by simp)) ⟨w.heap.size + 1, 2, none⟩ (.bool e) (by simp)) ⟨w.heap.size + 1, 3, none⟩ (.bool k) (by simp))) 0 b.size b.size (by omega)
    go_region
    go_wp2_with fail
    refine bodyPost_ret (v := .tuple #[.agg #[.int .i64 r, .string ByteArray.empty, .bool e, .bool k], .string b]) (by simp [results, Tryz.results184, go_sem, *]) rfl ?_
    exact ⟨by rw [Int.toNat_natCast, hme]; simp, (by repeat' (first | (with_reducible exact Below.refl _ _) | (with_reducible refine Below.drew ?_) | (with_reducible refine bo_drewN _ ?_) | (with_reducible refine bo_alloc ?_ _) | (refine bchain ?_ (by with_reducible assumption)) | (with_reducible refine Below.setCell ?_ ?_ _) | go_size))⟩
  · have hx1 : ∀ q, (convert 131 9 (.slice (some ⟨w.heap.size + 1 + 1, m, none⟩) (b.size - m) (b.size - m))).run Tryz.prog (W1.drewN q) = .ok (.string (b.extract m b.size)) (W1.drewN q) := fun q => by
      have := HX.out _ (hy0.drewN q) m (b.size - m) (b.size - m) (by omega)
      rwa [show m + (b.size - m) = b.size by omega] at this
    have hlt : m < b.size := by omega
    go_enter Tryz.func184, Tryz.ntmps184
    go_wp2_with fail
    go_quiet (fail)
    go_wp2_with fail
    have hx2 := HX.out _ (bytes_drew (bytes_set (hy0.drewN nq) ⟨w.heap.size, 1, none⟩ (.string (b.extract m b.size)) (by simp; omega))) 0 m m (by omega)
    have hx3 := HX.out _ (bytes_drew (bytes_set (bytes_set (bytes_set (bytes_set (bytes_set (hy0.drewN nq) ⟨w.heap.size, 1, none⟩ (.string (b.extract m b.size)) (by simp; omega)) ⟨w.heap.size + 1, 0, none⟩ (.int .i64 r) (by simp)) ⟨w.heap.size + 1, 1, none⟩ (.string (b.extract m b.size)) (by simp)) ⟨w.heap.size + 1, 2, none⟩ (.bool e) (by simp)) ⟨w.heap.size + 1, 3, none⟩ (.bool k) (by simp))) 0 m m (by omega)
    go_region
    go_wp2_with fail
    refine bodyPost_ret (v := .tuple #[.agg #[.int .i64 r, .string (b.extract m b.size), .bool e, .bool k], .string (b.extract 0 m)]) (by simp [results, Tryz.results184, go_sem, *]) rfl ?_
    exact ⟨by rw [Int.toNat_natCast], (by repeat' (first | (with_reducible exact Below.refl _ _) | (with_reducible refine Below.drew ?_) | (with_reducible refine bo_drewN _ ?_) | (with_reducible refine bo_alloc ?_ _) | (refine bchain ?_ (by with_reducible assumption)) | (with_reducible refine Below.setCell ?_ ?_ _) | go_size))⟩

/-- How many bytes go. -/
def goes (n : Int) (b : ByteArray) : Nat := (max 0 (min n b.size)).toNat

theorem okB_le {r : Int} {b : ByteArray} {k : Bool} (h : okB r b k = true) : b.size ≤ 2000 := by
  by_cases h1 : 1 ≤ r ∧ r ≤ 2000 ∧ (b.size : Int) ≤ r
  · omega
  · rw [okB_low h1] at h; cases h

theorem implPulled (r : Int) (b : ByteArray) (e k : Bool) (n : Int) (w : World) (hb : b.size ≤ maxLen) :
    Calls Tryz.prog 145 #[.agg #[.int .i64 r, .string b, .bool e, .bool k], .int .i64 n] w fun x w' => x = .returned (if okB r b k then .tuple #[.agg #[.int .i64 r, .string (b.extract (goes n b) b.size), .bool e, .bool k], .string (b.extract 0 (goes n b))] else .tuple #[.agg #[.int .i64 0, .string ⟨#[]⟩, .bool false, .bool false], .string ⟨#[]⟩]) ∧ Below w.heap.size w w' := by
  cases hv : okB r b k
  · go_enter Tryz.func145, Tryz.ntmps145
    go_wp2_with fail
    refine (right r b e k _ hb).mono ?_; rw [hv]; rintro x w1 ⟨rfl, hb1⟩; have hz1 := hb1.size; (try simp at hz1); have hc1 := fun o => hb1.cell (p := ⟨w.heap.size, o, none⟩) (by first | (simp; done) | (simp; omega) | omega); have hf1 := fun o => hb1.frozen (p := ⟨w.heap.size, o, none⟩) (by first | (simp; done) | (simp; omega) | omega); have hcn1 := fun o => hb1.cell (p := ⟨w.heap.size + 1, o, none⟩) (by first | (simp; done) | (simp; omega) | omega); have hfn1 := fun o => hb1.frozen (p := ⟨w.heap.size + 1, o, none⟩) (by first | (simp; done) | (simp; omega) | omega)
    go_wp2_with fail
    refine bodyPost_ret (v := .tuple #[.agg #[.int .i64 0, .string ⟨#[]⟩, .bool false, .bool false], .string ⟨#[]⟩]) (by simp [results, Tryz.results145, go_sem, *]) rfl ?_
    exact ⟨rfl, (by repeat' (first | (with_reducible exact Below.refl _ _) | (with_reducible refine Below.drew ?_) | (with_reducible refine bo_drewN _ ?_) | (with_reducible refine bo_alloc ?_ _) | (refine bchain ?_ (by with_reducible assumption)) | (with_reducible refine Below.setCell ?_ ?_ _) | go_size))⟩
  · go_enter Tryz.func145, Tryz.ntmps145
    go_wp2_with fail
    refine (right r b e k _ hb).mono ?_; rw [hv]; rintro x w1 ⟨rfl, hb1⟩; have hz1 := hb1.size; (try simp at hz1); have hc1 := fun o => hb1.cell (p := ⟨w.heap.size, o, none⟩) (by first | (simp; done) | (simp; omega) | omega); have hf1 := fun o => hb1.frozen (p := ⟨w.heap.size, o, none⟩) (by first | (simp; done) | (simp; omega) | omega); have hcn1 := fun o => hb1.cell (p := ⟨w.heap.size + 1, o, none⟩) (by first | (simp; done) | (simp; omega) | omega); have hfn1 := fun o => hb1.frozen (p := ⟨w.heap.size + 1, o, none⟩) (by first | (simp; done) | (simp; omega) | omega)
    go_wp2_with fail
    refine (pull r b e k n _ (okB_le hv)).mono ?_; rw [show (max 0 (min n (b.size : Int))).toNat = goes n b from rfl]; rintro x w2 ⟨rfl, hb2⟩; have hz2 := hb2.size; (try simp at hz2); have hc2 := fun o => hb2.cell (p := ⟨w.heap.size, o, none⟩) (by first | (simp; done) | (simp; omega) | omega); have hf2 := fun o => hb2.frozen (p := ⟨w.heap.size, o, none⟩) (by first | (simp; done) | (simp; omega) | omega); have hcn2 := fun o => hb2.cell (p := ⟨w.heap.size + 1, o, none⟩) (by first | (simp; done) | (simp; omega) | omega); have hfn2 := fun o => hb2.frozen (p := ⟨w.heap.size + 1, o, none⟩) (by first | (simp; done) | (simp; omega) | omega)
    go_wp2_with fail
    refine bodyPost_ret (v := .tuple #[.agg #[.int .i64 r, .string (b.extract (goes n b) b.size), .bool e, .bool k], .string (b.extract 0 (goes n b))]) (by simp [results, Tryz.results145, go_sem, *]) rfl ?_
    exact ⟨rfl, (by repeat' (first | (with_reducible exact Below.refl _ _) | (with_reducible refine Below.drew ?_) | (with_reducible refine bo_drewN _ ?_) | (with_reducible refine bo_alloc ?_ _) | (refine bchain ?_ (by with_reducible assumption)) | (with_reducible refine Below.setCell ?_ ?_ _) | go_size))⟩

end Go.Proofs.YtllaeakeaabiaaaGreat
/- Chapter 7's numbers as bytes: Number and Bytes, of the program and of the model. -/
namespace Go.Proofs.YtllaeakeaabiaaaGreat
open Go.RowKit
set_option maxRecDepth 100000
set_option linter.unusedSimpArgs false
set_option linter.unusedVariables false

theorem wraps40 : ∀ n : Int, 0 ≤ n → n < 2 ^ 40 → IntKind.i64.wrap n = n := by
  intro n h0 h1
  rw [IntKind.wrap_i64]; omega
theorem or_byte {z b : Int} (hz0 : 0 ≤ z) (hz1 : z < 16777216) (hb0 : 0 ≤ b) (hb1 : b ≤ 255) : bits .or .i64 (z * 256) b = z * 256 + b := by
  refine bits_join .i64 40 (by decide) wraps40 8 (z * 256) b (by omega) (by omega) (by omega) hb0 (by omega) (by omega)
theorem bys_take (s : ByteArray) (k : Nat) (h : k < s.size) : (bys s).take (k + 1) = (bys s).take k ++ [(s[k].toNat : Int)] := by
  have hl : k < (bys s).length := by rw [bys_len]; exact h
  rw [List.take_succ_eq_append_getElem hl]
  congr 2
  simp [bys]; rfl
theorem numL_take (s : ByteArray) (k : Nat) (h : k < s.size) : numL ((bys s).take (k + 1)) = numL ((bys s).take k) * 256 + (s[k].toNat : Int) := by rw [bys_take s k h, numL_snoc]
theorem numL_take_range (s : ByteArray) (k : Nat) : 0 ≤ numL ((bys s).take k) ∧ (k ≤ 3 → numL ((bys s).take k) < 16777216) := by
  have h := numL_range (l := (bys s).take k) fun x hx => bys_range s x (List.mem_of_mem_take hx)
  refine ⟨h.1, fun hk => ?_⟩
  have hl : ((bys s).take k).length ≤ 3 := by rw [List.length_take]; omega
  have : (256 : Int) ^ ((bys s).take k).length ≤ 256 ^ 3 := by exact_mod_cast Nat.pow_le_pow_right (by omega : 0 < 256) hl
  omega
theorem byte_range (s : ByteArray) (k : Nat) (h : k < s.size) : (s[k].toNat : Int) ≤ 255 := by have := (s[k]).toNat_lt; omega

set_option maxHeartbeats 1000000 in
theorem implNumber (s : ByteArray) (w : World) (hs : s.size ≤ maxLen) : Calls Tryz.prog 128 #[.string s] w fun e w' => e = .returned (.int .i64 (numV s)) ∧ w' = w := by
  unfold maxLen at hs
  by_cases h4 : 4 < s.size
  · rw [numV_long h4]
    go_enter Tryz.func128, Tryz.ntmps128
    go_wp2_with fail
    go_ret
    exact ⟨rfl, rfl⟩
  · obtain ⟨R, hR⟩ : ∃ R, numV s = R := ⟨_, rfl⟩
    rw [hR]
    have HR : Hid (numL ((bys s).take s.size) = R) := by show _ = _; rw [← hR]; unfold numV; rw [if_neg h4, List.take_of_length_le (by rw [bys_len]; omega)]
    clear hR
    go_enter Tryz.func128, Tryz.ntmps128
    go_wp2_with fail
    go_loop [3, 10] (fun n i => ∃ k : Nat, i = .int .i64 k ∧ k ≤ s.size ∧ n = .int .i64 (numL ((bys s).take k))) (fun _ i => s.size - (intOf i).toNat)
    case atStart => exact ⟨0, rfl, Nat.zero_le _, by simp [numL]⟩
    case round =>
      obtain ⟨k, rfl, hk, rfl⟩ := hrel
      by_cases hlt : k < s.size
      · have HN := hide (numL_take s k hlt)
        obtain ⟨z0, z1⟩ := numL_take_range s k
        have z2 := z1 (by omega)
        have hb := byte_range s k hlt
        obtain ⟨z, hz⟩ : ∃ z, numL ((bys s).take k) = z := ⟨_, rfl⟩
        rw [hz] at HN z0 z2 ⊢
        clear z1 hz
        have hor := or_byte (b := (s[k].toNat : Int)) z0 z2 (by omega) hb
        have hle : z * 256 + (s[k].toNat : Int) < 4294967296 := by omega
        go_wp2_with fail
        go_round
        case rel => exact ⟨k + 1, by go_num, by omega, int_eq HN.out.symm⟩
        case measure => simp [intOf]; omega
      · obtain rfl : k = s.size := by omega
        go_wp2_with fail
        go_ret
        exact ⟨by rw [HR.out]; rfl, rfl⟩
set_option maxHeartbeats 1000000 in
theorem specNumber (s : ByteArray) (w : World) (hs : s.size ≤ maxLen) : Calls Tryz.prog 100 #[.string s] w fun e w' => e = .returned (.int .i64 (numV s)) ∧ w' = w := by
  unfold maxLen at hs
  by_cases h4 : 4 < s.size
  · rw [numV_long h4]
    go_enter Tryz.func100, Tryz.ntmps100
    go_wp2_with fail
    go_ret
    exact ⟨rfl, rfl⟩
  · obtain ⟨R, hR⟩ : ∃ R, numV s = R := ⟨_, rfl⟩
    rw [hR]
    have HR : Hid (numL ((bys s).take s.size) = R) := by show _ = _; rw [← hR]; unfold numV; rw [if_neg h4, List.take_of_length_le (by rw [bys_len]; omega)]
    clear hR
    go_enter Tryz.func100, Tryz.ntmps100
    go_wp2_with fail
    go_loop [3, 4] (fun n i => ∃ k : Nat, i = .int .i64 k ∧ k ≤ s.size ∧ n = .int .i64 (numL ((bys s).take k))) (fun _ i => s.size - (intOf i).toNat)
    case atStart => exact ⟨0, rfl, Nat.zero_le _, by simp [numL]⟩
    case round =>
      obtain ⟨k, rfl, hk, rfl⟩ := hrel
      by_cases hlt : k < s.size
      · have HN := hide (numL_take s k hlt)
        obtain ⟨z0, z1⟩ := numL_take_range s k
        have z2 := z1 (by omega)
        have hb := byte_range s k hlt
        obtain ⟨z, hz⟩ : ∃ z, numL ((bys s).take k) = z := ⟨_, rfl⟩
        rw [hz] at HN z0 z2 ⊢
        clear z1 hz
        have hle : z * 256 + (s[k].toNat : Int) < 4294967296 := by omega
        go_wp2_with fail
        go_round
        case rel => exact ⟨k + 1, by go_num, by omega, int_eq HN.out.symm⟩
        case measure => simp [intOf]; omega
      · obtain rfl : k = s.size := by omega
        go_wp2_with fail
        go_ret
        exact ⟨by rw [HR.out]; rfl, rfl⟩
/-- What Bytes answers. -/
def bysV (n c : Int) : ByteArray := if inB c 1 4 = true ∧ inB n 0 (256 ^ c.toNat - 1) = true then bytV c.toNat n else ⟨#[]⟩
theorem row_end {xs : List Value} {l : List Int} (h : xs.drop 0 = l.map (Value.int .u8)) : xs = l.map (Value.int .u8) := by simpa using h
theorem drop_set (xs : List Value) (a : Nat) (v : Value) (l : List Int) (x : Int) (hv : v = .int .u8 x) (h : xs.drop (a + 1) = l.map (Value.int .u8)) (ha : a < xs.length) : (xs.set a v).drop a = (x :: l).map (Value.int .u8) := by
  rw [List.drop_eq_getElem_cons (by simpa using ha), List.getElem_set_self, hv, List.map_cons]
  congr 1
  rw [List.drop_set_of_lt (by omega)]
  exact h
theorem bytL_step (a : Nat) (m : Int) (l : List Int) : bytL (a + 1) m ++ l = bytL a (m / 256) ++ (m % 256 :: l) := by simp [bytL]
theorem wrap_byte (m : Int) : IntKind.u8.wrap m = m % 256 := by rw [IntKind.wrap_u8]

set_option maxHeartbeats 1000000 in
theorem specBytes7 (n : Int) (c : Nat) (w : World) (h0 : 0 ≤ n) (h1 : n ≤ 9223372036854775807) (hc1 : 1 ≤ c) (hc : c ≤ 4) :
    Calls Tryz.prog 112 #[.int .i64 n, .int .i64 c] w fun e w' => e = .returned (.string (bytV c n)) ∧ Below w.heap.size w w' := by
  obtain ⟨M, hM, hmk⟩ := make_row 131 5 (.int .u8 0) 1 1 Tryz.underlying131 (by kernel_rfl) rfl (by decide) (by decide) c (by omega)
  have ho := owns_made w M 5 1 c hM (by omega)
  have hMl : M.toList.length = c := by simp [hM]
  obtain ⟨L, hL⟩ : ∃ L, bytL c n = L := ⟨_, rfl⟩
  have hv : bytV c n = strOf L := by unfold bytV; rw [hL]
  have HX : Hid (∀ x ∈ L, 0 ≤ x ∧ x ≤ 255) := by show ∀ x ∈ _, _; rw [← hL]; exact bytL_range c n
  rw [hv]
  have HL := hide hL
  clear hv hL
  go_enter Tryz.func112, Tryz.ntmps112
  go_wp2_with fail
  go_loopw [0, 6] (fun nv i wr => ∃ (a : Nat) (m : Int) (xs : List Value) (l : List Int), i = .int .i64 ((a : Int) - 1) ∧ nv = .int .i64 m ∧ a ≤ c ∧ 0 ≤ m ∧ m ≤ 9223372036854775807 ∧ L = bytL a m ++ l ∧ xs.drop a = l.map (Value.int .u8) ∧ wr.ownsRow w.heap.size 5 1 (.slice (some ⟨w.heap.size, 0, none⟩) c c) c xs ∧ Below w.heap.size w wr) (fun _ i _ => (intOf i + 1).toNat)
  case atStart => exact ⟨c, n, _, [], rfl, rfl, Nat.le_refl _, h0, h1, by rw [HL.out]; simp, by simp [← hMl], ho, (Below.refl _ _).alloc (Nat.le_refl _) _⟩
  case round =>
    obtain ⟨a, m, xs, l, rfl, rfl, ha, m0, m1, hpre, hd, hown, hb⟩ := hrel
    have hxl := hown.1
    cases a with
    | zero =>
      have hxs := row_end hd
      subst hxs
      have hLl : L = l := by rw [hpre]; rfl
      have hcv := row_string (l := l) (by simpa using hown) (by rw [← hLl]; exact HX.out)
      rw [← hLl] at hcv
      clear hpre hd hown hLl
      go_wp2_with fail
      go_ret
      exact ⟨rfl, hb⟩
    | succ a =>
      obtain ⟨g, cap', e1, e2, e3, e4, _, _, e5, e6⟩ := owns_open hown (by omega)
      simp only [Value.slice.injEq, Option.some.injEq, Addr.mk.injEq] at e1
      obtain ⟨⟨rfl, _, _⟩, _, rfl⟩ := e1
      obtain ⟨u0, hu0⟩ : ∃ u, wr.cell? ⟨w.heap.size, a, none⟩ = some u := ⟨_, e5 _ _ (List.getElem?_eq_getElem (by omega))⟩
      have HO := hide (owns_set hown rfl a (.int .u8 (m % 256)))
      have HD := hide (drop_set xs a (.int .u8 (m % 256)) l (m % 256) rfl hd (by omega))
      have HP := hide (hpre.trans (bytL_step a m l))
      have hi1 : (((a + 1 : Nat) : Int) - 1) = a := by omega
      rw [hi1]
      clear hpre hd hown e5 e2 hi1
      go_wp2_with fail
      exact ⟨⟨a, m / 256, _, _, by go_num, rfl, by omega, by omega, by omega, HP.out, HD.out, HO.out, hb.setCell (by simp) _⟩, by first | (simp [intOf]; done) | (simp [intOf]; omega)⟩
set_option maxHeartbeats 1000000 in
theorem implLow8 (c : Int) (w : World) (h1 : 1 ≤ c) (h4 : c ≤ 4) : Calls Tryz.prog 171 #[.int .i64 (c * 8)] w fun e w' => e = .returned (.int .i64 (256 ^ c.toNat - 1)) ∧ w' = w := by
  have : c = 1 ∨ c = 2 ∨ c = 3 ∨ c = 4 := by omega
  rcases this with rfl | rfl | rfl | rfl
  all_goals
    go_enter Tryz.func171, Tryz.ntmps171
    go_wp2_with fail
    go_ret
    exact ⟨rfl, rfl⟩
set_option maxHeartbeats 1000000 in
theorem implBytes (n c : Int) (w : World) :
    Calls Tryz.prog 130 #[.int .i64 n, .int .i64 c] w fun e w' => e = .returned (.string (bysV n c)) ∧ Below w.heap.size w w' := by
  cases hc : inB c 1 4
  · have hv : bysV n c = ⟨#[]⟩ := by simp [bysV, hc]
    rw [hv]
    go_enter Tryz.func130, Tryz.ntmps130
    go_wp2_with fail
    refine (implWithin _ _ _ _).mono ?_; rw [hc]; rintro e w1 ⟨rfl, rfl⟩
    go_wp2_with fail
    go_ret
    exact ⟨rfl, Below.refl _ _⟩
  obtain ⟨hc1, hc4⟩ := inB_true hc
  cases hn : inB n 0 (256 ^ c.toNat - 1)
  · have hv : bysV n c = ⟨#[]⟩ := by simp [bysV, hn]
    rw [hv]
    go_enter Tryz.func130, Tryz.ntmps130
    go_wp2_with fail
    refine (implWithin _ _ _ _).mono ?_; rw [hc]; rintro e w1 ⟨rfl, rfl⟩
    go_wp2_with fail
    refine (implLow8 c _ hc1 hc4).mono ?_; rintro e w1 ⟨rfl, rfl⟩
    go_wp2_with fail
    refine (implWithin _ _ _ _).mono ?_; rw [hn]; rintro e w1 ⟨rfl, rfl⟩
    go_wp2_with fail
    go_ret
    exact ⟨rfl, Below.refl _ _⟩
  obtain ⟨h0, h1⟩ := inB_true hn
  obtain ⟨C, rfl⟩ : ∃ C : Nat, c = C := ⟨c.toNat, by omega⟩
  rw [Int.toNat_natCast] at hn h1
  have hv : bysV n C = bytV C n := by unfold bysV; rw [Int.toNat_natCast, if_pos ⟨hc, hn⟩]
  have h1' : n ≤ 9223372036854775807 := by
    have : (256 : Int) ^ C ≤ 256 ^ 4 := by exact_mod_cast Nat.pow_le_pow_right (by omega : 0 < 256) (by omega : C ≤ 4)
    omega
  obtain ⟨M, hM, hmk⟩ := make_row 131 5 (.int .u8 0) 1 1 Tryz.underlying131 (by kernel_rfl) rfl (by decide) (by decide) C (by omega)
  have ho := owns_made w M 5 1 C hM (by omega)
  have hMl : M.toList.length = C := by simp [hM]
  obtain ⟨L, hL⟩ : ∃ L, bytL C n = L := ⟨_, rfl⟩
  have hv2 : bytV C n = strOf L := by unfold bytV; rw [hL]
  have HX : Hid (∀ x ∈ L, 0 ≤ x ∧ x ≤ 255) := by show ∀ x ∈ _, _; rw [← hL]; exact bytL_range C n
  rw [hv, hv2]
  have HL := hide hL
  have HN := hide hn
  clear hv hL hv2 h1 hn
  go_enter Tryz.func130, Tryz.ntmps130
  go_wp2_with fail
  refine (implWithin _ _ _ _).mono ?_; rw [hc]; rintro e w1 ⟨rfl, rfl⟩
  go_wp2_with fail
  refine (implLow8 (C : Int) _ hc1 hc4).mono ?_; rintro e w1 ⟨rfl, rfl⟩
  go_wp2_with fail
  refine (implWithin _ _ _ _).mono ?_; rw [HN.out]; rintro e w1 ⟨rfl, rfl⟩
  go_wp2_with fail
  go_loopw [0, 6] (fun nv i wr => ∃ (a : Nat) (m : Int) (xs : List Value) (l : List Int), i = .int .i64 ((a : Int) - 1) ∧ nv = .int .i64 m ∧ a ≤ C ∧ 0 ≤ m ∧ m ≤ 9223372036854775807 ∧ L = bytL a m ++ l ∧ xs.drop a = l.map (Value.int .u8) ∧ wr.ownsRow w1.heap.size 5 1 (.slice (some ⟨w1.heap.size, 0, none⟩) C C) C xs ∧ Below w1.heap.size w1 wr) (fun _ i _ => (intOf i + 1).toNat)
  case atStart => exact ⟨C, n, _, [], rfl, rfl, Nat.le_refl _, h0, h1', by rw [HL.out]; simp, by simp [← hMl], ho, (Below.refl _ _).alloc (Nat.le_refl _) _⟩
  case round =>
    obtain ⟨a, m, xs, l, rfl, rfl, ha, m0, m1, hpre, hd, hown, hb⟩ := hrel
    have hxl := hown.1
    cases a with
    | zero =>
      have hxs := row_end hd
      subst hxs
      have hLl : L = l := by rw [hpre]; rfl
      have hcv := row_string (l := l) (by simpa using hown) (by rw [← hLl]; exact HX.out)
      rw [← hLl] at hcv
      clear hpre hd hown hLl
      go_wp2_with fail
      go_ret
      exact ⟨rfl, hb⟩
    | succ a =>
      obtain ⟨g, cap', e1, e2, e3, e4, _, _, e5, e6⟩ := owns_open hown (by omega)
      simp only [Value.slice.injEq, Option.some.injEq, Addr.mk.injEq] at e1
      obtain ⟨⟨rfl, _, _⟩, _, rfl⟩ := e1
      obtain ⟨u0, hu0⟩ : ∃ u, wr.cell? ⟨w1.heap.size, a, none⟩ = some u := ⟨_, e5 _ _ (List.getElem?_eq_getElem (by omega))⟩
      have HO := hide (owns_set hown rfl a (.int .u8 (m % 256)))
      have HD := hide (drop_set xs a (.int .u8 (m % 256)) l (m % 256) rfl hd (by omega))
      have HP := hide (hpre.trans (bytL_step a m l))
      have hi1 : (((a + 1 : Nat) : Int) - 1) = a := by omega
      rw [hi1]
      clear hpre hd hown e5 e2 hi1
      go_wp2_with fail
      exact ⟨⟨a, m / 256, _, _, by go_num, rfl, by omega, by omega, by omega, HP.out, HD.out, HO.out, hb.setCell (by simp) _⟩, by first | (simp [intOf]; done) | (simp [intOf]; omega)⟩
end Go.Proofs.YtllaeakeaabiaaaGreat
/- Rows of Frames: read, held against each other, marked, read again; one Frame that came in. (Written ahead of the landing of chapter 7: not yet built in a seat that has these functions.) -/
namespace Go.Proofs.YtllaeakeaabiaaaGreat
open Go.RowKit
set_option maxRecDepth 100000
set_option linter.unusedSimpArgs false
set_option linter.unusedVariables false

def Fr.cs (f : Fr) : List Value := [.int .i64 f.k, .int .i64 f.fl, .int .i64 f.st, .string f.b]
/-- As Go's types have it. -/
def Fr.fine (f : Fr) : Prop := f.b.size ≤ 9223372036854775807
def fr (L : List Fr) : List Value := L.flatMap Fr.cs
theorem frcs_len (s : Fr) : s.cs.length = 4 := rfl
theorem fr_len (L : List Fr) : (fr L).length = L.length * 4 := flat_length Fr.cs 4 frcs_len L
theorem fr_get (L : List Fr) (k : Nat) (h : k < L.length) : (fr L)[k * 4]? = some (.int .i64 L[k].k) ∧ (fr L)[k * 4 + 1]? = some (.int .i64 L[k].fl) ∧ (fr L)[k * 4 + 2]? = some (.int .i64 L[k].st) ∧ (fr L)[k * 4 + 3]? = some (.string L[k].b) :=
  ⟨flat_get Fr.cs 4 frcs_len L k h 0 (by decide), flat_get Fr.cs 4 frcs_len L k h 1 (by decide), flat_get Fr.cs 4 frcs_len L k h 2 (by decide), flat_get Fr.cs 4 frcs_len L k h 3 (by decide)⟩
theorem fr_one (L : List Fr) : ∀ u ∈ fr L, u.oneCell' = true := by
  intro u hu
  obtain ⟨f, _, hf⟩ := List.mem_flatMap.1 hu
  simp only [Fr.cs, List.mem_cons, List.not_mem_nil, or_false] at hf
  rcases hf with rfl | rfl | rfl | rfl <;> rfl
theorem fr_app (A B : List Fr) : fr (A ++ B) = fr A ++ fr B := by simp [fr]

theorem owns_frame (w : World) (f : Fr) : (w.alloc (.cells #[.int .i64 f.k, .int .i64 f.fl, .int .i64 f.st, .string f.b] 48)).ownsRow w.heap.size 48 4 (.slice (some ⟨w.heap.size, 0, none⟩) 1 1) 1 f.cs :=
  ⟨rfl, .inr ⟨w.heap.size, 1, #[.int .i64 f.k, .int .i64 f.fl, .int .i64 f.st, .string f.b], rfl, Nat.le_refl _, World.alloc_heap_new w _, Nat.le_refl _, by simp [maxLen], by simp, by simp [Fr.cs]⟩⟩
theorem fr_snoc (L : List Fr) (f : Fr) : fr (L ++ [f]) = fr L ++ f.cs := by rw [fr_app]; simp [fr]
theorem eqFrame1 (f : Fr) (w : World) : Calls Tryz.prog 35 #[.agg #[.int .i64 (f).k, .int .i64 (f).fl, .int .i64 (f).st, .string (f).b], .agg #[.int .i64 (f).k, .int .i64 (f).fl, .int .i64 (f).st, .string (f).b]] w fun x w' => x = .returned (.bool true) ∧ Below w.heap.size w w' := by
  go_enter Tryz.func35, Tryz.ntmps35
  go_wp2
  go_ret
  exact ⟨rfl, (by repeat' (first | (with_reducible exact Below.refl _ _) | (with_reducible refine Below.drew ?_) | (with_reducible refine bo_drewN _ ?_) | (with_reducible refine bo_alloc ?_ _) | (refine bchain ?_ (by with_reducible assumption)) | (with_reducible refine Below.setCell ?_ ?_ _) | go_size))⟩
set_option maxHeartbeats 1000000 in
theorem eqFrames (L : List Fr) (v v' : Value) (w : World) (hr0 : Reads w v L.length 4 (fr L)) (hr1 : Reads w v' L.length 4 (fr L)) :
    Calls Tryz.prog 12 #[v, v'] w fun x w' => x = .returned (.bool true) ∧ Below w.heap.size w w' := by
  obtain ⟨hl, ad, cap, rfl, h1, h2, h3⟩ := hr0
  obtain ⟨hl', ad', cap', rfl, h1', h2', h3'⟩ := hr1
  have H3 := hide h3
  have H3' := hide h3'
  clear h3 h3'
  unfold maxLen at h2 h2'
  go_enter Tryz.func12, Tryz.ntmps12
  go_wp2_with fail
  go_loopw [5] (fun i wr => ∃ (k : Nat), i = .int .i64 k ∧ k ≤ L.length ∧ Below w.heap.size w wr) (fun i _ => L.length - (intOf i).toNat)
  case atStart => exact ⟨0, rfl, Nat.zero_le _, Below.refl _ _⟩
  case round =>
    obtain ⟨k, rfl, hk, hb⟩ := hrel
    by_cases hlt : k < L.length
    · obtain ⟨b, o, rfl, hbw, hc⟩ := H3.out (by omega)
      obtain ⟨b', o', rfl, hbw', hc'⟩ := H3'.out (by omega)
      obtain ⟨s0, s1, s2, s3⟩ := fr_get L k hlt
      have c0 : wr.cell? ⟨b, o + k * 4, none⟩ = some (.int .i64 L[k].k) := by rw [hb.cell (p := ⟨b, o + k * 4, none⟩) hbw]; exact hc _ _ s0
      have c1 : wr.cell? ⟨b, o + k * 4 + 1, none⟩ = some (.int .i64 L[k].fl) := by rw [hb.cell (p := ⟨b, o + k * 4 + 1, none⟩) hbw]; exact hc _ _ s1
      have c2 : wr.cell? ⟨b, o + k * 4 + 2, none⟩ = some (.int .i64 L[k].st) := by rw [hb.cell (p := ⟨b, o + k * 4 + 2, none⟩) hbw]; exact hc _ _ s2
      have c3 : wr.cell? ⟨b, o + k * 4 + 3, none⟩ = some (.string L[k].b) := by rw [hb.cell (p := ⟨b, o + k * 4 + 3, none⟩) hbw]; exact hc _ _ s3
      have d0 : wr.cell? ⟨b', o' + k * 4, none⟩ = some (.int .i64 L[k].k) := by rw [hb.cell (p := ⟨b', o' + k * 4, none⟩) hbw']; exact hc' _ _ s0
      have d1 : wr.cell? ⟨b', o' + k * 4 + 1, none⟩ = some (.int .i64 L[k].fl) := by rw [hb.cell (p := ⟨b', o' + k * 4 + 1, none⟩) hbw']; exact hc' _ _ s1
      have d2 : wr.cell? ⟨b', o' + k * 4 + 2, none⟩ = some (.int .i64 L[k].st) := by rw [hb.cell (p := ⟨b', o' + k * 4 + 2, none⟩) hbw']; exact hc' _ _ s2
      have d3 : wr.cell? ⟨b', o' + k * 4 + 3, none⟩ = some (.string L[k].b) := by rw [hb.cell (p := ⟨b', o' + k * 4 + 3, none⟩) hbw']; exact hc' _ _ s3
      have hsb := hb.size
      have hb1 : b < wr.heap.size := by omega
      have hb2 : b' < wr.heap.size := by omega
      clear hc hc' s0 s1 s2 s3
      go_wp2_with fail
      have q0 : ∀ y : Later wr, y.w.cell? ⟨b, o + k * 4, none⟩ = some (.int .i64 L[k].k) := fun y => (y.b.cell (p := ⟨b, o + k * 4, none⟩) hb1).trans c0
      have q1 : ∀ y : Later wr, y.w.cell? ⟨b, o + k * 4 + 1, none⟩ = some (.int .i64 L[k].fl) := fun y => (y.b.cell (p := ⟨b, o + k * 4 + 1, none⟩) hb1).trans c1
      have q2 : ∀ y : Later wr, y.w.cell? ⟨b, o + k * 4 + 2, none⟩ = some (.int .i64 L[k].st) := fun y => (y.b.cell (p := ⟨b, o + k * 4 + 2, none⟩) hb1).trans c2
      have q3 : ∀ y : Later wr, y.w.cell? ⟨b, o + k * 4 + 3, none⟩ = some (.string L[k].b) := fun y => (y.b.cell (p := ⟨b, o + k * 4 + 3, none⟩) hb1).trans c3
      have r0 : ∀ y : Later wr, y.w.cell? ⟨b', o' + k * 4, none⟩ = some (.int .i64 L[k].k) := fun y => (y.b.cell (p := ⟨b', o' + k * 4, none⟩) hb2).trans d0
      have r1 : ∀ y : Later wr, y.w.cell? ⟨b', o' + k * 4 + 1, none⟩ = some (.int .i64 L[k].fl) := fun y => (y.b.cell (p := ⟨b', o' + k * 4 + 1, none⟩) hb2).trans d1
      have r2 : ∀ y : Later wr, y.w.cell? ⟨b', o' + k * 4 + 2, none⟩ = some (.int .i64 L[k].st) := fun y => (y.b.cell (p := ⟨b', o' + k * 4 + 2, none⟩) hb2).trans d2
      have r3 : ∀ y : Later wr, y.w.cell? ⟨b', o' + k * 4 + 3, none⟩ = some (.string L[k].b) := fun y => (y.b.cell (p := ⟨b', o' + k * 4 + 3, none⟩) hb2).trans d3
      clear c0 c1 c2 c3 d0 d1 d2 d3
      have hne : Nonempty (Later wr) := ⟨⟨wr, Below.refl _ _⟩⟩; refine region_later (by kernel_rfl) (by kernel_rfl) ?_
      repeat (go_big_quiet_step (fail))
      go_big_quiet_want; go_big_quiet_op; refine ⟨.bool true, fun y => later_calls (x := y) (eqFrame1 L[k] y.w), ?_⟩; go_big_quiet_on
      repeat (go_big_quiet_step (fail))
      refine wpQuiet_nil ?_; intro _ hw'; obtain ⟨y, hw''⟩ := hw'; subst hw''; have hby := y.b
      go_wp2_with fail
      go_roundw
      case rel => exact ⟨k + 1, by go_num, by omega, bchain hb hby⟩
      case measure => simp [intOf]; omega
    · go_wp2_with fail
      go_ret
      exact ⟨rfl, hb⟩
/-- The marks of a row of n Frames, from k on. -/
def mkC (k j : Nat) : List Value := [.int .i64 ((k + j * 4 : Nat) : Int), .int .i64 (((k + j * 4 : Nat) : Int) + 1), .int .i64 (((k + j * 4 : Nat) : Int) + 2), .string (mtx (k + j * 4 + 3))]
theorem mkC_len (k j : Nat) : (mkC k j).length = 4 := rfl
def mkFr (k n : Nat) : List Value := (List.range n).flatMap (mkC k)
theorem mkFr_len (k n : Nat) : (mkFr k n).length = n * 4 := by have := flat_length (mkC k) 4 (mkC_len k) (List.range n); simpa [mkFr] using this
theorem mkFr_get (k n j : Nat) (h : j < n) : (mkFr k n)[j * 4]? = some (.int .i64 ((k + j * 4 : Nat) : Int)) ∧ (mkFr k n)[j * 4 + 1]? = some (.int .i64 (((k + j * 4 : Nat) : Int) + 1)) ∧ (mkFr k n)[j * 4 + 2]? = some (.int .i64 (((k + j * 4 : Nat) : Int) + 2)) ∧ (mkFr k n)[j * 4 + 3]? = some (.string (mtx (k + j * 4 + 3))) := by
  have hg := flat_get (mkC k) 4 (mkC_len k) (List.range n) j (by simpa using h)
  have h0 := hg 0 (by decide)
  have h1 := hg 1 (by decide)
  have h2 := hg 2 (by decide)
  have h3 := hg 3 (by decide)
  rw [List.getElem_range] at h0 h1 h2 h3
  exact ⟨h0, h1, h2, h3⟩
set_option maxHeartbeats 1000000 in
theorem heldFrames (n k : Nat) (v : Value) (w : World) (hr0 : Reads w v n 4 (mkFr k n)) (hk1 : k + n * 4 ≤ 1000000000) :
    Calls Tryz.prog 16 #[v, .int .i64 k] w fun x w' => x = .returned (.int .i64 ((k + n * 4 : Nat) : Int)) ∧ Below w.heap.size w w' := by
  obtain ⟨hl, ad, cap, rfl, h1, h2, h3⟩ := hr0
  have H3 := hide h3
  clear h3
  unfold maxLen at h2
  go_enter Tryz.func16, Tryz.ntmps16
  go_wp2_with fail
  go_loopw [1, 5] (fun kk i wr => ∃ (j : Nat), i = .int .i64 j ∧ kk = .int .i64 ((k + j * 4 : Nat) : Int) ∧ j ≤ n ∧ Below w.heap.size w wr) (fun _ i _ => n - (intOf i).toNat)
  case atStart => exact ⟨0, rfl, by simp, Nat.zero_le _, Below.refl _ _⟩
  case round =>
    obtain ⟨j, rfl, rfl, hj, hb⟩ := hrel
    by_cases hlt : j < n
    · obtain ⟨b, o, rfl, hbw, hc⟩ := H3.out (by omega)
      obtain ⟨s0, s1, s2, s3⟩ := mkFr_get k n j hlt
      obtain ⟨K, hK⟩ : ∃ K : Nat, K = k + j * 4 := ⟨_, rfl⟩
      rw [← hK] at s0 s1 s2 s3
      have c0 : wr.cell? ⟨b, o + j * 4, none⟩ = some (.int .i64 (K : Int)) := by rw [hb.cell (p := ⟨b, o + j * 4, none⟩) hbw]; exact hc _ _ s0
      have c1 : wr.cell? ⟨b, o + j * 4 + 1, none⟩ = some (.int .i64 ((K : Int) + 1)) := by rw [hb.cell (p := ⟨b, o + j * 4 + 1, none⟩) hbw]; exact hc _ _ s1
      have c2 : wr.cell? ⟨b, o + j * 4 + 2, none⟩ = some (.int .i64 ((K : Int) + 2)) := by rw [hb.cell (p := ⟨b, o + j * 4 + 2, none⟩) hbw]; exact hc _ _ s2
      have c3 : wr.cell? ⟨b, o + j * 4 + 3, none⟩ = some (.string (mtx (K + 3))) := by rw [hb.cell (p := ⟨b, o + j * 4 + 3, none⟩) hbw]; exact hc _ _ s3
      have hsb := hb.size
      have hb1 : b < wr.heap.size := by omega
      clear hc s0 s1 s2 s3
      have hkb : K + 3 ≤ 1000000000 := by omega
      rw [← hK]
      have HK := hide hK
      clear hK
      go_wp2_with fail
      have q0 : ∀ y : Later wr, y.w.cell? ⟨b, o + j * 4 + 3, none⟩ = some (.string (mtx (K + 3))) := fun y => (y.b.cell (p := ⟨b, o + j * 4 + 3, none⟩) hb1).trans c3
      have hne : Nonempty (Later wr) := ⟨⟨wr, Below.refl _ _⟩⟩; refine region_later (by kernel_rfl) (by kernel_rfl) ?_
      repeat (go_big_quiet_step (fail))
      go_big_quiet_want; go_big_quiet_op; refine ⟨.string (mtx (K + 3)), fun y => later_calls (x := y) ((fun u => markTx (K + 3) u (by omega)) y.w), ?_⟩; go_big_quiet_on
      repeat (go_big_quiet_step (fail))
      refine wpQuiet_nil ?_; intro _ hw'; obtain ⟨y, hw''⟩ := hw'; subst hw''; have hby := y.b
      go_wp2_with fail
      go_roundw
      case rel => exact ⟨j + 1, by go_num, int_eq (by have := HK.out; omega), by omega, bchain hb hby⟩
      case measure => simp [intOf]; omega
    · obtain rfl : j = n := by omega
      go_wp2_with fail
      go_ret
      exact ⟨rfl, hb⟩
set_option maxHeartbeats 1000000 in
theorem markFrames (n k : Nat) (v : Value) (xs : List Value) (lo : Nat) (w : World) (ho : w.ownsRow lo 48 4 v n xs) (hk1 : k + n * 4 ≤ 1000000000) :
    Calls Tryz.prog 14 #[v, .int .i64 k] w fun x w' => x = .returned (.int .i64 ((k + n * 4 : Nat) : Int)) ∧ w'.ownsRow lo 48 4 v n (mkFr k n) ∧ w.grownBy w' v.ownBlock := by
  obtain ⟨ad, cap, rfl, h1, h2⟩ := owns_form ho
  unfold maxLen at h2
  have HO := hide ho
  clear ho
  go_enter Tryz.func14, Tryz.ntmps14
  go_wp2_with fail
  go_loopw [1, 5] (fun kk i wr => ∃ (j : Nat) (ys : List Value), i = .int .i64 j ∧ kk = .int .i64 ((k + j * 4 : Nat) : Int) ∧ j ≤ n ∧ wr.ownsRow lo 48 4 (.slice ad n cap) n ys ∧ (∀ t, t < j * 4 → ys[t]? = (mkFr k n)[t]?) ∧ w.grownBy wr (Value.slice ad n cap).ownBlock) (fun _ i _ => n - (intOf i).toNat)
  case atStart => exact ⟨0, _, rfl, by simp, Nat.zero_le _, HO.out, fun t ht => absurd ht (by omega), gb_refl _ _⟩
  case round =>
    obtain ⟨j, ys, rfl, rfl, hj, hown, hy, ht⟩ := hrel
    by_cases hlt : j < n
    · obtain ⟨s0, s1, s2, s3⟩ := mkFr_get k n j hlt
      obtain ⟨K, hK⟩ : ∃ K : Nat, K = k + j * 4 := ⟨_, rfl⟩
      rw [← hK] at s0 s1 s2 s3 ⊢
      have hkb : K + 3 ≤ 1000000000 := by omega
      have HK := hide hK
      obtain ⟨g, cap', e1, e2, e3, e4, _, _, e5, e6⟩ := owns_open hown (by omega)
      simp only [Value.slice.injEq] at e1
      obtain ⟨rfl, _, rfl⟩ := e1
      have hl1 := hown.1
      obtain ⟨u0, hu0⟩ : ∃ u, wr.cell? ⟨g, j * 4, none⟩ = some u := ⟨_, e5 _ _ (List.getElem?_eq_getElem (by omega))⟩
      obtain ⟨u1, hu1⟩ : ∃ u, wr.cell? ⟨g, j * 4 + 1, none⟩ = some u := ⟨_, e5 _ _ (List.getElem?_eq_getElem (by omega))⟩
      obtain ⟨u2, hu2⟩ : ∃ u, wr.cell? ⟨g, j * 4 + 2, none⟩ = some u := ⟨_, e5 _ _ (List.getElem?_eq_getElem (by omega))⟩
      obtain ⟨W, hW⟩ : ∃ W, ((wr.setCell ⟨g, j * 4, none⟩ (.int .i64 (K : Int))).setCell ⟨g, j * 4 + 1, none⟩ (.int .i64 ((K : Int) + 1))).setCell ⟨g, j * 4 + 2, none⟩ (.int .i64 ((K : Int) + 1 + 1)) = W := ⟨_, rfl⟩
      have HO2 := hide (owns_set (g := g) (owns_set (g := g) (owns_set (g := g) hown rfl (j * 4) (.int .i64 (K : Int))) rfl (j * 4 + 1) (.int .i64 ((K : Int) + 1))) rfl (j * 4 + 2) (.int .i64 ((K : Int) + 1 + 1)))
      have HP2 := hide (pre_set (j * 4 + 3) (pre_set (j * 4 + 2) (pre_set (j * 4 + 1) hy s0 (by omega) rfl) s1 (by simp; omega) rfl) s2 (by simp; omega) (by omega))
      have ht2 : Hid (w.grownBy (((wr.setCell ⟨g, j * 4, none⟩ (.int .i64 (K : Int))).setCell ⟨g, j * 4 + 1, none⟩ (.int .i64 ((K : Int) + 1))).setCell ⟨g, j * 4 + 2, none⟩ (.int .i64 ((K : Int) + 1 + 1))) (Value.slice (some ⟨g, 0, none⟩) n cap).ownBlock) := by
        show World.grownBy _ _ _
        refine gb_set ?_ _ _ (by rfl); refine gb_set ?_ _ _ (by rfl); refine gb_set ?_ _ _ (by rfl); exact ht
      have S3 := hide s3
      have HW := hide hW
      clear hy hown hK ht e5 e2 s0 s1 s2 s3 hW
      go_wp2_with fail
      have hW := HW.out
      rw [hW] at HO2 ht2
      rw [show ((K : Int) + 1 + 1 : Int) = (K : Int) + 2 by omega] at HO2
      first | rw [hW] | (rw [show ((K : Int) + 1 + 1 : Int) = (K : Int) + 2 by omega] at hW; rw [hW])
      clear hW HW hu0 hu1 hu2
      refine (markTx (K + 3) _ (by omega)).mono ?_; rintro x w3 ⟨rfl, hb3⟩
      have hown3 := owns_new HO2.out hb3
      obtain ⟨g', cap'', f1, f2, f3, f4, _, _, f5, f6⟩ := owns_open hown3 (by omega)
      simp only [Value.slice.injEq, Option.some.injEq, Addr.mk.injEq] at f1
      obtain ⟨⟨rfl, _, _⟩, _, rfl⟩ := f1
      have hl3 := hown3.1
      obtain ⟨u3, hu3⟩ : ∃ u, w3.cell? ⟨g, j * 4 + 3, none⟩ = some u := ⟨_, f5 _ _ (List.getElem?_eq_getElem (by omega))⟩
      have HO3 := hide (owns_set (g := g) hown3 rfl (j * 4 + 3) (.string (mtx (K + 3))))
      have HP3 := hide (pre_set ((j + 1) * 4) (a := .string (mtx (K + 3))) HP2.out S3.out (by rw [List.length_set, List.length_set, List.length_set] at hl3 ⊢; omega) (by omega))
      have ht3 := hide (gb_set (gb_trans ht2.out (gb_new hb3 _)) ⟨g, j * 4 + 3, none⟩ (.string (mtx (K + 3))) (by rfl))
      clear f5 f2 hown3
      go_wp2_with fail
      exact ⟨⟨j + 1, _, by go_num, int_eq (by have := HK.out; omega), by omega, HO3.out, HP3.out, ht3.out⟩, by simp [intOf]; omega⟩
    · obtain rfl : j = n := by omega
      have hys : ys = mkFr k j := pre_end hown.1 (mkFr_len _ _) hy
      subst hys
      go_wp2_with fail
      go_ret
      exact ⟨rfl, hown, ht⟩
end Go.Proofs.YtllaeakeaabiaaaGreat
/- A row that a slice literal makes, and rows of int64 behind an append. -/
namespace Go.Proofs.YtllaeakeaabiaaaGreat
open Go.RowKit
set_option maxRecDepth 100000
set_option linter.unusedSimpArgs false
set_option linter.unusedVariables false
theorem owns_lit (w : World) (e : TypeId) (size n : Nat) (xs : Array Value) (hx : xs.size = n * size) (hn : n ≤ 1000000) : (w.alloc (.cells xs e)).ownsRow w.heap.size e size (.slice (some ⟨w.heap.size, 0, none⟩) n n) n xs.toList :=
  ⟨by simp [hx], .inr ⟨w.heap.size, n, xs, rfl, Nat.le_refl _, heap_alloc_last w _, Nat.le_refl _, by unfold maxLen; omega, hx, by rw [List.take_of_length_le (by simp [hx])]⟩⟩
theorem reads_int1 (w : World) (z : Int) : Reads (w.alloc (.cells #[.int .i64 z] 2)) (.slice (some ⟨w.heap.size, 0, none⟩) 1 1) 1 1 (iv [z]) := reads_of_owns (owns_lit w 2 1 1 #[.int .i64 z] rfl (by omega))
theorem iv_app (A B : List Int) : iv (A ++ B) = iv A ++ iv B := by simp [iv]
theorem iv_one (L : List Int) : ∀ u ∈ iv L, u.oneCell' = true := by
  intro u hu
  obtain ⟨z, _, rfl⟩ := List.mem_map.1 hu
  rfl
/-- How many elements a slice tells that it has. -/
def slLen : Value → Nat
  | .slice _ n _ => n
  | _ => 0
end Go.Proofs.YtllaeakeaabiaaaGreat
/- Chapter 9's model: Next, MaySend, MayGet, After. -/
namespace Go.Proofs.YtllaeakeaabiaaaGreat
open Go.RowKit
set_option maxRecDepth 100000
set_option linter.unusedSimpArgs false
set_option linter.unusedVariables false
set_option maxHeartbeats 4000000 in
theorem specNext (s e : Int) (w : World) : Calls Tryz.prog 113 #[.int .i64 s, .int .i64 e] w fun x w' => x = .returned (.tuple #[.int .i64 (nxV s e).1, .bool (nxV s e).2]) ∧ w' = w := by
  rcases st_cases s with rfl | rfl | rfl | rfl | rfl | hs
  rotate_left 5
  · rw [nx_bad hs]
    obtain ⟨h0, h1, h2, h3, h4⟩ := hs
    rcases ev_cases e with rfl | rfl | rfl | rfl | rfl | rfl | rfl | ⟨e1, e2, e3, e4, e5, e6, e7⟩
    all_goals (
      go_enter Tryz.func113, Tryz.ntmps113
      go_wp2_with fail
      go_ret2
      exact ⟨rfl, rfl⟩)
  all_goals (
    rcases ev_cases e with rfl | rfl | rfl | rfl | rfl | rfl | rfl | he
    rotate_left 7
    · rw [nx_none he]
      obtain ⟨e1, e2, e3, e4, e5, e6, e7⟩ := he
      have q1 : (e == 1) = false := (by simpa using e1); have q2 : (e == 2) = false := (by simpa using e2); have q3 : (e == 3) = false := (by simpa using e3); have q4 : (e == 4) = false := (by simpa using e4); have q5 : (e == 5) = false := (by simpa using e5); have q6 : (e == 6) = false := (by simpa using e6); have q7 : (e == 7) = false := (by simpa using e7)
      clear e1 e2 e3 e4 e5 e6 e7
      go_enter Tryz.func113, Tryz.ntmps113
      go_wp2_with fail
      go_ret2
      exact ⟨rfl, rfl⟩
    all_goals (
      go_enter Tryz.func113, Tryz.ntmps113
      go_wp2_with fail
      go_ret2
      exact ⟨rfl, rfl⟩))
theorem specMaySend (s : Int) (w : World) : Calls Tryz.prog 83 #[.int .i64 s] w fun x w' => x = .returned (.bool (msV s)) ∧ w' = w := by
  rcases st_cases s with rfl | rfl | rfl | rfl | rfl | ⟨h0, h1, h2, h3, h4⟩
  rotate_left 5
  · have hv : msV s = false := by simp [msV, h1, h2]
    rw [hv]
    have q1 : (s == 1) = false := (by simpa using h1); have q2 : (s == 2) = false := (by simpa using h2); have q3 : (s == 3) = false := (by simpa using h3)
    go_enter Tryz.func83, Tryz.ntmps83
    go_wp2_with fail
    go_ret
    exact ⟨rfl, rfl⟩
  all_goals (
    go_enter Tryz.func83, Tryz.ntmps83
    go_wp2_with fail
    go_ret
    exact ⟨rfl, rfl⟩)
theorem specMayGet (s : Int) (w : World) : Calls Tryz.prog 108 #[.int .i64 s] w fun x w' => x = .returned (.bool (mgV s)) ∧ w' = w := by
  rcases st_cases s with rfl | rfl | rfl | rfl | rfl | ⟨h0, h1, h2, h3, h4⟩
  rotate_left 5
  · have hv : mgV s = false := by simp [mgV, h1, h3]
    rw [hv]
    have q1 : (s == 1) = false := (by simpa using h1); have q2 : (s == 2) = false := (by simpa using h2); have q3 : (s == 3) = false := (by simpa using h3)
    go_enter Tryz.func108, Tryz.ntmps108
    go_wp2_with fail
    go_ret
    exact ⟨rfl, rfl⟩
  all_goals (
    go_enter Tryz.func108, Tryz.ntmps108
    go_wp2_with fail
    go_ret
    exact ⟨rfl, rfl⟩)
end Go.Proofs.YtllaeakeaabiaaaGreat
/- A row that is owned, with one more behind an append. -/
namespace Go.Proofs.YtllaeakeaabiaaaGreat
open Go.RowKit
set_option maxRecDepth 100000
set_option linter.unusedSimpArgs false
set_option linter.unusedVariables false
/-- A row that is owned, opened for an append: its cells, and what the append leaves. -/
theorem OwX.grow {D : Type} {E : Shp D} {w : World} {lo mid : Nat} {v : Value} {L : List D} (h : OwX E w lo mid v L) (hmid : mid ≤ w.heap.size) (hlm : lo ≤ mid) : ∃ xs, w.ownsRow 0 E.ty E.size v L.length xs ∧
    ∀ (w1 : World) (v' : Value) (cs : List Value) (x : D), OwE E w mid w.heap.size cs x → w1.ownsRow 0 E.ty E.size v' (L.length + 1) (xs ++ cs) → w.grownBy w1 v.ownBlock → (v'.ownBlock = v.ownBlock ∨ v'.ownBlock = some w.heap.size) → OwX E w1 lo w1.heap.size v' (L ++ [x]) := by
  obtain ⟨bs, ⟨ts, hL, ho, hE, rfl⟩, hn, hb⟩ := h
  have hlen : L.length = ts.length := by rw [hL]; simp
  refine ⟨ts.flatMap (·.1), by rw [hlen]; exact ho, fun w1 v' cs x hx ho' hg hat => ?_⟩
  exact OwX.app (mid := mid) (hi := w.heap.size) hL ho hE hn hb hmid (by omega) hx hlm (by rw [← hlen]; exact ho') hg hat
end Go.Proofs.YtllaeakeaabiaaaGreat
/- Chapter 14's model: times, names, the mac, a number's text. -/
namespace Go.Proofs.YtllaeakeaabiaaaGreat
open Go.RowKit
set_option maxRecDepth 100000
set_option linter.unusedSimpArgs false
set_option linter.unusedVariables false
theorem specTime14 (t : Int) (w : World) : Calls Tryz.prog 99 #[.int .i64 t] w fun e w' => e = .returned (.bool (timeB t)) ∧ w' = w := by
  go_enter Tryz.func99, Tryz.ntmps99
  go_wp2_with fail
  refine (specIn _ _ _ _).mono ?_; rintro e w1 ⟨rfl, hsame⟩; obtain rfl := hsame.symm; clear hsame
  go_wp2_with fail
  go_ret
  exact ⟨rfl, rfl⟩
theorem nameB_no {s : ByteArray} {k : Nat} (hk : k < s.size) (h : ¬ (97 ≤ (s[k].toNat : Int) ∧ (s[k].toNat : Int) ≤ 122)) : nameB s = false := by
  unfold nameB
  have : (bys s).all (fun b => inB b 97 122) = false := by
    refine List.all_eq_false.2 ⟨(s[k].toNat : Int), ?_, ?_⟩
    · have := bys_drop s k hk
      exact List.mem_of_mem_drop (by rw [this]; simp)
    · rw [inB_not h]; simp
  rw [this]; rfl
theorem nameB_yes {s : ByteArray} (h : ∀ j (hj : j < s.size), 97 ≤ (s[j].toNat : Int) ∧ (s[j].toNat : Int) ≤ 122) : nameB s = inB (s.size : Int) 1 20 := by
  unfold nameB
  have : (bys s).all (fun b => inB b 97 122) = true := by
    refine List.all_eq_true.2 fun x hx => ?_
    obtain ⟨j, hj, rfl⟩ := List.mem_iff_getElem.1 hx
    have hj' : j < s.size := by rw [bys_len] at hj; exact hj
    have e : (bys s)[j] = (s[j].toNat : Int) := by simp [bys]; rfl
    rw [e]
    exact inB_of (h j hj').1 (h j hj').2
  rw [this]; simp
end Go.Proofs.YtllaeakeaabiaaaGreat
/- A Tunnel in its box; two of them held against each other; what the law of tunnels wants of the plain words. -/
namespace Go.Proofs.YtllaeakeaabiaaaGreat
open Go.RowKit
set_option maxRecDepth 100000
set_option linter.unusedSimpArgs false
set_option linter.unusedVariables false
structure BxU (w : World) (g : Nat) (t : TuD) : Prop where
  row : RowIs w g 87 (tucs t)
theorem BxU.new {w w' : World} {b : Nat} {t : TuD} (h : BxU w b t) (hb : Below w.heap.size w w') : BxU w' b t := ⟨h.row.new hb⟩
theorem pp_fields : (Tryz.prog.fieldsOf 85).toList = [⟨ "Room", 2, 0, false, "", "", 0⟩, ⟨ "Bytes", 9, 1, false, "", "", 8⟩, ⟨ "Ended", 4, 2, false, "", "", 24⟩, ⟨ "Broken", 4, 3, false, "", "", 25⟩] := by kernel_rfl
theorem tu_fields : (Tryz.prog.fieldsOf 87).toList = [⟨ "Up", 85, 0, false, "", "", 0⟩, ⟨ "Down", 85, 4, false, "", "", 32⟩, ⟨ "Went", 2, 8, false, "", "", 64⟩, ⟨ "Came", 2, 9, false, "", "", 72⟩] := by kernel_rfl
theorem pp_equal (d : Nat) (r : Int) (b : ByteArray) (e k : Bool) (w : World) : (Op.equalIn (d + 2) 85 (.agg #[.int .i64 r, .string b, .bool e, .bool k]) (.agg #[.int .i64 r, .string b, .bool e, .bool k])).run Tryz.prog w = .ok true w := by
  rw [run_equalIn_agg (P := Tryz.prog) w (d + 1) 85 _ _ (by kernel_rfl) (by kernel_rfl), pp_fields]
  have p0 : (part 2 #[.int .i64 r, .string b, .bool e, .bool k] 0).run Tryz.prog w = .ok (.int .i64 r) w := by kernel_rfl
  have p1 : (part 9 #[.int .i64 r, .string b, .bool e, .bool k] 1).run Tryz.prog w = .ok (.string b) w := by kernel_rfl
  have p2 : (part 4 #[.int .i64 r, .string b, .bool e, .bool k] 2).run Tryz.prog w = .ok (.bool e) w := by kernel_rfl
  have p3 : (part 4 #[.int .i64 r, .string b, .bool e, .bool k] 3).run Tryz.prog w = .ok (.bool k) w := by kernel_rfl
  simp [Op.eqFields, p0, p1, p2, p3, run_equalIn_int (P := Tryz.prog) w d 2 .i64 .i64 _ _ (by kernel_rfl), run_equalIn_string (P := Tryz.prog) w d 9 _ _ (by kernel_rfl), run_equalIn_bool' (P := Tryz.prog) w d 4 _ _ (by kernel_rfl)]
theorem pp_neq (r : Int) (b : ByteArray) (e k : Bool) (w : World) : (binOp .neq 85 (.agg #[.int .i64 r, .string b, .bool e, .bool k]) (.agg #[.int .i64 r, .string b, .bool e, .bool k])).run Tryz.prog w = .ok (.bool false) w := by
  rw [run_neq_struct, pp_equal 9998]; rfl
theorem pp_eql (r : Int) (b : ByteArray) (e k : Bool) (w : World) : (binOp .eql 85 (.agg #[.int .i64 r, .string b, .bool e, .bool k]) (.agg #[.int .i64 r, .string b, .bool e, .bool k])).run Tryz.prog w = .ok (.bool true) w := by
  rw [run_eql_struct, pp_equal 9998]; rfl
theorem pp_guard : Tryz.prog.eqGuardType Tryz.prog.depth 85 = false := by kernel_rfl
theorem tu_equal (r : Int) (b : ByteArray) (e k : Bool) (r2 : Int) (b2 : ByteArray) (e2 k2 : Bool) (wt cm : Int) (w : World) : (Op.equalIn 10000 87 (.agg #[.int .i64 r, .string b, .bool e, .bool k, .int .i64 r2, .string b2, .bool e2, .bool k2, .int .i64 wt, .int .i64 cm]) (.agg #[.int .i64 r, .string b, .bool e, .bool k, .int .i64 r2, .string b2, .bool e2, .bool k2, .int .i64 wt, .int .i64 cm])).run Tryz.prog w = .ok true w := by
  rw [run_equalIn_agg (P := Tryz.prog) w 9999 87 _ _ (by kernel_rfl) (by kernel_rfl), tu_fields]
  have p0 : (part 85 #[.int .i64 r, .string b, .bool e, .bool k, .int .i64 r2, .string b2, .bool e2, .bool k2, .int .i64 wt, .int .i64 cm] 0).run Tryz.prog w = .ok (.agg #[.int .i64 r, .string b, .bool e, .bool k]) w := by kernel_rfl
  have p1 : (part 85 #[.int .i64 r, .string b, .bool e, .bool k, .int .i64 r2, .string b2, .bool e2, .bool k2, .int .i64 wt, .int .i64 cm] 4).run Tryz.prog w = .ok (.agg #[.int .i64 r2, .string b2, .bool e2, .bool k2]) w := by kernel_rfl
  have p2 : (part 2 #[.int .i64 r, .string b, .bool e, .bool k, .int .i64 r2, .string b2, .bool e2, .bool k2, .int .i64 wt, .int .i64 cm] 8).run Tryz.prog w = .ok (.int .i64 wt) w := by kernel_rfl
  have p3 : (part 2 #[.int .i64 r, .string b, .bool e, .bool k, .int .i64 r2, .string b2, .bool e2, .bool k2, .int .i64 wt, .int .i64 cm] 9).run Tryz.prog w = .ok (.int .i64 cm) w := by kernel_rfl
  have e1 := pp_equal 9997 r b e k w
  have e2' := pp_equal 9997 r2 b2 e2 k2 w
  simp [Op.eqFields, p0, p1, p2, p3, e1, e2', run_equalIn_int (P := Tryz.prog) w 9998 2 .i64 .i64 _ _ (by kernel_rfl)]
theorem tu_neq (r : Int) (b : ByteArray) (e k : Bool) (r2 : Int) (b2 : ByteArray) (e2 k2 : Bool) (wt cm : Int) (w : World) : (binOp .neq 87 (.agg #[.int .i64 r, .string b, .bool e, .bool k, .int .i64 r2, .string b2, .bool e2, .bool k2, .int .i64 wt, .int .i64 cm]) (.agg #[.int .i64 r, .string b, .bool e, .bool k, .int .i64 r2, .string b2, .bool e2, .bool k2, .int .i64 wt, .int .i64 cm])).run Tryz.prog w = .ok (.bool false) w := by
  rw [run_neq_struct, tu_equal]; rfl
theorem tu_eql (r : Int) (b : ByteArray) (e k : Bool) (r2 : Int) (b2 : ByteArray) (e2 k2 : Bool) (wt cm : Int) (w : World) : (binOp .eql 87 (.agg #[.int .i64 r, .string b, .bool e, .bool k, .int .i64 r2, .string b2, .bool e2, .bool k2, .int .i64 wt, .int .i64 cm]) (.agg #[.int .i64 r, .string b, .bool e, .bool k, .int .i64 r2, .string b2, .bool e2, .bool k2, .int .i64 wt, .int .i64 cm])).run Tryz.prog w = .ok (.bool true) w := by
  rw [run_eql_struct, tu_equal]; rfl
theorem tu_guard : Tryz.prog.eqGuardType Tryz.prog.depth 87 = false := by kernel_rfl
/-- How long texts are behind each. -/
def smTu (t : TuD) : Prop := t.up.b.size ≤ 2000 ∧ t.dn.b.size ≤ 2000
theorem z_sm : smTu zTu := ⟨by decide, by decide⟩
theorem in_sm {t : TuD} {s : ByteArray} (fin : Bool) (h1 : t.up.b.size ≤ 100) (h2 : t.dn.b.size ≤ 100) (h3 : s.size ≤ 6) : smTu (inTu t s fin).1 := by
  unfold inTu
  split
  · exact z_sm
  split
  · exact ⟨by show t.up.b.size ≤ 2000; omega, by show t.dn.b.size ≤ 2000; omega⟩
  · exact ⟨by show (t.up.b ++ s).size ≤ 2000; rw [ByteArray.size_append]; omega, by show t.dn.b.size ≤ 2000; omega⟩
theorem out_sm {t : TuD} (n : Int) (h1 : t.up.b.size ≤ 100) (h2 : t.dn.b.size ≤ 100) : smTu (outTu t n).1 := by
  unfold outTu
  split
  · exact z_sm
  · exact ⟨by show (t.up.b.extract (outN t n) t.up.b.size).size ≤ 2000; rw [ByteArray.size_extract]; omega, by show t.dn.b.size ≤ 2000; omega⟩
theorem bck_sm {t : TuD} {s : ByteArray} (fin : Bool) (h1 : t.up.b.size ≤ 100) (h2 : t.dn.b.size ≤ 100) (h3 : s.size ≤ 6) : smTu (bckTu t s fin).1 := by
  unfold bckTu
  split
  · exact z_sm
  · exact ⟨by show t.up.b.size ≤ 2000; omega, by show (t.dn.b ++ s.extract 0 (bckN t s)).size ≤ 2000; rw [ByteArray.size_append, ByteArray.size_extract]; omega⟩
theorem trn_sm {t : TuD} : smTu (trnTu t) := by
  unfold trnTu
  split
  · exact z_sm
  · exact ⟨by show (⟨#[]⟩ : ByteArray).size ≤ 2000; decide, by show (⟨#[]⟩ : ByteArray).size ≤ 2000; decide⟩
/-- What goes out is what was there first. -/
theorem out_law {t : TuD} {n : Int} {y : TuD} {u : ByteArray} (hy : outTu t n = (y, u)) (h : okTu t = true) : u ++ y.up.b = t.up.b ∧ y.went - t.went = (u.size : Int) ∧ okTu y = true ∧ y.dn = t.dn ∧ 0 ≤ t.went ∧ t.went ≤ 1000000 ∧ 0 ≤ y.went ∧ y.went ≤ 1000000 := by
  obtain ⟨h1, h2, ⟨h3, h4⟩, h5⟩ := okTu_true h
  obtain ⟨q1, q2, q3, q4⟩ := okPp_true h1
  unfold outTu at hy
  rw [if_neg (by rw [h]; decide)] at hy
  obtain ⟨rfl, rfl⟩ := Prod.mk.inj hy
  have hm : outN t n ≤ t.up.b.size := by unfold outN; omega
  have hm2 : (outN t n : Int) ≤ 1000000 - t.went := by unfold outN; omega
  have hsz : (t.up.b.extract 0 (outN t n)).size = outN t n := by rw [ByteArray.size_extract]; omega
  refine ⟨?_, ?_, ?_, rfl, h3, h4, ?_, ?_⟩
  · show t.up.b.extract 0 (outN t n) ++ t.up.b.extract (outN t n) t.up.b.size = t.up.b
    rw [ByteArray.extract_append_extract]
    simp [Nat.max_eq_right hm]
  · rw [hsz]; show t.went + (outN t n : Int) - t.went = _; omega
  · refine okTu_of (okPp_of q1 q2 ?_ ?_) h2 ⟨by show 0 ≤ t.went + (outN t n : Int); omega, by show t.went + (outN t n : Int) ≤ 1000000; omega⟩ h5
    · show ((t.up.b.extract (outN t n) t.up.b.size).size : Int) ≤ t.up.r
      rw [ByteArray.size_extract]; omega
    · intro hk
      have := q4 hk
      show (t.up.b.extract (outN t n) t.up.b.size).size = 0
      rw [ByteArray.size_extract]; omega
  · show 0 ≤ t.went + (outN t n : Int); omega
  · show t.went + (outN t n : Int) ≤ 1000000; omega
theorem bck_law {t : TuD} {s : ByteArray} {fin : Bool} {z : TuD} {k : Int} (hz : bckTu t s fin = (z, k)) (h : okTu t = true) : ∃ n : Nat, k = n ∧ n ≤ s.size ∧ z.dn.b = t.dn.b ++ s.extract 0 n ∧ okTu z = true ∧ z.up = t.up := by
  obtain ⟨h1, h2, h3, h5⟩ := okTu_true h
  obtain ⟨q1, q2, q3, q4⟩ := okPp_true h2
  unfold bckTu at hz
  rw [if_neg (by rw [h]; decide)] at hz
  obtain ⟨rfl, rfl⟩ := Prod.mk.inj hz
  have hn : bckN t s ≤ s.size ∧ (bckN t s : Int) ≤ t.dn.r - t.dn.b.size := by
    unfold bckN
    split
    · exact ⟨Nat.zero_le _, by omega⟩
    · unfold comes; omega
  refine ⟨bckN t s, rfl, hn.1, rfl, ?_, rfl⟩
  refine okTu_of h1 (okPp_of q1 q2 ?_ ?_) h3 h5
  · show ((t.dn.b ++ s.extract 0 (bckN t s)).size : Int) ≤ t.dn.r
    rw [ByteArray.size_append, ByteArray.size_extract]; omega
  · intro hk
    have hk' : t.dn.k = true := hk
    have h0 := q4 hk'
    have hb : bckN t s = 0 := by unfold bckN; rw [if_pos (.inr hk')]
    show (t.dn.b ++ s.extract 0 (bckN t s)).size = 0
    rw [hb, ByteArray.size_append, ByteArray.size_extract]; omega
theorem trn_law {t : TuD} (h : okTu t = true) : ovrTu (trnTu t) = true := by
  obtain ⟨h1, h2, h3, h5⟩ := okTu_true h
  obtain ⟨q1, q2, q3, q4⟩ := okPp_true h1
  obtain ⟨p1, p2, p3, p4⟩ := okPp_true h2
  have hv : trnTu t = ⟨⟨t.up.r, ⟨#[]⟩, t.up.e, true⟩, ⟨t.dn.r, ⟨#[]⟩, t.dn.e, true⟩, t.went, t.came⟩ := by unfold trnTu; rw [if_neg (by rw [h]; decide)]
  rw [hv]
  have e0 : (⟨#[]⟩ : ByteArray).size = 0 := rfl
  have e1 : (⟨#[]⟩ : ByteArray).toList.isEmpty = true := by rw [ByteArray.toList_eq]; rfl
  have o1 : okPp ⟨t.up.r, ⟨#[]⟩, t.up.e, true⟩ = true := okPp_of q1 q2 (by show ((⟨#[]⟩ : ByteArray).size : Int) ≤ t.up.r; rw [e0]; omega) (fun _ => e0)
  have o2 : okPp ⟨t.dn.r, ⟨#[]⟩, t.dn.e, true⟩ = true := okPp_of p1 p2 (by show ((⟨#[]⟩ : ByteArray).size : Int) ≤ t.dn.r; rw [e0]; omega) (fun _ => e0)
  unfold ovrTu dryPp
  rw [okTu_of (t := ⟨⟨t.up.r, ⟨#[]⟩, t.up.e, true⟩, ⟨t.dn.r, ⟨#[]⟩, t.dn.e, true⟩, t.went, t.came⟩) o1 o2 h3 h5]
  dsimp only
  rw [o1, o2, e1]
  simp
theorem in_no {t : TuD} {s : ByteArray} {fin : Bool} {x : TuD} {is : Bool} (hx : inTu t s fin = (x, is)) (h : okTu t = false) : is = false ∧ x = zTu := by
  unfold inTu at hx
  rw [if_pos h] at hx
  obtain ⟨rfl, rfl⟩ := Prod.mk.inj hx
  exact ⟨rfl, rfl⟩
theorem in_law {t : TuD} {s : ByteArray} {fin : Bool} {x : TuD} {is : Bool} (hx : inTu t s fin = (x, is)) (h : okTu t = true) : (is = false ∧ x = t) ∨ (is = true ∧ okTu x = true ∧ x.up.b = t.up.b ++ s ∧ x.up.e = fin ∧ x.dn = t.dn) := by
  obtain ⟨h1, h2, h3, h5⟩ := okTu_true h
  obtain ⟨q1, q2, q3, q4⟩ := okPp_true h1
  unfold inTu at hx
  rw [if_neg (by rw [h]; decide)] at hx
  split at hx
  · obtain ⟨rfl, rfl⟩ := Prod.mk.inj hx
    exact .inl ⟨rfl, rfl⟩
  · rename_i hn
    obtain ⟨rfl, rfl⟩ := Prod.mk.inj hx
    refine .inr ⟨rfl, ?_, rfl, rfl, rfl⟩
    refine okTu_of (okPp_of q1 q2 ?_ ?_) h2 h3 h5
    · show ((t.up.b ++ s).size : Int) ≤ t.up.r
      rw [ByteArray.size_append]
      have : ¬ t.up.r - (t.up.b.size : Int) < s.size := fun c => hn (.inr (.inr c))
      omega
    · intro hk
      have hk' : t.up.k = true := hk
      exact absurd (.inr (.inl hk')) hn
end Go.Proofs.YtllaeakeaabiaaaGreat
/- A struct in the midst of a block, loaded and stored as a whole. -/
namespace Go.Proofs.YtllaeakeaabiaaaGreat
open Go.RowKit
set_option maxRecDepth 100000
set_option linter.unusedSimpArgs false
set_option linter.unusedVariables false
section
variable {P : Program}
theorem run_loadVar_mid (w : World) (b o : Nat) (ty : TypeId) (cs : List Value) (d : TypeDesc) (hc : ∀ j u, cs[j]? = some u → w.cell? ⟨b, o + j, none⟩ = some u)
    (hu : P.underlying ty = some d) (hd : (match d with | .struct _ | .array _ _ => true | _ => false) = true) (hi : (P.info? ty).map (·.size) = some cs.length) :
    (loadVar ty ⟨b, o, none⟩).run P w = .ok (.agg cs.toArray) w := by
  have hl : (loadCells ⟨b, o, none⟩ cs.length).run P w = .ok cs.toArray w :=
    run_loadCells_list (P := P) w ⟨b, o, none⟩ cs (fun j v hv => by
      have hadd : (⟨b, o, none⟩ : Addr).add j = ⟨b, o + j, none⟩ := by unfold Addr.add; split <;> simp_all
      rw [hadd]; exact hc j v hv)
  cases hq : P.info? ty with
  | none => simp [hq] at hi
  | some i =>
    have hs : i.size = cs.length := by simpa [hq] using hi
    have hagg : (isAgg ty).run P w = .ok true w := by
      unfold isAgg
      rw [Sem.run_bind, run_underlying hu w]
      cases d <;> simp_all
    simp [loadVar, hagg, sizeOf, typeInfo, hq, hs, hl]
theorem wp_load_mid {op : Oper} {a : Act} {w : World} {K : Act → World → Prop} {Q : Exit → Act → World → Prop} (ty : TypeId) (x : Operand) (ho : op.op = .load ty x)
    (b o : Nat) (hx : a.eval x = .pointer (some ⟨b, o, none⟩)) (cs : List Value) (d : TypeDesc) (hc : ∀ j u, cs[j]? = some u → w.cell? ⟨b, o + j, none⟩ = some u)
    (hu : P.underlying ty = some d) (hd : (match d with | .struct _ | .array _ _ => true | _ => false) = true) (hi : (P.info? ty).map (·.size) = some cs.length)
    (h : K (a.put op.dst (.agg cs.toArray)) w) : op.wp P a w K Q := by
  unfold Oper.wp execOp
  simp only [ho, hx, Instr.loadAt, Instr.sureAddr, Sem.run_bind, Sem.run_pure, Result.andThen_ok, run_loadVar_mid w b o ty cs d hc hu hd hi]
  exact h
theorem wpList_load_mid {ops : Array Oper} {rest : List Oper} {op : Oper} {a : Act} {w : World} {Q : Exit → Act → World → Prop} (hgd : op.guard = none) (ty : TypeId) (x : Operand) (ho : op.op = .load ty x)
    (b o : Nat) (hx : a.eval x = .pointer (some ⟨b, o, none⟩)) (cs : List Value) (d : TypeDesc) (hc : ∀ j u, cs[j]? = some u → w.cell? ⟨b, o + j, none⟩ = some u)
    (hu : P.underlying ty = some d) (hd : (match d with | .struct _ | .array _ _ => true | _ => false) = true) (hi : (P.info? ty).map (·.size) = some cs.length)
    (h : wpList P ops Q rest (a.put op.dst (.agg cs.toArray)) w) : wpList P ops Q (op :: rest) a w :=
  wpList_plain hgd fun _ hK => wp_load_mid ty x ho b o hx cs d hc hu hd hi (hK _ _ h)
theorem run_storeVar_mid (w : World) (b o : Nat) (t ty : TypeId) (A C old cs : List Value) (hg : MidIs w b t A C o old) (hi : (P.info? ty).map (·.size) = some cs.length) (hl : old.length = cs.length) (h1 : ∀ u ∈ cs, u.oneCell' = true) :
    (storeVar ty ⟨b, o, none⟩ (.agg cs.toArray)).run P w = .ok () (w.setRow b (A ++ cs ++ C).toArray) := by
  have hoff := hg.off
  have hrow : w.heap[b]? = some (.cells (A ++ old ++ C).toArray t (0, 0)) := hg.row
  have := run_storeCells_at (P := P) b o t cs 0 (A ++ old ++ C).toArray w hrow (by simp; omega) h1
  have e : (A ++ old ++ C).toArray.toList.take (o + 0) ++ cs ++ (A ++ old ++ C).toArray.toList.drop (o + 0 + cs.length) = A ++ cs ++ C := by
    subst hoff
    simp only [Nat.add_zero, List.append_assoc]
    rw [List.take_left, show A.length + cs.length = A.length + old.length by omega, ← List.append_assoc A old C, ← List.length_append, List.drop_left]
  rw [e] at this
  cases hq : P.info? ty with
  | none => simp [hq] at hi
  | some i =>
    have hs : cs.length = i.size := by simp [hq] at hi; omega
    simp [storeVar, sizeOf, typeInfo, hq, Value.cells, hs, this]
theorem MidIs.setRow {w : World} {b o : Nat} {t : TypeId} {A C old : List Value} (h : MidIs w b t A C o old) (cs : List Value) : MidIs (w.setRow b (A ++ cs ++ C).toArray) b t A C o cs := ⟨rowIs_setRow (cs' := A ++ cs ++ C) h.row, h.off⟩
theorem turnB_setRow (w : World) (b : Nat) (cs : Array Value) : TurnB [b] w (w.setRow b cs) := ⟨rfl, rfl, rfl, by rw [setRow_size]; exact Nat.le_refl _, fun k _ hk => setRow_other _ _ _ _ (by simpa using hk)⟩
theorem wp_store_mid {op : Oper} {a : Act} {w : World} {K : Act → World → Prop} {Q : Exit → Act → World → Prop} (ty : TypeId) (x y : Operand) (ho : op.op = .store ty x y)
    (b o : Nat) (cs : List Value) (hx : a.eval x = .pointer (some ⟨b, o, none⟩)) (hy : a.eval y = .agg cs.toArray) (t : TypeId) (A C old : List Value) (hc : MidIs w b t A C o old)
    (hi : (P.info? ty).map (·.size) = some cs.length) (hl : old.length = cs.length) (h1 : ∀ u ∈ cs, u.oneCell' = true)
    (h : ∀ w', MidIs w' b t A C o cs → TurnB [b] w w' → K (a.put op.dst undef) w') : op.wp P a w K Q := by
  unfold Oper.wp execOp
  simp only [ho, hx, hy, Instr.storeAt, Instr.sureAddr, Sem.run_bind, Sem.run_pure, Result.andThen_ok, run_storeVar_mid w b o t ty A C old cs hc hi hl h1]
  exact h _ (hc.setRow cs) (turnB_setRow w b _)
theorem wpList_store_mid {ops : Array Oper} {rest : List Oper} {op : Oper} {a : Act} {w : World} {Q : Exit → Act → World → Prop} (hgd : op.guard = none) (ty : TypeId) (x y : Operand) (ho : op.op = .store ty x y)
    (b o : Nat) (cs : List Value) (hx : a.eval x = .pointer (some ⟨b, o, none⟩)) (hy : a.eval y = .agg cs.toArray) (t : TypeId) (A C old : List Value) (hc : MidIs w b t A C o old)
    (hi : (P.info? ty).map (·.size) = some cs.length) (hl : old.length = cs.length) (h1 : ∀ u ∈ cs, u.oneCell' = true)
    (h : ∀ w', MidIs w' b t A C o cs → TurnB [b] w w' → wpList P ops Q rest (a.put op.dst undef) w') : wpList P ops Q (op :: rest) a w :=
  wpList_plain hgd fun _ hK => wp_store_mid ty x y ho b o cs hx hy t A C old hc hi hl h1 fun w' h2 h3 => hK _ _ (h w' h2 h3)
end
/-- A part of a run of cells. -/
theorem MidIs.part {w : World} {b o : Nat} {t : TypeId} {A C p m q : List Value} (h : MidIs w b t A C o (p ++ m ++ q)) : MidIs w b t (A ++ p) (q ++ C) (o + p.length) m :=
  ⟨by have := h.row; simpa using this, by rw [List.length_append, h.off]⟩
theorem MidIs.whole {w : World} {b o o' : Nat} {t : TypeId} {A C p m q : List Value} (h : MidIs w b t (A ++ p) (q ++ C) o' m) (ho : A.length = o) : MidIs w b t A C o (p ++ m ++ q) :=
  ⟨by have := h.row; simpa using this, ho⟩
/-- A part of a row that is owned, in place. -/
theorem owns_mid {w : World} {base : Nat} {e : TypeId} {size n : Nat} {v : Value} {A B C : List Value} (h : w.ownsRow base e size v n (A ++ B ++ C)) (hB : B ≠ []) :
    ∃ g cap S, v = .slice (some ⟨g, 0, none⟩) n cap ∧ v.ownBlock = some g ∧ base ≤ g ∧ g < w.heap.size ∧ n ≤ cap ∧ cap ≤ maxLen ∧ MidIs w g e A (C ++ S) A.length B ∧
      ∀ w' B', B'.length = B.length → MidIs w' g e A (C ++ S) A.length B' → w'.ownsRow base e size v n (A ++ B' ++ C) := by
  obtain ⟨hl, hr⟩ := h
  rcases hr with ⟨hv, h0⟩ | ⟨g, cap, arr, hv, hb0, hheap, h1, h2, h3, h4⟩
  · subst h0
    have : (A ++ B ++ C).length = 0 := by rw [hl]; simp
    simp at this
    exact absurd this.2.1 hB
  · have hS : arr.toList = A ++ B ++ (C ++ arr.toList.drop (n * size)) := by rw [← List.append_assoc, ← h4, List.take_append_drop]
    refine ⟨g, cap, arr.toList.drop (n * size), hv, by rw [hv]; rfl, hb0, (Array.getElem?_eq_some_iff.1 hheap).1, h1, h2, ⟨?_, rfl⟩, fun w' B' hBl hm => ?_⟩
    · show w.heap[g]? = some (.cells _ e (0, 0))
      rw [hheap, ← hS]
    · refine ⟨by rw [← hl]; simp [hBl], .inr ⟨g, cap, (A ++ B' ++ (C ++ arr.toList.drop (n * size))).toArray, hv, hb0, hm.row, h1, h2, ?_, ?_⟩⟩
      · have e1 := congrArg List.length hS
        rw [← h3]
        simp only [List.length_append, Array.length_toList, List.size_toArray] at e1 ⊢
        omega
      · have e2 : A ++ B' ++ (C ++ arr.toList.drop (n * size)) = (A ++ B' ++ C) ++ arr.toList.drop (n * size) := by simp
        show List.take _ _ = _
        rw [e2, List.take_append_of_le_length (by rw [← hl]; simp [hBl]), List.take_of_length_le (by rw [← hl]; simp [hBl])]
theorem list_set_same {α : Type} {l : List α} {j : Nat} {u : α} (h : l[j]? = some u) : l.set j u = l := by
  obtain ⟨hj, e⟩ := List.getElem?_eq_some_iff.1 h
  rw [← e]; exact List.set_getElem_self hj
end Go.Proofs.YtllaeakeaabiaaaGreat
/- The program's states: its moves are a map with keys of state and event. -/
namespace Go.Proofs.YtllaeakeaabiaaaGreat
open Go.RowKit
set_option maxRecDepth 100000
set_option linter.unusedSimpArgs false
set_option linter.unusedVariables false
def mvs : List (Nat × Int × Int × Int) := [(2, 0, 1, 1), (4, 1, 6, 1), (6, 1, 7, 1), (8, 1, 2, 2), (10, 1, 3, 3), (12, 1, 4, 4), (14, 1, 5, 4), (16, 2, 7, 2), (18, 2, 3, 4), (20, 2, 4, 4), (22, 2, 5, 4), (24, 3, 6, 3), (26, 3, 2, 4), (28, 3, 4, 4), (30, 3, 5, 4)]
def fL (l : Array Bool) : Int → Int → Option Int := fun s e => (mvs.find? fun t => decide (t.2.1 = s) && decide (t.2.2.1 = e)).bind fun t => if l.getD t.1 false then some t.2.2.2 else none
def mvF : Int → Int → Option Int := fun s e => (mvs.find? fun t => decide (t.2.1 = s) && decide (t.2.2.1 = e)).map fun t => t.2.2.2
theorem mvs_find : ∀ t ∈ mvs, (mvs.find? fun u => decide (u.2.1 = t.2.1) && decide (u.2.2.1 = t.2.2.1)) = some t := by decide
theorem mvs_one : ∀ t ∈ mvs, ∀ u ∈ mvs, t.1 = u.1 → t = u := by decide
theorem fL_put {l : Array Bool} {t : Nat × Int × Int × Int} (ht : t ∈ mvs) (hl : t.1 < l.size) (a b : Int) : fPut (fL l) t.2.1 t.2.2.1 t.2.2.2 a b = fL (l.setIfInBounds t.1 true) a b := by
  unfold fPut fL
  split
  · rename_i h
    obtain ⟨rfl, rfl⟩ := h
    rw [mvs_find t ht]
    simp [hl]
  · rename_i h
    cases hf : mvs.find? fun t => decide (t.2.1 = a) && decide (t.2.2.1 = b) with
    | none => rfl
    | some u =>
      have hu := List.find?_some hf
      have hm := List.mem_of_find?_eq_some hf
      simp at hu
      have hne : t.1 ≠ u.1 := fun e => by
        obtain rfl := mvs_one t ht u hm e
        exact h ⟨hu.1.symm, hu.2.symm⟩
      simp only [Option.bind_some]
      rw [getD_set_ne false hne]
theorem fL_none {l : Array Bool} {t : Nat × Int × Int × Int} (ht : t ∈ mvs) (hl : l.getD t.1 false = false) : fL l t.2.1 t.2.2.1 = none := by
  unfold fL
  rw [mvs_find t ht]
  simp only [Option.bind_some]
  rw [hl]; rfl
theorem fL_far {l : Array Bool} {i : Nat} (h : ∀ t ∈ mvs, i ≠ t.1) (a b : Int) : fL l a b = fL (l.setIfInBounds i true) a b := by
  unfold fL
  cases hf : mvs.find? fun t => decide (t.2.1 = a) && decide (t.2.2.1 = b) with
  | none => rfl
  | some u =>
    simp only [Option.bind_some]
    rw [getD_set_ne false (h u (List.mem_of_find?_eq_some hf))]
theorem fL_all {l : Array Bool} (h : ∀ t ∈ mvs, l.getD t.1 false = true) (a b : Int) : fL l a b = mvF a b := by
  unfold fL mvF
  cases hf : mvs.find? fun t => decide (t.2.1 = a) && decide (t.2.2.1 = b) with
  | none => rfl
  | some u =>
    simp only [Option.bind_some, Option.map_some]
    rw [h u (List.mem_of_find?_eq_some hf)]; rfl
set_option maxRecDepth 100000 in
set_option maxHeartbeats 4000000 in
theorem implMoves (w : World) : Calls Tryz.prog 242 #[] w fun x w' => x = .returned (.map (some w.heap.size)) ∧ MapHas w' w.heap.size mvF ∧ Below w.heap.size w w' := by
  have hmm := @run_makeMap Tryz.prog
  go_enter Tryz.func242, Tryz.ntmps242
  go_wp2_with fail
  refine wp_region_any (by kernel_rfl) ?_; change wpAny _ _ _ _ _ _ _ (World.drew _)
  refine wpAny_take (i := 1) (v := ?_) rfl (by kernel_rfl) (by kernel_rfl) (by kernel_rfl) (fun _ _ _ h => h) (Or.inl ⟨by rfl, ?_⟩) ?_; rotate_left; focus (intro w; go_simp; try with_reducible rfl)
  refine wpAny_take (i := 3) (v := ?_) rfl (by kernel_rfl) (by kernel_rfl) (by kernel_rfl) (fun _ _ _ h => h) (Or.inl ⟨by rfl, ?_⟩) ?_; rotate_left; focus (intro w; go_simp; try with_reducible rfl)
  refine wpAny_take (i := 5) (v := ?_) rfl (by kernel_rfl) (by kernel_rfl) (by kernel_rfl) (fun _ _ _ h => h) (Or.inl ⟨by rfl, ?_⟩) ?_; rotate_left; focus (intro w; go_simp; try with_reducible rfl)
  refine wpAny_take (i := 7) (v := ?_) rfl (by kernel_rfl) (by kernel_rfl) (by kernel_rfl) (fun _ _ _ h => h) (Or.inl ⟨by rfl, ?_⟩) ?_; rotate_left; focus (intro w; go_simp; try with_reducible rfl)
  refine wpAny_take (i := 9) (v := ?_) rfl (by kernel_rfl) (by kernel_rfl) (by kernel_rfl) (fun _ _ _ h => h) (Or.inl ⟨by rfl, ?_⟩) ?_; rotate_left; focus (intro w; go_simp; try with_reducible rfl)
  refine wpAny_take (i := 11) (v := ?_) rfl (by kernel_rfl) (by kernel_rfl) (by kernel_rfl) (fun _ _ _ h => h) (Or.inl ⟨by rfl, ?_⟩) ?_; rotate_left; focus (intro w; go_simp; try with_reducible rfl)
  refine wpAny_take (i := 13) (v := ?_) rfl (by kernel_rfl) (by kernel_rfl) (by kernel_rfl) (fun _ _ _ h => h) (Or.inl ⟨by rfl, ?_⟩) ?_; rotate_left; focus (intro w; go_simp; try with_reducible rfl)
  refine wpAny_take (i := 15) (v := ?_) rfl (by kernel_rfl) (by kernel_rfl) (by kernel_rfl) (fun _ _ _ h => h) (Or.inl ⟨by rfl, ?_⟩) ?_; rotate_left; focus (intro w; go_simp; try with_reducible rfl)
  refine wpAny_take (i := 17) (v := ?_) rfl (by kernel_rfl) (by kernel_rfl) (by kernel_rfl) (fun _ _ _ h => h) (Or.inl ⟨by rfl, ?_⟩) ?_; rotate_left; focus (intro w; go_simp; try with_reducible rfl)
  refine wpAny_take (i := 19) (v := ?_) rfl (by kernel_rfl) (by kernel_rfl) (by kernel_rfl) (fun _ _ _ h => h) (Or.inl ⟨by rfl, ?_⟩) ?_; rotate_left; focus (intro w; go_simp; try with_reducible rfl)
  refine wpAny_take (i := 21) (v := ?_) rfl (by kernel_rfl) (by kernel_rfl) (by kernel_rfl) (fun _ _ _ h => h) (Or.inl ⟨by rfl, ?_⟩) ?_; rotate_left; focus (intro w; go_simp; try with_reducible rfl)
  refine wpAny_take (i := 23) (v := ?_) rfl (by kernel_rfl) (by kernel_rfl) (by kernel_rfl) (fun _ _ _ h => h) (Or.inl ⟨by rfl, ?_⟩) ?_; rotate_left; focus (intro w; go_simp; try with_reducible rfl)
  refine wpAny_take (i := 25) (v := ?_) rfl (by kernel_rfl) (by kernel_rfl) (by kernel_rfl) (fun _ _ _ h => h) (Or.inl ⟨by rfl, ?_⟩) ?_; rotate_left; focus (intro w; go_simp; try with_reducible rfl)
  refine wpAny_take (i := 27) (v := ?_) rfl (by kernel_rfl) (by kernel_rfl) (by kernel_rfl) (fun _ _ _ h => h) (Or.inl ⟨by rfl, ?_⟩) ?_; rotate_left; focus (intro w; go_simp; try with_reducible rfl)
  refine wpAny_take (i := 29) (v := ?_) rfl (by kernel_rfl) (by kernel_rfl) (by kernel_rfl) (fun _ _ _ h => h) (Or.inl ⟨by rfl, ?_⟩) ?_; rotate_left; focus (intro w; go_simp; try with_reducible rfl)
  refine wpAny_ready (rs := [0]) (by kernel_rfl) (by simp) ?_; refine AllReady.cons rfl (fun K hK => ?_) AllReady.nil
  go_simp; refine hK _ _ ?_; clear hK K
  refine wpAny_inv (fun (l : Array Bool) (a : Act) (u : World) => ((l.getD 31 false = false ∧ l.getD 32 false = false ∧ a = ⟨#[.map none, .map (some w.heap.size), .agg #[.int .i64 0, .int .i64 1], .agg #[.int .i64 1, .int .i64 6], .agg #[.int .i64 1, .int .i64 7], .agg #[.int .i64 1, .int .i64 2], .agg #[.int .i64 1, .int .i64 3], .agg #[.int .i64 1, .int .i64 4], .agg #[.int .i64 1, .int .i64 5], .agg #[.int .i64 2, .int .i64 7], .agg #[.int .i64 2, .int .i64 3], .agg #[.int .i64 2, .int .i64 4], .agg #[.int .i64 2, .int .i64 5], .agg #[.int .i64 3, .int .i64 6], .agg #[.int .i64 3, .int .i64 2], .agg #[.int .i64 3, .int .i64 4], .agg #[.int .i64 3, .int .i64 5], undef], []⟩) ∨ (l.getD 31 false = true ∧ l.getD 32 false = false ∧ a = ⟨#[.map none, .map (some w.heap.size), .agg #[.int .i64 0, .int .i64 1], .agg #[.int .i64 1, .int .i64 6], .agg #[.int .i64 1, .int .i64 7], .agg #[.int .i64 1, .int .i64 2], .agg #[.int .i64 1, .int .i64 3], .agg #[.int .i64 1, .int .i64 4], .agg #[.int .i64 1, .int .i64 5], .agg #[.int .i64 2, .int .i64 7], .agg #[.int .i64 2, .int .i64 3], .agg #[.int .i64 2, .int .i64 4], .agg #[.int .i64 2, .int .i64 5], .agg #[.int .i64 3, .int .i64 6], .agg #[.int .i64 3, .int .i64 2], .agg #[.int .i64 3, .int .i64 4], .agg #[.int .i64 3, .int .i64 5], .map (some w.heap.size)], []⟩) ∨ (l.getD 31 false = true ∧ l.getD 32 false = true ∧ a = ⟨#[.map (some w.heap.size), .map (some w.heap.size), .agg #[.int .i64 0, .int .i64 1], .agg #[.int .i64 1, .int .i64 6], .agg #[.int .i64 1, .int .i64 7], .agg #[.int .i64 1, .int .i64 2], .agg #[.int .i64 1, .int .i64 3], .agg #[.int .i64 1, .int .i64 4], .agg #[.int .i64 1, .int .i64 5], .agg #[.int .i64 2, .int .i64 7], .agg #[.int .i64 2, .int .i64 3], .agg #[.int .i64 2, .int .i64 4], .agg #[.int .i64 2, .int .i64 5], .agg #[.int .i64 3, .int .i64 6], .agg #[.int .i64 3, .int .i64 2], .agg #[.int .i64 3, .int .i64 4], .agg #[.int .i64 3, .int .i64 5], .map (some w.heap.size)], []⟩)) ∧ (∀ j ∈ [0, 1, 3, 5, 7, 9, 11, 13, 15, 17, 19, 21, 23, 25, 27, 29], l.getD j false = true) ∧ (l.getD 31 false = true → ∀ j, j < 31 → l.getD j false = true) ∧ MapHas u w.heap.size (fL l) ∧ Below w.heap.size w u) ?hs ?he _ _ _ _ (by kernel_rfl) (by decide) ?h0
  case h0 =>
    refine ⟨Or.inl ⟨by kernel_rfl, by kernel_rfl, rfl⟩, by decide, by decide, (mv_made _).ext (fun s e => ?_), (Below.refl _ _).drew.alloc (Nat.le_refl _) _⟩
    unfold fL
    cases hf : mvs.find? fun t => decide (t.2.1 = s) && decide (t.2.2.1 = e) with
    | none => rfl
    | some t =>
      have hm := List.mem_of_find?_eq_some hf
      clear hf
      simp only [Option.bind_some]
      revert t
      decide
  case he =>
    rintro l a u ⟨hA, h0, h31, hM, hB⟩ hl hr
    have hall := all_listed hl (by kernel_rfl) hr
    have hM2 := hM.ext (fL_all (fun t ht => by
      have : ∀ t ∈ mvs, t.1 < 33 := by decide
      exact hall t.1 (this t ht)))
    rcases hA with ⟨_, h2, _⟩ | ⟨_, h2, _⟩ | ⟨_, _, rfl⟩
    · rw [hall 32 (by decide)] at h2; cases h2
    · rw [hall 32 (by decide)] at h2; cases h2
    · clear hall hM h0 h31 hr
      go_wp2_with fail
      refine bodyPost_ret (v := .map (some w.heap.size)) (by simp [results, Tryz.results242, go_sem, *]) rfl ?_
      exact ⟨rfl, hM2, hB⟩
  case hs =>
    rintro l a u io ⟨hA, h0, h31, hM, hB⟩ hl hr
    have hlt := ready_lt hr
    match io, hlt, hr with
    | 0, _, hr => have := (ready_new hr hl).1; rw [h0 0 (by decide)] at this; cases this
    | 1, _, hr => have := (ready_new hr hl).1; rw [h0 1 (by decide)] at this; cases this
    | 2, _, hr =>
      have hnew := (ready_new hr hl).1
      obtain ⟨w2, hrun, hM2, hg2⟩ := mv_update hM 0 1 1 (fL_none (t := (2, 0, 1, 1)) (by decide) hnew)
      have hB2 : Below w.heap.size w w2 := hB.grown hg2 hB.size (fun q hq => by cases hq; exact Nat.le_refl _)
      have hM3 := hM2.ext (fL_put (l := l) (t := (2, 0, 1, 1)) (by decide) (by rw [hl]; exact ready_lt hr))
      rcases hA with ⟨h1, h2, rfl⟩ | ⟨h1, _, _⟩ | ⟨h1, _, _⟩
      · refine wpOp_step (o := _) rfl (fun K hK => ?_)
        go_simp
        refine hK _ _ ?_; clear hK K
        exact ⟨Or.inl ⟨(getD_set_ne false (by decide)).trans h1, (getD_set_ne false (by decide)).trans h2, rfl⟩, fun j hj => getD_set_true (h0 j hj), last_kept hr hl h31 (by decide), hM3, hB2⟩
      all_goals (rw [not_last hr hl h31 (by decide)] at h1; cases h1)
    | 3, _, hr => have := (ready_new hr hl).1; rw [h0 3 (by decide)] at this; cases this
    | 4, _, hr =>
      have hnew := (ready_new hr hl).1
      obtain ⟨w2, hrun, hM2, hg2⟩ := mv_update hM 1 6 1 (fL_none (t := (4, 1, 6, 1)) (by decide) hnew)
      have hB2 : Below w.heap.size w w2 := hB.grown hg2 hB.size (fun q hq => by cases hq; exact Nat.le_refl _)
      have hM3 := hM2.ext (fL_put (l := l) (t := (4, 1, 6, 1)) (by decide) (by rw [hl]; exact ready_lt hr))
      rcases hA with ⟨h1, h2, rfl⟩ | ⟨h1, _, _⟩ | ⟨h1, _, _⟩
      · refine wpOp_step (o := _) rfl (fun K hK => ?_)
        go_simp
        refine hK _ _ ?_; clear hK K
        exact ⟨Or.inl ⟨(getD_set_ne false (by decide)).trans h1, (getD_set_ne false (by decide)).trans h2, rfl⟩, fun j hj => getD_set_true (h0 j hj), last_kept hr hl h31 (by decide), hM3, hB2⟩
      all_goals (rw [not_last hr hl h31 (by decide)] at h1; cases h1)
    | 5, _, hr => have := (ready_new hr hl).1; rw [h0 5 (by decide)] at this; cases this
    | 6, _, hr =>
      have hnew := (ready_new hr hl).1
      obtain ⟨w2, hrun, hM2, hg2⟩ := mv_update hM 1 7 1 (fL_none (t := (6, 1, 7, 1)) (by decide) hnew)
      have hB2 : Below w.heap.size w w2 := hB.grown hg2 hB.size (fun q hq => by cases hq; exact Nat.le_refl _)
      have hM3 := hM2.ext (fL_put (l := l) (t := (6, 1, 7, 1)) (by decide) (by rw [hl]; exact ready_lt hr))
      rcases hA with ⟨h1, h2, rfl⟩ | ⟨h1, _, _⟩ | ⟨h1, _, _⟩
      · refine wpOp_step (o := _) rfl (fun K hK => ?_)
        go_simp
        refine hK _ _ ?_; clear hK K
        exact ⟨Or.inl ⟨(getD_set_ne false (by decide)).trans h1, (getD_set_ne false (by decide)).trans h2, rfl⟩, fun j hj => getD_set_true (h0 j hj), last_kept hr hl h31 (by decide), hM3, hB2⟩
      all_goals (rw [not_last hr hl h31 (by decide)] at h1; cases h1)
    | 7, _, hr => have := (ready_new hr hl).1; rw [h0 7 (by decide)] at this; cases this
    | 8, _, hr =>
      have hnew := (ready_new hr hl).1
      obtain ⟨w2, hrun, hM2, hg2⟩ := mv_update hM 1 2 2 (fL_none (t := (8, 1, 2, 2)) (by decide) hnew)
      have hB2 : Below w.heap.size w w2 := hB.grown hg2 hB.size (fun q hq => by cases hq; exact Nat.le_refl _)
      have hM3 := hM2.ext (fL_put (l := l) (t := (8, 1, 2, 2)) (by decide) (by rw [hl]; exact ready_lt hr))
      rcases hA with ⟨h1, h2, rfl⟩ | ⟨h1, _, _⟩ | ⟨h1, _, _⟩
      · refine wpOp_step (o := _) rfl (fun K hK => ?_)
        go_simp
        refine hK _ _ ?_; clear hK K
        exact ⟨Or.inl ⟨(getD_set_ne false (by decide)).trans h1, (getD_set_ne false (by decide)).trans h2, rfl⟩, fun j hj => getD_set_true (h0 j hj), last_kept hr hl h31 (by decide), hM3, hB2⟩
      all_goals (rw [not_last hr hl h31 (by decide)] at h1; cases h1)
    | 9, _, hr => have := (ready_new hr hl).1; rw [h0 9 (by decide)] at this; cases this
    | 10, _, hr =>
      have hnew := (ready_new hr hl).1
      obtain ⟨w2, hrun, hM2, hg2⟩ := mv_update hM 1 3 3 (fL_none (t := (10, 1, 3, 3)) (by decide) hnew)
      have hB2 : Below w.heap.size w w2 := hB.grown hg2 hB.size (fun q hq => by cases hq; exact Nat.le_refl _)
      have hM3 := hM2.ext (fL_put (l := l) (t := (10, 1, 3, 3)) (by decide) (by rw [hl]; exact ready_lt hr))
      rcases hA with ⟨h1, h2, rfl⟩ | ⟨h1, _, _⟩ | ⟨h1, _, _⟩
      · refine wpOp_step (o := _) rfl (fun K hK => ?_)
        go_simp
        refine hK _ _ ?_; clear hK K
        exact ⟨Or.inl ⟨(getD_set_ne false (by decide)).trans h1, (getD_set_ne false (by decide)).trans h2, rfl⟩, fun j hj => getD_set_true (h0 j hj), last_kept hr hl h31 (by decide), hM3, hB2⟩
      all_goals (rw [not_last hr hl h31 (by decide)] at h1; cases h1)
    | 11, _, hr => have := (ready_new hr hl).1; rw [h0 11 (by decide)] at this; cases this
    | 12, _, hr =>
      have hnew := (ready_new hr hl).1
      obtain ⟨w2, hrun, hM2, hg2⟩ := mv_update hM 1 4 4 (fL_none (t := (12, 1, 4, 4)) (by decide) hnew)
      have hB2 : Below w.heap.size w w2 := hB.grown hg2 hB.size (fun q hq => by cases hq; exact Nat.le_refl _)
      have hM3 := hM2.ext (fL_put (l := l) (t := (12, 1, 4, 4)) (by decide) (by rw [hl]; exact ready_lt hr))
      rcases hA with ⟨h1, h2, rfl⟩ | ⟨h1, _, _⟩ | ⟨h1, _, _⟩
      · refine wpOp_step (o := _) rfl (fun K hK => ?_)
        go_simp
        refine hK _ _ ?_; clear hK K
        exact ⟨Or.inl ⟨(getD_set_ne false (by decide)).trans h1, (getD_set_ne false (by decide)).trans h2, rfl⟩, fun j hj => getD_set_true (h0 j hj), last_kept hr hl h31 (by decide), hM3, hB2⟩
      all_goals (rw [not_last hr hl h31 (by decide)] at h1; cases h1)
    | 13, _, hr => have := (ready_new hr hl).1; rw [h0 13 (by decide)] at this; cases this
    | 14, _, hr =>
      have hnew := (ready_new hr hl).1
      obtain ⟨w2, hrun, hM2, hg2⟩ := mv_update hM 1 5 4 (fL_none (t := (14, 1, 5, 4)) (by decide) hnew)
      have hB2 : Below w.heap.size w w2 := hB.grown hg2 hB.size (fun q hq => by cases hq; exact Nat.le_refl _)
      have hM3 := hM2.ext (fL_put (l := l) (t := (14, 1, 5, 4)) (by decide) (by rw [hl]; exact ready_lt hr))
      rcases hA with ⟨h1, h2, rfl⟩ | ⟨h1, _, _⟩ | ⟨h1, _, _⟩
      · refine wpOp_step (o := _) rfl (fun K hK => ?_)
        go_simp
        refine hK _ _ ?_; clear hK K
        exact ⟨Or.inl ⟨(getD_set_ne false (by decide)).trans h1, (getD_set_ne false (by decide)).trans h2, rfl⟩, fun j hj => getD_set_true (h0 j hj), last_kept hr hl h31 (by decide), hM3, hB2⟩
      all_goals (rw [not_last hr hl h31 (by decide)] at h1; cases h1)
    | 15, _, hr => have := (ready_new hr hl).1; rw [h0 15 (by decide)] at this; cases this
    | 16, _, hr =>
      have hnew := (ready_new hr hl).1
      obtain ⟨w2, hrun, hM2, hg2⟩ := mv_update hM 2 7 2 (fL_none (t := (16, 2, 7, 2)) (by decide) hnew)
      have hB2 : Below w.heap.size w w2 := hB.grown hg2 hB.size (fun q hq => by cases hq; exact Nat.le_refl _)
      have hM3 := hM2.ext (fL_put (l := l) (t := (16, 2, 7, 2)) (by decide) (by rw [hl]; exact ready_lt hr))
      rcases hA with ⟨h1, h2, rfl⟩ | ⟨h1, _, _⟩ | ⟨h1, _, _⟩
      · refine wpOp_step (o := _) rfl (fun K hK => ?_)
        go_simp
        refine hK _ _ ?_; clear hK K
        exact ⟨Or.inl ⟨(getD_set_ne false (by decide)).trans h1, (getD_set_ne false (by decide)).trans h2, rfl⟩, fun j hj => getD_set_true (h0 j hj), last_kept hr hl h31 (by decide), hM3, hB2⟩
      all_goals (rw [not_last hr hl h31 (by decide)] at h1; cases h1)
    | 17, _, hr => have := (ready_new hr hl).1; rw [h0 17 (by decide)] at this; cases this
    | 18, _, hr =>
      have hnew := (ready_new hr hl).1
      obtain ⟨w2, hrun, hM2, hg2⟩ := mv_update hM 2 3 4 (fL_none (t := (18, 2, 3, 4)) (by decide) hnew)
      have hB2 : Below w.heap.size w w2 := hB.grown hg2 hB.size (fun q hq => by cases hq; exact Nat.le_refl _)
      have hM3 := hM2.ext (fL_put (l := l) (t := (18, 2, 3, 4)) (by decide) (by rw [hl]; exact ready_lt hr))
      rcases hA with ⟨h1, h2, rfl⟩ | ⟨h1, _, _⟩ | ⟨h1, _, _⟩
      · refine wpOp_step (o := _) rfl (fun K hK => ?_)
        go_simp
        refine hK _ _ ?_; clear hK K
        exact ⟨Or.inl ⟨(getD_set_ne false (by decide)).trans h1, (getD_set_ne false (by decide)).trans h2, rfl⟩, fun j hj => getD_set_true (h0 j hj), last_kept hr hl h31 (by decide), hM3, hB2⟩
      all_goals (rw [not_last hr hl h31 (by decide)] at h1; cases h1)
    | 19, _, hr => have := (ready_new hr hl).1; rw [h0 19 (by decide)] at this; cases this
    | 20, _, hr =>
      have hnew := (ready_new hr hl).1
      obtain ⟨w2, hrun, hM2, hg2⟩ := mv_update hM 2 4 4 (fL_none (t := (20, 2, 4, 4)) (by decide) hnew)
      have hB2 : Below w.heap.size w w2 := hB.grown hg2 hB.size (fun q hq => by cases hq; exact Nat.le_refl _)
      have hM3 := hM2.ext (fL_put (l := l) (t := (20, 2, 4, 4)) (by decide) (by rw [hl]; exact ready_lt hr))
      rcases hA with ⟨h1, h2, rfl⟩ | ⟨h1, _, _⟩ | ⟨h1, _, _⟩
      · refine wpOp_step (o := _) rfl (fun K hK => ?_)
        go_simp
        refine hK _ _ ?_; clear hK K
        exact ⟨Or.inl ⟨(getD_set_ne false (by decide)).trans h1, (getD_set_ne false (by decide)).trans h2, rfl⟩, fun j hj => getD_set_true (h0 j hj), last_kept hr hl h31 (by decide), hM3, hB2⟩
      all_goals (rw [not_last hr hl h31 (by decide)] at h1; cases h1)
    | 21, _, hr => have := (ready_new hr hl).1; rw [h0 21 (by decide)] at this; cases this
    | 22, _, hr =>
      have hnew := (ready_new hr hl).1
      obtain ⟨w2, hrun, hM2, hg2⟩ := mv_update hM 2 5 4 (fL_none (t := (22, 2, 5, 4)) (by decide) hnew)
      have hB2 : Below w.heap.size w w2 := hB.grown hg2 hB.size (fun q hq => by cases hq; exact Nat.le_refl _)
      have hM3 := hM2.ext (fL_put (l := l) (t := (22, 2, 5, 4)) (by decide) (by rw [hl]; exact ready_lt hr))
      rcases hA with ⟨h1, h2, rfl⟩ | ⟨h1, _, _⟩ | ⟨h1, _, _⟩
      · refine wpOp_step (o := _) rfl (fun K hK => ?_)
        go_simp
        refine hK _ _ ?_; clear hK K
        exact ⟨Or.inl ⟨(getD_set_ne false (by decide)).trans h1, (getD_set_ne false (by decide)).trans h2, rfl⟩, fun j hj => getD_set_true (h0 j hj), last_kept hr hl h31 (by decide), hM3, hB2⟩
      all_goals (rw [not_last hr hl h31 (by decide)] at h1; cases h1)
    | 23, _, hr => have := (ready_new hr hl).1; rw [h0 23 (by decide)] at this; cases this
    | 24, _, hr =>
      have hnew := (ready_new hr hl).1
      obtain ⟨w2, hrun, hM2, hg2⟩ := mv_update hM 3 6 3 (fL_none (t := (24, 3, 6, 3)) (by decide) hnew)
      have hB2 : Below w.heap.size w w2 := hB.grown hg2 hB.size (fun q hq => by cases hq; exact Nat.le_refl _)
      have hM3 := hM2.ext (fL_put (l := l) (t := (24, 3, 6, 3)) (by decide) (by rw [hl]; exact ready_lt hr))
      rcases hA with ⟨h1, h2, rfl⟩ | ⟨h1, _, _⟩ | ⟨h1, _, _⟩
      · refine wpOp_step (o := _) rfl (fun K hK => ?_)
        go_simp
        refine hK _ _ ?_; clear hK K
        exact ⟨Or.inl ⟨(getD_set_ne false (by decide)).trans h1, (getD_set_ne false (by decide)).trans h2, rfl⟩, fun j hj => getD_set_true (h0 j hj), last_kept hr hl h31 (by decide), hM3, hB2⟩
      all_goals (rw [not_last hr hl h31 (by decide)] at h1; cases h1)
    | 25, _, hr => have := (ready_new hr hl).1; rw [h0 25 (by decide)] at this; cases this
    | 26, _, hr =>
      have hnew := (ready_new hr hl).1
      obtain ⟨w2, hrun, hM2, hg2⟩ := mv_update hM 3 2 4 (fL_none (t := (26, 3, 2, 4)) (by decide) hnew)
      have hB2 : Below w.heap.size w w2 := hB.grown hg2 hB.size (fun q hq => by cases hq; exact Nat.le_refl _)
      have hM3 := hM2.ext (fL_put (l := l) (t := (26, 3, 2, 4)) (by decide) (by rw [hl]; exact ready_lt hr))
      rcases hA with ⟨h1, h2, rfl⟩ | ⟨h1, _, _⟩ | ⟨h1, _, _⟩
      · refine wpOp_step (o := _) rfl (fun K hK => ?_)
        go_simp
        refine hK _ _ ?_; clear hK K
        exact ⟨Or.inl ⟨(getD_set_ne false (by decide)).trans h1, (getD_set_ne false (by decide)).trans h2, rfl⟩, fun j hj => getD_set_true (h0 j hj), last_kept hr hl h31 (by decide), hM3, hB2⟩
      all_goals (rw [not_last hr hl h31 (by decide)] at h1; cases h1)
    | 27, _, hr => have := (ready_new hr hl).1; rw [h0 27 (by decide)] at this; cases this
    | 28, _, hr =>
      have hnew := (ready_new hr hl).1
      obtain ⟨w2, hrun, hM2, hg2⟩ := mv_update hM 3 4 4 (fL_none (t := (28, 3, 4, 4)) (by decide) hnew)
      have hB2 : Below w.heap.size w w2 := hB.grown hg2 hB.size (fun q hq => by cases hq; exact Nat.le_refl _)
      have hM3 := hM2.ext (fL_put (l := l) (t := (28, 3, 4, 4)) (by decide) (by rw [hl]; exact ready_lt hr))
      rcases hA with ⟨h1, h2, rfl⟩ | ⟨h1, _, _⟩ | ⟨h1, _, _⟩
      · refine wpOp_step (o := _) rfl (fun K hK => ?_)
        go_simp
        refine hK _ _ ?_; clear hK K
        exact ⟨Or.inl ⟨(getD_set_ne false (by decide)).trans h1, (getD_set_ne false (by decide)).trans h2, rfl⟩, fun j hj => getD_set_true (h0 j hj), last_kept hr hl h31 (by decide), hM3, hB2⟩
      all_goals (rw [not_last hr hl h31 (by decide)] at h1; cases h1)
    | 29, _, hr => have := (ready_new hr hl).1; rw [h0 29 (by decide)] at this; cases this
    | 30, _, hr =>
      have hnew := (ready_new hr hl).1
      obtain ⟨w2, hrun, hM2, hg2⟩ := mv_update hM 3 5 4 (fL_none (t := (30, 3, 5, 4)) (by decide) hnew)
      have hB2 : Below w.heap.size w w2 := hB.grown hg2 hB.size (fun q hq => by cases hq; exact Nat.le_refl _)
      have hM3 := hM2.ext (fL_put (l := l) (t := (30, 3, 5, 4)) (by decide) (by rw [hl]; exact ready_lt hr))
      rcases hA with ⟨h1, h2, rfl⟩ | ⟨h1, _, _⟩ | ⟨h1, _, _⟩
      · refine wpOp_step (o := _) rfl (fun K hK => ?_)
        go_simp
        refine hK _ _ ?_; clear hK K
        exact ⟨Or.inl ⟨(getD_set_ne false (by decide)).trans h1, (getD_set_ne false (by decide)).trans h2, rfl⟩, fun j hj => getD_set_true (h0 j hj), last_kept hr hl h31 (by decide), hM3, hB2⟩
      all_goals (rw [not_last hr hl h31 (by decide)] at h1; cases h1)
    | 31, _, hr =>
      have hnew := (ready_new hr hl).1
      rcases hA with ⟨h1, h2, rfl⟩ | ⟨h1, _, _⟩ | ⟨h1, _, _⟩
      · refine wpOp_step (o := _) rfl (fun K hK => ?_)
        go_simp
        refine hK _ _ ?_; clear hK K
        exact ⟨Or.inr (Or.inl ⟨set_is (by rw [hl]; exact ready_lt hr), (getD_set_ne false (by decide)).trans h2, rfl⟩), fun j hj => getD_set_true (h0 j hj), last_comes hr (by kernel_rfl), hM.ext (fL_far (by decide)), hB⟩
      all_goals (rw [hnew] at h1; cases h1)
    | 32, _, hr =>
      have hnew := (ready_new hr hl).1
      have h31' := ready_waits hr (j := 31) (by kernel_rfl)
      rcases hA with ⟨h1, _, _⟩ | ⟨h1, h2, rfl⟩ | ⟨_, h1, _⟩
      · rw [h31'] at h1; cases h1
      · refine wpOp_step (o := _) rfl (fun K hK => ?_)
        go_simp
        refine hK _ _ ?_; clear hK K
        exact ⟨Or.inr (Or.inr ⟨getD_set_true h1, set_is (by rw [hl]; exact ready_lt hr), rfl⟩), fun j hj => getD_set_true (h0 j hj), fun _ j hj => getD_set_true (h31 h1 j hj), hM.ext (fL_far (by decide)), hB⟩
      · rw [hnew] at h1; cases h1
    | n + 33, h, _ => exact absurd h (by show ¬ n + 33 < 33; omega)
def cF : Int → Int → Option Int := fPut (fPut (fun _ _ => none) 4 4 4) 4 5 4
def mF (s : Int) : Int → Int → Option Int := if s = 4 then cF else mvF
theorem mF_nx (s e : Int) : nxV s e = (((mF s s e).getD s), (mF s s e).isSome) := by
  rcases st_cases s with rfl | rfl | rfl | rfl | rfl | hs
  rotate_left 5
  · rw [nx_bad hs]
    obtain ⟨h0, h1, h2, h3, h4⟩ := hs
    have : mF s s e = none := by
      simp only [mF, h4, if_false, mvF, mvs, List.find?]
      simp [Ne.symm h0, Ne.symm h1, Ne.symm h2, Ne.symm h3]
    rw [this]; rfl
  · rcases ev_cases e with rfl | rfl | rfl | rfl | rfl | rfl | rfl | he
    rotate_left 7
    · rw [nx_none he]
      obtain ⟨e1, e2, e3, e4, e5, e6, e7⟩ := he
      have h : mF 0 0 e = none := by
        show mvF 0 e = none
        unfold mvF mvs
        simp [List.find?, Ne.symm e1, Ne.symm e2, Ne.symm e3, Ne.symm e4, Ne.symm e5, Ne.symm e6, Ne.symm e7]
      rw [h]; rfl
    all_goals decide
  · rcases ev_cases e with rfl | rfl | rfl | rfl | rfl | rfl | rfl | he
    rotate_left 7
    · rw [nx_none he]
      obtain ⟨e1, e2, e3, e4, e5, e6, e7⟩ := he
      have h : mF 1 1 e = none := by
        show mvF 1 e = none
        unfold mvF mvs
        simp [List.find?, Ne.symm e1, Ne.symm e2, Ne.symm e3, Ne.symm e4, Ne.symm e5, Ne.symm e6, Ne.symm e7]
      rw [h]; rfl
    all_goals decide
  · rcases ev_cases e with rfl | rfl | rfl | rfl | rfl | rfl | rfl | he
    rotate_left 7
    · rw [nx_none he]
      obtain ⟨e1, e2, e3, e4, e5, e6, e7⟩ := he
      have h : mF 2 2 e = none := by
        show mvF 2 e = none
        unfold mvF mvs
        simp [List.find?, Ne.symm e1, Ne.symm e2, Ne.symm e3, Ne.symm e4, Ne.symm e5, Ne.symm e6, Ne.symm e7]
      rw [h]; rfl
    all_goals decide
  · rcases ev_cases e with rfl | rfl | rfl | rfl | rfl | rfl | rfl | he
    rotate_left 7
    · rw [nx_none he]
      obtain ⟨e1, e2, e3, e4, e5, e6, e7⟩ := he
      have h : mF 3 3 e = none := by
        show mvF 3 e = none
        unfold mvF mvs
        simp [List.find?, Ne.symm e1, Ne.symm e2, Ne.symm e3, Ne.symm e4, Ne.symm e5, Ne.symm e6, Ne.symm e7]
      rw [h]; rfl
    all_goals decide
  · rcases ev_cases e with rfl | rfl | rfl | rfl | rfl | rfl | rfl | he
    rotate_left 7
    · rw [nx_none he]
      obtain ⟨e1, e2, e3, e4, e5, e6, e7⟩ := he
      have h : mF 4 4 e = none := by
        show cF 4 e = none
        simp [cF, fPut, e4, e5]
      rw [h]; rfl
    all_goals decide
set_option maxHeartbeats 1000000 in
theorem enter1 (B0 b g : Nat) (s0 s : Int) (f : Int → Int → Option Int) (w : World) (R : RowIs w b 257 [.int .i64 s0, .map (some g)]) (M : MapHas w g f) (hbg : b ≠ g) (h1 : B0 ≤ b) (h2 : B0 ≤ g) :
    Calls Tryz.prog 243 #[.pointer (some ⟨b, 0, none⟩), .int .i64 s] w fun x w' => x = .returned (.tuple #[]) ∧ RowIs w' b 257 [.int .i64 s, .map (some g)] ∧ MapHas w' g (if s = 4 then cF else f) ∧ Below B0 w w' := by
  have k0 := RowIs.cell (j := 0) R rfl
  have k1 := RowIs.cell (j := 1) R rfl
  have k9 := fun j => RowIs.frozen R j
  have klt := R.lt
  have R1 := hide (R.set 0 (.int .i64 s))
  have M1 := hide (M.setCell (a := ⟨b, 0, none⟩) (fun e => hbg e.symm) (.int .i64 s))
  have hb1 := hide ((Below.refl B0 w).setCell (p := ⟨b, 0, none⟩) h1 (.int .i64 s))
  clear R M
  by_cases hs : s = 4
  · subst hs
    rw [if_pos rfl]
    obtain ⟨W1, hW1⟩ : ∃ W, w.setCell ⟨b, 0, none⟩ (.int .i64 4) = W := ⟨_, rfl⟩
    rw [hW1] at R1 M1 hb1
    obtain ⟨w2, hr2, M2, g2⟩ := mv_clear M1.out 0
    obtain ⟨w3, hr3, M3, g3⟩ := mv_update M2 4 4 4 rfl
    obtain ⟨w4, hr4, M4, g4⟩ := mv_update M3 4 5 4 (by simp [fPut])
    have klt1 : b < W1.heap.size := R1.out.lt
    have R2 := R1.out.kept (g2.block b klt1 (fun e => hbg (by injection e)))
    have R3 := R2.kept (g3.block b R2.lt (fun e => hbg (by injection e)))
    have R4 := R3.kept (g4.block b R3.lt (fun e => hbg (by injection e)))
    have c1 := RowIs.cell (j := 1) R1.out rfl
    have c2 := RowIs.cell (j := 1) R2 rfl
    have c3 := RowIs.cell (j := 1) R3 rfl
    have l2 := R2.lt
    have l3 := R3.lt
    have hz1 := hb1.out.size
    have B2 : Below B0 w w2 := hb1.out.grown g2 (by omega) (fun q hq => by cases hq; exact h2)
    have B3 : Below B0 w w3 := B2.grown g3 (by omega) (fun q hq => by cases hq; exact h2)
    have B4 := hide (B3.grown g4 (by omega) (fun q hq => by cases hq; exact h2))
    replace R4 := hide R4
    replace M4 := hide M4
    clear R1 M1 hb1 M2 M3 g2 g3 g4 R2 R3 B2 B3
    go_enter Tryz.func243, Tryz.ntmps243
    go_wp2_with fail
    refine bodyPost_end (v := .tuple #[]) (by simp [results, Tryz.results243, go_sem]) rfl ?_
    exact ⟨rfl, R4.out, M4.out, B4.out⟩
  · rw [if_neg hs]
    have hs' : (s == 4) = false := by simpa using hs
    go_enter Tryz.func243, Tryz.ntmps243
    go_wp2_with fail
    refine bodyPost_ret (v := .tuple #[]) (by simp [results, Tryz.results243, go_sem, *]) rfl ?_
    exact ⟨rfl, R1.out, M1.out, hb1.out⟩
set_option maxHeartbeats 1000000 in
theorem courseIn1 (s : Int) (w : World) : Calls Tryz.prog 219 #[.int .i64 s] w fun x w' => ∃ g : Nat, x = .returned (.agg #[.int .i64 s, .map (some g)]) ∧ w.heap.size ≤ g ∧ MapHas w' g (mF s) ∧ Below w.heap.size w w' := by
  go_enter Tryz.func219, Tryz.ntmps219
  go_wp2_with fail
  refine (implMoves _).mono ?_; rintro e w1 ⟨rfl, M1, hb1⟩
  have R2 := (rowIs_new w 257 [.int .i64 0, .map none]).new hb1
  have b1 : Below w.heap.size w w1 := ((Below.refl _ w).alloc (Nat.le_refl _) _).trans (hb1.mono (by simp))
  have z1 := M1.lt
  simp at z1 M1 R2
  go_simp
  obtain ⟨g, hg⟩ : ∃ g, g = w.heap.size + 1 := ⟨_, rfl⟩
  rw [← hg] at z1 M1 ⊢
  have hgw : w.heap.size < g := by omega
  clear hg hb1
  go_wp2_with fail
  have R3 := rowIs_new w1 257 [.int .i64 0, .map (some g)]
  have M3 := M1.kept (World.grownBy_alloc w1 (.cells #[.int .i64 0, .map (some g)] 257) none) (by simp)
  have R5 := R2.alloc (.cells #[.int .i64 0, .map (some g)] 257)
  have b3 : Below w.heap.size w (w1.alloc (.cells #[.int .i64 0, .map (some g)] 257)) := b1.alloc (by omega) _
  refine (enter1 (w.heap.size + 1) w1.heap.size g 0 s mvF _ R3 M3 (by omega) (by omega) (by omega)).mono ?_; rintro e w2 ⟨rfl, R4, M4, hb4⟩
  replace R5 := R5.kept (hb4.block w.heap.size (by omega))
  have b4 : Below w.heap.size w w2 := b3.trans (hb4.mono (by omega))
  have x0 := RowIs.cell (j := 0) R4 rfl
  have x1 := RowIs.cell (j := 1) R4 rfl
  have xl := R4.lt
  have y0 := RowIs.cell (j := 0) R5 rfl
  have y1 := RowIs.cell (j := 1) R5 rfl
  have y9 := fun j => RowIs.frozen R5 j
  have yl := R5.lt
  have M5 := hide M4
  have b5 := hide b4
  clear M4 b4 R4 R5 hb4 b3 R3 M3 b1 M1 R2
  go_wp2_with fail
  refine bodyPost_ret (v := .agg #[.int .i64 s, .map (some g)]) (by simp [results, Tryz.results219, go_sem, *]) rfl ?_
  refine ⟨g, rfl, by omega, ?_, ?_⟩
  · exact ((M5.out.setCell (a := ⟨w.heap.size, 0, none⟩) (by show g ≠ w.heap.size; omega) _).setCell (a := ⟨w.heap.size, 1, none⟩) (by show g ≠ w.heap.size; omega) _)
  · repeat' (first | (with_reducible exact b5.out) | (with_reducible refine Below.setCell ?_ ?_ _) | (with_reducible refine Below.alloc ?_ ?_ _) | (with_reducible refine Below.drew ?_) | (with_reducible refine bo_drewN _ ?_) | omega | (simp; done) | (simp; omega))
set_option maxHeartbeats 1000000 in
theorem happen1 (B0 b g : Nat) (s e : Int) (w : World) (R : RowIs w b 257 [.int .i64 s, .map (some g)]) (M : MapHas w g (mF s)) (hbg : b ≠ g) (h1 : B0 ≤ b) (h2 : B0 ≤ g) :
    Calls Tryz.prog 220 #[.pointer (some ⟨b, 0, none⟩), .int .i64 e] w fun x w' => x = .returned (.bool (nxV s e).2) ∧ RowIs w' b 257 [.int .i64 (nxV s e).1, .map (some g)] ∧ MapHas w' g (mF (nxV s e).1) ∧ Below B0 w w' := by
  have k0 := RowIs.cell (j := 0) R rfl
  have k1 := RowIs.cell (j := 1) R rfl
  have klt := R.lt
  have hlk := mv_lookup (w := w.drew) M s e
  have hn := mF_nx s e
  obtain ⟨o, ho⟩ : ∃ o, mF s s e = o := ⟨_, rfl⟩
  rw [ho] at hlk hn
  clear ho
  rw [hn]
  dsimp only
  go_enter Tryz.func220, Tryz.ntmps220
  go_wp2_with fail
  refine wp_region_held_drew (S := (fun u => u.cell? ⟨b, 0, none⟩ = some (.int .i64 s) ∧ u.cell? ⟨b, 1, none⟩ = some (.map (some g)) ∧ (Instr.lookup 255 (.map (some g)) (.agg #[.int .i64 s, .int .i64 e]) true).run Tryz.prog u = .ok (.tuple #[.int .i64 (o.getD 0), .bool o.isSome]) u)) (by kernel_rfl) (And.intro k0 (And.intro k1 hlk)) (fun hS => ?_)
  refine wpAnyH_take (i := 0) (v := ?_) rfl (by kernel_rfl) (by kernel_rfl) (by kernel_rfl) (fun _ _ _ h => h) (Or.inl ⟨by rfl, ?_⟩) hS ?_; rotate_left; focus (intro w hw; clear hw; go_simp; try with_reducible rfl)
  refine wpAnyH_take (i := 1) (v := ?_) rfl (by kernel_rfl) (by kernel_rfl) (by kernel_rfl) (fun _ _ _ h => h) (Or.inl ⟨by rfl, ?_⟩) hS ?_; rotate_left; focus (intro w hw; clear hw; go_simp; try with_reducible rfl)
  refine wpAnyH_take (i := 2) (v := ?_) rfl (by kernel_rfl) (by kernel_rfl) (by kernel_rfl) (fun _ _ _ h => h) (Or.inl ⟨by rfl, ?_⟩) hS ?_; rotate_left; focus (intro w hw; clear hw; go_simp; try with_reducible rfl)
  refine wpAnyH_take (i := 3) (v := ?_) rfl (by kernel_rfl) (by kernel_rfl) (by kernel_rfl) (fun _ _ _ h => h) (Or.inl ⟨by rfl, ?_⟩) hS ?_; rotate_left; focus (intro w hw; obtain ⟨l0, l1, l2⟩ := hw; go_simp; try with_reducible rfl)
  refine wpAnyH_take (i := 4) (v := ?_) rfl (by kernel_rfl) (by kernel_rfl) (by kernel_rfl) (fun _ _ _ h => h) (Or.inl ⟨by rfl, ?_⟩) hS ?_; rotate_left; focus (intro w hw; clear hw; go_simp; try with_reducible rfl)
  refine wpAnyH_take (i := 5) (v := ?_) rfl (by kernel_rfl) (by kernel_rfl) (by kernel_rfl) (fun _ _ _ h => h) (Or.inl ⟨by rfl, ?_⟩) hS ?_; rotate_left; focus (intro w hw; clear hw; go_simp; try with_reducible rfl)
  refine wpAnyH_take (i := 6) (v := ?_) rfl (by kernel_rfl) (by kernel_rfl) (by kernel_rfl) (fun _ _ _ h => h) (Or.inl ⟨by rfl, ?_⟩) hS ?_; rotate_left; focus (intro w hw; clear hw; go_simp; try with_reducible rfl)
  refine wpAnyH_take (i := 7) (v := ?_) rfl (by kernel_rfl) (by kernel_rfl) (by kernel_rfl) (fun _ _ _ h => h) (Or.inl ⟨by rfl, ?_⟩) hS ?_; rotate_left; focus (intro w hw; obtain ⟨l0, l1, l2⟩ := hw; go_simp; try with_reducible rfl)
  refine wpAnyH_take (i := 8) (v := ?_) rfl (by kernel_rfl) (by kernel_rfl) (by kernel_rfl) (fun _ _ _ h => h) (Or.inl ⟨by rfl, ?_⟩) hS ?_; rotate_left; focus (intro w hw; clear hw; go_simp; try with_reducible rfl)
  refine wpAnyH_take (i := 9) (v := ?_) rfl (by kernel_rfl) (by kernel_rfl) (by kernel_rfl) (fun _ _ _ h => h) (Or.inl ⟨by rfl, ?_⟩) hS ?_; rotate_left; focus (intro w hw; clear hw; go_simp; try with_reducible rfl)
  refine wpAnyH_take (i := 10) (v := ?_) rfl (by kernel_rfl) (by kernel_rfl) (by kernel_rfl) (fun _ _ _ h => h) (Or.inl ⟨by rfl, ?_⟩) hS ?_; rotate_left; focus (intro w hw; obtain ⟨l0, l1, l2⟩ := hw; go_simp; try with_reducible rfl)
  refine wpAnyH_take (i := 11) (v := ?_) rfl (by kernel_rfl) (by kernel_rfl) (by kernel_rfl) (fun _ _ _ h => h) (Or.inl ⟨by rfl, ?_⟩) hS ?_; rotate_left; focus (intro w hw; clear hw; go_simp; try with_reducible rfl)
  refine wpAnyH_take (i := 12) (v := ?_) rfl (by kernel_rfl) (by kernel_rfl) (by kernel_rfl) (fun _ _ _ h => h) (Or.inl ⟨by rfl, ?_⟩) hS ?_; rotate_left; focus (intro w hw; clear hw; go_simp; try with_reducible rfl)
  refine wpAnyH_take (i := 13) (v := ?_) rfl (by kernel_rfl) (by kernel_rfl) (by kernel_rfl) (fun _ _ _ h => h) (Or.inl ⟨by rfl, ?_⟩) hS ?_; rotate_left; focus (intro w hw; clear hw; go_simp; try with_reducible rfl)
  refine wpAnyH_take (i := 14) (v := ?_) rfl (by kernel_rfl) (by kernel_rfl) (by kernel_rfl) (fun _ _ _ h => h) (Or.inl ⟨by rfl, ?_⟩) hS ?_; rotate_left; focus (intro w hw; clear hw; go_simp; try with_reducible rfl)
  refine wpAnyH_take (i := 15) (v := ?_) rfl (by kernel_rfl) (by kernel_rfl) (by kernel_rfl) (fun _ _ _ h => h) (Or.inl ⟨by rfl, ?_⟩) hS ?_; rotate_left; focus (intro w hw; clear hw; go_simp; try with_reducible rfl)
  refine wpAnyH_done (by kernel_rfl) ?_ _
  clear hS
  have R0 : RowIs w.drew b 257 [.int .i64 s, .map (some g)] := R
  have M0 : MapHas w.drew g (mF s) := M
  have hb0 : Below B0 w w.drew := (Below.refl _ _).drew
  cases o with
  | none =>
    clear hn hlk
    go_wp2_with fail
    refine bodyPost_ret (v := .bool false) (by simp [results, Tryz.results220, go_sem, *]) rfl ?_
    exact ⟨rfl, R0, M0, hb0⟩
  | some v =>
    have hM : ∀ u, MapHas u g (if v = 4 then cF else mF s) → MapHas u g (mF v) := fun u hu => by
      unfold mF
      by_cases h4 : v = 4
      · rw [if_pos h4] at hu ⊢; exact hu
      · rw [if_neg h4] at hu ⊢
        have hs4 : s ≠ 4 := fun e4 => by
          subst e4
          exact h4 (nx_closed hn)
        unfold mF at hu
        rw [if_neg hs4] at hu
        exact hu
    clear hn hlk
    go_wp2_with fail
    refine (enter1 B0 b g s v (mF s) _ R0 M0 hbg h1 h2).mono ?_; rintro e w1 ⟨rfl, R1, M1, hb1⟩
    go_wp2_with fail
    refine bodyPost_ret (v := .bool true) (by simp [results, Tryz.results220, go_sem, *]) rfl ?_
    exact ⟨rfl, R1, hM _ M1, hb0.trans hb1⟩
set_option maxHeartbeats 1000000 in
theorem implNext (s e : Int) (w : World) : Calls Tryz.prog 182 #[.int .i64 s, .int .i64 e] w fun x w' => x = .returned (.tuple #[.int .i64 (nxV s e).1, .bool (nxV s e).2]) ∧ Below w.heap.size w w' := by
  obtain ⟨⟨n, is⟩, hn⟩ : ∃ y, nxV s e = y := ⟨_, rfl⟩
  rw [hn]
  dsimp only
  go_enter Tryz.func182, Tryz.ntmps182
  go_wp2_with fail
  refine (courseIn1 s _).mono ?_; rintro x w1 ⟨g, rfl, hg, M1, hb1⟩
  have z1 := M1.lt
  have z2 := hb1.size
  go_wp2_with fail
  have R3 := rowIs_new w1 257 [.int .i64 s, .map (some g)]
  have M3 := M1.kept (World.grownBy_alloc w1 (.cells #[.int .i64 s, .map (some g)] 257) none) (by simp)
  have b3 : Below w.heap.size w (w1.alloc (.cells #[.int .i64 s, .map (some g)] 257)) := hb1.alloc (by omega) _
  refine (happen1 w.heap.size w1.heap.size g s e _ R3 M3 (by omega) (by omega) (by omega)).mono ?_; rintro x w2 ⟨rfl, R4, M4, hb4⟩
  have b4 := hide (b3.trans hb4)
  have x0 := RowIs.cell (j := 0) R4 rfl
  have xl := R4.lt
  rw [hn] at x0 ⊢
  dsimp only at x0 ⊢
  clear hn M4 R4 hb4 b3 M3 R3 M1 hb1
  go_wp2_with fail
  go_ret2
  exact ⟨rfl, b4.out⟩
theorem nx_ms (s : Int) : (nxV s 7).2 = msV s := by
  rcases st_cases s with rfl | rfl | rfl | rfl | rfl | hs
  rotate_left 5
  · rw [nx_bad hs]
    obtain ⟨h0, h1, h2, h3, h4⟩ := hs
    simp [msV, h1, h2]
  all_goals decide
theorem nx_mg (s : Int) : (nxV s 6).2 = mgV s := by
  rcases st_cases s with rfl | rfl | rfl | rfl | rfl | hs
  rotate_left 5
  · rw [nx_bad hs]
    obtain ⟨h0, h1, h2, h3, h4⟩ := hs
    simp [mgV, h1, h3]
  all_goals decide
theorem implMaySend (s : Int) (w : World) : Calls Tryz.prog 142 #[.int .i64 s] w fun x w' => x = .returned (.bool (msV s)) ∧ Below w.heap.size w w' := by
  rw [← nx_ms]
  go_enter Tryz.func142, Tryz.ntmps142
  go_wp2_with fail
  refine (implNext s 7 _).mono ?_; rintro x w1 ⟨rfl, hb1⟩
  go_wp2_with fail
  go_ret
  exact ⟨rfl, hb1⟩
theorem implMayGet (s : Int) (w : World) : Calls Tryz.prog 173 #[.int .i64 s] w fun x w' => x = .returned (.bool (mgV s)) ∧ Below w.heap.size w w' := by
  rw [← nx_mg]
  go_enter Tryz.func173, Tryz.ntmps173
  go_wp2_with fail
  refine (implNext s 6 _).mono ?_; rintro x w1 ⟨rfl, hb1⟩
  go_wp2_with fail
  go_ret
  exact ⟨rfl, hb1⟩
end Go.Proofs.YtllaeakeaabiaaaGreat
/- A Frame that came in: copied, counted, read off the arguments. -/
namespace Go.Proofs.YtllaeakeaabiaaaGreat
open Go.RowKit
set_option maxRecDepth 100000
set_option linter.unusedSimpArgs false
set_option linter.unusedVariables false
theorem toFrame1 (k fl st : Int) (b : ByteArray) (w : World) : Calls Tryz.prog 9 #[.agg #[.int .i64 k, .int .i64 fl, .int .i64 st, .string b]] w fun x w' => x = .returned (.agg #[.int .i64 k, .int .i64 fl, .int .i64 st, .string b]) ∧ Below w.heap.size w w' := by
  go_enter Tryz.func9, Tryz.ntmps9
  go_wp2
  go_returns
  exact ⟨rfl, (by repeat' (first | (with_reducible exact Below.refl _ _) | (with_reducible refine Below.drew ?_) | (with_reducible refine bo_drewN _ ?_) | (with_reducible refine bo_alloc ?_ _) | (refine bchain ?_ (by with_reducible assumption)) | (with_reducible refine Below.setCell ?_ ?_ _) | go_size))⟩
theorem szFrame1 (k fl st : Int) (b : ByteArray) (left : Int) (w : World) (hf : b.size ≤ 9223372036854775807) (h0 : 0 ≤ left) (h1 : left ≤ 1048576) :
    Calls Tryz.prog 6 #[.agg #[.int .i64 k, .int .i64 fl, .int .i64 st, .string b], .int .i64 left] w fun x w' => x = .returned (.int .i64 (if left - b.size < 0 then -1 else left - b.size)) ∧ Below w.heap.size w w' := by
  by_cases hA : left - b.size < 0
  · rw [if_pos hA]
    go_enter Tryz.func6, Tryz.ntmps6
    go_wp2
    go_ret
    exact ⟨rfl, (by repeat' (first | (with_reducible exact Below.refl _ _) | (with_reducible refine Below.drew ?_) | (with_reducible refine bo_drewN _ ?_) | (with_reducible refine bo_alloc ?_ _) | (refine bchain ?_ (by with_reducible assumption)) | (with_reducible refine Below.setCell ?_ ?_ _) | go_size))⟩
  · rw [if_neg hA]
    go_enter Tryz.func6, Tryz.ntmps6
    go_wp2
    go_ret
    exact ⟨rfl, (by repeat' (first | (with_reducible exact Below.refl _ _) | (with_reducible refine Below.drew ?_) | (with_reducible refine bo_drewN _ ?_) | (with_reducible refine bo_alloc ?_ _) | (refine bchain ?_ (by with_reducible assumption)) | (with_reducible refine Below.setCell ?_ ?_ _) | go_size))⟩
open Go.ChangeShapes Go.WideShapes Go.ChangeAt Go.Joins in
theorem open_Frame {H : Type} {enc : TypeId × Value → H} {W : World} {base : Nat} {v : Value} {d : DataW H} {p : List MemPlace} (hv : Value.okWide Tryz.prog W .any base 32 v)
    (h : DataW.Trod enc Tryz.prog W 0 (fun _ => true) true 32 v d p) : ∃ (k fl st : Int) (b : ByteArray), b.size ≤ maxLen ∧ v = .agg #[.int .i64 k, .int .i64 fl, .int .i64 st, .string b] := by
  obtain ⟨c0, c1, c2, c3, y0, y1, y2, y3, m, rfl, _, _, hy0, hy1, hy2, hy3⟩ := open_agg4 Tryz.underlying32 (by kernel_rfl) (by kernel_rfl) hv h
  obtain ⟨a, e0, _, wa⟩ := DataW.trod_int Tryz.underlying2 hy0
  obtain ⟨a1, e1, _, wb⟩ := DataW.trod_int Tryz.underlying2 hy1
  obtain ⟨a2, e2, _, wc⟩ := DataW.trod_int Tryz.underlying2 hy2
  obtain ⟨s, e3, _, ws⟩ := DataW.trod_string Tryz.underlying9 hy3
  simp at e0 e1 e2 e3
  subst e0 e1 e2 e3
  exact ⟨_, _, _, _, ws, rfl⟩
end Go.Proofs.YtllaeakeaabiaaaGreat
