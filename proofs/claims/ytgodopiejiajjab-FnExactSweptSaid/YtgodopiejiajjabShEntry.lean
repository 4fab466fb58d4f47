/- Entry in memory: its datum, its make; counted, copied, held against each other, marked, read again (by gen_shape.py). -/
import Derived.Test.YtgodopiejiajjabShape2
import Derived.Test.YtgodopiejiajjabLater
import Derived.Test.YtgodopiejiajjabShOpen

namespace Go.Proofs.Ytgodopiejiajjab
open Go.RowKit
set_option maxRecDepth 100000
set_option linter.unusedSimpArgs false
set_option linter.unusedVariables false

/-- What a Entry holds. -/
structure EntryD where
  id : Int
  state : Int
def EntryD.cs (d : EntryD) : List Value := [.int .i64 d.id, .int .i64 d.state]
def entryS : Shp EntryD where
  size := 2
  ty := 37
  rd := fun _ cs d => cs = d.cs
  own := fun _ cs d bs => cs = d.cs ∧ bs = []
  pos := by decide
  rd_len := fun h => by subst h; rfl
  rd_one := fun h u hu => by subst h; simp only [EntryD.cs, List.mem_cons, List.not_mem_nil, or_false] at hu; rcases hu with rfl | rfl <;> rfl
  rd_new := fun h _ => h
  own_rd := fun h => h.1
  own_keep := fun h _ _ => h
  own_lt := fun h b hb => by rw [h.2] at hb; cases hb
def szEntryS (L : List EntryD) : Int := L.length
theorem szEntryS_nn (L : List EntryD) : 0 ≤ szEntryS L := by unfold szEntryS; omega
theorem szEntryS_len (L : List EntryD) : (L.length : Int) ≤ szEntryS L := by unfold szEntryS; omega
/-- The marks of one in a row, from k on; how many; and of a row. -/
def mkEntry (d : EntryD) (k : Nat) : EntryD := ⟨((k : Nat) : Int), ((k + 1 : Nat) : Int)⟩
def cntEntry (d : EntryD) : Nat := 1 + 1
def mkEntryS (L : List EntryD) (k : Nat) : List EntryD := mkLs mkEntry cntEntry L k
def cntEntryS (L : List EntryD) : Nat := cntLs cntEntry L
theorem toEntry1 (d : EntryD) (w : World) : Calls Try.prog 23 #[.agg #[.int .i64 d.id, .int .i64 d.state]] w fun x w' => x = .returned (.agg #[.int .i64 d.id, .int .i64 d.state]) ∧ Below w.heap.size w w' := by
  go_enter Try.func23, Try.ntmps23
  go_wp2
  go_returns
  exact ⟨rfl, (by repeat' (first | (with_reducible exact Below.refl _ _) | (with_reducible refine Below.drew ?_) | (with_reducible refine bo_drewN _ ?_) | (with_reducible refine bo_alloc ?_ _) | (refine bchain ?_ (by with_reducible assumption)) | (with_reducible refine Below.setCell ?_ ?_ _) | go_size))⟩
theorem eqEntry1 (d : EntryD) (w : World) : Calls Try.prog 31 #[.agg #[.int .i64 d.id, .int .i64 d.state], .agg #[.int .i64 d.id, .int .i64 d.state]] w fun x w' => x = .returned (.bool true) ∧ Below w.heap.size w w' := by
  go_enter Try.func31, Try.ntmps31
  go_wp2
  go_ret
  exact ⟨rfl, (by repeat' (first | (with_reducible exact Below.refl _ _) | (with_reducible refine Below.drew ?_) | (with_reducible refine bo_drewN _ ?_) | (with_reducible refine bo_alloc ?_ _) | (refine bchain ?_ (by with_reducible assumption)) | (with_reducible refine Below.setCell ?_ ?_ _) | go_size))⟩
set_option maxHeartbeats 2000000 in
theorem toEntryS (L : List EntryD) (v : Value) (w : World) (hr : RdR entryS w v L) (hz : szEntryS L ≤ 1048576) :
    Calls Try.prog 13 #[v] w fun x w' => ∃ v', x = .returned v' ∧ OwX entryS w' w.heap.size w'.heap.size v' L ∧ Below w.heap.size w w' := by
  have hL : L.length ≤ 1048576 := by have := szEntryS_len L; omega
  obtain ⟨M, hM, hmk⟩ := make_row 26 37 (.agg #[.int .i64 0, .int .i64 0]) 2 16 Try.underlying26 (by kernel_rfl) rfl (by decide) (by decide) L.length hL
  have hst := filling_start (E := entryS) (owns_made w M 37 2 L.length hM hL)
  obtain ⟨ad, cap, rfl, h1, h2⟩ := hr.form
  have HR := hide hr
  clear hr
  have HZ := hide hz
  clear hz
  go_enter Try.func13, Try.ntmps13
  go_wp2_with fail
  go_loopw [4] (fun i wr => ∃ (k : Nat), i = .int .i64 k ∧ k ≤ L.length ∧ Hid (Filling entryS w wr L k)) (fun i _ => L.length - (intOf i).toNat)
  case atStart => exact ⟨0, rfl, Nat.zero_le _, hst⟩
  case round =>
    clear hst hmk
    obtain ⟨k, rfl, hk, HFI⟩ := hrel
    by_cases hlt : k < L.length
    · have hb : Below w.heap.size w wr := HFI.out.2.1
      have hrk := (HR.out.new hb).at k hlt
      have hmem : L[k] ∈ L := List.getElem_mem hlt
      obtain ⟨d, hd⟩ : ∃ d, d = L[k] := ⟨_, rfl⟩
      rw [← hd] at hrk hmem
      obtain ⟨b, o, cs, rfl, hbw, hrd, hc⟩ := hrk
      obtain rfl := hrd
      have c0 : wr.cell? ⟨b, o + k * 2, none⟩ = some (.int .i64 d.id) := hc 0 _ rfl
      have c1 : wr.cell? ⟨b, o + k * 2 + 1, none⟩ = some (.int .i64 d.state) := hc 1 _ rfl
      clear hc
      have HD := hide hd
      clear hd hmem
      go_wp2_with fail
      refine (toEntry1 d _).mono ?_; rintro x w1 ⟨rfl, hb1⟩
      have hoe : OwE entryS w1 wr.heap.size w1.heap.size [.int .i64 d.id, .int .i64 d.state] d := ⟨[], ⟨rfl, rfl⟩, by simp, fun b hb => by cases hb⟩
      rw [HD.out] at hoe
      obtain ⟨hcell, hfr, hlw, hfi⟩ := filling_step HFI.out hlt hb1 hoe
      rw [← HD.out] at hfi
      obtain ⟨x0, hx0⟩ : ∃ u, w1.cell? ⟨w.heap.size, k * 2, none⟩ = some u := hcell 0 (by decide)
      obtain ⟨x1, hx1⟩ : ∃ u, w1.cell? ⟨w.heap.size, k * 2 + 1, none⟩ = some u := hcell 1 (by decide)
      have e6 := hfr
      have HF2 := hide hfi
      clear hcell hfr hfi hoe
      go_wp2_with fail
      go_roundw
      case rel => exact ⟨k + 1, by go_num, by omega, HF2.out⟩
      case measure => simp [intOf]; omega
    · obtain rfl : k = L.length := by omega
      obtain ⟨hox, hbx⟩ := filling_end HFI.out
      have HX := hide hox
      clear hox
      go_wp2_with fail
      go_ret
      exact ⟨_, rfl, HX.out, hbx⟩
set_option maxHeartbeats 1000000 in
theorem eqEntryS (L : List EntryD) (v v' : Value) (w : World) (hr0 : RdR entryS w v L) (hr1 : RdR entryS w v' L) :
    Calls Try.prog 18 #[v, v'] w fun x w' => x = .returned (.bool true) ∧ Below w.heap.size w w' := by
  obtain ⟨ad, cap, rfl, h1, h2⟩ := hr0.form
  obtain ⟨ad', cap', rfl, h1', h2'⟩ := hr1.form
  have HR := hide hr0; have HR' := hide hr1
  clear hr0 hr1
  go_enter Try.func18, Try.ntmps18
  go_wp2_with fail
  go_loopw [5] (fun i wr => ∃ (k : Nat), i = .int .i64 k ∧ k ≤ L.length ∧ Below w.heap.size w wr) (fun i _ => L.length - (intOf i).toNat)
  case atStart => exact ⟨0, rfl, Nat.zero_le _, Below.refl _ _⟩
  case round =>
    obtain ⟨k, rfl, hk, hb⟩ := hrel
    by_cases hlt : k < L.length
    · have hrk := (HR.out.new hb).at k hlt
      have hrk' := (HR'.out.new hb).at k hlt
      obtain ⟨d, hd⟩ : ∃ d, d = L[k] := ⟨_, rfl⟩
      rw [← hd] at hrk hrk'
      clear hd
      obtain ⟨b, o, cs, rfl, hb1, hrd, hc⟩ := hrk
      obtain ⟨b', o', cs', rfl, hb2, hrd', hc'⟩ := hrk'
      obtain rfl := hrd
      obtain rfl := hrd'
      have c0 : wr.cell? ⟨b, o + k * 2, none⟩ = some (.int .i64 d.id) := hc 0 _ rfl
      have c1 : wr.cell? ⟨b, o + k * 2 + 1, none⟩ = some (.int .i64 d.state) := hc 1 _ rfl
      have d0 : wr.cell? ⟨b', o' + k * 2, none⟩ = some (.int .i64 d.id) := hc' 0 _ rfl
      have d1 : wr.cell? ⟨b', o' + k * 2 + 1, none⟩ = some (.int .i64 d.state) := hc' 1 _ rfl
      clear hc hc'
      go_wp2_with fail
      have qa0 : ∀ y : Later wr, y.w.cell? ⟨b, o + k * 2, none⟩ = some (.int .i64 d.id) := fun y => (y.b.cell (p := ⟨b, o + k * 2, none⟩) hb1).trans c0
      have qa1 : ∀ y : Later wr, y.w.cell? ⟨b, o + k * 2 + 1, none⟩ = some (.int .i64 d.state) := fun y => (y.b.cell (p := ⟨b, o + k * 2 + 1, none⟩) hb1).trans c1
      have qb0 : ∀ y : Later wr, y.w.cell? ⟨b', o' + k * 2, none⟩ = some (.int .i64 d.id) := fun y => (y.b.cell (p := ⟨b', o' + k * 2, none⟩) hb2).trans d0
      have qb1 : ∀ y : Later wr, y.w.cell? ⟨b', o' + k * 2 + 1, none⟩ = some (.int .i64 d.state) := fun y => (y.b.cell (p := ⟨b', o' + k * 2 + 1, none⟩) hb2).trans d1
      clear c0 c1 d0 d1
      have hne : Nonempty (Later wr) := ⟨⟨wr, Below.refl _ _⟩⟩; refine region_later (by kernel_rfl) (by kernel_rfl) ?_
      repeat (go_big_quiet_step (fail))
      go_big_quiet_want; go_big_quiet_op
      refine ⟨.bool true, fun y => later_calls (x := y) (eqEntry1 d y.w), ?_⟩
      go_big_quiet_on
      repeat (go_big_quiet_step (fail))
      refine wpQuiet_nil ?_; intro _ hw'; obtain ⟨y, hw''⟩ := hw'; subst hw''; have hby := y.b
      go_wp2_with fail
      go_roundw
      case rel => exact ⟨k + 1, by go_num, by omega, bchain hb hby⟩
      case measure => simp [intOf]; omega
    · go_wp2_with fail
      go_ret
      exact ⟨rfl, hb⟩
set_option maxHeartbeats 1000000 in
theorem szEntryS1 (L : List EntryD) (v : Value) (left : Int) (w : World) (hr : RdR entryS w v L) (h0 : 0 ≤ left) (h1 : left ≤ 1048576) :
    Calls Try.prog 11 #[v, .int .i64 left] w fun x w' => (x = .returned (.int .i64 (-1)) ∨ (x = .returned (.int .i64 (left - szEntryS L)) ∧ 0 ≤ left - szEntryS L)) ∧ Below w.heap.size w w' := by
  obtain ⟨ad, cap, rfl, h2, h3⟩ := hr.form
  have HR := hide hr
  clear hr
  unfold szEntryS
  by_cases h : left - L.length < 0
  · go_enter Try.func11, Try.ntmps11
    go_wp2
    go_ret
    exact ⟨.inl rfl, Below.refl _ _⟩
  · go_enter Try.func11, Try.ntmps11
    go_wp2
    go_ret
    exact ⟨.inr ⟨rfl, by omega⟩, Below.refl _ _⟩
set_option maxHeartbeats 2000000 in
theorem markEntryS (L : List EntryD) (k : Nat) (v : Value) (bs : List Nat) (w : World) (ho : OwR entryS w v L bs) (hn : bs.Nodup) (hk1 : k + cntEntryS L ≤ 1000000000) :
    Calls Try.prog 19 #[v, .int .i64 k] w fun x w' => x = .returned (.int .i64 ((k + cntEntryS L : Nat) : Int)) ∧ OwR entryS w' v (mkEntryS L k) bs ∧ TurnB bs w w' := by
  obtain ⟨ad, cap, rfl, h1, h2⟩ := ho.rd.form
  unfold cntEntryS mkEntryS at *
  have HO0 : Hid (OwR entryS w (.slice ad L.length cap) (mixLs mkEntry cntEntry L k 0) bs) := by show OwR _ _ _ _ _; rw [mix_zero]; exact ho
  clear ho
  have HN := hide hn
  clear hn
  go_enter Try.func19, Try.ntmps19
  go_wp2_with fail
  go_loopw [1, 5] (fun kk i wr => ∃ (j : Nat), i = .int .i64 j ∧ kk = .int .i64 ((k + cntLs cntEntry (L.take j) : Nat) : Int) ∧ j ≤ L.length ∧ Hid (OwR entryS wr (.slice ad L.length cap) (mixLs mkEntry cntEntry L k j) bs) ∧ Hid (TurnB bs w wr)) (fun _ i _ => L.length - (intOf i).toNat)
  case atStart => exact ⟨0, rfl, by simp [cntLs], Nat.zero_le _, HO0, TurnB.refl _ _⟩
  case round =>
    clear HO0
    obtain ⟨j, rfl, rfl, hj, HO, HT⟩ := hrel
    by_cases hlt : j < L.length
    · have hct := cnt_take cntEntry L j hlt
      have hcl := cnt_le cntEntry L (j + 1)
      have hst := mix_step mkEntry cntEntry L k j hlt
      have hat := mix_at mkEntry cntEntry L k j hlt (by rw [mix_len _ _ L k j hj]; exact hlt)
      have hml := mix_len mkEntry cntEntry L k j hj
      obtain ⟨d, hd⟩ : ∃ d, d = L[j] := ⟨_, rfl⟩
      rw [← hd] at hct hst hat
      obtain ⟨K, hK⟩ : ∃ K : Nat, K = k + cntLs cntEntry (L.take j) := ⟨_, rfl⟩
      rw [← hK] at hst ⊢
      obtain ⟨M, hM⟩ : ∃ M, M = mixLs mkEntry cntEntry L k j := ⟨_, rfl⟩
      rw [← hM] at hst hml
      have HO1 : Hid (OwR entryS wr (.slice ad L.length cap) M bs) := by show OwR _ _ _ _ _; rw [hM]; exact HO.out
      have HAT : Hid (∀ h : j < M.length, M[j] = d) := fun h => by subst hM; exact hat
      have hKc : K + cntEntry d = k + cntLs cntEntry (L.take (j + 1)) := by omega
      have HKC := hide hKc
      have hKb : K + cntEntry d ≤ 1000000000 := by omega
      unfold cntEntry at hKb
      have HST := hide hst
      have hjM : j < M.length := by omega
      clear hct hcl hst hat hM HO hd hK hKc
      obtain ⟨g1, c1, cs, bb, e1, hgl1, hgm, hgb, hsub, hbn, hown, hcell, hfr, _, hkeep, hsets⟩ := HO1.out.put HN.out j (by simpa using hjM)
      have eq1 : (M)[j]'(by simpa using hjM) = d := HAT.out hjM
      rw [eq1] at hown
      obtain ⟨rfl, hbb⟩ := hown
      simp only [Value.slice.injEq] at e1
      obtain ⟨rfl, -, -⟩ := e1
      have c1_0 : wr.cell? ⟨g1, j * 2, none⟩ = some (.int .i64 d.id) := hcell 0 _ rfl
      have c1_1 : wr.cell? ⟨g1, j * 2 + 1, none⟩ = some (.int .i64 d.state) := hcell 1 _ rfl
      have HO2 : Hid (OwR entryS (setsFrom wr g1 (j * entryS.size + ([] : List Value).length) [.int .i64 ((K : Nat) : Int), .int .i64 ((K + 1 : Nat) : Int)]) _ ((M).set j ⟨((K : Nat) : Int), ((K + 1 : Nat) : Int)⟩) bs) := hsets [] [.int .i64 d.id, .int .i64 d.state] [] [.int .i64 ((K : Nat) : Int), .int .i64 ((K + 1 : Nat) : Int)] ⟨((K : Nat) : Int), ((K + 1 : Nat) : Int)⟩ rfl rfl ⟨rfl, hbb⟩
      have HT2 : Hid (TurnB bs w (setsFrom wr g1 (j * entryS.size + ([] : List Value).length) [.int .i64 ((K : Nat) : Int), .int .i64 ((K + 1 : Nat) : Int)])) := TurnB.setsFrom g1 hgm _ _ _ HT.out
      have f1 := hfr
      clear hcell hfr hkeep hsets hsub hbn hgb hbb eq1
      go_wp2_with fail
      change Hid (OwR entryS ((wr.setCell ⟨g1, j * 2, none⟩ (.int .i64 ((K : Nat) : Int))).setCell ⟨g1, j * 2 + 1, none⟩ (.int .i64 ((K + 1 : Nat) : Int))) _ _ _) at HO2
      change Hid (TurnB bs w ((wr.setCell ⟨g1, j * 2, none⟩ (.int .i64 ((K : Nat) : Int))).setCell ⟨g1, j * 2 + 1, none⟩ (.int .i64 ((K + 1 : Nat) : Int)))) at HT2
      refine ⟨⟨j + 1, ?_, ?_, ?_, ?_, ?_⟩, ?_⟩
      · go_num
      · exact int_eq (by have h1 := HKC.out; have h2 : cntEntry d = 1 + 1 := rfl; omega)
      · omega
      · show OwR _ _ _ _ _
        rw [← HST.out]
        exact HO2.out
      · exact HT2.out
      · simp [intOf]; omega
    · obtain rfl : j = L.length := by omega
      rw [mix_end] at HO
      rw [List.take_length]
      go_wp2_with fail
      go_ret
      exact ⟨rfl, HO.out, HT.out⟩
set_option maxHeartbeats 1000000 in
theorem heldEntryS (L : List EntryD) (k : Nat) (v : Value) (w : World) (hr : RdR entryS w v (mkEntryS L k)) (hk1 : k + cntEntryS L ≤ 1000000000) :
    Calls Try.prog 20 #[v, .int .i64 k] w fun x w' => x = .returned (.int .i64 ((k + cntEntryS L : Nat) : Int)) ∧ Below w.heap.size w w' := by
  obtain ⟨ad, cap, rfl, h1, h2⟩ := hr.form
  unfold cntEntryS mkEntryS at *
  rw [mk_len'] at h1 ⊢
  have HR := hide hr
  clear hr
  go_enter Try.func20, Try.ntmps20
  go_wp2_with fail
  go_loopw [1, 5] (fun kk i wr => ∃ (j : Nat), i = .int .i64 j ∧ kk = .int .i64 ((k + cntLs cntEntry (L.take j) : Nat) : Int) ∧ j ≤ L.length ∧ Below w.heap.size w wr) (fun _ i _ => L.length - (intOf i).toNat)
  case atStart => exact ⟨0, rfl, by simp [cntLs], Nat.zero_le _, Below.refl _ _⟩
  case round =>
    obtain ⟨j, rfl, rfl, hj, hb⟩ := hrel
    by_cases hlt : j < L.length
    · have hct := cnt_take cntEntry L j hlt
      have hcl := cnt_le cntEntry L (j + 1)
      have hrk := (HR.out.new hb).at j (by rw [mk_len']; exact hlt)
      rw [mk_at _ _ L k j hlt] at hrk
      obtain ⟨d, hd⟩ : ∃ d, d = L[j] := ⟨_, rfl⟩
      rw [← hd] at hct hrk
      obtain ⟨K, hK⟩ : ∃ K : Nat, K = k + cntLs cntEntry (L.take j) := ⟨_, rfl⟩
      rw [← hK] at hrk ⊢
      have hKc : K + cntEntry d = k + cntLs cntEntry (L.take (j + 1)) := by omega
      have HKC := hide hKc
      have hKb : K + cntEntry d ≤ 1000000000 := by omega
      unfold cntEntry at hKb
      clear hct hcl hd hK hKc
      obtain ⟨b, o, cs, rfl, hb1, hrd, hc⟩ := hrk
      obtain rfl := hrd
      have c0 : wr.cell? ⟨b, o + j * 2, none⟩ = some (.int .i64 ((K : Nat) : Int)) := hc 0 _ rfl
      have c1 : wr.cell? ⟨b, o + j * 2 + 1, none⟩ = some (.int .i64 ((K + 1 : Nat) : Int)) := hc 1 _ rfl
      clear hc
      go_wp2_with fail
      go_roundw
      case rel => exact ⟨j + 1, by go_num, int_eq (by have h1 := HKC.out; have h2 : cntEntry d = 1 + 1 := rfl; omega), by omega, hb⟩
      case measure => simp [intOf]; omega
    · obtain rfl : j = L.length := by omega
      rw [List.take_length]
      go_wp2_with fail
      go_ret
      exact ⟨rfl, hb⟩
open Go.ChangeShapes Go.WideShapes Go.ChangeAt Go.Joins in
theorem open_cellsEntry {H : Type} {enc : TypeId × Value → H} {W : World} {base : Nat} {spare : Nat → Bool} {held : Bool} {fuel : Nat} {cs : List Value} {x : DataW H × List MemPlace} (h : DataW.trod enc Try.prog W base spare held fuel 49 cs = some x) : ∃ d : EntryD, entryS.rd W cs d := by
  obtain ⟨c0, c1, y0, y1, n, rfl, h0, h1⟩ := scells2 Try.underlying49 (by kernel_rfl) (by kernel_rfl) h
  obtain ⟨i0, e0, _⟩ := DataW.trod_int Try.underlying2 h0
  simp only [List.cons.injEq, and_true] at e0
  subst e0
  obtain ⟨i1, e1, _⟩ := DataW.trod_int Try.underlying2 h1
  simp only [List.cons.injEq, and_true] at e1
  subst e1
  exact ⟨⟨i0, i1⟩, rfl⟩
end Go.Proofs.Ytgodopiejiajjab
