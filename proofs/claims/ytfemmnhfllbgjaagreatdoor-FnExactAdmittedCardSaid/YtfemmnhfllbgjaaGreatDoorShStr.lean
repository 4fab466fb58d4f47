/- Texts in rows, as a make of data: counted, copied, held against each other, marked, read again. -/
import Derived.Test.YtfemmnhfllbgjaaGreatDoorShape2
import Derived.Test.YtfemmnhfllbgjaaGreatDoorLater
import Derived.Test.YtfemmnhfllbgjaaGreatDoorShOpen

namespace Go.Proofs.YtfemmnhfllbgjaaGreatDoor
open Go.RowKit
set_option maxRecDepth 100000
set_option linter.unusedSimpArgs false
set_option linter.unusedVariables false
def strS : Shp ByteArray where
  size := 1
  ty := 9
  rd := fun _ cs d => cs = [.string d] ∧ d.size ≤ 9223372036854775807
  own := fun _ cs d bs => cs = [.string d] ∧ d.size ≤ 9223372036854775807 ∧ bs = []
  pos := by decide
  rd_len := fun h => by obtain ⟨rfl, _⟩ := h; rfl
  rd_one := fun h u hu => by obtain ⟨rfl, _⟩ := h; simp only [List.mem_cons, List.not_mem_nil, or_false] at hu; rcases hu with rfl; rfl
  rd_new := fun h _ => h
  own_rd := fun h => ⟨h.1, h.2.1⟩
  own_keep := fun h _ _ => h
  own_lt := fun h b hb => by rw [h.2.2] at hb; cases hb
theorem sv_flat (L : List ByteArray) : L.flatMap (fun d => [Value.string d]) = L.map Value.string := by induction L <;> simp_all
theorem rd_strs {w : World} {v : Value} {L : List ByteArray} (h : RdR strS w v L) : Reads w v L.length 1 (L.map Value.string) := by
  have := RdR.flat (E := strS) (f := fun d => [Value.string d]) (fun _ _ _ h => h.1) h
  rw [sv_flat] at this
  exact this
theorem rd_small {w : World} {v : Value} {L : List ByteArray} (h : RdR strS w v L) : ∀ x ∈ L, x.size ≤ 9223372036854775807 := by
  obtain ⟨ts, rfl, _, hE⟩ := h
  intro x hx
  obtain ⟨t, ht, rfl⟩ := List.mem_map.1 hx
  exact (hE t ht).2
theorem strs_rd {w : World} {v : Value} {L : List ByteArray} (h : Reads w v L.length 1 (L.map Value.string)) (hs : ∀ x ∈ L, x.size ≤ 9223372036854775807) : RdR strS w v L := by
  refine ⟨L.map fun d => ([.string d], d), by simp [Function.comp_def], ?_, fun t ht => ?_⟩
  · rw [← sv_flat] at h
    have h2 : Reads w v L.length strS.size (L.flatMap fun z => [Value.string z]) := h
    simpa [List.flatMap_map] using h2
  · obtain ⟨d, hd, rfl⟩ := List.mem_map.1 ht
    exact ⟨rfl, hs d hd⟩
theorem ow_strs {w : World} {lo hi : Nat} {v : Value} {L : List ByteArray} (h : OwX strS w lo hi v L) : w.ownsRow lo 9 1 v L.length (L.map Value.string) := by
  have := OwX.flat (E := strS) (f := fun d => [Value.string d]) (fun _ _ _ h => h.1) h
  rw [sv_flat] at this
  exact this
theorem strs_ow {w : World} {lo : Nat} {v : Value} {L : List ByteArray} (h : w.ownsRow lo 9 1 v L.length (L.map Value.string)) (hs : ∀ x ∈ L, x.size ≤ 9223372036854775807) : OwX strS w lo w.heap.size v L := by
  refine owX_flat (f := fun d => [Value.string d]) (fun d hd => ⟨rfl, hs d hd, rfl⟩) ?_
  rw [sv_flat]
  exact h
theorem strs_at {w : World} {ad : Option Addr} {n cap k : Nat} {L : List ByteArray} (h : RdR strS w (.slice ad n cap) L) (hk : k < L.length) : ∃ b o, ad = some ⟨b, o, none⟩ ∧ b < w.heap.size ∧ w.cell? ⟨b, o + k, none⟩ = some (.string L[k]) ∧ L[k].size ≤ 9223372036854775807 := by
  obtain ⟨b, o, cs, e, hb, hrd, hc⟩ := h.at k hk
  obtain ⟨rfl, hs⟩ := hrd
  have h0 := hc 0 _ rfl
  have e1 : o + k * strS.size + 0 = o + k := by show o + k * 1 + 0 = o + k; omega
  rw [e1] at h0
  exact ⟨b, o, e, hb, h0, hs⟩
def szStringS (L : List ByteArray) : Int := L.length + sumLs (fun d => (d.size : Int)) L
theorem szStr_nn (d : ByteArray) : 0 ≤ ((d.size : Int)) := by omega
theorem szStringS_nn (L : List ByteArray) : 0 ≤ szStringS L := by unfold szStringS; have := sum_nn (fun d : ByteArray => (d.size : Int)) szStr_nn L; omega
theorem szStringS_len (L : List ByteArray) : (L.length : Int) ≤ szStringS L := by unfold szStringS; have := sum_nn (fun d : ByteArray => (d.size : Int)) szStr_nn L; omega
theorem szStringS_mem {L : List ByteArray} {d : ByteArray} (h : d ∈ L) : (d.size : Int) ≤ szStringS L := by unfold szStringS; have := sum_mem (fun d : ByteArray => (d.size : Int)) szStr_nn L d h; omega
set_option maxHeartbeats 1000000 in
theorem toStringS (L : List ByteArray) (v : Value) (w : World) (hr : RdR strS w v L) (hz : szStringS L ≤ 1048576) :
    Calls Tryz.prog 74 #[v] w fun x w' => ∃ v', x = .returned v' ∧ OwX strS w' w.heap.size w'.heap.size v' L ∧ Below w.heap.size w w' := by
  have hL : L.length ≤ 1048576 := by have := szStringS_len L; omega
  obtain ⟨M, hM, hmk⟩ := make_row 30 9 (.string ⟨#[]⟩) 1 16 Tryz.underlying30 (by kernel_rfl) rfl (by decide) (by decide) L.length hL
  have hst := filling_start (E := strS) (owns_made w M 9 1 L.length hM hL)
  obtain ⟨ad, cap, rfl, h1, h2⟩ := hr.form
  have HR := hide hr
  clear hr hz
  go_enter Tryz.func74, Tryz.ntmps74
  go_wp2_with fail
  go_loopw [4] (fun i wr => ∃ (k : Nat), i = .int .i64 k ∧ k ≤ L.length ∧ Hid (Filling strS w wr L k)) (fun i _ => L.length - (intOf i).toNat)
  case atStart => exact ⟨0, rfl, Nat.zero_le _, hst⟩
  case round =>
    clear hst hmk
    obtain ⟨k, rfl, hk, HFI⟩ := hrel
    by_cases hlt : k < L.length
    · have hb : Below w.heap.size w wr := HFI.out.2.1
      obtain ⟨b, o, rfl, hbw, cx, hsx⟩ := strs_at (HR.out.new hb) hlt
      obtain ⟨hcell, hfz, hgl, HF2⟩ := filling_step HFI.out hlt (Below.refl _ _) (cs := [.string L[k]]) ⟨[], ⟨rfl, hsx, rfl⟩, by simp, by simp⟩
      obtain ⟨u0, hu0⟩ := hcell 0 (by decide)
      have hu0' : wr.cell? ⟨w.heap.size, k, none⟩ = some u0 := by simpa [strS] using hu0
      have HF3 := hide HF2
      change Hid (Filling strS w (wr.setCell ⟨w.heap.size, k * 1, none⟩ (.string L[k])) L (k + 1)) at HF3
      rw [Nat.mul_one] at HF3
      have hfk := hfz k
      generalize L[k] = x at *
      clear hcell hfz hu0 HF2
      go_wp2_with fail
      refine ⟨⟨k + 1, by go_num, by omega, HF3⟩, by simp [intOf]; omega⟩
    · obtain rfl : k = L.length := by omega
      obtain ⟨ho, hb⟩ := filling_end HFI.out
      go_wp2_with fail
      go_ret
      exact ⟨_, rfl, ho, hb⟩
set_option maxHeartbeats 1000000 in
theorem eqStringS (L : List ByteArray) (v v' : Value) (w : World) (hr0 : RdR strS w v L) (hr1 : RdR strS w v' L) :
    Calls Tryz.prog 75 #[v, v'] w fun x w' => x = .returned (.bool true) ∧ Below w.heap.size w w' := by
  obtain ⟨ad, cap, rfl, h1, h2⟩ := hr0.form
  obtain ⟨ad', cap', rfl, h1', h2'⟩ := hr1.form
  have HR := hide hr0
  have HR' := hide hr1
  clear hr0 hr1
  go_enter Tryz.func75, Tryz.ntmps75
  go_wp2_with fail
  go_loopw [5] (fun i wr => ∃ (k : Nat), i = .int .i64 k ∧ k ≤ L.length ∧ Below w.heap.size w wr) (fun i _ => L.length - (intOf i).toNat)
  case atStart => exact ⟨0, rfl, Nat.zero_le _, Below.refl _ _⟩
  case round =>
    obtain ⟨k, rfl, hk, hb⟩ := hrel
    by_cases hlt : k < L.length
    · obtain ⟨b, o, rfl, hbw, cx, hsx⟩ := strs_at (HR.out.new hb) hlt
      obtain ⟨b', o', rfl, hbw', cx', _⟩ := strs_at (HR'.out.new hb) hlt
      generalize L[k] = x at *
      go_wp2_with fail
      go_quiet (fail)
      go_wp2_with fail
      go_roundw
      case rel => exact ⟨k + 1, by go_num, by omega, bchain hb (bo_drewN _ (Below.refl _ _))⟩
      case measure => simp [intOf]; omega
    · go_wp2_with fail
      go_ret
      exact ⟨rfl, hb⟩
set_option maxHeartbeats 1000000 in
theorem szStringS1 (L : List ByteArray) (v : Value) (left : Int) (w : World) (hr : RdR strS w v L) (h0 : 0 ≤ left) (h1 : left ≤ 1048576) :
    Calls Tryz.prog 73 #[v, .int .i64 left] w fun x w' => (x = .returned (.int .i64 (-1)) ∨ (x = .returned (.int .i64 (left - szStringS L)) ∧ 0 ≤ left - szStringS L)) ∧ Below w.heap.size w w' := by
  obtain ⟨ad, cap, rfl, h2, h3⟩ := hr.form
  have HR := hide hr
  clear hr
  unfold szStringS
  by_cases h : left - L.length < 0
  · go_enter Tryz.func73, Tryz.ntmps73
    go_wp2
    go_ret
    exact ⟨.inl rfl, Below.refl _ _⟩
  · go_enter Tryz.func73, Tryz.ntmps73
    go_wp2_with fail
    go_loop [1, 5] (fun l i => ∃ (k : Nat), i = .int .i64 k ∧ k ≤ L.length ∧ l = .int .i64 (left - L.length - sumLs (fun d => (d.size : Int)) (L.take k)) ∧ 0 ≤ left - L.length - sumLs (fun d => (d.size : Int)) (L.take k)) (fun _ i => L.length - (intOf i).toNat)
    case atStart => exact ⟨0, rfl, Nat.zero_le _, by simp [sumLs], by simp [sumLs]; omega⟩
    case round =>
      obtain ⟨k, rfl, hk, rfl, hk0⟩ := hrel
      by_cases hlt : k < L.length
      · obtain ⟨b, o, rfl, hbw, cx, hsx⟩ := strs_at HR.out hlt
        have hsn := sum_take (fun d : ByteArray => (d.size : Int)) L k hlt
        have hnn := sum_nn (fun d : ByteArray => (d.size : Int)) szStr_nn (L.take k)
        generalize hx : L[k] = x at *
        clear hx
        generalize hq : sumLs (fun d : ByteArray => (d.size : Int)) (List.take k L) = q at *
        generalize hq' : sumLs (fun d : ByteArray => (d.size : Int)) (List.take (k + 1) L) = q' at *
        have HQ := hide hq'
        have HSN : Hid (q' = q + x.size) := hsn
        clear hq hq' hsn
        by_cases hneg : left - L.length - q - x.size < 0
        · go_wp2_with fail
          go_ret
          exact ⟨.inl rfl, Below.refl _ _⟩
        · go_wp2_with fail
          go_round
          case rel => exact ⟨k + 1, by go_num, by omega, int_eq (by have := HQ.out; have := HSN.out; omega), by have := HQ.out; have := HSN.out; omega⟩
          case measure => simp [intOf]; omega
      · obtain rfl : k = L.length := by omega
        rw [List.take_length] at *
        obtain ⟨X, hX⟩ : ∃ X, left - L.length - sumLs (fun d : ByteArray => (d.size : Int)) L = X := ⟨_, rfl⟩
        rw [hX] at hk0 ⊢
        have HX := hide hX
        clear hX
        go_wp2_with fail
        go_ret
        have e : left - (L.length + sumLs (fun d : ByteArray => (d.size : Int)) L) = X := by have := HX.out; omega
        rw [e]
        exact ⟨.inr ⟨rfl, by first | exact hk0 | omega⟩, Below.refl _ _⟩
theorem owr_strs {w : World} {v : Value} {L : List ByteArray} {bs : List Nat} (h : OwR strS w v L bs) : w.ownsRow 0 9 1 v L.length (L.map Value.string) ∧ bs = v.ownBlock.toList := by
  obtain ⟨ts, rfl, ho, hE, rfl⟩ := h
  have e : ts.flatMap (fun t => t.1) = (ts.map (fun t => t.2.1)).map Value.string := by
    rw [← sv_flat, List.flatMap_map]
    have hh : ∀ t ∈ ts, t.1 = [Value.string t.2.1] := fun t ht => (hE t ht).1
    clear ho hE
    induction ts with
    | nil => rfl
    | cons t ts ih => simp only [List.flatMap_cons]; rw [ih (fun x hx => hh x (by simp [hx])), ← hh t (by simp)]
  have e2 : ts.flatMap (fun t => t.2.2) = [] := by
    have hh : ∀ t ∈ ts, t.2.2 = [] := fun t ht => (hE t ht).2.2
    clear ho hE e
    induction ts with
    | nil => rfl
    | cons t ts ih => simp only [List.flatMap_cons]; rw [ih (fun x hx => hh x (by simp [hx])), hh t (by simp)]; rfl
  rw [e] at ho
  have ho2 : w.ownsRow 0 9 1 v ts.length ((ts.map (fun t => t.2.1)).map Value.string) := ho
  refine ⟨by simpa using ho2, by rw [e2]; simp⟩
theorem strs_owr {w : World} {v : Value} {L : List ByteArray} (h : w.ownsRow 0 9 1 v L.length (L.map Value.string)) (hs : ∀ x ∈ L, x.size ≤ 9223372036854775807) : OwR strS w v L v.ownBlock.toList := by
  refine ⟨L.map fun d => ([.string d], d, []), by simp [Function.comp_def], ?_, fun t ht => ?_, ?_⟩
  · rw [← sv_flat] at h
    have h2 : w.ownsRow 0 strS.ty strS.size v L.length (L.flatMap fun z => [Value.string z]) := h
    simpa [List.flatMap_map] using h2
  · obtain ⟨d, hd, rfl⟩ := List.mem_map.1 ht
    exact ⟨rfl, hs d hd, rfl⟩
  · have : ∀ M : List ByteArray, (M.map fun d => (([.string d], d, []) : List Value × ByteArray × List Nat)).flatMap (fun t => t.2.2) = [] := fun M => by induction M <;> simp_all
    rw [this]; simp
open Go.ChangeShapes Go.WideShapes Go.ChangeAt Go.Joins in
theorem open_cellsStr {H : Type} {enc : TypeId × Value → H} {W : World} {base : Nat} {spare : Nat → Bool} {held : Bool} {fuel : Nat} {cs : List Value} {x : DataW H × List MemPlace} (h : DataW.trod enc Tryz.prog W base spare held fuel 9 cs = some x) : ∃ d : ByteArray, strS.rd W cs d := by
  obtain ⟨s, rfl, _, ws⟩ := DataW.trod_string Tryz.underlying9 h
  exact ⟨s, rfl, by unfold maxLen at ws; omega⟩
end Go.Proofs.YtfemmnhfllbgjaaGreatDoor
