/- Several small texts of one level, one behind the other. -/
import Derived.Test.YtfemmnhfllbgjaaGreatDoorQG4
import Derived.Test.YtfemmnhfllbgjaaGreatDoorQG2
import Derived.Test.YtfemmnhfllbgjaaGreatDoorQG3
import Derived.Deep.Cut
import Derived.Deep.DeepCutAuto
import Derived.Deep.WholeRow
import Derived.Lib.ItoaNum
import Derived.Lib.ParseIntB
import Derived.Lib.Split
import Derived.Lib.IndexBytes
/- Texts in rows, as a make of data: counted, copied, held against each other, marked, read again. -/
namespace Go.Proofs.YtfemmnhfllbgjaaGreatDoor
open Go.RowKit
set_option maxRecDepth 100000
set_option linter.unusedSimpArgs false
set_option linter.unusedVariables false
def strS : Shp ByteArray where
  size := 1
  ty := 9
  rd := fun _ cs d => cs = [.string d] ∧ d.size ≤ 9223372036854775807
  own := fun _ cs d bs => cs = [.string d] ∧ d.size ≤ 9223372036854775807 ∧ bs = []
  pos := by decide
  rd_len := fun h => by obtain ⟨rfl, _⟩ := h; rfl
  rd_one := fun h u hu => by obtain ⟨rfl, _⟩ := h; simp only [List.mem_cons, List.not_mem_nil, or_false] at hu; rcases hu with rfl; rfl
  rd_new := fun h _ => h
  own_rd := fun h => ⟨h.1, h.2.1⟩
  own_keep := fun h _ _ => h
  own_lt := fun h b hb => by rw [h.2.2] at hb; cases hb
theorem sv_flat (L : List ByteArray) : L.flatMap (fun d => [Value.string d]) = L.map Value.string := by induction L <;> simp_all
theorem rd_strs {w : World} {v : Value} {L : List ByteArray} (h : RdR strS w v L) : Reads w v L.length 1 (L.map Value.string) := by
  have := RdR.flat (E := strS) (f := fun d => [Value.string d]) (fun _ _ _ h => h.1) h
  rw [sv_flat] at this
  exact this
theorem rd_small {w : World} {v : Value} {L : List ByteArray} (h : RdR strS w v L) : ∀ x ∈ L, x.size ≤ 9223372036854775807 := by
  obtain ⟨ts, rfl, _, hE⟩ := h
  intro x hx
  obtain ⟨t, ht, rfl⟩ := List.mem_map.1 hx
  exact (hE t ht).2
theorem strs_rd {w : World} {v : Value} {L : List ByteArray} (h : Reads w v L.length 1 (L.map Value.string)) (hs : ∀ x ∈ L, x.size ≤ 9223372036854775807) : RdR strS w v L := by
  refine ⟨L.map fun d => ([.string d], d), by simp [Function.comp_def], ?_, fun t ht => ?_⟩
  · rw [← sv_flat] at h
    have h2 : Reads w v L.length strS.size (L.flatMap fun z => [Value.string z]) := h
    simpa [List.flatMap_map] using h2
  · obtain ⟨d, hd, rfl⟩ := List.mem_map.1 ht
    exact ⟨rfl, hs d hd⟩
theorem ow_strs {w : World} {lo hi : Nat} {v : Value} {L : List ByteArray} (h : OwX strS w lo hi v L) : w.ownsRow lo 9 1 v L.length (L.map Value.string) := by
  have := OwX.flat (E := strS) (f := fun d => [Value.string d]) (fun _ _ _ h => h.1) h
  rw [sv_flat] at this
  exact this
theorem strs_ow {w : World} {lo : Nat} {v : Value} {L : List ByteArray} (h : w.ownsRow lo 9 1 v L.length (L.map Value.string)) (hs : ∀ x ∈ L, x.size ≤ 9223372036854775807) : OwX strS w lo w.heap.size v L := by
  refine owX_flat (f := fun d => [Value.string d]) (fun d hd => ⟨rfl, hs d hd, rfl⟩) ?_
  rw [sv_flat]
  exact h
theorem strs_at {w : World} {ad : Option Addr} {n cap k : Nat} {L : List ByteArray} (h : RdR strS w (.slice ad n cap) L) (hk : k < L.length) : ∃ b o, ad = some ⟨b, o, none⟩ ∧ b < w.heap.size ∧ w.cell? ⟨b, o + k, none⟩ = some (.string L[k]) ∧ L[k].size ≤ 9223372036854775807 := by
  obtain ⟨b, o, cs, e, hb, hrd, hc⟩ := h.at k hk
  obtain ⟨rfl, hs⟩ := hrd
  have h0 := hc 0 _ rfl
  have e1 : o + k * strS.size + 0 = o + k := by show o + k * 1 + 0 = o + k; omega
  rw [e1] at h0
  exact ⟨b, o, e, hb, h0, hs⟩
def szStringS (L : List ByteArray) : Int := L.length + sumLs (fun d => (d.size : Int)) L
theorem szStr_nn (d : ByteArray) : 0 ≤ ((d.size : Int)) := by omega
theorem szStringS_nn (L : List ByteArray) : 0 ≤ szStringS L := by unfold szStringS; have := sum_nn (fun d : ByteArray => (d.size : Int)) szStr_nn L; omega
theorem szStringS_len (L : List ByteArray) : (L.length : Int) ≤ szStringS L := by unfold szStringS; have := sum_nn (fun d : ByteArray => (d.size : Int)) szStr_nn L; omega
theorem szStringS_mem {L : List ByteArray} {d : ByteArray} (h : d ∈ L) : (d.size : Int) ≤ szStringS L := by unfold szStringS; have := sum_mem (fun d : ByteArray => (d.size : Int)) szStr_nn L d h; omega
set_option maxHeartbeats 1000000 in
theorem toStringS (L : List ByteArray) (v : Value) (w : World) (hr : RdR strS w v L) (hz : szStringS L ≤ 1048576) :
    Calls Tryz.prog 74 #[v] w fun x w' => ∃ v', x = .returned v' ∧ OwX strS w' w.heap.size w'.heap.size v' L ∧ Below w.heap.size w w' := by
  have hL : L.length ≤ 1048576 := by have := szStringS_len L; omega
  obtain ⟨M, hM, hmk⟩ := make_row 30 9 (.string ⟨#[]⟩) 1 16 Tryz.underlying30 (by kernel_rfl) rfl (by decide) (by decide) L.length hL
  have hst := filling_start (E := strS) (owns_made w M 9 1 L.length hM hL)
  obtain ⟨ad, cap, rfl, h1, h2⟩ := hr.form
  have HR := hide hr
  clear hr hz
  go_enter Tryz.func74, Tryz.ntmps74
  go_wp2_with fail
  go_loopw [4] (fun i wr => ∃ (k : Nat), i = .int .i64 k ∧ k ≤ L.length ∧ Hid (Filling strS w wr L k)) (fun i _ => L.length - (intOf i).toNat)
  case atStart => exact ⟨0, rfl, Nat.zero_le _, hst⟩
  case round =>
    clear hst hmk
    obtain ⟨k, rfl, hk, HFI⟩ := hrel
    by_cases hlt : k < L.length
    · have hb : Below w.heap.size w wr := HFI.out.2.1
      obtain ⟨b, o, rfl, hbw, cx, hsx⟩ := strs_at (HR.out.new hb) hlt
      obtain ⟨hcell, hfz, hgl, HF2⟩ := filling_step HFI.out hlt (Below.refl _ _) (cs := [.string L[k]]) ⟨[], ⟨rfl, hsx, rfl⟩, by simp, by simp⟩
      obtain ⟨u0, hu0⟩ := hcell 0 (by decide)
      have hu0' : wr.cell? ⟨w.heap.size, k, none⟩ = some u0 := by simpa [strS] using hu0
      have HF3 := hide HF2
      change Hid (Filling strS w (wr.setCell ⟨w.heap.size, k * 1, none⟩ (.string L[k])) L (k + 1)) at HF3
      rw [Nat.mul_one] at HF3
      have hfk := hfz k
      generalize L[k] = x at *
      clear hcell hfz hu0 HF2
      go_wp2_with fail
      refine ⟨⟨k + 1, by go_num, by omega, HF3⟩, by simp [intOf]; omega⟩
    · obtain rfl : k = L.length := by omega
      obtain ⟨ho, hb⟩ := filling_end HFI.out
      go_wp2_with fail
      go_ret
      exact ⟨_, rfl, ho, hb⟩
set_option maxHeartbeats 1000000 in
theorem eqStringS (L : List ByteArray) (v v' : Value) (w : World) (hr0 : RdR strS w v L) (hr1 : RdR strS w v' L) :
    Calls Tryz.prog 75 #[v, v'] w fun x w' => x = .returned (.bool true) ∧ Below w.heap.size w w' := by
  obtain ⟨ad, cap, rfl, h1, h2⟩ := hr0.form
  obtain ⟨ad', cap', rfl, h1', h2'⟩ := hr1.form
  have HR := hide hr0
  have HR' := hide hr1
  clear hr0 hr1
  go_enter Tryz.func75, Tryz.ntmps75
  go_wp2_with fail
  go_loopw [5] (fun i wr => ∃ (k : Nat), i = .int .i64 k ∧ k ≤ L.length ∧ Below w.heap.size w wr) (fun i _ => L.length - (intOf i).toNat)
  case atStart => exact ⟨0, rfl, Nat.zero_le _, Below.refl _ _⟩
  case round =>
    obtain ⟨k, rfl, hk, hb⟩ := hrel
    by_cases hlt : k < L.length
    · obtain ⟨b, o, rfl, hbw, cx, hsx⟩ := strs_at (HR.out.new hb) hlt
      obtain ⟨b', o', rfl, hbw', cx', _⟩ := strs_at (HR'.out.new hb) hlt
      generalize L[k] = x at *
      go_wp2_with fail
      go_quiet (fail)
      go_wp2_with fail
      go_roundw
      case rel => exact ⟨k + 1, by go_num, by omega, bchain hb (bo_drewN _ (Below.refl _ _))⟩
      case measure => simp [intOf]; omega
    · go_wp2_with fail
      go_ret
      exact ⟨rfl, hb⟩
set_option maxHeartbeats 1000000 in
theorem szStringS1 (L : List ByteArray) (v : Value) (left : Int) (w : World) (hr : RdR strS w v L) (h0 : 0 ≤ left) (h1 : left ≤ 1048576) :
    Calls Tryz.prog 73 #[v, .int .i64 left] w fun x w' => (x = .returned (.int .i64 (-1)) ∨ (x = .returned (.int .i64 (left - szStringS L)) ∧ 0 ≤ left - szStringS L)) ∧ Below w.heap.size w w' := by
  obtain ⟨ad, cap, rfl, h2, h3⟩ := hr.form
  have HR := hide hr
  clear hr
  unfold szStringS
  by_cases h : left - L.length < 0
  · go_enter Tryz.func73, Tryz.ntmps73
    go_wp2
    go_ret
    exact ⟨.inl rfl, Below.refl _ _⟩
  · go_enter Tryz.func73, Tryz.ntmps73
    go_wp2_with fail
    go_loop [1, 5] (fun l i => ∃ (k : Nat), i = .int .i64 k ∧ k ≤ L.length ∧ l = .int .i64 (left - L.length - sumLs (fun d => (d.size : Int)) (L.take k)) ∧ 0 ≤ left - L.length - sumLs (fun d => (d.size : Int)) (L.take k)) (fun _ i => L.length - (intOf i).toNat)
    case atStart => exact ⟨0, rfl, Nat.zero_le _, by simp [sumLs], by simp [sumLs]; omega⟩
    case round =>
      obtain ⟨k, rfl, hk, rfl, hk0⟩ := hrel
      by_cases hlt : k < L.length
      · obtain ⟨b, o, rfl, hbw, cx, hsx⟩ := strs_at HR.out hlt
        have hsn := sum_take (fun d : ByteArray => (d.size : Int)) L k hlt
        have hnn := sum_nn (fun d : ByteArray => (d.size : Int)) szStr_nn (L.take k)
        generalize hx : L[k] = x at *
        clear hx
        generalize hq : sumLs (fun d : ByteArray => (d.size : Int)) (List.take k L) = q at *
        generalize hq' : sumLs (fun d : ByteArray => (d.size : Int)) (List.take (k + 1) L) = q' at *
        have HQ := hide hq'
        have HSN : Hid (q' = q + x.size) := hsn
        clear hq hq' hsn
        by_cases hneg : left - L.length - q - x.size < 0
        · go_wp2_with fail
          go_ret
          exact ⟨.inl rfl, Below.refl _ _⟩
        · go_wp2_with fail
          go_round
          case rel => exact ⟨k + 1, by go_num, by omega, int_eq (by have := HQ.out; have := HSN.out; omega), by have := HQ.out; have := HSN.out; omega⟩
          case measure => simp [intOf]; omega
      · obtain rfl : k = L.length := by omega
        rw [List.take_length] at *
        obtain ⟨X, hX⟩ : ∃ X, left - L.length - sumLs (fun d : ByteArray => (d.size : Int)) L = X := ⟨_, rfl⟩
        rw [hX] at hk0 ⊢
        have HX := hide hX
        clear hX
        go_wp2_with fail
        go_ret
        have e : left - (L.length + sumLs (fun d : ByteArray => (d.size : Int)) L) = X := by have := HX.out; omega
        rw [e]
        exact ⟨.inr ⟨rfl, by first | exact hk0 | omega⟩, Below.refl _ _⟩
theorem owr_strs {w : World} {v : Value} {L : List ByteArray} {bs : List Nat} (h : OwR strS w v L bs) : w.ownsRow 0 9 1 v L.length (L.map Value.string) ∧ bs = v.ownBlock.toList := by
  obtain ⟨ts, rfl, ho, hE, rfl⟩ := h
  have e : ts.flatMap (fun t => t.1) = (ts.map (fun t => t.2.1)).map Value.string := by
    rw [← sv_flat, List.flatMap_map]
    have hh : ∀ t ∈ ts, t.1 = [Value.string t.2.1] := fun t ht => (hE t ht).1
    clear ho hE
    induction ts with
    | nil => rfl
    | cons t ts ih => simp only [List.flatMap_cons]; rw [ih (fun x hx => hh x (by simp [hx])), ← hh t (by simp)]
  have e2 : ts.flatMap (fun t => t.2.2) = [] := by
    have hh : ∀ t ∈ ts, t.2.2 = [] := fun t ht => (hE t ht).2.2
    clear ho hE e
    induction ts with
    | nil => rfl
    | cons t ts ih => simp only [List.flatMap_cons]; rw [ih (fun x hx => hh x (by simp [hx])), hh t (by simp)]; rfl
  rw [e] at ho
  have ho2 : w.ownsRow 0 9 1 v ts.length ((ts.map (fun t => t.2.1)).map Value.string) := ho
  refine ⟨by simpa using ho2, by rw [e2]; simp⟩
theorem strs_owr {w : World} {v : Value} {L : List ByteArray} (h : w.ownsRow 0 9 1 v L.length (L.map Value.string)) (hs : ∀ x ∈ L, x.size ≤ 9223372036854775807) : OwR strS w v L v.ownBlock.toList := by
  refine ⟨L.map fun d => ([.string d], d, []), by simp [Function.comp_def], ?_, fun t ht => ?_, ?_⟩
  · rw [← sv_flat] at h
    have h2 : w.ownsRow 0 strS.ty strS.size v L.length (L.flatMap fun z => [Value.string z]) := h
    simpa [List.flatMap_map] using h2
  · obtain ⟨d, hd, rfl⟩ := List.mem_map.1 ht
    exact ⟨rfl, hs d hd, rfl⟩
  · have : ∀ M : List ByteArray, (M.map fun d => (([.string d], d, []) : List Value × ByteArray × List Nat)).flatMap (fun t => t.2.2) = [] := fun M => by induction M <;> simp_all
    rw [this]; simp
open Go.ChangeShapes Go.WideShapes Go.ChangeAt Go.Joins in
theorem open_cellsStr {H : Type} {enc : TypeId × Value → H} {W : World} {base : Nat} {spare : Nat → Bool} {held : Bool} {fuel : Nat} {cs : List Value} {x : DataW H × List MemPlace} (h : DataW.trod enc Tryz.prog W base spare held fuel 9 cs = some x) : ∃ d : ByteArray, strS.rd W cs d := by
  obtain ⟨s, rfl, _, ws⟩ := DataW.trod_string Tryz.underlying9 h
  exact ⟨s, rfl, by unfold maxLen at ws; omega⟩
end Go.Proofs.YtfemmnhfllbgjaaGreatDoor
/- Chapter 14's model: times, names, the mac, a number's text. -/
namespace Go.Proofs.YtfemmnhfllbgjaaGreatDoor
open Go.RowKit
set_option maxRecDepth 100000
set_option linter.unusedSimpArgs false
set_option linter.unusedVariables false
theorem specTime14 (t : Int) (w : World) : Calls Tryz.prog 37 #[.int .i64 t] w fun e w' => e = .returned (.bool (timeB t)) ∧ w' = w := by
  go_enter Tryz.func37, Tryz.ntmps37
  go_wp2_with fail
  refine (specIn _ _ _ _).mono ?_; rintro e w1 ⟨rfl, hsame⟩; obtain rfl := hsame.symm; clear hsame
  go_wp2_with fail
  go_ret
  exact ⟨rfl, rfl⟩
theorem nameB_no {s : ByteArray} {k : Nat} (hk : k < s.size) (h : ¬ (97 ≤ (s[k].toNat : Int) ∧ (s[k].toNat : Int) ≤ 122)) : nameB s = false := by
  unfold nameB
  have : (bys s).all (fun b => inB b 97 122) = false := by
    refine List.all_eq_false.2 ⟨(s[k].toNat : Int), ?_, ?_⟩
    · have := bys_drop s k hk
      exact List.mem_of_mem_drop (by rw [this]; simp)
    · rw [inB_not h]; simp
  rw [this]; rfl
theorem nameB_yes {s : ByteArray} (h : ∀ j (hj : j < s.size), 97 ≤ (s[j].toNat : Int) ∧ (s[j].toNat : Int) ≤ 122) : nameB s = inB (s.size : Int) 1 20 := by
  unfold nameB
  have : (bys s).all (fun b => inB b 97 122) = true := by
    refine List.all_eq_true.2 fun x hx => ?_
    obtain ⟨j, hj, rfl⟩ := List.mem_iff_getElem.1 hx
    have hj' : j < s.size := by rw [bys_len] at hj; exact hj
    have e : (bys s)[j] = (s[j].toNat : Int) := by simp [bys]; rfl
    rw [e]
    exact inB_of (h j hj').1 (h j hj').2
  rw [this]; simp
set_option maxHeartbeats 1000000 in
theorem specName (s : ByteArray) (w : World) (hs : s.size ≤ maxLen) : Calls Tryz.prog 45 #[.string s] w fun x w' => x = .returned (.bool (nameB s)) ∧ Below w.heap.size w w' := by
  unfold maxLen at hs
  obtain ⟨A, hA⟩ : ∃ A, nameB s = A := ⟨_, rfl⟩
  rw [hA]
  have HA := hide hA
  clear hA
  go_enter Tryz.func45, Tryz.ntmps45
  go_wp2_with fail
  go_loop [3] (fun i => ∃ k : Nat, i = .int .i64 k ∧ k ≤ s.size ∧ Hid (∀ j (hj : j < s.size), j < k → 97 ≤ (s[j].toNat : Int) ∧ (s[j].toNat : Int) ≤ 122)) (fun i => s.size - (intOf i).toNat)
  case atStart => exact ⟨0, rfl, Nat.zero_le _, fun j _ hj => absurd hj (Nat.not_lt_zero _)⟩
  case round =>
    obtain ⟨k, rfl, hk, HN⟩ := hrel
    by_cases hlt : k < s.size
    · have hltI : (k : Int) < s.size := by omega
      obtain ⟨b, hb⟩ : ∃ b, (s[k].toNat : Int) = b := ⟨_, rfl⟩
      have hb0 : 0 ≤ b ∧ b ≤ 255 := by have := s[k].toNat_lt; omega
      have HB := hide hb
      by_cases h1 : b < 97
      · have HF : Hid (A = false) := by show A = false; rw [← HA.out]; exact nameB_no hlt (by rw [hb]; omega)
        go_wp2_with fail
        go_ret
        exact ⟨by rw [HF.out]; rfl, (by repeat' (first | (with_reducible exact Below.refl _ _) | (with_reducible refine Below.drew ?_) | (with_reducible refine bo_drewN _ ?_) | (with_reducible refine bo_alloc ?_ _) | (refine bchain ?_ (by with_reducible assumption)) | (with_reducible refine Below.setCell ?_ ?_ _) | go_size))⟩
      · by_cases h2 : 122 < b
        · have HF : Hid (A = false) := by show A = false; rw [← HA.out]; exact nameB_no hlt (by rw [hb]; omega)
          go_wp2_with fail
          go_ret
          exact ⟨by rw [HF.out]; rfl, (by repeat' (first | (with_reducible exact Below.refl _ _) | (with_reducible refine Below.drew ?_) | (with_reducible refine bo_drewN _ ?_) | (with_reducible refine bo_alloc ?_ _) | (refine bchain ?_ (by with_reducible assumption)) | (with_reducible refine Below.setCell ?_ ?_ _) | go_size))⟩
        · have HN2 : Hid (∀ j (hj : j < s.size), j < k + 1 → 97 ≤ (s[j].toNat : Int) ∧ (s[j].toNat : Int) ≤ 122) := fun j hj hjk => by
            by_cases e : j = k
            · subst e; rw [HB.out]; omega
            · exact HN.out j hj (by omega)
          go_wp2_with fail
          go_round
          case rel => exact ⟨k + 1, by go_num, by omega, HN2⟩
          case measure => simp [intOf]; omega
    · obtain rfl : k = s.size := by omega
      have HF : Hid (A = inB (s.size : Int) 1 20) := by show A = _; rw [← HA.out]; exact nameB_yes (fun j hj => HN.out j hj hj)
      by_cases h1 : (1 : Int) ≤ s.size
      · by_cases h2 : (s.size : Int) ≤ 20
        · have e : inB (s.size : Int) 1 20 = true := inB_of h1 h2
          go_wp2_with fail
          go_ret
          exact ⟨by rw [HF.out, e]; rfl, (by repeat' (first | (with_reducible exact Below.refl _ _) | (with_reducible refine Below.drew ?_) | (with_reducible refine bo_drewN _ ?_) | (with_reducible refine bo_alloc ?_ _) | (refine bchain ?_ (by with_reducible assumption)) | (with_reducible refine Below.setCell ?_ ?_ _) | go_size))⟩
        · have e : inB (s.size : Int) 1 20 = false := inB_not (by omega)
          go_wp2_with fail
          go_ret
          exact ⟨by rw [HF.out, e]; rfl, (by repeat' (first | (with_reducible exact Below.refl _ _) | (with_reducible refine Below.drew ?_) | (with_reducible refine bo_drewN _ ?_) | (with_reducible refine bo_alloc ?_ _) | (refine bchain ?_ (by with_reducible assumption)) | (with_reducible refine Below.setCell ?_ ?_ _) | go_size))⟩
      · have e : inB (s.size : Int) 1 20 = false := inB_not (by omega)
        go_wp2_with fail
        go_ret
        exact ⟨by rw [HF.out, e]; rfl, (by repeat' (first | (with_reducible exact Below.refl _ _) | (with_reducible refine Below.drew ?_) | (with_reducible refine bo_drewN _ ?_) | (with_reducible refine bo_alloc ?_ _) | (refine bchain ?_ (by with_reducible assumption)) | (with_reducible refine Below.setCell ?_ ?_ _) | go_size))⟩
theorem mac_take {h : Int} {s : ByteArray} {k : Nat} (hk : k < s.size) : macL h ((bys s).take (k + 1)) = macS (macL h ((bys s).take k)) (s[k].toNat : Int) := by
  have hl : k < (bys s).length := by rw [bys_len]; exact hk
  have e : (bys s)[k] = (s[k].toNat : Int) := by simp [bys]; rfl
  rw [List.take_add_one, List.getElem?_eq_getElem hl, e, macL_app]; rfl
def partL (P : List ByteArray) : List Int := P.flatMap bys
set_option maxHeartbeats 2000000 in
theorem specMac (key text : ByteArray) (w : World) (hk : key.size ≤ maxLen) (ht : text.size ≤ maxLen) : Calls Tryz.prog 78 #[.string key, .string text] w fun x w' => x = .returned (.int .i64 (macV key text)) ∧ Below w.heap.size w w' := by
  unfold maxLen at hk ht
  obtain ⟨nl, hnl⟩ : ∃ nl : ByteArray, nl = ⟨#[10]⟩ := ⟨_, rfl⟩
  have hnb : bys nl = [10] := by rw [hnl]; rfl
  have hns : nl.size = 1 := by rw [hnl]; rfl
  obtain ⟨P, hP⟩ : ∃ P : List ByteArray, P = [key, nl, text, nl, key] := ⟨_, rfl⟩
  have HV : Hid (macV key text = macL 17 (partL P)) := by show _ = _; unfold macV partL; rw [hP]; simp [hnb]
  have hPs : ∀ x ∈ P, x.size ≤ 9223372036854775807 := by rw [hP]; intro x hx; simp at hx; rcases hx with rfl | rfl | rfl | rfl | rfl <;> omega
  have HPS := hide hPs
  have hPl : P.length = 5 := by rw [hP]; rfl
  have HPL := hide hPl
  have hcs : ∀ j : Nat, [Value.string key, .string nl, .string text, .string nl, .string key][j]? = (P[j]?).map Value.string := by
    intro j
    rw [hP]
    exact List.getElem?_map (f := Value.string) (l := [key, nl, text, nl, key]) (i := j)
  have HCS := hide hcs
  obtain ⟨A, hA⟩ : ∃ A, macV key text = A := ⟨_, rfl⟩
  rw [hA] at HV ⊢
  clear hA hP hPs hPl hcs hnb hns
  go_enter Tryz.func78, Tryz.ntmps78
  go_upto_region 3 with fail
  have e10 : (⟨#[10]⟩ : ByteArray) = nl := hnl.symm
  have hX : RowIs (w.alloc (.cells #[.string key, .string nl, .string text, .string nl, .string key] 9)) w.heap.size 9 [.string key, .string nl, .string text, .string nl, .string key] := rowIs_new w 9 _
  have hbX : Below w.heap.size w (w.alloc (.cells #[.string key, .string nl, .string text, .string nl, .string key] 9)) := (Below.refl _ _).alloc (Nat.le_refl _) _
  try rw [e10]
  generalize w.alloc (.cells #[.string key, .string nl, .string text, .string nl, .string key] 9) = X at *
  have HX := hide hX; have HBX := hide hbX
  have hlX := hX.lt
  clear hX hbX e10 hnl
  go_wp2_with fail
  go_loop [5, 7] (fun h i => ∃ k : Nat, i = .int .i64 k ∧ k ≤ 5 ∧ h = .int .i64 (macL 17 (partL (P.take k)))) (fun _ i => 5 - (intOf i).toNat)
  case atStart => exact ⟨0, rfl, by omega, rfl⟩
  case round =>
    obtain ⟨k, rfl, hk5, rfl⟩ := hrel
    by_cases hlt : k < 5
    · have hltI : (k : Int) < 5 := by omega
      have hkP : k < P.length := by rw [HPL.out]; exact hlt
      obtain ⟨s, hs⟩ : ∃ s, P[k] = s := ⟨_, rfl⟩
      have cs : X.cell? ⟨w.heap.size, k, none⟩ = some (.string s) := by refine HX.out.cell ?_; rw [HCS.out k, List.getElem?_eq_getElem hkP, hs]; rfl
      have hss : s.size ≤ 9223372036854775807 := by rw [← hs]; exact HPS.out _ (List.getElem_mem hkP)
      have HT : Hid (partL (P.take (k + 1)) = partL (P.take k) ++ bys s) := by
        show _ = _
        unfold partL
        rw [List.take_add_one, List.getElem?_eq_getElem hkP, hs, List.flatMap_append]; simp
      obtain ⟨h0, hh0⟩ : ∃ h, macL 17 (partL (P.take k)) = h := ⟨_, rfl⟩
      have hr0 : 0 ≤ h0 ∧ h0 ≤ 2147483646 := by rw [← hh0]; exact macL_range _ (by decide) (by decide)
      rw [hh0]
      have HH0 := hide hh0
      clear hh0 hs
      go_wp2_with fail
      go_loop [5, 8] (fun h j => ∃ q : Nat, j = .int .i64 q ∧ q ≤ s.size ∧ h = .int .i64 (macL h0 ((bys s).take q))) (fun _ j => s.size - (intOf j).toNat)
      case atStart => exact ⟨0, rfl, by omega, by rw [List.take_zero]; rfl⟩
      case round =>
        obtain ⟨q, rfl, hq, rfl⟩ := hrel
        by_cases hqs : q < s.size
        · have hqI : (q : Int) < s.size := by omega
          have hmt := mac_take (h := h0) hqs
          obtain ⟨h1, hh1⟩ : ∃ h, macL h0 ((bys s).take q) = h := ⟨_, rfl⟩
          have hr1 : 0 ≤ h1 ∧ h1 ≤ 2147483646 := by rw [← hh1]; exact macL_range _ hr0.1 hr0.2
          rw [hh1] at hmt ⊢
          obtain ⟨b, hb⟩ : ∃ b, (s[q].toNat : Int) = b := ⟨_, rfl⟩
          have hb0 : 0 ≤ b ∧ b ≤ 255 := by have := s[q].toNat_lt; omega
          rw [hb] at hmt
          obtain ⟨r0, r1⟩ := hr1
          obtain ⟨b0, b1⟩ := hb0
          have e1 : IntKind.i64.wrap (h1 * 1000003) = h1 * 1000003 := by rw [IntKind.wrap_i64]; omega
          have e2 : IntKind.i64.wrap (h1 * 1000003 + b) = h1 * 1000003 + b := by rw [IntKind.wrap_i64]; omega
          have e3 : IntKind.i64.wrap (h1 * 1000003 + b + 1) = h1 * 1000003 + b + 1 := by rw [IntKind.wrap_i64]; omega
          have e4 : (h1 * 1000003 + b + 1).tmod 2147483647 = macS h1 b := by unfold macS; exact Int.tmod_eq_emod_of_nonneg (by omega)
          have hm1 := macS_range h1 b
          have e5 : IntKind.i64.wrap (macS h1 b) = macS h1 b := by rw [IntKind.wrap_i64]; omega
          have HMT := hide hmt
          clear hh1 hmt
          go_wp2_with fail
          go_round
          case rel => exact ⟨q + 1, by go_num, by omega, by rw [HMT.out]⟩
          case measure => simp [intOf]; omega
        · obtain rfl : q = s.size := by omega
          have HE : Hid (macL h0 ((bys s).take s.size) = macL 17 (partL (P.take (k + 1)))) := by
            show _ = _
            rw [HT.out, macL_app, HH0.out, List.take_of_length_le (by rw [bys_len]; omega)]
          go_wp2_with fail
          go_round
          case rel => exact ⟨k + 1, by go_num, by omega, by rw [HE.out]⟩
          case measure => simp [intOf]; omega
    · obtain rfl : k = 5 := by omega
      have HE : Hid (macL 17 (partL (P.take 5)) = A) := by show _ = A; rw [HV.out, List.take_of_length_le (by rw [HPL.out]; omega)]
      go_wp2_with fail
      go_ret
      exact ⟨by rw [← HE.out]; rfl, HBX.out⟩
end Go.Proofs.YtfemmnhfllbgjaaGreatDoor
/- A row that a slice literal makes, and rows of int64 behind an append. -/
namespace Go.Proofs.YtfemmnhfllbgjaaGreatDoor
open Go.RowKit
set_option maxRecDepth 100000
set_option linter.unusedSimpArgs false
set_option linter.unusedVariables false
theorem owns_lit (w : World) (e : TypeId) (size n : Nat) (xs : Array Value) (hx : xs.size = n * size) (hn : n ≤ 1000000) : (w.alloc (.cells xs e)).ownsRow w.heap.size e size (.slice (some ⟨w.heap.size, 0, none⟩) n n) n xs.toList :=
  ⟨by simp [hx], .inr ⟨w.heap.size, n, xs, rfl, Nat.le_refl _, heap_alloc_last w _, Nat.le_refl _, by unfold maxLen; omega, hx, by rw [List.take_of_length_le (by simp [hx])]⟩⟩
theorem reads_int1 (w : World) (z : Int) : Reads (w.alloc (.cells #[.int .i64 z] 2)) (.slice (some ⟨w.heap.size, 0, none⟩) 1 1) 1 1 (iv [z]) := reads_of_owns (owns_lit w 2 1 1 #[.int .i64 z] rfl (by omega))
theorem iv_app (A B : List Int) : iv (A ++ B) = iv A ++ iv B := by simp [iv]
theorem iv_one (L : List Int) : ∀ u ∈ iv L, u.oneCell' = true := by
  intro u hu
  obtain ⟨z, _, rfl⟩ := List.mem_map.1 hu
  rfl
/-- How many elements a slice tells that it has. -/
def slLen : Value → Nat
  | .slice _ n _ => n
  | _ => 0
end Go.Proofs.YtfemmnhfllbgjaaGreatDoor
/- A row that is owned, with one more behind an append. -/
namespace Go.Proofs.YtfemmnhfllbgjaaGreatDoor
open Go.RowKit
set_option maxRecDepth 100000
set_option linter.unusedSimpArgs false
set_option linter.unusedVariables false
/-- A row that is owned, opened for an append: its cells, and what the append leaves. -/
theorem OwX.grow {D : Type} {E : Shp D} {w : World} {lo mid : Nat} {v : Value} {L : List D} (h : OwX E w lo mid v L) (hmid : mid ≤ w.heap.size) (hlm : lo ≤ mid) : ∃ xs, w.ownsRow 0 E.ty E.size v L.length xs ∧
    ∀ (w1 : World) (v' : Value) (cs : List Value) (x : D), OwE E w mid w.heap.size cs x → w1.ownsRow 0 E.ty E.size v' (L.length + 1) (xs ++ cs) → w.grownBy w1 v.ownBlock → (v'.ownBlock = v.ownBlock ∨ v'.ownBlock = some w.heap.size) → OwX E w1 lo w1.heap.size v' (L ++ [x]) := by
  obtain ⟨bs, ⟨ts, hL, ho, hE, rfl⟩, hn, hb⟩ := h
  have hlen : L.length = ts.length := by rw [hL]; simp
  refine ⟨ts.flatMap (·.1), by rw [hlen]; exact ho, fun w1 v' cs x hx ho' hg hat => ?_⟩
  exact OwX.app (mid := mid) (hi := w.heap.size) hL ho hE hn hb hmid (by omega) hx hlm (by rw [← hlen]; exact ho') hg hat
end Go.Proofs.YtfemmnhfllbgjaaGreatDoor
/- A text that is bent: the walk. -/
namespace Go.Proofs.YtfemmnhfllbgjaaGreatDoor
open Go.RowKit
set_option maxRecDepth 100000
set_option linter.unusedSimpArgs false
set_option linter.unusedVariables false
attribute [local go_sem ↓] Go.wp_at_zero Go.wp_at_succ

theorem moves_bytes {g : Nat} {w a : World} (h : Moves g w a) (s : ByteArray) : Moves g w (Lib.bytesWorld a 5 s) :=
  h.trans ⟨rfl, rfl, rfl, by rw [Lib.bytesWorld_size]; omega, fun k hk _ => Lib.bytesWorld_at_old a 5 s k hk⟩

theorem BR.set {w : World} {base n cap blk : Nat} (h : BR w base (some ⟨blk, 0, none⟩) n cap) (k : Nat) (u : Value) (hu : ByteVal u) : BR (w.setCell ⟨blk, k, none⟩ u) base (some ⟨blk, 0, none⟩) n cap := by
  obtain ⟨h1, h2, h3⟩ := h
  refine ⟨h1, h2, fun hn => ?_⟩
  obtain ⟨b', e, hb, hl, hc⟩ := h3 hn
  simp only [Option.some.injEq, Addr.mk.injEq, and_true] at e
  subst e
  refine ⟨blk, rfl, hb, by simpa using hl, fun j hj => ?_⟩
  obtain ⟨⟨v, hv, hcv⟩, hf⟩ := hc j hj
  refine ⟨?_, by rw [World.frozen?_setCell]; exact hf⟩
  by_cases hjk : k = j
  · subst hjk
    exact ⟨u, hu, World.cell?_setCell_same' _ _ _ (by rw [hcv]; rfl)⟩
  · refine ⟨v, hv, ?_⟩
    exact (World.cell?_setCell_other _ ⟨blk, k, none⟩ ⟨blk, j, none⟩ _ (by simp [hjk])).trans hcv

theorem owns_ad {w : World} {base : Nat} {e : TypeId} {size n cap : Nat} {ad : Option Addr} {xs : List Value} (h : w.ownsRow base e size (.slice ad n cap) n xs) : ad = none ∨ ∃ b o, ad = some ⟨b, o, none⟩ := by
  rcases h.2 with ⟨h2, _⟩ | ⟨g, cap', cur, e1, _⟩
  · simp only [Value.slice.injEq] at h2; exact .inl h2.1
  · simp only [Value.slice.injEq] at e1; exact .inr ⟨g, 0, e1.1⟩

set_option maxRecDepth 100000 in
set_option maxHeartbeats 8000000 in
theorem bend1 (g B : Nat) (s sg : ByteArray) (w : World) (hc : Cur w g B) (hs : s.size ≤ 1000000) (hg0 : 0 < sg.size) (hg1 : sg.size ≤ 1000) :
    Calls Tryz.prog 62 #[.pointer (some ⟨g, 0, none⟩), .string s, .string sg] w fun e w' => ∃ t : ByteArray, t.size ≤ s.size + 2 ∧ e = .returned (.string t) ∧ Cur w' g B ∧ Moves g w w' := by
  have hgw := hc.lt
  have hcv := Lib.run_convert_string_bytes (P := Tryz.prog) w 9 22 5 s Tryz.underlying9 Tryz.underlying22 Tryz.underlying5
  have hcap := grownCap_ge w s.size 0 5
  have hcap2 := grownCap_le_maxLen w s.size 0 5 (by unfold maxLen; omega)
  have HBR := br_new w s hs hcap2 hcap
  have hm0 : Moves g w (Lib.bytesWorld w 5 s) := moves_bytes (Moves.refl g w) s
  have hc0 : Cur (Lib.bytesWorld w 5 s) g B := hc.kept ⟨rfl, rfl, rfl, by rw [Lib.bytesWorld_size]; omega, fun k hk => Lib.bytesWorld_at_old w 5 s k (by omega)⟩
  generalize Lib.bytesWorld w 5 s = w0 at hcv HBR hm0 hc0
  generalize grownCap w s.size 0 5 = cap0 at hcv HBR hcap hcap2
  unfold maxLen at hcap2
  go_enter Tryz.func62, Tryz.ntmps62
  go_wp2_with fail
  refine (below1 g B 3 _ hc0 (by omega)).mono ?_; rintro e w1 ⟨x, x0, x1, x2, rfl, hc1, hm1⟩
  have x3 := x1 (by omega)
  have HB1 := HBR.moves hm1 hgw
  have hw1 := hm0.trans hm1
  go_wp2_with fail
  go_loopw [7, 8] (fun v n wr => ∃ (ad : Option Addr) (len cap m : Nat), v = .slice ad len cap ∧ n = .int .i64 m ∧ len + m ≤ s.size + 2 ∧ BR wr w.heap.size ad len cap ∧ (len = 0 → ad = none ∨ ∃ b o, ad = some ⟨b, o, none⟩) ∧ Cur wr g B ∧ Moves g w wr) (fun _ n _ => (intOf n).toNat)
  case atStart =>
    obtain ⟨m, rfl⟩ : ∃ m : Nat, x = m := ⟨x.toNat, by omega⟩
    exact ⟨_, _, _, m, rfl, rfl, by omega, HB1, fun _ => .inr ⟨_, _, rfl⟩, hc1, hw1⟩
  case round =>
    obtain ⟨ad, len, cap, m, rfl, rfl, hlm, hbr, had, hcr, hmr⟩ := hrel
    have hsr := hmr.size
    by_cases hgo : 0 < m ∧ 0 < len
    · obtain ⟨hm0', hlen⟩ := hgo
      obtain ⟨m', rfl⟩ : ∃ m', m = m' + 1 := ⟨m - 1, by omega⟩
      have hlen' : (0 : Int) < len := by omega
      obtain ⟨hlc, hcm, hbr3⟩ := hbr
      obtain ⟨blk, rfl, hblk, hblt, hcells⟩ := hbr3 hlen
      have HBR2 : BR wr w.heap.size (some ⟨blk, 0, none⟩) len cap := ⟨hlc, hcm, fun _ => ⟨blk, rfl, hblk, hblt, hcells⟩⟩
      unfold maxLen at hcm
      go_wp2_with fail
      refine (below1 g B _ _ hcr (by omega)).mono ?_; rintro e w2 ⟨k, k0, k1, k2, rfl, hc2, hm2⟩
      obtain ⟨k, rfl⟩ : ∃ k' : Nat, k = k' := ⟨k.toNat, by omega⟩
      have k3 : (k : Int) < len := k1 hlen'
      go_wp2_with fail
      refine (below1 g B 4 _ hc2 (by omega)).mono ?_; rintro e w3 ⟨y, y0, y1, y2, rfl, hc3, hm3⟩
      have y3 := y1 (by omega)
      have HB3 := (HBR2.moves hm2 (by omega)).moves hm3 (by omega)
      have hmw : Moves g w w3 := (hmr.trans hm2).trans hm3
      have hs3 := hmw.size
      have hblk3 : blk < w3.heap.size := by have := hm2.size; have := hm3.size; omega
      clear hcells hbr3 HBR2 hm2 hm3 hc2 hmr hcr
      obtain h | h | h | h : y = 0 ∨ y = 1 ∨ y = 2 ∨ y = 3 := by omega
      · subst h
        go_wp2_with fail
        refine (below1 g B _ _ hc3 (by omega)).mono ?_; rintro e w4 ⟨j, j0, j1, j2, rfl, hc4, hm4⟩
        obtain ⟨j, rfl⟩ : ∃ j' : Nat, j = j' := ⟨j.toNat, by omega⟩
        have j3 : (j : Int) < sg.size := j1 (by omega)
        have j4 : j < sg.size := by omega
        have HB4 := HB3.moves hm4 (by omega)
        obtain ⟨blk', e, _, hl4, hcc⟩ := HB4.2.2 hlen
        simp only [Option.some.injEq, Addr.mk.injEq, and_true] at e
        subst e
        obtain ⟨⟨v, hv, hcv4⟩, hf4⟩ := hcc k (by omega)
        have hby : ByteVal (.int .u8 (sg[j].toNat : Int)) := ⟨_, rfl, by omega, by have := sg[j].toNat_lt; omega⟩
        have HB5 := HB4.set k _ hby
        have hm5 : Moves g w (w4.setCell ⟨blk, k, none⟩ (.int .u8 (sg[j].toNat : Int))) := (hmw.trans hm4).setNew _ hblk _
        have hc5 := hc4.set ⟨blk, k, none⟩ (.int .u8 (sg[j].toNat : Int)) (by simp; omega)
        clear HB4 hcc hv
        go_wp2_with fail
        go_roundw
        case rel => exact ⟨_, _, _, m', rfl, by go_num, by omega, HB5, fun _ => .inr ⟨_, _, rfl⟩, hc5, hm5⟩
        case measure => simp [intOf]
      · subst h
        go_wp2_with fail
        go_roundw
        case rel => exact ⟨_, _, _, m', rfl, by go_num, by omega, HB3.cut k (by omega), fun _ => .inr ⟨_, _, rfl⟩, hc3, hmw⟩
        case measure => simp [intOf]
      · subst h
        have hkc : k ≤ cap := by omega
        have hk1 : k + 1 ≤ len := by omega
        have hk2 : ((k : Int) + 1).toNat = k + 1 := by omega
        have hk4 : (k : Int) + 1 ≤ len := by omega
        have hk5 : (0 : Int) ≤ (k : Int) + 1 := by omega
        have hwr : IntKind.i64.wrap ((k : Int) + 1) = (k : Int) + 1 := by rw [IntKind.wrap_i64]; omega
        obtain ⟨xs, hx1, hx2, hx3⟩ := HB3.window 0 k cap (by omega) (by omega) HB3.2.1 (some ⟨blk, 0, none⟩) (fun _ => rfl)
        obtain ⟨ys, hy1, hy2, hy3⟩ := HB3.window (k + 1) (len - (k + 1)) (cap - (k + 1)) (by omega) (by omega) (by unfold maxLen; omega) (if cap = k + 1 then some ⟨blk, 0, none⟩ else some ⟨blk, k + 1, none⟩) (fun h => if_neg (by omega))
        go_wp2_with fail
        refine wp_region_any (by kernel_rfl) ?_
        change wpAny _ _ _ _ _ _ _ (World.drew _)
        refine wpAny_take (i := 1) (v := ?_) rfl (by kernel_rfl) (by kernel_rfl) (by kernel_rfl) (fun _ _ _ h => h) (Or.inl ⟨by rfl, ?_⟩) ?_; rotate_left; focus (intro w; go_simp; try with_reducible rfl)
        refine wpAny_take (i := 2) (v := ?_) rfl (by kernel_rfl) (by kernel_rfl) (by kernel_rfl) (fun _ _ _ h => h) (Or.inl ⟨by rfl, ?_⟩) ?_; rotate_left; focus (intro w; go_simp; try with_reducible rfl)
        refine wpAny_take (i := 3) (v := ?_) rfl (by kernel_rfl) (by kernel_rfl) (by kernel_rfl) (fun _ _ _ h => h) (Or.inl ⟨by rfl, ?_⟩) ?_; rotate_left; focus (intro w; go_simp; try with_reducible rfl)
        refine wpAny_take (i := 5) (v := ?_) rfl (by kernel_rfl) (by kernel_rfl) (by kernel_rfl) (fun _ _ _ h => h) (Or.inl ⟨by rfl, ?_⟩) ?_; rotate_left; focus (intro w; go_simp; try with_reducible rfl)
        refine wpAny_take (i := 6) (v := ?_) rfl (by kernel_rfl) (by kernel_rfl) (by kernel_rfl) (fun _ _ _ h => h) (Or.inl ⟨by rfl, ?_⟩) ?_; rotate_left; focus (intro w; go_simp; try with_reducible rfl)
        refine wpAny_take (i := 7) (v := ?_) rfl (by kernel_rfl) (by kernel_rfl) (by kernel_rfl) (fun _ _ _ h => h) (Or.inl ⟨by rfl, ?_⟩) ?_; rotate_left; focus (intro w; go_simp; try with_reducible rfl)
        refine wpAny_take (i := 8) (v := ?_) rfl (by kernel_rfl) (by kernel_rfl) (by kernel_rfl) (fun _ _ _ h => h) (Or.inl ⟨by rfl, ?_⟩) ?_; rotate_left; focus (intro w; go_simp; try with_reducible rfl)
        refine wpAny_ready (rs := [0]) (by kernel_rfl) (by simp) ?_; refine AllReady.cons rfl (fun K hK => ?_) AllReady.nil; go_simp; refine hK _ _ ?_; clear hK K
        have hV : ((w3.alloc (.cells #[] 5)).drew).ownsRow w.heap.size 5 1 (.slice (some ⟨w3.heap.size, 0, none⟩) 0 0) 0 [] := World.ownsRow_made w3 #[] 0 hs3 (Nat.zero_le _) rfl
        have hrx : Reads ((w3.alloc (.cells #[] 5)).drew) (.slice (some ⟨blk, 0, none⟩) k cap) k 1 xs := (hx3.alloc _).new (Below.refl _ _).drew
        have hry : Reads ((w3.alloc (.cells #[] 5)).drew) (.slice (if cap = k + 1 then some ⟨blk, 0, none⟩ else some ⟨blk, k + 1, none⟩) (len - (k + 1)) (cap - (k + 1))) (len - (k + 1)) 1 ys := (hy3.alloc _).new (Below.refl _ _).drew
        have hmV : Moves g w ((w3.alloc (.cells #[] 5)).drew) := (hmw.alloc _).drew
        have hcV : Cur ((w3.alloc (.cells #[] 5)).drew) g B := (hc3.alloc _).drew
        have hsV : ((w3.alloc (.cells #[] 5)).drew).heap.size = w3.heap.size + 1 := by show (w3.alloc _).heap.size = _; simp
        refine wpAny_ready (rs := [4]) (by kernel_rfl) (by simp) ?_
        refine AllReady.cons rfl (fun K hK => ?_) AllReady.nil
        refine step_app _ (by rfl) _ _ 22 (by rfl) 5 (.int .u8 0) 1 1 Tryz.underlying22 (by kernel_rfl) rfl (by decide) w.heap.size (.slice (some ⟨w3.heap.size, 0, none⟩) 0 0) 0 [] (by rfl) hV (.slice (some ⟨blk, 0, none⟩) k cap) k xs (by rfl) hrx (bytes_one hx1) (by omega) (by decide) (by omega) ?_
        intro ad5 cap5 w5 hown5 hgrow5 hat5
        refine hK _ _ ?_; clear hK K
        have hmV5 := hmV.grown hgrow5 (fun k hk => (hV.lt k hk).1)
        have hcV5 := hcV.grown hgrow5 (fun k hk => by have := (hV.lt k hk).1; omega)
        have hs5 := hmV5.size
        have hry5 := hry.kept hgrow5.size (fun q e hq => hgrow5.block q hq (fun e2 => by
          have hqe : q = blk := by
            by_cases hce : cap = k + 1
            · rw [if_pos hce] at e; simpa [Value.ownBlock] using e.symm
            · rw [if_neg hce] at e; simpa [Value.ownBlock] using e.symm
          have hq3 : q = w3.heap.size := by simpa [Value.ownBlock] using e2
          omega))
        clear hry hrx hV hmV hcV hgrow5 hat5 hx3 hy3
        refine wpAny_ready (rs := [9]) (by kernel_rfl) (by simp) ?_
        refine AllReady.cons rfl (fun K hK => ?_) AllReady.nil
        refine step_app _ (by rfl) _ _ 22 (by rfl) 5 (.int .u8 0) 1 1 Tryz.underlying22 (by kernel_rfl) rfl (by decide) w.heap.size (.slice ad5 (0 + k) cap5) (0 + k) ([] ++ xs) (by rfl) hown5 _ _ ys (by rfl) hry5 (bytes_one hy1) (by omega) (by decide) (by omega) ?_
        intro ad6 cap6 w6 hown6 hgrow6 hat6
        refine hK _ _ ?_; clear hK K
        have hmV6 := hmV5.grown hgrow6 (fun k hk => (hown5.lt k hk).1)
        have hcV6 := hcV5.grown hgrow6 (fun k hk => by have := (hown5.lt k hk).1; omega)
        have HB6 := BR.of_owns hown6 (fun u hu => by rcases List.mem_append.1 hu with h | h; exact hx1 u (by simpa using h); exact hy1 u h)
        have had6 := owns_ad hown6
        simp only [Nat.zero_add] at HB6
        clear hown5 hown6 hgrow6 hat6 hry5
        refine wpAny_take (i := 10) (v := ?_) rfl (by kernel_rfl) (by kernel_rfl) (by kernel_rfl) (fun _ _ _ h => h) (Or.inl ⟨by rfl, ?_⟩) ?_; rotate_left; focus (intro w; go_simp; try with_reducible rfl)
        refine wpAny_done (by kernel_rfl) ?_ _
        go_wp2_with fail
        go_roundw
        case rel => exact ⟨_, _, _, m', rfl, by go_num, by omega, HB6, fun _ => had6, hcV6, hmV6⟩
        case measure => simp [intOf]
      · subst h
        have hkc : k ≤ cap := by omega
        have hk1 : k ≤ len := by omega
        have hk4 : (k : Int) ≤ len := by omega
        have hck : ¬ cap = k := by omega
        obtain ⟨xs, hx1, hx2, hx3⟩ := HB3.window 0 k cap (by omega) (by omega) HB3.2.1 (some ⟨blk, 0, none⟩) (fun _ => rfl)
        obtain ⟨ys, hy1, hy2, hy3⟩ := HB3.window k (len - k) (cap - k) (by omega) (by omega) (by unfold maxLen; omega) (some ⟨blk, k, none⟩) (fun h => rfl)
        go_wp2_with fail
        refine wp_region_any (by kernel_rfl) ?_
        change wpAny _ _ _ _ _ _ _ (World.drew _)
        refine wpAny_take (i := 1) (v := ?_) rfl (by kernel_rfl) (by kernel_rfl) (by kernel_rfl) (fun _ _ _ h => h) (Or.inl ⟨by rfl, ?_⟩) ?_; rotate_left; focus (intro w; go_simp; try with_reducible rfl)
        refine wpAny_take (i := 2) (v := ?_) rfl (by kernel_rfl) (by kernel_rfl) (by kernel_rfl) (fun _ _ _ h => h) (Or.inl ⟨by rfl, ?_⟩) ?_; rotate_left; focus (intro w; go_simp; try with_reducible rfl)
        refine wpAny_take (i := 3) (v := ?_) rfl (by kernel_rfl) (by kernel_rfl) (by kernel_rfl) (fun _ _ _ h => h) (Or.inl ⟨by rfl, ?_⟩) ?_; rotate_left; focus (intro w; go_simp; try with_reducible rfl)
        refine wpAny_take (i := 5) (v := ?_) rfl (by kernel_rfl) (by kernel_rfl) (by kernel_rfl) (fun _ _ _ h => h) (Or.inl ⟨by rfl, ?_⟩) ?_; rotate_left; focus (intro w; go_simp; try with_reducible rfl)
        refine wpAny_take (i := 6) (v := ?_) rfl (by kernel_rfl) (by kernel_rfl) (by kernel_rfl) (fun _ _ _ h => h) (Or.inl ⟨by rfl, ?_⟩) ?_; rotate_left; focus (intro w; go_simp; try with_reducible rfl)
        refine wpAny_take (i := 7) (v := ?_) rfl (by kernel_rfl) (by kernel_rfl) (by kernel_rfl) (fun _ _ _ h => h) (Or.inl ⟨by rfl, ?_⟩) ?_; rotate_left; focus (intro w; go_simp; try with_reducible rfl)
        refine wpAny_take (i := 8) (v := ?_) rfl (by kernel_rfl) (by kernel_rfl) (by kernel_rfl) (fun _ _ _ h => h) (Or.inl ⟨by rfl, ?_⟩) ?_; rotate_left; focus (intro w; go_simp; try with_reducible rfl)
        refine wpAny_take (i := 13) (v := ?_) rfl (by kernel_rfl) (by kernel_rfl) (by kernel_rfl) (fun _ _ _ h => h) (Or.inl ⟨by rfl, ?_⟩) ?_; rotate_left; focus (intro w; go_simp; try with_reducible rfl)
        refine wpAny_take (i := 14) (v := ?_) rfl (by kernel_rfl) (by kernel_rfl) (by kernel_rfl) (fun _ _ _ h => h) (Or.inl ⟨by rfl, ?_⟩) ?_; rotate_left; focus (intro w; go_simp; try with_reducible rfl)
        refine wpAny_take (i := 15) (v := ?_) rfl (by kernel_rfl) (by kernel_rfl) (by kernel_rfl) (fun _ _ _ h => h) (Or.inl ⟨by rfl, ?_⟩) ?_; rotate_left; focus (intro w; go_simp; try with_reducible rfl)
        refine wpAny_ready (rs := [0]) (by kernel_rfl) (by simp) ?_; refine AllReady.cons rfl (fun K hK => ?_) AllReady.nil; go_simp; refine hK _ _ ?_; clear hK K
        have hV : ((w3.alloc (.cells #[] 5)).drew).ownsRow w.heap.size 5 1 (.slice (some ⟨w3.heap.size, 0, none⟩) 0 0) 0 [] := World.ownsRow_made w3 #[] 0 hs3 (Nat.zero_le _) rfl
        have hrx : Reads ((w3.alloc (.cells #[] 5)).drew) (.slice (some ⟨blk, 0, none⟩) k cap) k 1 xs := (hx3.alloc _).new (Below.refl _ _).drew
        have hry : Reads ((w3.alloc (.cells #[] 5)).drew) (.slice (some ⟨blk, k, none⟩) (len - k) (cap - k)) (len - k) 1 ys := (hy3.alloc _).new (Below.refl _ _).drew
        have hmV : Moves g w ((w3.alloc (.cells #[] 5)).drew) := (hmw.alloc _).drew
        have hcV : Cur ((w3.alloc (.cells #[] 5)).drew) g B := (hc3.alloc _).drew
        have hsV : ((w3.alloc (.cells #[] 5)).drew).heap.size = w3.heap.size + 1 := by show (w3.alloc _).heap.size = _; simp
        refine wpAny_ready (rs := [4]) (by kernel_rfl) (by simp) ?_
        refine AllReady.cons rfl (fun K hK => ?_) AllReady.nil; refine step_app _ (by rfl) _ _ 22 (by rfl) 5 (.int .u8 0) 1 1 Tryz.underlying22 (by kernel_rfl) rfl (by decide) w.heap.size (.slice (some ⟨w3.heap.size, 0, none⟩) 0 0) 0 [] (by rfl) hV (.slice (some ⟨blk, 0, none⟩) k cap) k xs (by rfl) hrx (bytes_one hx1) (by omega) (by decide) (by omega) ?_
        intro ad5 cap5 w5 hown5 hgrow5 hat5
        refine hK _ _ ?_; clear hK K
        have hmV5 := hmV.grown hgrow5 (fun k hk => (hV.lt k hk).1)
        have hcV5 := hcV.grown hgrow5 (fun k hk => by have := (hV.lt k hk).1; omega)
        have hs5 := hgrow5.size
        have hry5 := hry.kept hgrow5.size (fun q e hq => hgrow5.block q hq (fun e2 => by
          have hqe : q = blk := by simpa [Value.ownBlock] using e.symm
          have hq3 : q = w3.heap.size := by simpa [Value.ownBlock] using e2
          omega))
        have hnb5 : (Value.slice ad5 (0 + k) cap5).ownBlock ≠ some blk := by
          intro e
          rcases hat5 with h | h
          · rw [h] at e; have : w3.heap.size = blk := by simpa [Value.ownBlock] using e
            omega
          · rw [h] at e; have : ((w3.alloc (.cells #[] 5)).drew).heap.size = blk := by simpa using e
            omega
        clear hry hrx hV hmV hcV hgrow5 hat5 hx3 hy3
        refine wpAny_ready (rs := [9]) (by kernel_rfl) (by simp) ?_
        refine AllReady.cons rfl (fun K hK => ?_) AllReady.nil
        go_simp
        refine (below1 g B _ _ hcV5 (by omega)).mono ?_; rintro e w6 ⟨j, j0, j1, j2, rfl, hc6, hm6⟩
        obtain ⟨j, rfl⟩ : ∃ j' : Nat, j = j' := ⟨j.toNat, by omega⟩
        have j3 : (j : Int) < sg.size := j1 (by omega)
        have j4 : j < sg.size := by omega
        refine hK _ _ ?_; clear hK K
        have hown6 := ownsRow_moves hown5 hm6 hgw
        simp only [Nat.zero_add, List.nil_append] at hown6 hnb5
        have hmV6 := hmV5.trans hm6
        have hs6 := hm6.size
        have hry6 := hry5.kept hm6.size (fun q e hq => hm6.block q hq (by
          have hqe : q = blk := by simpa [Value.ownBlock] using e.symm
          omega))
        clear hry5 hown5 hmV5 hcV5 hm6
        refine wpAny_take (i := 10) (v := ?_) rfl (by kernel_rfl) (by kernel_rfl) (by kernel_rfl) (fun _ _ _ h => h) (Or.inl ⟨by rfl, ?_⟩) ?_; rotate_left; focus (intro w; go_simp; try with_reducible rfl)
        refine wpAny_ready (rs := [11]) (by kernel_rfl) (by simp) ?_; refine AllReady.cons rfl (fun K hK => ?_) AllReady.nil; go_simp; refine hK _ _ ?_; clear hK K
        have hby : ByteVal (.int .u8 (sg[j].toNat : Int)) := ⟨_, rfl, by omega, by have := sg[j].toNat_lt; omega⟩
        have hown7 := hown6.alloc (.cells #[.int .u8 (sg[j].toNat : Int)] 5)
        have hry7 := hry6.alloc (.cells #[.int .u8 (sg[j].toNat : Int)] 5)
        have hm7 := hmV6.alloc (.cells #[.int .u8 (sg[j].toNat : Int)] 5)
        have hc7 := hc6.alloc (.cells #[.int .u8 (sg[j].toNat : Int)] 5)
        have hs7 : w.heap.size ≤ (w6.alloc (.cells #[.int .u8 (sg[j].toNat : Int)] 5)).heap.size := hm7.size
        have hr1 : Reads (w6.alloc (.cells #[.int .u8 (sg[j].toNat : Int)] 5)) (.slice (some ⟨w6.heap.size, 0, none⟩) 1 1) 1 1 [.int .u8 (sg[j].toNat : Int)] :=
          ⟨rfl, _, _, rfl, Nat.le_refl _, by unfold maxLen; omega, fun _ => ⟨_, _, rfl, by simp, fun i u hu => by
            match i, hu with
            | 0, hu => simp at hu; subst hu; simp⟩⟩
        clear hown6 hry6 hmV6 hc6
        refine wpAny_ready (rs := [12]) (by kernel_rfl) (by simp) ?_
        refine AllReady.cons rfl (fun K hK => ?_) AllReady.nil; refine step_app _ (by rfl) _ _ 22 (by rfl) 5 (.int .u8 0) 1 1 Tryz.underlying22 (by kernel_rfl) rfl (by decide) w.heap.size _ _ _ (by rfl) hown7 _ _ _ (by rfl) hr1 (by intro u hu; simp at hu; subst hu; rfl) (by omega) (by decide) (by omega) ?_
        intro ad8 cap8 w8 hown8 hgrow8 hat8
        refine hK _ _ ?_; clear hK K
        have hm8 := hm7.grown hgrow8 (fun k hk => (hown7.lt k hk).1)
        have hc8 := hc7.grown hgrow8 (fun k hk => by have := (hown7.lt k hk).1; omega)
        have hs8 := hm8.size
        have hry8 := hry7.kept hgrow8.size (fun q e hq => hgrow8.block q hq (fun e2 => by
          have hqe : q = blk := by simpa [Value.ownBlock] using e.symm
          subst hqe
          exact hnb5 e2.symm))
        clear hry7 hgrow8 hat8 hm7 hc7 hr1
        refine wpAny_ready (rs := [16]) (by kernel_rfl) (by simp) ?_
        refine AllReady.cons rfl (fun K hK => ?_) AllReady.nil; refine step_app _ (by rfl) _ _ 22 (by rfl) 5 (.int .u8 0) 1 1 Tryz.underlying22 (by kernel_rfl) rfl (by decide) w.heap.size _ _ _ (by rfl) hown8 _ _ _ (by rfl) hry8 (bytes_one hy1) (by omega) (by decide) (by omega) ?_
        intro ad9 cap9 w9 hown9 hgrow9 hat9
        refine hK _ _ ?_; clear hK K
        have hm9 := hm8.grown hgrow9 (fun k hk => (hown8.lt k hk).1)
        have hc9 := hc8.grown hgrow9 (fun k hk => by have := (hown8.lt k hk).1; omega)
        have HB9 := BR.of_owns hown9 (fun u hu => by
          rcases List.mem_append.1 hu with h | h
          · rcases List.mem_append.1 h with h | h
            · exact hx1 u (by simpa using h)
            · simp at h; subst h; exact hby
          · exact hy1 u h)
        have had9 := owns_ad hown9
        clear hown7 hown8 hown9 hgrow9 hat9 hry8
        refine wpAny_take (i := 17) (v := ?_) rfl (by kernel_rfl) (by kernel_rfl) (by kernel_rfl) (fun _ _ _ h => h) (Or.inl ⟨by rfl, ?_⟩) ?_; rotate_left; focus (intro w; go_simp; try with_reducible rfl)
        refine wpAny_done (by kernel_rfl) ?_ _
        go_wp2_with fail
        go_roundw
        case rel => exact ⟨_, _, _, m', rfl, by go_num, by omega, HB9, fun _ => had9, hc9, hm9⟩
        case measure => simp [intOf]
    · obtain ⟨t, ht, hcv2⟩ := hbr.string had
      by_cases hm0' : 0 < m
      · have hl0 : ¬ (0 : Int) < len := by omega
        have hl1 : ¬ 0 < len := by omega
        go_wp2_with fail
        go_ret
        exact ⟨t, by omega, rfl, hcr, hmr⟩
      · obtain rfl : m = 0 := by omega
        go_wp2_with fail
        go_ret
        exact ⟨t, by omega, rfl, hcr, hmr⟩
end Go.Proofs.YtfemmnhfllbgjaaGreatDoor
/- Tokens by the program's way, in plain words: the mac by a key that is folded once, a number held against how it is written, a text parted in three. -/
namespace Go.Proofs.YtfemmnhfllbgjaaGreatDoor
open Go.RowKit
set_option maxRecDepth 100000
set_option linter.unusedSimpArgs false
set_option linter.unusedVariables false
/-- What a key's bytes make of a factor. -/
def facL (f : Int) : List Int → Int
  | [] => f
  | _ :: l => facL (f * 1000003 % 2147483647) l
theorem facL_app (f : Int) (a b : List Int) : facL f (a ++ b) = facL (facL f a) b := by
  induction a generalizing f with
  | nil => rfl
  | cons x a ih => exact ih _
theorem facS_range (f : Int) : 0 ≤ f * 1000003 % 2147483647 ∧ f * 1000003 % 2147483647 ≤ 2147483646 := by
  have h1 := Int.emod_nonneg (f * 1000003) (show (2147483647 : Int) ≠ 0 by decide)
  have h2 := Int.emod_lt_of_pos (f * 1000003) (show (0 : Int) < 2147483647 by decide)
  omega
theorem facL_range {f : Int} (l : List Int) (h0 : 0 ≤ f) (h1 : f ≤ 2147483646) : 0 ≤ facL f l ∧ facL f l ≤ 2147483646 := by
  induction l generalizing f with
  | nil => exact ⟨h0, h1⟩
  | cons b l ih => have := facS_range f; exact ih this.1 this.2
theorem fold_gen (h0 : Int) (l : List Int) : ∀ f m : Int, macL ((h0 * f + m) % 2147483647) l = (h0 * facL f l + macL m l) % 2147483647 := by
  induction l with
  | nil => intro f m; rfl
  | cons b l ih =>
    intro f m
    show macL (macS ((h0 * f + m) % 2147483647) b) l = (h0 * facL (f * 1000003 % 2147483647) l + macL (macS m b) l) % 2147483647
    rw [← ih]
    congr 1
    have e1 : h0 * (f * 1000003 % 2147483647) = h0 * f * 1000003 - 2147483647 * (h0 * (f * 1000003 / 2147483647)) := by
      rw [Int.emod_def, Int.mul_sub, ← Int.mul_assoc, Int.mul_left_comm]
    unfold macS
    rw [e1]
    generalize h0 * f = p
    generalize h0 * (f * 1000003 / 2147483647) = r
    omega
/-- A key's bytes, one by one, and all of them at once. -/
theorem mac_fold {h : Int} (l : List Int) (h0 : 0 ≤ h) (h1 : h ≤ 2147483646) : (h * facL 1 l + macL 0 l) % 2147483647 = macL h l := by
  rw [← fold_gen]
  congr 1
  rw [Int.mul_one, Int.add_zero]
  exact Int.emod_eq_of_lt h0 (by omega)
theorem dd_dec (n : Nat) : (Lib.decDigits n).map (fun c => (c.toNat : Int)) = decL n := by
  induction n using Nat.strongRecOn with
  | _ n ih =>
    by_cases h : n < 10
    · rw [Lib.decDigits, dif_pos h, decL_one h]
      simp [UInt8.toNat_ofNat']; omega
    · rw [Lib.decDigits, dif_neg h, List.map_append, ih (n / 10) (by omega), decL_step h]
      congr 1
      simp [UInt8.toNat_ofNat']; omega
theorem bys_of (l : List UInt8) : bys (⟨l.toArray⟩ : ByteArray) = l.map (fun c => (c.toNat : Int)) := by simp [bys]
theorem itoa_dec (n : Nat) : (⟨(Lib.itoa (n : Int)).toArray⟩ : ByteArray) = strOf (decL n) := by
  refine bys_inj ?_
  rw [bys_strOf (fun x hx => by have := decL_range n x hx; omega), bys_of, Lib.itoa, if_neg (by omega), Int.toNat_natCast, dd_dec]
theorem val_mono {l : List Int} (h : ∀ x ∈ l, 48 ≤ x ∧ x ≤ 57) : ∀ a : Int, 0 ≤ a → a ≤ valL a l := by
  induction l with
  | nil => intro a _; exact Int.le_refl _
  | cons b l ih =>
    intro a ha
    have hb := h b (by simp)
    have := ih (fun x hx => h x (by simp [hx])) (a * 10 + (b - 48)) (by omega)
    show a ≤ valL (a * 10 + (b - 48)) l
    omega
theorem pu_val (l : List UInt8) : ∀ a : Nat, (∀ c ∈ l, 48 ≤ c.toNat ∧ c.toNat ≤ 57) → valL a (l.map fun c => (c.toNat : Int)) ≤ 1000000000000000 → Lib.parseUintM 18446744073709551615 a l = .ok (valL a (l.map fun c => (c.toNat : Int))).toNat := by
  induction l with
  | nil => intro a _ _; simp [Lib.parseUintM, valL]
  | cons c l ih =>
    intro a h hv
    have hc := h c (by simp)
    have hl : ∀ x ∈ l.map (fun c => (c.toNat : Int)), 48 ≤ x ∧ x ≤ 57 := by
      intro x hx
      obtain ⟨d, hd, rfl⟩ := List.mem_map.1 hx
      have := h d (by simp [hd])
      omega
    have e : ((a * 10 + (c.toNat - 48) : Nat) : Int) = (a : Int) * 10 + ((c.toNat : Int) - 48) := by omega
    have hv' : valL ((a * 10 + (c.toNat - 48) : Nat) : Int) (l.map fun c => (c.toNat : Int)) ≤ 1000000000000000 := by rw [e]; exact hv
    have hm := val_mono hl ((a * 10 + (c.toNat - 48) : Nat) : Int) (by omega)
    rw [Lib.parseUintM, if_pos hc, if_neg (by omega), if_neg (by omega), ih _ (fun x hx => h x (by simp [hx])) hv', e]
    rfl
theorem dd_range (n : Nat) : ∀ c ∈ Lib.decDigits n, 48 ≤ c.toNat ∧ c.toNat ≤ 57 := by
  intro c hc
  have := decL_range n (c.toNat : Int) (by rw [← dd_dec]; exact List.mem_map.2 ⟨c, hc, rfl⟩)
  omega
theorem parse_dec {n : Nat} (h : n ≤ 1000000000000000) : Lib.parseIntB 64 (Lib.decDigits n) = .ok (n : Int) := by
  have hr := dd_range n
  have hv : valL ((0 : Nat) : Int) ((Lib.decDigits n).map fun c => (c.toNat : Int)) = n := by rw [dd_dec]; exact valL_dec n
  have hp := pu_val (Lib.decDigits n) 0 hr (by rw [hv]; omega)
  rw [hv] at hp
  have hl : 1 ≤ (Lib.decDigits n).length := by have := decL_len n; rw [← dd_dec, List.length_map] at this; exact this
  cases hd : Lib.decDigits n with
  | nil => rw [hd] at hl; simp at hl
  | cons c r =>
    rw [hd] at hp hr
    have hc := hr c (by simp)
    have e1 : (if c.toNat = 43 ∨ c.toNat = 45 then r else c :: r) = c :: r := if_neg (by omega)
    have e2 : Lib.parseUintB 64 (c :: r) = .ok n := by
      unfold Lib.parseUintB
      rw [if_neg (by simp)]
      exact hp
    unfold Lib.parseIntB
    simp only [e1, e2]
    rw [if_neg (by simp; omega), if_neg (by omega), if_neg (by omega)]
/-- A number from 0 to most, as it is written. -/
def numT (s : ByteArray) (most : Nat) : Int × Bool := if 0 ≤ valL 0 (bys s) ∧ valL 0 (bys s) ≤ most ∧ bys s = decL (valL 0 (bys s)).toNat then (valL 0 (bys s), true) else (0, false)
theorem num_dec {n most : Nat} (h : n ≤ most) : numT (strOf (decL n)) most = ((n : Int), true) := by
  have e : bys (strOf (decL n)) = decL n := bys_strOf (fun x hx => by have := decL_range n x hx; omega)
  unfold numT
  rw [e, valL_dec, if_pos ⟨by omega, by omega, by rw [Int.toNat_natCast]⟩]
theorem num_cases (s : ByteArray) (most : Nat) : (∃ n : Nat, n ≤ most ∧ s = strOf (decL n) ∧ numT s most = ((n : Int), true)) ∨ ((∀ n : Nat, n ≤ most → s ≠ strOf (decL n)) ∧ numT s most = (0, false)) := by
  by_cases h : 0 ≤ valL 0 (bys s) ∧ valL 0 (bys s) ≤ most ∧ bys s = decL (valL 0 (bys s)).toNat
  · refine Or.inl ⟨(valL 0 (bys s)).toNat, by omega, ?_, ?_⟩
    · rw [← h.2.2, strOf_bys]
    · unfold numT
      rw [if_pos h]
      have : (((valL 0 (bys s)).toNat : Nat) : Int) = valL 0 (bys s) := by omega
      rw [this]
  · refine Or.inr ⟨fun n hn e => h ?_, by unfold numT; rw [if_neg h]⟩
    have eb : bys s = decL n := by rw [e]; exact bys_strOf (fun x hx => by have := decL_range n x hx; omega)
    rw [eb, valL_dec]
    exact ⟨by omega, by omega, by rw [Int.toNat_natCast]⟩
theorem val_pos {l : List Int} (h : ∀ x ∈ l, 48 ≤ x ∧ x ≤ 57) (h1 : l ≠ []) (h0 : l.head? ≠ some 48) : 0 < valL 0 l := by
  cases l with
  | nil => exact absurd rfl h1
  | cons b l =>
    have hb := h b (by simp)
    have : b ≠ 48 := fun e => h0 (by rw [e]; rfl)
    have := val_mono (l := l) (fun x hx => h x (by simp [hx])) (0 * 10 + (b - 48)) (by omega)
    show 0 < valL (0 * 10 + (b - 48)) l
    omega
theorem dec_snoc : ∀ (k : Nat) (l : List Int), l.length = k → (∀ x ∈ l, 48 ≤ x ∧ x ≤ 57) → l ≠ [] → ¬ (l.head? = some 48 ∧ 1 < l.length) → decL (valL 0 l).toNat = l
  | 0, l, hk, _, h1, _ => absurd (List.eq_nil_of_length_eq_zero hk) h1
  | k + 1, l, hk, h, h1, h0 => by
    rcases List.eq_nil_or_concat l with rfl | ⟨l', d, rfl⟩
    · exact absurd rfl h1
    · rw [List.concat_eq_append] at *
      have hd := h d (by simp)
      have hl' : ∀ x ∈ l', 48 ≤ x ∧ x ≤ 57 := fun x hx => h x (by simp [hx])
      rw [valL_app]
      show decL (valL 0 l' * 10 + (d - 48)).toNat = l' ++ [d]
      by_cases hn : l' = []
      · subst hn
        show decL (0 * 10 + (d - 48)).toNat = [d]
        rw [decL_one (by omega)]
        congr 1
        omega
      · have hlen : 1 ≤ l'.length := by cases l' with
          | nil => exact absurd rfl hn
          | cons _ _ => simp
        have hh : l'.head? ≠ some 48 := fun e => h0 ⟨by cases l' with
          | nil => exact absurd rfl hn
          | cons _ _ => simpa using e, by simp; omega⟩
        have hp := val_pos hl' hn hh
        have ih := dec_snoc k l' (by simp at hk; omega) hl' hn (fun c => hh c.1)
        have e1 : (valL 0 l' * 10 + (d - 48)).toNat / 10 = (valL 0 l').toNat := by omega
        have e2 : (valL 0 l' * 10 + (d - 48)).toNat % 10 = (d - 48).toNat := by omega
        rw [decL_step (by omega), e1, e2, ih]
        congr 2
        omega
/-- The model's reading and the program's. -/
theorem dig_num {s : ByteArray} {k most : Nat} (hm : most < 10 ^ k) (hk : 0 < k) : ((digV s k).2 = true ∧ inB (digV s k).1 0 most = true ↔ (numT s most).2 = true) ∧ ((numT s most).2 = true → (numT s most).1 = (digV s k).1) := by
  have back : (numT s most).2 = true → digV s k = ((numT s most).1, true) ∧ inB (numT s most).1 0 most = true := by
    intro h
    rcases num_cases s most with ⟨n, hn, e, hv⟩ | ⟨_, hv⟩
    · rw [hv]
      refine ⟨?_, inB_of (by omega) (by omega)⟩
      have eb : bys s = decL n := by rw [e]; exact bys_strOf (fun x hx => by have := decL_range n x hx; omega)
      unfold digV
      rw [eb, if_neg, digL_dec (decL_short k n (by omega) hk)]
      intro c
      have := decL_range n 45 (List.mem_of_head? c)
      omega
    · rw [hv] at h; cases h
  refine ⟨⟨fun h => ?_, fun h => by rw [(back h).1]; exact ⟨rfl, (back h).2⟩⟩, fun h => by rw [(back h).1]⟩
  obtain ⟨h2, hin⟩ := h
  obtain ⟨i0, i1⟩ := inB_true hin
  by_cases hneg : (bys s).head? = some 45
  · exfalso
    unfold digV at h2 i0
    rw [if_pos hneg] at h2 i0
    generalize (bys s).drop 1 = l at h2 i0
    unfold digL at h2 i0
    split at h2
    · cases h2
    · rename_i c1
      rw [if_neg c1] at i0
      split at h2
      · cases h2
      · rename_i c2
        rw [if_neg c2] at i0
        split at h2
        · cases h2
        · rename_i c3
          rw [if_neg c3] at i0
          have ha : ∀ x ∈ l, 48 ≤ x ∧ x ≤ 57 := fun x hx => inB_true (List.all_eq_true.1 (by simpa using c2) x hx)
          have hp := val_pos ha (fun e => c1 (by rw [e]; simp)) (fun e => c3 ⟨e, Or.inl rfl⟩)
          simp at i0
          omega
  · unfold digV at h2 i0 i1
    rw [if_neg hneg] at h2 i0 i1
    unfold digL at h2 i0 i1
    split at h2
    · cases h2
    · rename_i c1
      rw [if_neg c1] at i0 i1
      split at h2
      · cases h2
      · rename_i c2
        rw [if_neg c2] at i0 i1
        split at h2
        · cases h2
        · rename_i c3
          rw [if_neg c3] at i0 i1
          have ha : ∀ x ∈ bys s, 48 ≤ x ∧ x ≤ 57 := fun x hx => inB_true (List.all_eq_true.1 (by simpa using c2) x hx)
          have hd := dec_snoc _ (bys s) rfl ha (fun e => c1 (by rw [e]; simp)) (fun c => c3 ⟨c.1, Or.inr c.2⟩)
          simp at i0 i1
          unfold numT
          rw [if_pos ⟨i0, i1, hd.symm⟩]
/-- A text parted at the first k signs 46 at most. -/
def spl : Nat → List Int → List (List Int)
  | 0, l => [l]
  | k + 1, l => if 46 ∈ l then l.takeWhile (· != 46) :: spl k ((l.dropWhile (· != 46)).drop 1) else [l]
theorem at46 {l : List Int} (h : 46 ∈ l) : ∃ a b, l = a ++ 46 :: b ∧ (∀ x ∈ a, x ≠ 46) ∧ l.takeWhile (· != 46) = a ∧ (l.dropWhile (· != 46)).drop 1 = b := by
  induction l with
  | nil => cases h
  | cons x l ih =>
    by_cases e : x = 46
    · subst e
      exact ⟨[], l, rfl, fun _ h => (by cases h), by simp, by simp⟩
    · obtain ⟨a, b, h1, h2, h3, h4⟩ := ih (by simpa [Ne.symm e] using h)
      refine ⟨x :: a, b, by rw [h1]; rfl, ?_, ?_, ?_⟩
      · intro y hy
        rcases List.mem_cons.1 hy with rfl | hy
        · exact e
        · exact h2 y hy
      · rw [List.takeWhile_cons, if_pos (by simpa using e), h3]
      · rw [List.dropWhile_cons, if_pos (by simpa using e), h4]
theorem spl_app {a b : List Int} (k : Nat) (h : ∀ x ∈ a, x ≠ 46) : spl (k + 1) (a ++ 46 :: b) = a :: spl k b := by
  have hm : 46 ∈ a ++ 46 :: b := by simp
  rw [spl, if_pos hm]
  have e1 : (a ++ 46 :: b).takeWhile (· != 46) = a := by
    rw [List.takeWhile_append_of_pos (by intro x hx; simpa using h x hx)]; simp
  have e2 : (a ++ 46 :: b).dropWhile (· != 46) = 46 :: b := by
    rw [List.dropWhile_append_of_pos (by intro x hx; simpa using h x hx)]; simp
  rw [e1, e2]; rfl
theorem spl_none {l : List Int} (k : Nat) (h : ¬ 46 ∈ l) : spl k l = [l] := by
  cases k with
  | zero => rfl
  | succ k => unfold spl; rw [if_neg h]
theorem spl_more : ∀ (k : Nat) (l : List Int), l.length ≤ k → spl (k + 1) l = spl k l
  | 0, l, h => by rw [List.eq_nil_of_length_eq_zero (Nat.le_zero.1 h)]; rfl
  | k + 1, l, h => by
    by_cases hm : 46 ∈ l
    · obtain ⟨a, b, rfl, ha, _, _⟩ := at46 hm
      rw [spl_app _ ha, spl_app _ ha, spl_more k b (by simp at h; omega)]
    · rw [spl_none _ hm, spl_none _ hm]
theorem spl_min (l : List Int) : spl (min 3 (l.length + 1) - 1) l = spl 2 l := by
  match l with
  | [] => rfl
  | [x] => exact (spl_more 1 [x] (by simp)).symm
  | x :: y :: l =>
    have : min 3 ((x :: y :: l).length + 1) - 1 = 2 := by simp only [List.length_cons]; omega
    rw [this]
theorem idx46 (s : ByteArray) : (Lib.indexB s ⟨#[46]⟩ = -1 ∧ ¬ 46 ∈ bys s) ∨ ∃ i : Nat, i < s.size ∧ Lib.indexB s ⟨#[46]⟩ = i ∧ bys s = (bys s).take i ++ 46 :: (bys s).drop (i + 1) ∧ ∀ x ∈ (bys s).take i, x ≠ 46 := by
  have hi : Lib.indexB s ⟨#[46]⟩ = Lib.indexByte s.data.toList 46 := Lib.index_one s.data.toList 46
  rw [hi]
  have hge := Lib.indexByte_ge s.data.toList 46
  by_cases h : Lib.indexByte s.data.toList 46 = -1
  · refine Or.inl ⟨h, fun hm => ?_⟩
    obtain ⟨c, hc, e⟩ := List.mem_map.1 hm
    obtain ⟨k, hk, e2⟩ := List.mem_iff_getElem.1 hc
    refine Lib.indexByte_none h k ?_
    rw [List.getElem?_eq_getElem hk, e2]
    congr 1
    have : c.toNat = 46 := by omega
    exact UInt8.toNat_inj.1 this
  · obtain ⟨i, hi2⟩ : ∃ i : Nat, Lib.indexByte s.data.toList 46 = i := ⟨(Lib.indexByte s.data.toList 46).toNat, by omega⟩
    obtain ⟨h1, h2⟩ := Lib.indexByte_some hi2
    obtain ⟨hlt, hg⟩ := List.getElem?_eq_some_iff.1 h1
    have hlt' : i < s.size := by simpa using hlt
    have hlb : i < (bys s).length := by rw [bys_len]; exact hlt'
    refine Or.inr ⟨i, hlt', hi2, ?_, ?_⟩
    · have e : (bys s)[i] = 46 := by
        have e3 : (bys s)[i]? = some 46 := by unfold bys; rw [List.getElem?_map, h1]; rfl
        rw [List.getElem?_eq_getElem hlb] at e3
        exact Option.some.inj e3
      conv => lhs; rw [← List.take_append_drop i (bys s), List.drop_eq_getElem_cons hlb, e]
    · intro x hx e
      obtain ⟨k, hk, e2⟩ := List.mem_iff_getElem.1 hx
      rw [List.length_take] at hk
      rw [List.getElem_take] at e2
      refine h2 k (by omega) ?_
      have e3 : (bys s)[k]? = some 46 := by rw [List.getElem?_eq_getElem (by rw [bys_len]; omega), e2, e]
      unfold bys at e3
      rw [List.getElem?_map] at e3
      cases hq : s.data.toList[k]? with
      | none => rw [hq] at e3; cases e3
      | some c =>
        rw [hq] at e3
        have e4 : (c.toNat : Int) = 46 := Option.some.inj e3
        congr 1
        have : c.toNat = 46 := by omega
        exact UInt8.toNat_inj.1 this
theorem splitB_spl : ∀ (k : Nat) (s : ByteArray), (Lib.splitB ⟨#[46]⟩ 0 k s).map bys = spl k (bys s)
  | 0, _ => rfl
  | k + 1, s => by
    rcases idx46 s with ⟨h, hn⟩ | ⟨i, hi, h, e, ha⟩
    · rw [Lib.splitB_miss _ _ _ _ h, spl_none _ hn]; rfl
    · rw [Lib.splitB_hit _ _ _ _ i h, List.map_cons, splitB_spl k]
      have e1 : bys (s.extract 0 (i + 0)) = (bys s).take i := by rw [bys_extract]; simp
      have e2 : bys (s.extract (i + (⟨#[46]⟩ : ByteArray).size) s.size) = (bys s).drop (i + 1) := by
        rw [bys_extract, List.take_of_length_le (by rw [bys_len]; omega)]; rfl
      rw [e1, e2]
      conv => rhs; rw [e]
      rw [spl_app _ ha]
theorem splitL_two {l : List Int} (h : 46 ∈ l) : 2 ≤ (splitL l).length := by
  obtain ⟨a, b, rfl, ha, _, _⟩ := at46 h
  rw [splitL_app ha]
  have : splitL b ≠ [] := by
    cases b with
    | nil => simp [splitL]
    | cons x b =>
      unfold splitL
      split
      · simp
      · split <;> simp
  cases hs : splitL b with
  | nil => exact absurd hs this
  | cons x r => simp
theorem num_46 {l : List Int} (most : Nat) (h : 46 ∈ l) (hr : ∀ x ∈ l, 0 ≤ x ∧ x ≤ 255) : (numT (strOf l) most).2 = false := by
  rcases num_cases (strOf l) most with ⟨n, _, e, _⟩ | ⟨_, hv⟩
  · have eb : l = decL n := by
      have := congrArg bys e
      rw [bys_strOf hr, bys_strOf (fun x hx => by have := decL_range n x hx; omega)] at this
      exact this
    rw [eb] at h
    have := decL_range n 46 h
    omega
  · rw [hv]
/-- ReadToken, of three parts. -/
def readW (x y z : ByteArray) : ByteArray × Int × Bool := if nameB x = true ∧ (numT y 1000000).2 = true ∧ (numT z 2147483646).2 = true then (x, (numT y 1000000).1, true) else (⟨#[]⟩, 0, false)
theorem read_way (s : ByteArray) : readV s = match Lib.splitB ⟨#[46]⟩ 0 (min 3 (s.size + 1) - 1) s with
    | [x, y, z] => readW x y z
    | _ => (⟨#[]⟩, 0, false) := by
  have hm := splitB_spl (min 3 (s.size + 1) - 1) s
  rw [← bys_len s, spl_min, bys_len s] at hm
  generalize Lib.splitB ⟨#[46]⟩ 0 (min 3 (s.size + 1) - 1) s = P at hm
  have hrs := bys_range s
  have back : ∀ {Q : List ByteArray} {l : List (List Int)}, Q.map bys = l → Q = l.map strOf := by
    intro Q l h
    rw [← h, List.map_map]
    have : strOf ∘ bys = id := funext strOf_bys
    rw [this, List.map_id]
  by_cases h1 : 46 ∈ bys s
  · obtain ⟨a, b, e, ha, _, _⟩ := at46 h1
    rw [e, spl_app _ ha] at hm
    by_cases h2 : 46 ∈ b
    · obtain ⟨a2, b2, e2, ha2, _, _⟩ := at46 h2
      rw [e2, spl_app _ ha2] at hm
      have hP := back hm
      rw [show spl 0 b2 = [b2] from rfl] at hP
      rw [hP]
      show readV s = readW (strOf a) (strOf a2) (strOf b2)
      have hs : splitL (bys s) = a :: a2 :: splitL b2 := by rw [e, e2, splitL_app ha, splitL_app ha2]
      by_cases h3 : 46 ∈ b2
      · have hn := num_46 (l := b2) 2147483646 h3 (fun x hx => hrs x (by rw [e, e2]; simp [hx]))
        have h2l := splitL_two h3
        unfold readW
        rw [if_neg (by rw [hn]; simp)]
        unfold readV
        rw [hs]
        cases hb : splitL b2 with
        | nil => rfl
        | cons x r =>
          cases r with
          | nil => rw [hb] at h2l; simp at h2l
          | cons y r => rfl
      · rw [splitL_none (l := b2) (fun x hx e => h3 (by rw [← e]; exact hx))] at hs
        have d1 := dig_num (s := strOf a2) (k := 9) (most := 1000000) (by decide) (by decide)
        have d2 := dig_num (s := strOf b2) (k := 10) (most := 2147483646) (by decide) (by decide)
        unfold readV readW
        rw [hs]
        by_cases hc : nameB (strOf a) = true ∧ (numT (strOf a2) 1000000).2 = true ∧ (numT (strOf b2) 2147483646).2 = true
        · have q1 := d1.1.2 hc.2.1
          have q2 := d2.1.2 hc.2.2
          rw [if_pos hc, d1.2 hc.2.1]
          exact if_pos ⟨hc.1, q1.1, q2.1, q1.2, q2.2⟩
        · rw [if_neg hc]
          exact if_neg fun c => hc ⟨c.1, d1.1.1 ⟨c.2.1, c.2.2.2.1⟩, d2.1.1 ⟨c.2.2.1, c.2.2.2.2⟩⟩
    · rw [spl_none _ h2] at hm
      have hP := back hm
      rw [hP]
      show readV s = (⟨#[]⟩, 0, false)
      have hs : splitL (bys s) = [a, b] := by rw [e, splitL_app ha, splitL_none (fun x hx e => h2 (by rw [← e]; exact hx))]
      unfold readV
      rw [hs]
  · rw [spl_none _ h1] at hm
    have hP := back hm
    rw [hP]
    show readV s = (⟨#[]⟩, 0, false)
    unfold readV
    rw [splitL_none (fun x hx e => h1 (by rw [← e]; exact hx))]
end Go.Proofs.YtfemmnhfllbgjaaGreatDoor
