/- Texts in rows, as a make of data: counted, copied, held against each other, marked, read again. -/
import Derived.Test.YtnadephjbglcfaaGreatDoorShape2
import Derived.Test.YtnadephjbglcfaaGreatDoorLater
import Derived.Test.YtnadephjbglcfaaGreatDoorShOpen

namespace Go.Proofs.YtnadephjbglcfaaGreatDoor
open Go.RowKit
set_option maxRecDepth 100000
set_option linter.unusedSimpArgs false
set_option linter.unusedVariables false
def strS : Shp ByteArray where
  size := 1
  ty := 9
  rd := fun _ cs d => cs = [.string d] ∧ d.size ≤ 9223372036854775807
  own := fun _ cs d bs => cs = [.string d] ∧ d.size ≤ 9223372036854775807 ∧ bs = []
  pos := by decide
  rd_len := fun h => by obtain ⟨rfl, _⟩ := h; rfl
  rd_one := fun h u hu => by obtain ⟨rfl, _⟩ := h; simp only [List.mem_cons, List.not_mem_nil, or_false] at hu; rcases hu with rfl; rfl
  rd_new := fun h _ => h
  own_rd := fun h => ⟨h.1, h.2.1⟩
  own_keep := fun h _ _ => h
  own_lt := fun h b hb => by rw [h.2.2] at hb; cases hb
theorem sv_flat (L : List ByteArray) : L.flatMap (fun d => [Value.string d]) = L.map Value.string := by induction L <;> simp_all
theorem rd_strs {w : World} {v : Value} {L : List ByteArray} (h : RdR strS w v L) : Reads w v L.length 1 (L.map Value.string) := by
  have := RdR.flat (E := strS) (f := fun d => [Value.string d]) (fun _ _ _ h => h.1) h
  rw [sv_flat] at this
  exact this
theorem rd_small {w : World} {v : Value} {L : List ByteArray} (h : RdR strS w v L) : ∀ x ∈ L, x.size ≤ 9223372036854775807 := by
  obtain ⟨ts, rfl, _, hE⟩ := h
  intro x hx
  obtain ⟨t, ht, rfl⟩ := List.mem_map.1 hx
  exact (hE t ht).2
theorem strs_rd {w : World} {v : Value} {L : List ByteArray} (h : Reads w v L.length 1 (L.map Value.string)) (hs : ∀ x ∈ L, x.size ≤ 9223372036854775807) : RdR strS w v L := by
  refine ⟨L.map fun d => ([.string d], d), by simp [Function.comp_def], ?_, fun t ht => ?_⟩
  · rw [← sv_flat] at h
    have h2 : Reads w v L.length strS.size (L.flatMap fun z => [Value.string z]) := h
    simpa [List.flatMap_map] using h2
  · obtain ⟨d, hd, rfl⟩ := List.mem_map.1 ht
    exact ⟨rfl, hs d hd⟩
theorem ow_strs {w : World} {lo hi : Nat} {v : Value} {L : List ByteArray} (h : OwX strS w lo hi v L) : w.ownsRow lo 9 1 v L.length (L.map Value.string) := by
  have := OwX.flat (E := strS) (f := fun d => [Value.string d]) (fun _ _ _ h => h.1) h
  rw [sv_flat] at this
  exact this
theorem strs_ow {w : World} {lo : Nat} {v : Value} {L : List ByteArray} (h : w.ownsRow lo 9 1 v L.length (L.map Value.string)) (hs : ∀ x ∈ L, x.size ≤ 9223372036854775807) : OwX strS w lo w.heap.size v L := by
  refine owX_flat (f := fun d => [Value.string d]) (fun d hd => ⟨rfl, hs d hd, rfl⟩) ?_
  rw [sv_flat]
  exact h
theorem strs_at {w : World} {ad : Option Addr} {n cap k : Nat} {L : List ByteArray} (h : RdR strS w (.slice ad n cap) L) (hk : k < L.length) : ∃ b o, ad = some ⟨b, o, none⟩ ∧ b < w.heap.size ∧ w.cell? ⟨b, o + k, none⟩ = some (.string L[k]) ∧ L[k].size ≤ 9223372036854775807 := by
  obtain ⟨b, o, cs, e, hb, hrd, hc⟩ := h.at k hk
  obtain ⟨rfl, hs⟩ := hrd
  have h0 := hc 0 _ rfl
  have e1 : o + k * strS.size + 0 = o + k := by show o + k * 1 + 0 = o + k; omega
  rw [e1] at h0
  exact ⟨b, o, e, hb, h0, hs⟩
def szStringS (L : List ByteArray) : Int := L.length + sumLs (fun d => (d.size : Int)) L
theorem szStr_nn (d : ByteArray) : 0 ≤ ((d.size : Int)) := by omega
theorem szStringS_nn (L : List ByteArray) : 0 ≤ szStringS L := by unfold szStringS; have := sum_nn (fun d : ByteArray => (d.size : Int)) szStr_nn L; omega
theorem szStringS_len (L : List ByteArray) : (L.length : Int) ≤ szStringS L := by unfold szStringS; have := sum_nn (fun d : ByteArray => (d.size : Int)) szStr_nn L; omega
theorem szStringS_mem {L : List ByteArray} {d : ByteArray} (h : d ∈ L) : (d.size : Int) ≤ szStringS L := by unfold szStringS; have := sum_mem (fun d : ByteArray => (d.size : Int)) szStr_nn L d h; omega
theorem owr_strs {w : World} {v : Value} {L : List ByteArray} {bs : List Nat} (h : OwR strS w v L bs) : w.ownsRow 0 9 1 v L.length (L.map Value.string) ∧ bs = v.ownBlock.toList := by
  obtain ⟨ts, rfl, ho, hE, rfl⟩ := h
  have e : ts.flatMap (fun t => t.1) = (ts.map (fun t => t.2.1)).map Value.string := by
    rw [← sv_flat, List.flatMap_map]
    have hh : ∀ t ∈ ts, t.1 = [Value.string t.2.1] := fun t ht => (hE t ht).1
    clear ho hE
    induction ts with
    | nil => rfl
    | cons t ts ih => simp only [List.flatMap_cons]; rw [ih (fun x hx => hh x (by simp [hx])), ← hh t (by simp)]
  have e2 : ts.flatMap (fun t => t.2.2) = [] := by
    have hh : ∀ t ∈ ts, t.2.2 = [] := fun t ht => (hE t ht).2.2
    clear ho hE e
    induction ts with
    | nil => rfl
    | cons t ts ih => simp only [List.flatMap_cons]; rw [ih (fun x hx => hh x (by simp [hx])), hh t (by simp)]; rfl
  rw [e] at ho
  have ho2 : w.ownsRow 0 9 1 v ts.length ((ts.map (fun t => t.2.1)).map Value.string) := ho
  refine ⟨by simpa using ho2, by rw [e2]; simp⟩
theorem strs_owr {w : World} {v : Value} {L : List ByteArray} (h : w.ownsRow 0 9 1 v L.length (L.map Value.string)) (hs : ∀ x ∈ L, x.size ≤ 9223372036854775807) : OwR strS w v L v.ownBlock.toList := by
  refine ⟨L.map fun d => ([.string d], d, []), by simp [Function.comp_def], ?_, fun t ht => ?_, ?_⟩
  · rw [← sv_flat] at h
    have h2 : w.ownsRow 0 strS.ty strS.size v L.length (L.flatMap fun z => [Value.string z]) := h
    simpa [List.flatMap_map] using h2
  · obtain ⟨d, hd, rfl⟩ := List.mem_map.1 ht
    exact ⟨rfl, hs d hd, rfl⟩
  · have : ∀ M : List ByteArray, (M.map fun d => (([.string d], d, []) : List Value × ByteArray × List Nat)).flatMap (fun t => t.2.2) = [] := fun M => by induction M <;> simp_all
    rw [this]; simp
open Go.ChangeShapes Go.WideShapes Go.ChangeAt Go.Joins in
theorem open_cellsStr {H : Type} {enc : TypeId × Value → H} {W : World} {base : Nat} {spare : Nat → Bool} {held : Bool} {fuel : Nat} {cs : List Value} {x : DataW H × List MemPlace} (h : DataW.trod enc Tryz.prog W base spare held fuel 9 cs = some x) : ∃ d : ByteArray, strS.rd W cs d := by
  obtain ⟨s, rfl, _, ws⟩ := DataW.trod_string Tryz.underlying9 h
  exact ⟨s, rfl, by unfold maxLen at ws; omega⟩
end Go.Proofs.YtnadephjbglcfaaGreatDoor
