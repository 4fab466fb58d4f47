/- Numbers in rows, as a make of data: the rows of int64 of text Ints in the words of text Shape. -/
import Derived.Test.YteojibdnphaooaaShape2
import Derived.Test.YteojibdnphaooaaInts
import Derived.Test.YteojibdnphaooaaOpenInts
import Derived.Test.YteojibdnphaooaaShOpen

namespace Go.Proofs.Yteojibdnphaooaa
open Go.RowKit
set_option maxRecDepth 100000
set_option linter.unusedSimpArgs false
set_option linter.unusedVariables false
def intS : Shp Int where
  size := 1
  ty := 2
  rd := fun _ cs d => cs = [.int .i64 d]
  own := fun _ cs d bs => cs = [.int .i64 d] ∧ bs = []
  pos := by decide
  rd_len := fun h => by subst h; rfl
  rd_one := fun h u hu => by subst h; simp only [List.mem_cons, List.not_mem_nil, or_false] at hu; rcases hu with rfl; rfl
  rd_new := fun h _ => h
  own_rd := fun h => h.1
  own_keep := fun h _ _ => h
  own_lt := fun h b hb => by rw [h.2] at hb; cases hb
theorem rd_ints {w : World} {v : Value} {L : List Int} (h : RdR intS w v L) : Reads w v L.length 1 (iv L) := by
  have := RdR.flat (f := fun d => [Value.int .i64 d]) (fun _ _ _ h => h) h
  rw [iv_flat] at this
  exact this
theorem ints_rd {w : World} {v : Value} {L : List Int} (h : Reads w v L.length 1 (iv L)) : RdR intS w v L := by
  refine ⟨L.map fun d => ([.int .i64 d], d), by simp [Function.comp_def], ?_, fun t ht => ?_⟩
  · rw [← iv_flat] at h
    have h2 : Reads w v L.length intS.size (L.flatMap fun z => [Value.int .i64 z]) := h
    simpa [List.flatMap_map] using h2
  · obtain ⟨d, _, rfl⟩ := List.mem_map.1 ht
    rfl
theorem ow_ints {w : World} {lo hi : Nat} {v : Value} {L : List Int} (h : OwX intS w lo hi v L) : w.ownsRow lo 2 1 v L.length (iv L) := by
  have := OwX.flat (f := fun d => [Value.int .i64 d]) (fun _ _ _ h => h) h
  rw [iv_flat] at this
  exact this
theorem ints_ow {w : World} {lo : Nat} {v : Value} {L : List Int} (h : w.ownsRow lo 2 1 v L.length (iv L)) : OwX intS w lo w.heap.size v L := by
  refine owX_flat (f := fun d => [Value.int .i64 d]) (fun d _ => ⟨rfl, rfl⟩) ?_
  rw [iv_flat]
  exact h
/-- The blocks of a row of numbers: its own one. -/
theorem owr_ints {w : World} {v : Value} {L : List Int} {bs : List Nat} (h : OwR intS w v L bs) : w.ownsRow 0 2 1 v L.length (iv L) ∧ bs = v.ownBlock.toList := by
  obtain ⟨ts, rfl, ho, hE, rfl⟩ := h
  have e : ts.flatMap (fun t => t.1) = iv (ts.map (fun t => t.2.1)) := by
    rw [← iv_flat, List.flatMap_map]
    have hh : ∀ t ∈ ts, t.1 = [Value.int .i64 t.2.1] := fun t ht => (hE t ht).1
    clear ho hE
    induction ts with
    | nil => rfl
    | cons t ts ih => simp only [List.flatMap_cons]; rw [ih (fun x hx => hh x (by simp [hx])), ← hh t (by simp)]
  have e2 : ts.flatMap (fun t => t.2.2) = [] := by
    have hh : ∀ t ∈ ts, t.2.2 = [] := fun t ht => (hE t ht).2
    clear ho hE e
    induction ts with
    | nil => rfl
    | cons t ts ih => simp only [List.flatMap_cons]; rw [ih (fun x hx => hh x (by simp [hx])), hh t (by simp)]; rfl
  rw [e] at ho
  have ho2 : w.ownsRow 0 2 1 v ts.length (iv (ts.map (fun t => t.2.1))) := ho
  refine ⟨by simpa using ho2, by rw [e2]; simp⟩
theorem ints_owr {w : World} {v : Value} {L : List Int} (h : w.ownsRow 0 2 1 v L.length (iv L)) : OwR intS w v L v.ownBlock.toList := by
  refine ⟨L.map fun d => ([.int .i64 d], d, []), by simp [Function.comp_def], ?_, fun t ht => ?_, ?_⟩
  · rw [← iv_flat] at h
    have h2 : w.ownsRow 0 intS.ty intS.size v L.length (L.flatMap fun z => [Value.int .i64 z]) := h
    simpa [List.flatMap_map] using h2
  · obtain ⟨d, _, rfl⟩ := List.mem_map.1 ht
    exact ⟨rfl, rfl⟩
  · have : ∀ M : List Int, (M.map fun d => (([.int .i64 d], d, []) : List Value × Int × List Nat)).flatMap (fun t => t.2.2) = [] := fun M => by induction M <;> simp_all
    rw [this]; simp
def szInt64S (L : List Int) : Int := L.length
theorem szInt64S_nn (L : List Int) : 0 ≤ szInt64S L := by unfold szInt64S; omega
theorem szInt64S_len (L : List Int) : (L.length : Int) ≤ szInt64S L := by unfold szInt64S; omega
def mkInt64S (L : List Int) (k : Nat) : List Int := (List.range L.length).map fun (j : Nat) => ((k : Int) + j)
def cntInt64S (L : List Int) : Nat := L.length
theorem mkInt_len (L : List Int) (k : Nat) : (mkInt64S L k).length = L.length := by simp [mkInt64S]
theorem mkInt_iv (L : List Int) (k : Nat) : iv (mkInt64S L k) = mk k L.length := by simp [iv, mkInt64S, mk, Function.comp_def]
theorem toInt64S (L : List Int) (v : Value) (w : World) (hr : RdR intS w v L) (hz : szInt64S L ≤ 1048576) :
    Calls Try.prog 65 #[v] w fun x w' => ∃ v', x = .returned v' ∧ OwX intS w' w.heap.size w'.heap.size v' L ∧ Below w.heap.size w w' :=
  (toInts L v w (rd_ints hr) (by unfold szInt64S at hz; omega)).mono fun x w' ⟨v', e, ho, hb⟩ => ⟨v', e, ints_ow ho, hb⟩
theorem eqInt64S (L : List Int) (v v' : Value) (w : World) (hr0 : RdR intS w v L) (hr1 : RdR intS w v' L) :
    Calls Try.prog 66 #[v, v'] w fun x w' => x = .returned (.bool true) ∧ Below w.heap.size w w' := eqInts L v v' w (rd_ints hr0) (rd_ints hr1)
theorem szInt64S1 (L : List Int) (v : Value) (left : Int) (w : World) (hr : RdR intS w v L) (h0 : 0 ≤ left) (h1 : left ≤ 1048576) :
    Calls Try.prog 64 #[v, .int .i64 left] w fun x w' => (x = .returned (.int .i64 (-1)) ∨ (x = .returned (.int .i64 (left - szInt64S L)) ∧ 0 ≤ left - szInt64S L)) ∧ Below w.heap.size w w' :=
  (szInts v L.length _ left w (rd_ints hr) h0 h1).mono fun x w' ⟨e, hw⟩ => by
    subst hw
    refine ⟨?_, Below.refl _ _⟩
    unfold szInt64S
    by_cases c : left - L.length < 0
    · rw [if_pos c] at e; exact .inl e
    · rw [if_neg c] at e; exact .inr ⟨e, by omega⟩
theorem markInt64S (L : List Int) (k : Nat) (v : Value) (bs : List Nat) (w : World) (ho : OwR intS w v L bs) (hn : bs.Nodup) (hk1 : k + cntInt64S L ≤ 1000000000) :
    Calls Try.prog 60 #[v, .int .i64 k] w fun x w' => x = .returned (.int .i64 ((k + cntInt64S L : Nat) : Int)) ∧ OwR intS w' v (mkInt64S L k) bs ∧ TurnB bs w w' := by
  obtain ⟨h, rfl⟩ := owr_ints ho
  unfold cntInt64S at *
  refine (markInts L.length k v _ 0 w h (by omega) (by omega)).mono fun x w' ⟨e, ho', hg⟩ => ?_
  refine ⟨by rw [e]; norm_cast, ?_, ?_⟩
  · apply ints_owr
    rw [mkInt_len, mkInt_iv]
    exact ho'
  · exact ⟨hg.os, hg.tape, hg.output, hg.size, fun q hq hnq => hg.block q hq (fun c => hnq (by rw [← c]; simp))⟩
theorem heldInt64S (L : List Int) (k : Nat) (v : Value) (w : World) (hr : RdR intS w v (mkInt64S L k)) (hk1 : k + cntInt64S L ≤ 1000000000) :
    Calls Try.prog 61 #[v, .int .i64 k] w fun x w' => x = .returned (.int .i64 ((k + cntInt64S L : Nat) : Int)) ∧ Below w.heap.size w w' := by
  unfold cntInt64S at *
  have h := rd_ints hr
  rw [mkInt_len, mkInt_iv] at h
  refine (heldInts L.length k v w h (by omega) (by omega)).mono fun x w' ⟨e, hw⟩ => ?_
  subst hw
  exact ⟨by rw [e]; norm_cast, Below.refl _ _⟩
open Go.ChangeShapes Go.WideShapes Go.ChangeAt Go.Joins in
theorem open_cellsInt {H : Type} {enc : TypeId × Value → H} {W : World} {base : Nat} {spare : Nat → Bool} {held : Bool} {fuel : Nat} {cs : List Value} {x : DataW H × List MemPlace} (h : DataW.trod enc Try.prog W base spare held fuel 2 cs = some x) : ∃ d : Int, intS.rd W cs d := by
  obtain ⟨z, rfl, _⟩ := DataW.trod_int Try.underlying2 h
  exact ⟨z, rfl⟩
end Go.Proofs.Yteojibdnphaooaa
