/- Rows of whatever make: a row that is being filled, marks, sums. -/
import Derived.Test.YtfemmnhfllbgjaaGreatDoorShape
import Derived.Test.YtfemmnhfllbgjaaGreatDoorMade
namespace Go.Proofs.YtfemmnhfllbgjaaGreatDoor
open Go.RowKit
set_option maxRecDepth 100000
set_option linter.unusedSimpArgs false
set_option linter.unusedVariables false

section
variable {D : Type} (E : Shp D)
/-- A new row of as many elements as L has, of which the first k are filled with L's. -/
def Filling (w wr : World) (L : List D) (k : Nat) : Prop :=
  k ≤ L.length ∧ Below w.heap.size w wr ∧ w.heap.size < wr.heap.size ∧ ∃ (ts : List (List Value × D × List Nat)) (R : List Value), ts.map (·.2.1) = L.take k ∧ R.length = (L.length - k) * E.size ∧
    wr.ownsRow 0 E.ty E.size (.slice (some ⟨w.heap.size, 0, none⟩) L.length L.length) L.length (ts.flatMap (·.1) ++ R) ∧
    (∀ t ∈ ts, E.own wr t.1 t.2.1 t.2.2) ∧ (ts.flatMap (·.2.2)).Nodup ∧ ∀ b ∈ ts.flatMap (·.2.2), w.heap.size < b
variable {E}
theorem filling_start {w : World} {M : Array Value} {L : List D} (ho : (w.alloc (.cells M E.ty)).ownsRow w.heap.size E.ty E.size (.slice (some ⟨w.heap.size, 0, none⟩) L.length L.length) L.length M.toList) : Filling E w (w.alloc (.cells M E.ty)) L 0 :=
  ⟨Nat.zero_le _, (Below.refl _ _).alloc (Nat.le_refl _) _, by simp, [], M.toList, by simp, by simpa using ho.1, by simpa using owns_base ho (fun k hk => Nat.zero_le _), by simp, by simp, by simp⟩
theorem filling_step {w wr w1 : World} {L : List D} {k : Nat} {cs : List Value} (h : Filling E w wr L k) (hk : k < L.length) (hb : Below wr.heap.size wr w1) (hd : OwE E w1 wr.heap.size w1.heap.size cs L[k]) :
    (∀ r, r < E.size → ∃ u, w1.cell? ⟨w.heap.size, k * E.size + r, none⟩ = some u) ∧ (∀ j, w1.frozen? ⟨w.heap.size, j, none⟩ = false) ∧ w.heap.size < w1.heap.size ∧ Filling E w (setsFrom w1 w.heap.size (k * E.size) cs) L (k + 1) := by
  obtain ⟨hle, hbw, hlt, ts, R, hts, hR, ho, hE, hnd, hlo⟩ := h
  obtain ⟨b2, hd1, hd2, hd3⟩ := hd
  have ho1 := owns_new ho hb
  have hlen : ∀ t ∈ ts, t.1.length = E.size := fun t ht => E.rd_len (E.own_rd (hE t ht))
  have htl : ts.length = k := by have := congrArg List.length hts; simp at this; omega
  have hfl : (ts.flatMap (fun t : List Value × D × List Nat => t.1)).length = k * E.size := by rw [flat_len _ E.size ts hlen, htl]
  have hcl := E.rd_len (E.own_rd hd1)
  have hsz : (L.length - k) * E.size = E.size + (L.length - (k + 1)) * E.size := by
    rw [show L.length - k = (L.length - (k + 1)) + 1 by omega, Nat.succ_mul]; omega
  obtain ⟨g, cap, e1, hg, _, hgl, _, _, hc, hf⟩ := owns_open ho1 (by omega)
  simp only [Value.slice.injEq, Option.some.injEq, Addr.mk.injEq] at e1
  obtain ⟨⟨rfl, _, _⟩, _, _⟩ := e1
  refine ⟨fun r hr => ?_, hf, by have := hb.size; omega, by omega, ?_, ?_, ts ++ [(cs, L[k], b2)], R.drop E.size, ?_, ?_, ?_, ?_, ?_, ?_⟩
  · have hin : k * E.size + r < (ts.flatMap (fun t : List Value × D × List Nat => t.1) ++ R).length := by rw [List.length_append, hfl, hR]; omega
    exact ⟨_, hc _ _ (List.getElem?_eq_getElem hin)⟩
  · exact setsFrom_below _ (Nat.le_refl _) _ _ _ (hbw.trans (hb.mono hbw.size))
  · rw [setsFrom_size]; have := hb.size; omega
  · rw [List.map_append, hts, List.take_succ_eq_append_getElem hk]; rfl
  · rw [List.length_drop, hR, hsz]; omega
  · have ho2 : w1.ownsRow 0 E.ty E.size (.slice (some ⟨w.heap.size, 0, none⟩) L.length L.length) L.length (ts.flatMap (·.1) ++ R.take E.size ++ R.drop E.size) := by rw [List.append_assoc, List.take_append_drop]; exact ho1
    have := owns_sets hg cs w1 _ _ _ ho2 (by rw [List.length_take, hR, hcl, hsz]; omega)
    rw [hfl] at this
    simpa using this
  · intro t ht
    rcases List.mem_append.1 ht with h | h
    · refine E.own_keep (hE t h) (by rw [setsFrom_size]; exact hb.size) fun x hx => ?_
      have hxm : x ∈ ts.flatMap (·.2.2) := List.mem_flatMap.2 ⟨t, h, hx⟩
      rw [setsFrom_other _ _ _ _ x (by have := hlo x hxm; omega)]
      exact hb.block x (E.own_lt (hE t h) x hx)
    · simp at h
      subst h
      refine E.own_keep hd1 (by rw [setsFrom_size]; exact Nat.le_refl _) fun x hx => setsFrom_other _ _ _ _ x (by have := hd3 x hx; omega)
  · rw [List.flatMap_append]
    refine nodup_mk hnd (by simpa using hd2) fun x hx hx2 => ?_
    obtain ⟨t, ht, hxt⟩ := List.mem_flatMap.1 hx
    have h1 := E.own_lt (hE t ht) x hxt
    have h2 : x ∈ b2 := by simpa using hx2
    have := hd3 x h2
    omega
  · intro x hx
    rw [List.flatMap_append] at hx
    rcases List.mem_append.1 hx with h | h
    · exact hlo x h
    · have h2 : x ∈ b2 := by simpa using h
      have := hd3 x h2
      omega
theorem filling_end {w wr : World} {L : List D} (h : Filling E w wr L L.length) : OwX E wr w.heap.size wr.heap.size (.slice (some ⟨w.heap.size, 0, none⟩) L.length L.length) L ∧ Below w.heap.size w wr := by
  obtain ⟨hle, hbw, hlt, ts, R, hts, hR, ho, hE, hnd, hlo⟩ := h
  have hR0 : R = [] := by rw [Nat.sub_self, Nat.zero_mul] at hR; exact List.length_eq_zero_iff.1 hR
  subst hR0
  rw [List.take_length] at hts
  have htl : ts.length = L.length := by rw [← hts]; simp
  refine ⟨⟨w.heap.size :: ts.flatMap (·.2.2), ⟨ts, hts.symm, by rw [htl]; simpa using ho, hE, by simp [Value.ownBlock]⟩, ?_, ?_⟩, hbw⟩
  · exact List.nodup_cons.2 ⟨fun h => by have := hlo _ h; omega, hnd⟩
  · intro b hb
    rcases List.mem_cons.1 hb with rfl | hb
    · omega
    · have := hlo b hb
      obtain ⟨t, ht, hbt⟩ := List.mem_flatMap.1 hb
      have := E.own_lt (hE t ht) b hbt
      omega
end
section
variable {D : Type} (mk1 : D → Nat → D) (c1 : D → Nat)
/-- The marks of a row, from k on; and how many. -/
def mkLs : List D → Nat → List D
  | [], _ => []
  | d :: L, k => mk1 d k :: mkLs L (k + c1 d)
def cntLs : List D → Nat
  | [] => 0
  | d :: L => c1 d + cntLs L
theorem cnt_app (A B : List D) : cntLs c1 (A ++ B) = cntLs c1 A + cntLs c1 B := by
  induction A with
  | nil => simp [cntLs]
  | cons a A ih => simp only [List.cons_append, cntLs, ih]; omega
theorem cnt_take (L : List D) (j : Nat) (h : j < L.length) : cntLs c1 (L.take (j + 1)) = cntLs c1 (L.take j) + c1 L[j] := by
  rw [List.take_succ_eq_append_getElem h, cnt_app]; simp [cntLs]
theorem cnt_le (L : List D) (j : Nat) : cntLs c1 (L.take j) ≤ cntLs c1 L := by
  have h : cntLs c1 L = cntLs c1 (L.take j) + cntLs c1 (L.drop j) := by rw [← cnt_app, List.take_append_drop]
  omega
theorem mk_len' (L : List D) (k : Nat) : (mkLs mk1 c1 L k).length = L.length := by
  induction L generalizing k with
  | nil => rfl
  | cons d L ih => simp [mkLs, ih]
theorem mk_app (A B : List D) (k : Nat) : mkLs mk1 c1 (A ++ B) k = mkLs mk1 c1 A k ++ mkLs mk1 c1 B (k + cntLs c1 A) := by
  induction A generalizing k with
  | nil => simp [mkLs, cntLs]
  | cons d A ih => simp only [List.cons_append, mkLs, cntLs, ih]; rw [Nat.add_assoc]
theorem mk_at (L : List D) (k j : Nat) (h : j < L.length) (h' : j < (mkLs mk1 c1 L k).length) : (mkLs mk1 c1 L k)[j] = mk1 L[j] (k + cntLs c1 (L.take j)) := by
  induction L generalizing k j with
  | nil => exact absurd h (Nat.not_lt_zero _)
  | cons d L ih =>
    cases j with
    | zero => simp [mkLs, cntLs]
    | succ j =>
      simp only [mkLs, List.getElem_cons_succ, List.take_succ_cons, cntLs]
      rw [ih (k + c1 d) j (by simpa using h) (by rw [mk_len']; simpa using h), Nat.add_assoc]
/-- Half marked: the first j. -/
def mixLs (L : List D) (k j : Nat) : List D := mkLs mk1 c1 (L.take j) k ++ L.drop j
theorem mix_len (L : List D) (k j : Nat) (h : j ≤ L.length) : (mixLs mk1 c1 L k j).length = L.length := by unfold mixLs; rw [List.length_append, mk_len', List.length_take, List.length_drop]; omega
theorem mix_at (L : List D) (k j : Nat) (h : j < L.length) (h' : j < (mixLs mk1 c1 L k j).length) : (mixLs mk1 c1 L k j)[j] = L[j] := by
  have e : (mixLs mk1 c1 L k j)[j]? = L[j]? := by
    unfold mixLs
    rw [List.getElem?_append_right (by rw [mk_len', List.length_take]; omega), mk_len', List.length_take, Nat.min_eq_left (Nat.le_of_lt h), Nat.sub_self, List.getElem?_drop]
    rfl
  rw [List.getElem?_eq_getElem h', List.getElem?_eq_getElem h] at e
  exact Option.some.inj e
theorem mix_step (L : List D) (k j : Nat) (h : j < L.length) : (mixLs mk1 c1 L k j).set j (mk1 L[j] (k + cntLs c1 (L.take j))) = mixLs mk1 c1 L k (j + 1) := by
  unfold mixLs
  rw [List.set_append_right _ _ (by rw [mk_len', List.length_take]; omega), List.take_succ_eq_append_getElem h, mk_app, mk_len', List.length_take, Nat.min_eq_left (Nat.le_of_lt h), Nat.sub_self, List.drop_eq_getElem_cons h]
  simp only [mkLs, List.set_cons_zero, List.append_assoc, List.cons_append, List.nil_append]
theorem mix_zero (L : List D) (k : Nat) : mixLs mk1 c1 L k 0 = L := by simp [mixLs, mkLs]
theorem mix_end (L : List D) (k : Nat) : mixLs mk1 c1 L k L.length = mkLs mk1 c1 L k := by simp [mixLs]
end
section
variable {D : Type} (f : D → Int)
/-- The sum over a row. -/
def sumLs : List D → Int
  | [] => 0
  | d :: L => f d + sumLs L
theorem sum_app (A B : List D) : sumLs f (A ++ B) = sumLs f A + sumLs f B := by
  induction A with
  | nil => simp [sumLs]
  | cons a A ih => simp only [List.cons_append, sumLs, ih]; omega
theorem sum_take (L : List D) (j : Nat) (h : j < L.length) : sumLs f (L.take (j + 1)) = sumLs f (L.take j) + f L[j] := by
  rw [List.take_succ_eq_append_getElem h, sum_app]; simp [sumLs]
theorem sum_nn (hf : ∀ d, 0 ≤ f d) (L : List D) : 0 ≤ sumLs f L := by
  induction L with
  | nil => simp [sumLs]
  | cons a A ih => have := hf a; simp only [sumLs]; omega
theorem sum_split (L : List D) (j : Nat) (h : j < L.length) : sumLs f L = sumLs f (L.take j) + f L[j] + sumLs f (L.drop (j + 1)) := by
  conv => lhs; rw [← List.take_append_drop (j + 1) L, sum_app, sum_take f L j h]
theorem sum_mem (hf : ∀ d, 0 ≤ f d) (L : List D) (d : D) (h : d ∈ L) : f d ≤ sumLs f L := by
  induction L with
  | nil => cases h
  | cons a A ih =>
    have := sum_nn f hf A
    have := hf a
    simp only [sumLs]
    rcases List.mem_cons.1 h with rfl | h
    · omega
    · have := ih h; omega
end
end Go.Proofs.YtfemmnhfllbgjaaGreatDoor
