/- The pipe functions' answers in one form each, without cases; and what the law of chapter 1 asks of them, in plain words. -/
import Derived.Test.YthjiiemhlijgkaaDrawPipe3
import Derived.Handy

namespace Go.Proofs.Ythjiiemhlijgkaa
open Go.RowKit
set_option linter.unusedSimpArgs false
set_option linter.unusedVariables false

theorem PipeAt.below {w w' : World} {p : Nat} {r : Int} {b : ByteArray} {e k : Bool} (h : PipeAt w p r b e k) (hb : Below w.heap.size w w') : PipeAt w' p r b e k := by
  unfold PipeAt; rw [hb.block p h.lt]; exact h
theorem PipeAt.alloc {w : World} {p : Nat} {r : Int} {b : ByteArray} {e k : Bool} (h : PipeAt w p r b e k) (o : Obj) : PipeAt (w.alloc o) p r b e k := h.below (Joins.below_alloc1 w o)

def pR (r : Int) (b : ByteArray) (k : Bool) : Int := if okB r b k then r else 0
def fl (r : Int) (b : ByteArray) (k : Bool) (e : Bool) : Bool := okB r b k && e
def kB (r : Int) (b : ByteArray) (k : Bool) : ByteArray := if okB r b k then b else ⟨#[]⟩
def pushB (r : Int) (b s : ByteArray) (e k : Bool) : ByteArray := if okB r b k then (if e || k then b else b ++ s.extract 0 (comes r b s)) else ⟨#[]⟩
def pushN (r : Int) (b s : ByteArray) (e k : Bool) : Nat := if okB r b k then (if e || k then 0 else comes r b s) else 0
def pullB (r : Int) (b : ByteArray) (k : Bool) (n : Int) : ByteArray := if okB r b k then b.extract (goes n b) b.size else ⟨#[]⟩
def pullS (r : Int) (b : ByteArray) (k : Bool) (n : Int) : ByteArray := if okB r b k then b.extract 0 (goes n b) else ⟨#[]⟩
def newR (r : Int) : Int := if newB r then r else 0

theorem push_form (r : Int) (b s : ByteArray) (e k : Bool) : (if okB r b k then pushedV r b s e k else .tuple #[.agg #[.int .i64 0, .string ⟨#[]⟩, .bool false, .bool false], .int .i64 0]) = .tuple #[.agg #[.int .i64 (pR r b k), .string (pushB r b s e k), .bool (fl r b k e), .bool (fl r b k k)], .int .i64 (pushN r b s e k)] := by
  unfold pR pushB fl pushN pushedV
  cases okB r b k <;> cases e <;> cases k <;> rfl
theorem pull_form (r : Int) (b : ByteArray) (e k : Bool) (n : Int) : (if okB r b k then .tuple #[.agg #[.int .i64 r, .string (b.extract (goes n b) b.size), .bool e, .bool k], .string (b.extract 0 (goes n b))] else .tuple #[.agg #[.int .i64 0, .string ⟨#[]⟩, .bool false, .bool false], .string ⟨#[]⟩] : Value) = .tuple #[.agg #[.int .i64 (pR r b k), .string (pullB r b k n), .bool (fl r b k e), .bool (fl r b k k)], .string (pullS r b k n)] := by
  unfold pR pullB fl pullS
  cases okB r b k <;> cases e <;> cases k <;> rfl
theorem closed_form (r : Int) (b : ByteArray) (e k : Bool) : (if okB r b k then .agg #[.int .i64 r, .string b, .bool true, .bool k] else .agg #[.int .i64 0, .string ⟨#[]⟩, .bool false, .bool false] : Value) = .agg #[.int .i64 (pR r b k), .string (kB r b k), .bool (okB r b k), .bool (fl r b k k)] := by
  unfold pR kB fl
  cases okB r b k <;> cases k <;> rfl
theorem burst_form (r : Int) (b : ByteArray) (e k : Bool) : (if okB r b k then .agg #[.int .i64 r, .string ⟨#[]⟩, .bool e, .bool true] else .agg #[.int .i64 0, .string ⟨#[]⟩, .bool false, .bool false] : Value) = .agg #[.int .i64 (pR r b k), .string ⟨#[]⟩, .bool (fl r b k e), .bool (okB r b k)] := by
  unfold pR fl
  cases okB r b k <;> cases e <;> rfl
theorem new_form (r : Int) : (if newB r then .tuple #[.agg #[.int .i64 r, .string ⟨#[]⟩, .bool false, .bool false], .bool true] else .tuple #[.agg #[.int .i64 0, .string ⟨#[]⟩, .bool false, .bool false], .bool false] : Value) = .tuple #[.agg #[.int .i64 (newR r), .string ⟨#[]⟩, .bool false, .bool false], .bool (newB r)] := by
  unfold newR
  cases newB r <;> rfl

theorem implPushedF (r : Int) (b s : ByteArray) (e k : Bool) (w : World) (hb : b.size ≤ 4000) (hs : s.size ≤ 1048576) :
    Calls Try.prog 11 #[.agg #[.int .i64 r, .string b, .bool e, .bool k], .string s] w fun x w' => x = .returned (.tuple #[.agg #[.int .i64 (pR r b k), .string (pushB r b s e k), .bool (fl r b k e), .bool (fl r b k k)], .int .i64 (pushN r b s e k)]) ∧ Below w.heap.size w w' :=
  (implPushed r b s e k w (by unfold maxLen; omega) hs).mono fun x w' h => by rw [push_form] at h; exact h
theorem specPushedF (r : Int) (b s : ByteArray) (e k : Bool) (w : World) (hb : b.size ≤ 4000) (hs : s.size ≤ 1048576) :
    Calls Try.prog 18 #[.agg #[.int .i64 r, .string b, .bool e, .bool k], .string s] w fun x w' => x = .returned (.tuple #[.agg #[.int .i64 (pR r b k), .string (pushB r b s e k), .bool (fl r b k e), .bool (fl r b k k)], .int .i64 (pushN r b s e k)]) ∧ Below w.heap.size w w' :=
  (specPushed r b s e k w (by unfold maxLen; omega) hs).mono fun x w' h => by rw [push_form] at h; exact h
theorem implPulledF (r : Int) (b : ByteArray) (e k : Bool) (n : Int) (w : World) (hb : b.size ≤ 4000) :
    Calls Try.prog 13 #[.agg #[.int .i64 r, .string b, .bool e, .bool k], .int .i64 n] w fun x w' => x = .returned (.tuple #[.agg #[.int .i64 (pR r b k), .string (pullB r b k n), .bool (fl r b k e), .bool (fl r b k k)], .string (pullS r b k n)]) ∧ Below w.heap.size w w' :=
  (implPulled r b e k n w (by unfold maxLen; omega)).mono fun x w' h => by rw [pull_form] at h; exact h
theorem specPulledF (r : Int) (b : ByteArray) (e k : Bool) (n : Int) (w : World) (hb : b.size ≤ 4000) :
    Calls Try.prog 27 #[.agg #[.int .i64 r, .string b, .bool e, .bool k], .int .i64 n] w fun x w' => x = .returned (.tuple #[.agg #[.int .i64 (pR r b k), .string (pullB r b k n), .bool (fl r b k e), .bool (fl r b k k)], .string (pullS r b k n)]) ∧ Below w.heap.size w w' :=
  (specPulled r b e k n w (by unfold maxLen; omega)).mono fun x w' h => by rw [pull_form] at h; exact h
theorem implClosedF (r : Int) (b : ByteArray) (e k : Bool) (w : World) (hb : b.size ≤ 4000) :
    Calls Try.prog 21 #[.agg #[.int .i64 r, .string b, .bool e, .bool k]] w fun x w' => x = .returned (.agg #[.int .i64 (pR r b k), .string (kB r b k), .bool (okB r b k), .bool (fl r b k k)]) ∧ Below w.heap.size w w' :=
  (implClosed0 r b e k w (by unfold maxLen; omega) (by omega)).mono fun x w' h => by rw [closed_form r b e k] at h; exact h
theorem specClosedF (r : Int) (b : ByteArray) (e k : Bool) (w : World) (hb : b.size ≤ 4000) :
    Calls Try.prog 22 #[.agg #[.int .i64 r, .string b, .bool e, .bool k]] w fun x w' => x = .returned (.agg #[.int .i64 (pR r b k), .string (kB r b k), .bool (okB r b k), .bool (fl r b k k)]) ∧ Below w.heap.size w w' :=
  (specClosed r b e k w (by unfold maxLen; omega)).mono fun x w' h => by rw [closed_form r b e k] at h; exact h
theorem implBurstF (r : Int) (b : ByteArray) (e k : Bool) (w : World) (hb : b.size ≤ 4000) :
    Calls Try.prog 23 #[.agg #[.int .i64 r, .string b, .bool e, .bool k]] w fun x w' => x = .returned (.agg #[.int .i64 (pR r b k), .string ⟨#[]⟩, .bool (fl r b k e), .bool (okB r b k)]) ∧ Below w.heap.size w w' :=
  (implBurst r b e k w (by unfold maxLen; omega)).mono fun x w' h => by rw [burst_form r b e k] at h; exact h
theorem specBurstF (r : Int) (b : ByteArray) (e k : Bool) (w : World) (hb : b.size ≤ 4000) :
    Calls Try.prog 24 #[.agg #[.int .i64 r, .string b, .bool e, .bool k]] w fun x w' => x = .returned (.agg #[.int .i64 (pR r b k), .string ⟨#[]⟩, .bool (fl r b k e), .bool (okB r b k)]) ∧ Below w.heap.size w w' :=
  (specBurst r b e k w (by unfold maxLen; omega)).mono fun x w' h => by rw [burst_form r b e k] at h; exact h
theorem implNewF (r : Int) (w : World) :
    Calls Try.prog 17 #[.int .i64 r] w fun x w' => x = .returned (.tuple #[.agg #[.int .i64 (newR r), .string ⟨#[]⟩, .bool false, .bool false], .bool (newB r)]) ∧ Below w.heap.size w w' :=
  (implNew r w).mono fun x w' h => by rw [new_form] at h; exact h
theorem specNewF (r : Int) (w : World) :
    Calls Try.prog 28 #[.int .i64 r] w fun x w' => x = .returned (.tuple #[.agg #[.int .i64 (newR r), .string ⟨#[]⟩, .bool false, .bool false], .bool (newB r)]) ∧ Below w.heap.size w w' :=
  (specNew r w).mono fun x w' h => by rw [new_form] at h; exact h
def dryB (r : Int) (b : ByteArray) (e k : Bool) : Bool := okB r b k && (e || k) && b.toList.isEmpty
theorem implDryF (r : Int) (b : ByteArray) (e k : Bool) (w : World) (hb : b.size ≤ 4000) :
    Calls Try.prog 25 #[.agg #[.int .i64 r, .string b, .bool e, .bool k]] w fun x w' => x = .returned (.bool (dryB r b e k)) ∧ Below w.heap.size w w' := implDry r b e k w (by unfold maxLen; omega)
theorem specDryF (r : Int) (b : ByteArray) (e k : Bool) (w : World) (hb : b.size ≤ 4000) :
    Calls Try.prog 26 #[.agg #[.int .i64 r, .string b, .bool e, .bool k]] w fun x w' => x = .returned (.bool (dryB r b e k)) ∧ Below w.heap.size w w' := specDry r b e k w (by unfold maxLen; omega)
theorem implOkF (r : Int) (b : ByteArray) (e k : Bool) (w : World) (hb : b.size ≤ 4000) :
    Calls Try.prog 19 #[.agg #[.int .i64 r, .string b, .bool e, .bool k]] w fun x w' => x = .returned (.bool (okB r b k)) ∧ Below w.heap.size w w' := implOk r b e k w (by unfold maxLen; omega)
theorem specOkF (r : Int) (b : ByteArray) (e k : Bool) (w : World) (hb : b.size ≤ 4000) :
    Calls Try.prog 20 #[.agg #[.int .i64 r, .string b, .bool e, .bool k]] w fun x w' => x = .returned (.bool (okB r b k)) ∧ Below w.heap.size w w' := specOk r b e k w (by unfold maxLen; omega)

theorem big1 (a : Option Addr) (len cap : Nat) (w : World) : Calls Try.prog 9 #[.slice a len cap] w fun x w' => x = .returned (.bool (decide ((4096 : Int) < len))) ∧ w' = w := by
  go_enter Try.func9, Try.ntmps9
  go_wp2
  go_ret
  exact ⟨rfl, rfl⟩

theorem okB_newR (r : Int) : okB (newR r) ⟨#[]⟩ false = newB r := by
  rw [okB_new]
  unfold newR
  cases h : newB r
  · rfl
  · simpa using h

theorem pullB_size (r : Int) (b : ByteArray) (k : Bool) (n : Int) : (pullB r b k n).size ≤ b.size := by
  unfold pullB
  cases okB r b k
  · exact Nat.zero_le _
  · exact extract_le _ _ _

theorem pullS_size (r : Int) (b : ByteArray) (k : Bool) (n : Int) : (pullS r b k n).size ≤ b.size := by
  unfold pullS
  cases okB r b k
  · exact Nat.zero_le _
  · exact extract_le _ _ _

theorem goes_le (n : Int) (b : ByteArray) : goes n b ≤ b.size := by unfold goes; omega

theorem cat_extract (b : ByteArray) (n : Nat) (h : n ≤ b.size) : b.extract 0 n ++ b.extract n b.size = b := by
  apply ByteArray.ext
  apply Array.toList_inj.1
  simp [ByteArray.data_extract]

theorem pull_cat (r : Int) (b : ByteArray) (k : Bool) (n : Int) (h : okB r b k = true) : pullS r b k n ++ pullB r b k n = b := by
  unfold pullS pullB
  rw [h]
  exact cat_extract b _ (goes_le n b)

theorem isEmpty_iff (b : ByteArray) : b.toList.isEmpty = true ↔ b.size = 0 := by
  rw [ByteArray.toList_eq, List.isEmpty_iff]
  have h : b.data.toList.length = b.size := by simp
  constructor
  · intro e; rw [e] at h; simpa using h.symm
  · intro e; exact List.length_eq_zero_iff.1 (h.trans e)

theorem pull_ok (r : Int) (b : ByteArray) (k : Bool) (n : Int) (h : okB r b k = true) : okB (pR r b k) (pullB r b k n) (fl r b k k) = true := by
  have hp := okB_parts h
  have hs := pullB_size r b k n
  unfold pR fl
  rw [h]
  simp only [if_true, Bool.true_and]
  rw [okB_rest (by omega)]
  cases k
  · rfl
  · have h2 : okB r b true = b.toList.isEmpty := by rw [okB_rest hp]; rfl
    rw [h2, isEmpty_iff] at h
    have h3 : (pullB r b true n).toList.isEmpty = true := (isEmpty_iff _).2 (by omega)
    rw [h3]
    rfl

theorem push_shutN (r : Int) (b : ByteArray) (k : Bool) : pushN (pR r b k) (kB r b k) ⟨#[109, 111, 114, 101]⟩ true (fl r b k k) = 0 := by
  unfold pushN
  cases okB (pR r b k) (kB r b k) (fl r b k k) <;> rfl
theorem kB_size (r : Int) (b : ByteArray) (k : Bool) : (kB r b k).size ≤ b.size := by
  unfold kB
  cases okB r b k
  · exact Nat.zero_le _
  · exact Nat.le_refl _
theorem burst_dry (r : Int) (b : ByteArray) (e k : Bool) (h : okB r b k = true) : dryB (pR r b k) ⟨#[]⟩ (fl r b k e) true = true := by
  have hp := okB_parts h
  unfold dryB pR fl
  rw [h]
  simp only [if_true, Bool.true_and, Bool.or_true, Bool.and_true]
  have h0 : (⟨#[]⟩ : ByteArray).toList.isEmpty = true := (isEmpty_iff _).2 rfl
  have hz : ((⟨#[]⟩ : ByteArray).size : Int) ≤ r := by show ((0 : Nat) : Int) ≤ r; omega
  rw [okB_rest ⟨hp.1, hp.2.1, hz⟩, h0]
  rfl
theorem push_zero (r : Int) (b s : ByteArray) (e k : Bool) (h : okB r b k = false) : pR r b k = 0 ∧ pushB r b s e k = ⟨#[]⟩ ∧ fl r b k e = false ∧ fl r b k k = false ∧ pushN r b s e k = 0 := by
  unfold pR pushB fl pushN
  rw [h]
  exact ⟨rfl, rfl, rfl, rfl, rfl⟩
theorem comes_le (r : Int) (b s : ByteArray) : comes r b s ≤ s.size := by unfold comes; omega
theorem pushN_le (r : Int) (b s : ByteArray) (e k : Bool) : pushN r b s e k ≤ s.size := by
  unfold pushN
  cases okB r b k
  · exact Nat.zero_le _
  · cases (e || k)
    · exact comes_le r b s
    · exact Nat.zero_le _
theorem pushB_eq (r : Int) (b s : ByteArray) (e k : Bool) (h : okB r b k = true) : pushB r b s e k = b ++ s.extract 0 (pushN r b s e k) := by
  unfold pushB pushN
  rw [h]
  cases (e || k)
  · rfl
  · simp
theorem pushB_size (r : Int) (b s : ByteArray) (e k : Bool) (h : okB r b k = true) : (pushB r b s e k).size = b.size + pushN r b s e k := by
  rw [pushB_eq r b s e k h, ByteArray.size_append, extract_size s _ (pushN_le r b s e k)]
theorem push_ok (r : Int) (b s : ByteArray) (e k : Bool) (h : okB r b k = true) : okB (pR r b k) (pushB r b s e k) (fl r b k k) = true := by
  have hp := okB_parts h
  have hs := pushB_size r b s e k h
  have hn : (pushN r b s e k : Int) ≤ r - b.size := by
    unfold pushN
    rw [h]
    cases (e || k)
    · show (comes r b s : Int) ≤ _; unfold comes; omega
    · show ((0 : Nat) : Int) ≤ _; omega
  have hk : k = true → pushN r b s e k = 0 := by
    intro hk; unfold pushN; rw [h, hk]; simp
  unfold pR fl
  rw [h]
  simp only [if_true, Bool.true_and]
  rw [okB_rest (by omega)]
  cases k
  · rfl
  · have h2 : okB r b true = b.toList.isEmpty := by rw [okB_rest hp]; rfl
    rw [h2, isEmpty_iff] at h
    have h3 : (pushB r b s e true).toList.isEmpty = true := (isEmpty_iff _).2 (by have := hk rfl; omega)
    rw [h3]
    rfl
theorem push_out (r : Int) (b s : ByteArray) (e k : Bool) (h : okB r b k = true) : pullS (pR r b k) (pushB r b s e k) (fl r b k k) 5000 = b ++ s.extract 0 (pushN r b s e k) := by
  have hx := push_ok r b s e k h
  have hs := okB_parts hx
  unfold pullS
  rw [hx, ← pushB_eq r b s e k h]
  have hg : goes 5000 (pushB r b s e k) = (pushB r b s e k).size := by unfold goes; omega
  rw [if_pos rfl, hg]
  simp
theorem push_full_or (r : Int) (b s : ByteArray) (e k : Bool) (h : okB r b k = true) : pushN r b s e k = s.size ∨ ((pushB r b s e k).size : Int) = pR r b k ∨ e = true ∨ k = true := by
  have hp := okB_parts h
  have hs := pushB_size r b s e k h
  cases e
  · cases k
    · have hpr : pR r b false = r := by unfold pR; rw [h]; rfl
      have hn : pushN r b s false false = comes r b s := by unfold pushN; rw [h]; rfl
      rw [hpr, hs, hn]
      unfold comes
      omega
    · exact .inr (.inr (.inr rfl))
  · exact .inr (.inr (.inl rfl))
end Go.Proofs.Ythjiiemhlijgkaa
