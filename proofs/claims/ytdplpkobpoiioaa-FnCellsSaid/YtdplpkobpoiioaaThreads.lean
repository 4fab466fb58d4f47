/- Rows of Threads: copied, held against each other, counted. -/
import Derived.Test.YtdplpkobpoiioaaSteps

namespace Go.Proofs.Ytdplpkobpoiioaa
open Go.RowKit
set_option linter.unusedSimpArgs false
set_option linter.unusedVariables false

/-- What a Thread holds, wherever its Steps lie. -/
structure DTh where
  st : List St
  pos : Int
  seen : Int
  won : Int
/-- A Thread in memory: its Steps' slice, and what it holds. -/
structure Th where
  sv : Value
  st : List St
  pos : Int
  seen : Int
  won : Int
def Th.d (t : Th) : DTh := ⟨t.st, t.pos, t.seen, t.won⟩
def Th.cs (t : Th) : List Value := [t.sv, .int .i64 t.pos, .int .i64 t.seen, .int .i64 t.won]
def tv (T : List Th) : List Value := T.flatMap Th.cs
theorem tcs_len (s : Th) : s.cs.length = 4 := rfl
theorem tv_len (L : List Th) : (tv L).length = L.length * 4 := flat_length Th.cs 4 tcs_len L
theorem tv_get (L : List Th) (k : Nat) (h : k < L.length) : (tv L)[k * 4]? = some L[k].sv ∧ (tv L)[k * 4 + 1]? = some (.int .i64 L[k].pos) ∧ (tv L)[k * 4 + 2]? = some (.int .i64 L[k].seen) ∧ (tv L)[k * 4 + 3]? = some (.int .i64 L[k].won) :=
  ⟨flat_get Th.cs 4 tcs_len L k h 0 (by decide), flat_get Th.cs 4 tcs_len L k h 1 (by decide), flat_get Th.cs 4 tcs_len L k h 2 (by decide), flat_get Th.cs 4 tcs_len L k h 3 (by decide)⟩

/-- Two slices lie in blocks of their own. -/
def Ap (a b : Value) : Prop := ∀ k, a.ownBlock = some k → b.ownBlock ≠ some k

structure ReadTs (w : World) (v : Value) (T : List Th) : Prop where
  row : Reads w v T.length 4 (tv T)
  st : ∀ t ∈ T, Reads w t.sv t.st.length 3 (sv t.st)
structure OwnTs (w : World) (lo hi : Nat) (v : Value) (T : List Th) : Prop where
  row : w.ownsRow lo 41 4 v T.length (tv T)
  st : ∀ t ∈ T, w.ownsRow lo 44 3 t.sv t.st.length (sv t.st)
  apart : (v :: T.map Th.sv).Pairwise Ap
  up : ∀ u ∈ v :: T.map Th.sv, ∀ k, u.ownBlock = some k → k < hi
theorem OwnTs.read {w : World} {lo hi : Nat} {v : Value} {T : List Th} (h : OwnTs w lo hi v T) : ReadTs w v T := ⟨reads_of_owns h.row, fun t ht => reads_of_owns (h.st t ht)⟩
theorem ReadTs.new {w w' : World} {v : Value} {T : List Th} (h : ReadTs w v T) (hb : Below w.heap.size w w') : ReadTs w' v T := ⟨h.row.new hb, fun t ht => (h.st t ht).new hb⟩
theorem OwnTs.new {w w' : World} {lo hi : Nat} {v : Value} {T : List Th} (h : OwnTs w lo hi v T) (hb : Below w.heap.size w w') : OwnTs w' lo hi v T := ⟨owns_new h.row hb, fun t ht => owns_new (h.st t ht) hb, h.apart, h.up⟩

set_option maxHeartbeats 1000000 in
theorem toThread1 (t : Th) (w : World) (hr : Reads w t.sv t.st.length 3 (sv t.st)) (hL : t.st.length ≤ 1048576) :
    Calls Try.prog 62 #[.agg #[t.sv, .int .i64 t.pos, .int .i64 t.seen, .int .i64 t.won]] w fun x w' => ∃ v', x = .returned (.agg #[v', .int .i64 t.pos, .int .i64 t.seen, .int .i64 t.won]) ∧ w'.ownsRow w.heap.size 44 3 v' t.st.length (sv t.st) ∧ Below w.heap.size w w' := by
  obtain ⟨ad, cap, hsv, _⟩ := hr.2
  have HR := hide hr
  clear hr
  obtain ⟨sv0, st, p, s, n⟩ := t
  simp only at hsv HR hL ⊢
  subst hsv
  go_enter Try.func62, Try.ntmps62
  go_wp2_with fail
  refine (toSteps st _ _ ?c1 hL).mono ?_
  case c1 => exact ((HR.out.alloc _).alloc _).alloc _
  rintro x w1 ⟨v1, rfl, ho, hb1⟩; have hz1 := hb1.size; (try simp at hz1); have hc1 := fun o => hb1.cell (p := ⟨w.heap.size, o, none⟩) (by first | (simp; done) | (simp; omega) | omega); have hf1 := fun o => hb1.frozen (p := ⟨w.heap.size, o, none⟩) (by first | (simp; done) | (simp; omega) | omega); have hcn1 := fun o => hb1.cell (p := ⟨w.heap.size + 1, o, none⟩) (by first | (simp; done) | (simp; omega) | omega); have hfn1 := fun o => hb1.frozen (p := ⟨w.heap.size + 1, o, none⟩) (by first | (simp; done) | (simp; omega) | omega); have hcm1 := fun o => hb1.cell (p := ⟨w.heap.size + 2, o, none⟩) (by first | (simp; done) | (simp; omega) | omega); have hfm1 := fun o => hb1.frozen (p := ⟨w.heap.size + 2, o, none⟩) (by first | (simp; done) | (simp; omega) | omega)
  have ho' : w1.ownsRow w.heap.size 44 3 v1 st.length (sv st) := owns_base ho fun k hk => by have := (ho.lt k hk).1; simp at this; omega
  have hv1 : ∀ k, v1.ownBlock = some k → w.heap.size + 3 ≤ k := fun k hk => by have := (ho.lt k hk).1; simpa using this
  obtain ⟨ad1, cap1, rfl, _⟩ := owns_form ho
  have HO := hide ho'
  have HV := hide hv1
  clear ho ho' hv1
  go_wp2_with fail
  refine bodyPost_ret (v := .agg #[.slice ad1 st.length cap1, .int .i64 p, .int .i64 s, .int .i64 n]) (by simp [results, Try.results62, go_sem, *]) rfl ?_
  exact ⟨_, rfl, (by repeat' (first | (with_reducible exact HO.out) | (with_reducible refine owns_far _ ?_ HV.out _ _ ?_) | (with_reducible refine World.ownsRow.alloc ?_ _) | (simp; done) | (simp; omega))), (by repeat' (first | (with_reducible exact Below.refl _ _) | (with_reducible refine Below.drew ?_) | (with_reducible refine bo_drewN _ ?_) | (with_reducible refine bo_alloc ?_ _) | (refine bchain ?_ (by with_reducible assumption)) | (with_reducible refine Below.setCell ?_ ?_ _) | go_size))⟩

end Go.Proofs.Ytdplpkobpoiioaa
