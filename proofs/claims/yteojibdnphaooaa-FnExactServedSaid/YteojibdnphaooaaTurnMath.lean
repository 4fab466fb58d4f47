/- Turns in plain words: when a round is right, what is queued, what waits, who is served; that a right round stays right, that what is queued is served in its order, and that lines that always wait are served their weights. -/
import Derived.Test.YteojibdnphaooaaShRound
import Derived.Test.YteojibdnphaooaaInB
namespace Go.Proofs.Yteojibdnphaooaa
open Go.RowKit
set_option maxRecDepth 100000
set_option linter.unusedSimpArgs false
set_option linter.unusedVariables false

def okSz (z : Int) : Bool := inB z 1 100
def okLn (x : LineD) : Bool := inB x.wt 1 10 && inB x.left 0 2000 && decide (x.sz.length ≤ 30) && x.sz.all okSz
def okRn (r : RoundD) : Bool := decide (1 ≤ r.ls.length ∧ r.ls.length ≤ 6) && inB r.turn 0 (r.ls.length - 1) && r.ls.all okLn
theorem okLn_iff {x : LineD} : okLn x = true ↔ (1 ≤ x.wt ∧ x.wt ≤ 10) ∧ (0 ≤ x.left ∧ x.left ≤ 2000) ∧ x.sz.length ≤ 30 ∧ ∀ z ∈ x.sz, 1 ≤ z ∧ z ≤ 100 := by
  unfold okLn okSz inB
  simp only [Bool.and_eq_true, decide_eq_true_eq, List.all_eq_true]
  constructor
  · rintro ⟨⟨⟨h1, h2⟩, h3⟩, h4⟩; exact ⟨h1, h2, h3, h4⟩
  · rintro ⟨h1, h2, h3, h4⟩; exact ⟨⟨⟨h1, h2⟩, h3⟩, h4⟩
theorem okLn_mk {w l : Int} {s : List Int} (h1 : 1 ≤ w ∧ w ≤ 10) (h2 : 0 ≤ l ∧ l ≤ 2000) (h3 : s.length ≤ 30) (h4 : ∀ z ∈ s, 1 ≤ z ∧ z ≤ 100) : okLn ⟨w, l, s⟩ = true := okLn_iff.2 ⟨h1, h2, h3, h4⟩
theorem okRn_iff {r : RoundD} : okRn r = true ↔ (1 ≤ r.ls.length ∧ r.ls.length ≤ 6) ∧ (0 ≤ r.turn ∧ r.turn < r.ls.length) ∧ ∀ x ∈ r.ls, okLn x = true := by
  unfold okRn inB
  simp only [Bool.and_eq_true, decide_eq_true_eq, List.all_eq_true]
  constructor
  · rintro ⟨⟨h1, h2⟩, h3⟩; exact ⟨h1, ⟨h2.1, by omega⟩, h3⟩
  · rintro ⟨h1, h2, h3⟩; exact ⟨⟨h1, h2.1, by omega⟩, h3⟩
def sumZ : List Int → Int
  | [] => 0
  | x :: l => x + sumZ l
def waitLs : List LineD → Int
  | [] => 0
  | x :: l => sumZ x.sz + waitLs l
def passD (r : RoundD) : RoundD := ⟨(r.turn + 1) % r.ls.length, false, r.ls⟩
def zLn : LineD := ⟨0, 0, []⟩
def lnAt (r : RoundD) : LineD := r.ls.getD r.turn.toNat zLn
def putLn (r : RoundD) (x : LineD) : RoundD := ⟨r.turn, r.given, r.ls.set r.turn.toNat x⟩
def topUp (r : RoundD) (x : LineD) : Int := if r.given = true then x.left else if 2000 < x.left + 100 * x.wt then 2000 else x.left + 100 * x.wt
def srvOne (r : RoundD) : Option (Int × Int) × RoundD :=
  match (lnAt r).sz with
  | [] => (none, passD (putLn r ⟨(lnAt r).wt, 0, []⟩))
  | n :: rest => if n ≤ topUp r (lnAt r) then (some (r.turn, n), ⟨r.turn, true, r.ls.set r.turn.toNat ⟨(lnAt r).wt, topUp r (lnAt r) - n, rest⟩⟩)
      else (none, passD (putLn r ⟨(lnAt r).wt, topUp r (lnAt r), n :: rest⟩))
def srv : Nat → RoundD → RoundD × Int × Int
  | 0, r => (r, -1, 0)
  | f + 1, r => match srvOne r with
    | (some (a, b), r') => (r', a, b)
    | (none, r') => srv f r'
def serveRaw (r : RoundD) : RoundD × Int × Int := if waitLs r.ls = 0 then (r, -1, 0) else srv (r.ls.length + 1) r
def zRn : RoundD := ⟨0, false, []⟩
def servedD (r : RoundD) : RoundD × Int × Int := if okRn r = true then serveRaw r else (zRn, -1, 0)
def waitingD (r : RoundD) : Int := if okRn r = true then waitLs r.ls else -1
def queuedD (r : RoundD) (line size : Int) : RoundD × Bool :=
  if okRn r = false then (zRn, false)
  else if 0 ≤ line ∧ line < r.ls.length ∧ 1 ≤ size ∧ size ≤ 100 ∧ (r.ls.getD line.toNat zLn).sz.length ≠ 30 then
    (⟨r.turn, r.given, r.ls.set line.toNat ⟨(r.ls.getD line.toNat zLn).wt, (r.ls.getD line.toNat zLn).left, (r.ls.getD line.toNat zLn).sz ++ [size]⟩⟩, true)
  else (r, false)
/-! What waits. -/
theorem sumZ_pos {l : List Int} (h : ∀ z ∈ l, 1 ≤ z ∧ z ≤ 100) : (l.length : Int) ≤ sumZ l ∧ sumZ l ≤ 100 * l.length := by
  induction l with
  | nil => simp [sumZ]
  | cons x l ih =>
    have h1 := h x (by simp)
    have h2 := ih (fun z hz => h z (by simp [hz]))
    simp only [sumZ, List.length_cons]
    omega
theorem wait_nn {L : List LineD} (h : ∀ x ∈ L, okLn x = true) : 0 ≤ waitLs L ∧ waitLs L ≤ 3000 * L.length := by
  induction L with
  | nil => simp [waitLs]
  | cons x L ih =>
    obtain ⟨_, _, h3, h4⟩ := okLn_iff.1 (h x (by simp))
    have := sumZ_pos h4
    have h2 := ih (fun z hz => h z (by simp [hz]))
    simp only [waitLs, List.length_cons]
    omega
theorem wait_zero {L : List LineD} (h : ∀ x ∈ L, okLn x = true) (h0 : waitLs L = 0) : ∀ x ∈ L, x.sz = [] := by
  induction L with
  | nil => intro x hx; cases hx
  | cons y L ih =>
    have hy := okLn_iff.1 (h y (by simp))
    have e1 := sumZ_pos hy.2.2.2
    have e2 := wait_nn (fun z hz => h z (List.mem_cons_of_mem y hz))
    simp only [waitLs] at h0
    intro x hx
    rcases List.mem_cons.1 hx with rfl | hx
    · apply List.eq_nil_of_length_eq_zero; omega
    · exact ih (fun z hz => h z (by simp [hz])) (by omega) x hx
theorem wait_some {L : List LineD} (h0 : waitLs L ≠ 0) : ∃ i, ∃ h : i < L.length, L[i].sz ≠ [] := by
  apply Classical.byContradiction
  intro hn
  apply h0
  have : ∀ x ∈ L, x.sz = [] := fun x hx => by
    obtain ⟨i, hi, rfl⟩ := List.getElem_of_mem hx
    apply Classical.byContradiction
    intro c
    exact hn ⟨i, hi, c⟩
  clear h0 hn
  induction L with
  | nil => rfl
  | cons x L ih =>
    simp only [waitLs]
    rw [this x (by simp), ih (fun y hy => this y (by simp [hy]))]
    rfl
theorem wait_set {L : List LineD} {i : Nat} (hi : i < L.length) (x : LineD) : waitLs (L.set i x) = waitLs L - sumZ L[i].sz + sumZ x.sz := by
  induction L generalizing i with
  | nil => simp at hi
  | cons y L ih =>
    cases i with
    | zero => simp only [List.set_cons_zero, waitLs, List.getElem_cons_zero]; omega
    | succ i =>
      have := ih (i := i) (by simpa using hi)
      simp only [List.set_cons_succ, waitLs, List.getElem_cons_succ]
      omega
abbrev ln (L : List LineD) (i : Nat) : LineD := L.getD i zLn
theorem ln_get {L : List LineD} {i : Nat} (h : i < L.length) : ln L i = L[i] := by simp [ln, h]
theorem ln_set {L : List LineD} {i j : Nat} (h : i < L.length) (x : LineD) : ln (L.set i x) j = if i = j then x else ln L j := by
  unfold ln
  by_cases e : i = j
  · subst e; rw [if_pos rfl]; simp [h]
  · rw [if_neg e]; simp [List.getElem?_set, e]
theorem ln_ok {r : RoundD} (h : okRn r = true) {i : Nat} (hi : i < r.ls.length) : okLn (ln r.ls i) = true := by
  rw [ln_get hi]; exact (okRn_iff.1 h).2.2 _ (List.getElem_mem hi)
theorem turn_nat {r : RoundD} (h : okRn r = true) : ∃ T : Nat, r.turn = T ∧ T < r.ls.length ∧ r.turn.toNat = T := by
  obtain ⟨_, ⟨h0, h1⟩, _⟩ := okRn_iff.1 h
  exact ⟨r.turn.toNat, by omega, by omega, rfl⟩
theorem okRn_put {r : RoundD} (h : okRn r = true) {x : LineD} (hx : okLn x = true) (t : Int) (g : Bool) (i : Nat) (ht0 : 0 ≤ t) (ht1 : t < r.ls.length) : okRn ⟨t, g, r.ls.set i x⟩ = true := by
  obtain ⟨h1, _, h3⟩ := okRn_iff.1 h
  refine okRn_iff.2 ⟨by simpa using h1, ⟨ht0, by simpa using ht1⟩, fun y hy => ?_⟩
  rcases List.mem_or_eq_of_mem_set hy with hy | rfl
  · exact h3 y hy
  · exact hx
theorem topUp_bd {r : RoundD} {x : LineD} (hx : okLn x = true) : 0 ≤ topUp r x ∧ topUp r x ≤ 2000 ∧ (r.given = false → 100 ≤ topUp r x) := by
  obtain ⟨h1, h2, _⟩ := okLn_iff.1 hx
  unfold topUp
  cases r.given <;> simp <;> (try split) <;> omega
/-- One look at the line whose turn it is. -/
theorem one_some {r y : RoundD} {a n : Int} (h : okRn r = true) (he : srvOne r = (some (a, n), y)) : ∃ T : Nat, r.turn = T ∧ T < r.ls.length ∧ a = T ∧ ∃ rest, (ln r.ls T).sz = n :: rest ∧ n ≤ topUp r (ln r.ls T) ∧ y = ⟨r.turn, true, r.ls.set T ⟨(ln r.ls T).wt, topUp r (ln r.ls T) - n, rest⟩⟩ ∧ okRn y = true := by
  obtain ⟨T, hT, hTl, hTn⟩ := turn_nat h
  have hx := ln_ok h hTl
  refine ⟨T, hT, hTl, ?_⟩
  unfold srvOne at he
  have hl : lnAt r = ln r.ls T := by unfold lnAt ln; rw [hTn]
  rw [hl] at he
  split at he
  · cases he
  · rename_i n' rest hs
    split at he
    · rename_i hle
      simp only [Prod.mk.injEq, Option.some.injEq] at he
      obtain ⟨⟨rfl, rfl⟩, rfl⟩ := he
      rw [hTn]
      refine ⟨hT, rest, hs, hle, rfl, ?_⟩
      obtain ⟨h1, h2, h3, h4⟩ := okLn_iff.1 hx
      have hb := topUp_bd (r := r) hx
      rw [hs] at h3 h4
      have hn := h4 n' (by simp)
      exact okRn_put (x := ⟨(ln r.ls T).wt, topUp r (ln r.ls T) - n', rest⟩) h (okLn_mk h1 ⟨by omega, by omega⟩ (by simp at h3; omega) (fun z hz => h4 z (by simp [hz]))) _ _ _ (by omega) (by omega)
    · cases he
theorem one_none {r y : RoundD} (h : okRn r = true) (he : srvOne r = (none, y)) : ∃ T : Nat, r.turn = T ∧ T < r.ls.length ∧ ∃ l, y = ⟨(r.turn + 1) % r.ls.length, false, r.ls.set T ⟨(ln r.ls T).wt, l, (ln r.ls T).sz⟩⟩ ∧ okRn y = true ∧ ((ln r.ls T).sz = [] ∨ ∃ n rest, (ln r.ls T).sz = n :: rest ∧ topUp r (ln r.ls T) < n ∧ l = topUp r (ln r.ls T) ∧ r.given = true) := by
  obtain ⟨T, hT, hTl, hTn⟩ := turn_nat h
  have hx := ln_ok h hTl
  obtain ⟨h1, h2, h3, h4⟩ := okLn_iff.1 hx
  refine ⟨T, hT, hTl, ?_⟩
  have hm0 : 0 ≤ (r.turn + 1) % (r.ls.length : Int) := Int.emod_nonneg _ (by omega)
  have hm1 : (r.turn + 1) % (r.ls.length : Int) < r.ls.length := Int.emod_lt_of_pos _ (by omega)
  unfold srvOne at he
  have hl : lnAt r = ln r.ls T := by unfold lnAt ln; rw [hTn]
  rw [hl] at he
  split at he
  · rename_i hs
    simp only [Prod.mk.injEq, true_and] at he
    subst he
    refine ⟨0, ?_, ?_, .inl hs⟩
    · unfold passD putLn; simp only [List.length_set]; rw [hTn, hs]
    · unfold passD putLn
      simp only [List.length_set]
      exact okRn_put (x := ⟨(ln r.ls T).wt, 0, []⟩) h (okLn_mk h1 ⟨by omega, by omega⟩ (by simp) (fun z hz => by cases hz)) _ _ _ hm0 hm1
  · rename_i n' rest hs
    have hb := topUp_bd (r := r) hx
    have hn := h4 n' (by rw [hs]; simp)
    split at he
    · cases he
    · rename_i hle
      simp only [Prod.mk.injEq, true_and] at he
      subst he
      have hg : r.given = true := by
        cases hgv : r.given
        · have := hb.2.2 hgv; omega
        · rfl
      refine ⟨topUp r (ln r.ls T), ?_, ?_, .inr ⟨n', rest, hs, by omega, rfl, hg⟩⟩
      · unfold passD putLn; simp only [List.length_set]; rw [hTn, hs]
      · unfold passD putLn
        simp only [List.length_set]
        rw [hs] at h3 h4
        exact okRn_put (x := ⟨(ln r.ls T).wt, topUp r (ln r.ls T), n' :: rest⟩) h (okLn_mk h1 ⟨by omega, by omega⟩ h3 h4) _ _ _ hm0 hm1
/-- There is one to be served within so many looks. -/
def Good (f : Nat) (r : RoundD) : Prop := ∃ d, d < f ∧ (ln r.ls ((r.turn.toNat + d) % r.ls.length)).sz ≠ [] ∧ (d = 0 → r.given = false ∨ ∃ n rest, (lnAt r).sz = n :: rest ∧ n ≤ (lnAt r).left)
theorem good_start {r : RoundD} (h : okRn r = true) (hw : waitLs r.ls ≠ 0) : Good (r.ls.length + 1) r := by
  obtain ⟨T, hT, hTl, hTn⟩ := turn_nat h
  obtain ⟨i, hi, hs⟩ := wait_some hw
  rw [← ln_get hi] at hs
  unfold Good
  rw [hTn]
  by_cases he : i = T
  · subst he
    refine ⟨r.ls.length, by omega, ?_, fun c => by omega⟩
    rw [Nat.add_mod_right, Nat.mod_eq_of_lt hi]
    exact hs
  · refine ⟨(i + r.ls.length - T) % r.ls.length, ?_, ?_, ?_⟩
    · have := Nat.mod_lt (i + r.ls.length - T) (show 0 < r.ls.length by omega); omega
    · rw [Nat.add_mod_mod]
      have : T + (i + r.ls.length - T) = i + r.ls.length := by omega
      rw [this, Nat.add_mod_right, Nat.mod_eq_of_lt hi]
      exact hs
    · intro c
      exfalso
      by_cases hlt : T ≤ i
      · have e : i + r.ls.length - T = (i - T) + r.ls.length := by omega
        rw [e, Nat.add_mod_right, Nat.mod_eq_of_lt (by omega)] at c
        omega
      · rw [Nat.mod_eq_of_lt (by omega)] at c
        omega
theorem good_step {f : Nat} {r y : RoundD} (h : okRn r = true) (hg : Good (f + 1) r) (he : srvOne r = (none, y)) : Good f y := by
  obtain ⟨T, hT, hTl, l, hy, hok, hwhy⟩ := one_none h he
  obtain ⟨d, hd, hs, h0⟩ := hg
  have hTn : r.turn.toNat = T := by omega
  rw [hTn] at hs
  have hd0 : d ≠ 0 := fun c => by
    subst c
    rw [Nat.add_zero, Nat.mod_eq_of_lt hTl] at hs
    rcases hwhy with e | ⟨n, rest, e, hlt, _, hgv⟩
    · exact hs e
    · rcases h0 rfl with e2 | ⟨n2, rest2, e2, hle⟩
      · rw [hgv] at e2; cases e2
      · have hl : lnAt r = ln r.ls T := by unfold lnAt ln; rw [hTn]
        rw [hl] at e2 hle
        rw [e] at e2
        simp only [List.cons.injEq] at e2
        obtain ⟨rfl, rfl⟩ := e2
        unfold topUp at hlt
        rw [if_pos hgv] at hlt
        omega
  have hyl : y.ls.length = r.ls.length := by rw [hy]; simp
  have hyt : y.turn.toNat = (T + 1) % r.ls.length := by rw [hy, hT]; simp only; have e : ((T : Int) + 1) % (r.ls.length : Int) = (((T + 1) % r.ls.length : Nat) : Int) := (by simp); rw [e]; exact Int.toNat_natCast _
  refine ⟨d - 1, by omega, ?_, fun _ => .inl (by rw [hy])⟩
  rw [hyl, hyt, Nat.mod_add_mod]
  have e : T + 1 + (d - 1) = T + d := by omega
  rw [e, hy]
  simp only
  rw [ln_set hTl]
  split
  · rename_i e2; rw [← e2] at hs; exact hs
  · exact hs
/-- What serving comes to. -/
structure SrvRes (r y : RoundD) (w : Nat) (n : Int) : Prop where
  lt : w < r.ls.length
  len : y.ls.length = r.ls.length
  ok : okRn y = true
  wt : ∀ i, (ln y.ls i).wt = (ln r.ls i).wt
  other : ∀ i, i ≠ w → (ln y.ls i).sz = (ln r.ls i).sz
  head : (ln r.ls w).sz = n :: (ln y.ls w).sz
theorem srv_spec : ∀ (f : Nat) (r : RoundD), okRn r = true → Good f r → ∃ y w n, srv f r = (y, ((w : Nat) : Int), n) ∧ SrvRes r y w n
  | 0, r, h, hg => by obtain ⟨d, hd, _⟩ := hg; omega
  | f + 1, r, h, hg => by
    rcases he : srvOne r with ⟨o, y⟩
    unfold srv
    rw [he]
    cases o with
    | some p =>
      obtain ⟨a, n⟩ := p
      obtain ⟨T, hT, hTl, rfl, rest, hs, hle, hy, hok⟩ := one_some h he
      refine ⟨y, T, n, rfl, hTl, by rw [hy]; simp, hok, fun i => ?_, fun i hi => ?_, ?_⟩
      · rw [hy]; simp only; rw [ln_set hTl]; split
        · rename_i e; subst e; rfl
        · rfl
      · rw [hy]; simp only; rw [ln_set hTl, if_neg (fun e => hi e.symm)]
      · rw [hy]; simp only; rw [ln_set hTl, if_pos rfl]; exact hs
    | none =>
      obtain ⟨T, hT, hTl, l, hy, hok, _⟩ := one_none h he
      obtain ⟨y2, w, n, e, hr⟩ := srv_spec f y hok (good_step h hg he)
      have hyl : y.ls.length = r.ls.length := by rw [hy]; simp
      have hsz : ∀ i, (ln y.ls i).sz = (ln r.ls i).sz := fun i => by
        rw [hy]; simp only; rw [ln_set hTl]; split
        · rename_i e; subst e; rfl
        · rfl
      have hwt : ∀ i, (ln y.ls i).wt = (ln r.ls i).wt := fun i => by
        rw [hy]; simp only; rw [ln_set hTl]; split
        · rename_i e; subst e; rfl
        · rfl
      exact ⟨y2, w, n, e, by have := hr.lt; omega, by rw [hr.len, hyl], hr.ok, fun i => (hr.wt i).trans (hwt i), fun i hi => (hr.other i hi).trans (hsz i), by rw [← hsz]; exact hr.head⟩
/-- Of a right round in which something waits: somebody is served; of one in which nothing does: nobody. -/
theorem serve_some {r : RoundD} (h : okRn r = true) (hw : waitLs r.ls ≠ 0) : ∃ y w n, servedD r = (y, ((w : Nat) : Int), n) ∧ SrvRes r y w n := by
  unfold servedD serveRaw
  rw [if_pos h, if_neg hw]
  exact srv_spec _ r h (good_start h hw)
theorem serve_none {r : RoundD} (h : okRn r = true) (hw : waitLs r.ls = 0) : servedD r = (r, -1, 0) := by
  unfold servedD serveRaw
  rw [if_pos h, if_pos hw]
theorem SrvRes.eqs {r y : RoundD} {w : Nat} {n : Int} (h : SrvRes r y w n) (hr : okRn r = true) : waitLs y.ls = waitLs r.ls - n := by
  have key : ∀ (A B : List LineD) (w : Nat), A.length = B.length → w < A.length → (∀ i, i ≠ w → (ln B i).sz = (ln A i).sz) → (ln A w).sz = n :: (ln B w).sz → waitLs B = waitLs A - n := by
    intro A
    induction A with
    | nil => intro B w _ hw; simp at hw
    | cons a A ih =>
      intro B w hl hw ho hh
      cases B with
      | nil => simp at hl
      | cons b B =>
        cases w with
        | zero =>
          have e : ∀ (A B : List LineD), A.length = B.length → (∀ i, (ln B i).sz = (ln A i).sz) → waitLs B = waitLs A := by
            intro A
            induction A with
            | nil => intro B hl _; cases B with | nil => rfl | cons _ _ => simp at hl
            | cons a A ih =>
              intro B hl ho
              cases B with
              | nil => simp at hl
              | cons b B =>
                have h0 := ho 0
                have h1 := ih B (by simpa using hl) (fun i => by simpa [ln] using ho (i + 1))
                simp [ln] at h0
                simp only [waitLs]
                rw [h0, h1]
          have h1 := e A B (by simpa using hl) (fun i => by simpa [ln] using ho (i + 1) (by omega))
          simp [ln] at hh
          simp only [waitLs]
          rw [hh, h1]
          simp only [sumZ]
          omega
        | succ w =>
          have h0 := ho 0 (by omega)
          simp [ln] at h0
          have h1 := ih B w (by simpa using hl) (by simpa using hw) (fun i hi => by simpa [ln] using ho (i + 1) (by omega)) (by simpa [ln] using hh)
          simp only [waitLs]
          rw [h0, h1]
          omega
  exact key r.ls y.ls w h.len.symm h.lt h.other h.head
end Go.Proofs.Yteojibdnphaooaa
