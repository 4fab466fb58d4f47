/- Lines that always wait are served their weights: what holds from one to the next that is served. -/
import Derived.Test.YteojibdnphaooaaTurnMath
namespace Go.Proofs.Yteojibdnphaooaa
open Go.RowKit
set_option maxRecDepth 100000
set_option linter.unusedSimpArgs false
set_option linter.unusedVariables false
def fac (last : Nat) (g : Bool) (i : Nat) : Int := if i < last ∨ (i = last ∧ g = true) then 1 else 0
structure Fair (k : Nat) (q : RoundD) (last : Nat) (rounds : Int) (sum : Nat → Int) : Prop where
  ok : okRn q = true
  len : q.ls.length = k
  k2 : 2 ≤ k
  wt : ∀ i, i < k → 1 ≤ (ln q.ls i).wt ∧ (ln q.ls i).wt ≤ 3
  turn : q.turn = last
  lt : last < k
  st : q.given = true ∨ (q.given = false ∧ last = 0 ∧ rounds = 0 ∧ (ln q.ls last).left ≤ 99)
  bal : ∀ i, i < k → sum i + (ln q.ls i).left = 100 * ((ln q.ls i).wt * (rounds + fac last q.given i))
  low : ∀ i, i < k → i ≠ last → (ln q.ls i).left ≤ 99
  lowT : (ln q.ls last).left ≤ 399
def addAt (sum : Nat → Int) (w : Nat) (n : Int) : Nat → Int := fun i => if i = w then sum i + n else sum i
theorem fair_serve {k : Nat} {q y : RoundD} {T : Nat} {rounds' n : Int} {sum : Nat → Int} {rest : List Int} (hk2 : 2 ≤ k) (hok : okRn q = true) (hlen : q.ls.length = k) (hwt : ∀ i, i < k → 1 ≤ (ln q.ls i).wt ∧ (ln q.ls i).wt ≤ 3) (hT : q.turn = T) (hTk : T < k)
    (hbal : ∀ i, i < k → sum i + (ln q.ls i).left = 100 * ((ln q.ls i).wt * (rounds' + fac T q.given i)))
    (hlow : ∀ i, i < k → i ≠ T → (ln q.ls i).left ≤ 99) (hlowT : (ln q.ls T).left ≤ 399 ∧ (q.given = false → (ln q.ls T).left ≤ 99))
    (hs : (ln q.ls T).sz = n :: rest) (hy : y = ⟨q.turn, true, q.ls.set T ⟨(ln q.ls T).wt, topUp q (ln q.ls T) - n, rest⟩⟩) (hyok : okRn y = true) : Fair k y T rounds' (addAt sum T n) := by
  have hTl : T < q.ls.length := by omega
  have hn : 1 ≤ n ∧ n ≤ 100 := (okLn_iff.1 (ln_ok hok hTl)).2.2.2 n (by rw [hs]; simp)
  have hw := hwt T hTk
  have hb0 := (okLn_iff.1 (ln_ok hok hTl)).2.1
  refine ⟨hyok, by rw [hy]; simpa using hlen, hk2, fun i hi => ?_, by rw [hy]; exact hT, hTk, .inl (by rw [hy]), fun i hi => ?_, fun i hi hne => ?_, ?_⟩
  · rw [hy]; simp only; rw [ln_set hTl]
    split
    · exact hw
    · exact hwt i hi
  · rw [hy]; simp only; rw [ln_set hTl]
    have hb := hbal i hi
    by_cases e : T = i
    · subst e
      rw [if_pos rfl]
      simp only [addAt, if_true]
      have f1 : fac T true T = 1 := by unfold fac; rw [if_pos (.inr ⟨rfl, rfl⟩)]
      rw [f1]
      cases hg : q.given
      · have f0 : fac T q.given T = 0 := by unfold fac; rw [hg, if_neg (by simp)]
        rw [f0] at hb
        have ht : topUp q (ln q.ls T) = (ln q.ls T).left + 100 * (ln q.ls T).wt := by
          unfold topUp; rw [hg, if_neg (by decide), if_neg (by omega)]
        rw [ht, Int.mul_add]
        rw [Int.add_zero] at hb
        generalize (ln q.ls T).wt * rounds' = z at *
        omega
      · have f0 : fac T q.given T = 1 := by unfold fac; rw [if_pos (.inr ⟨rfl, hg⟩)]
        rw [f0] at hb
        have ht : topUp q (ln q.ls T) = (ln q.ls T).left := by unfold topUp; rw [if_pos hg]
        rw [ht]
        omega
    · rw [if_neg e]
      have f1 : fac T true i = fac T q.given i := by unfold fac; congr 1; simp only [eq_iff_iff]; constructor <;> rintro (h | h) <;> first | exact .inl h | exact absurd h.1.symm e
      simp only [addAt]
      rw [if_neg (fun c => e c.symm), f1]
      exact hb
  · rw [hy]; simp only; rw [ln_set hTl, if_neg (fun c => hne c.symm)]
    exact hlow i hi hne
  · rw [hy]; simp only; rw [ln_set hTl, if_pos rfl]
    simp only
    cases hg : q.given
    · have := hlowT.2 hg
      have ht : topUp q (ln q.ls T) = (ln q.ls T).left + 100 * (ln q.ls T).wt := by
        unfold topUp; rw [hg, if_neg (by decide), if_neg (by omega)]
      omega
    · have ht : topUp q (ln q.ls T) = (ln q.ls T).left := by unfold topUp; rw [if_pos hg]
      omega
theorem fair_step {k : Nat} {q : RoundD} {last : Nat} {rounds : Int} {sum : Nat → Int} (h : Fair k q last rounds sum) (hne : ∀ i, i < k → (ln q.ls i).sz ≠ []) :
    ∃ y w n, servedD q = (y, ((w : Nat) : Int), n) ∧ SrvRes q y w n ∧ w < k ∧ 1 ≤ n ∧ n ≤ 100 ∧ ((w < last ∧ Fair k y w (rounds + 1) (addAt sum w n) ∧ ∀ i, i < k → 100 * ((ln q.ls i).wt * (rounds + 1)) - 100 ≤ sum i ∧ sum i ≤ 100 * ((ln q.ls i).wt * (rounds + 1))) ∨ (¬ w < last ∧ Fair k y w rounds (addAt sum w n))) := by
  obtain ⟨hok, hlen, hk2, hwt, hturn, hlt, hst, hbal, hlow, hlowT⟩ := h
  have hlast : last < q.ls.length := by omega
  have hw0 : waitLs q.ls ≠ 0 := fun c => by
    have := wait_zero (okRn_iff.1 hok).2.2 c _ (List.getElem_mem hlast)
    rw [← ln_get hlast] at this
    exact hne last hlt this
  obtain ⟨y0, w0, n0, e0, hres⟩ := serve_some hok hw0
  have hn0 : 1 ≤ n0 ∧ n0 ≤ 100 := (okLn_iff.1 (ln_ok hok hres.lt)).2.2.2 n0 (by rw [hres.head]; simp)
  refine ⟨y0, w0, n0, e0, hres, by have := hres.lt; omega, hn0.1, hn0.2, ?_⟩
  have es : srv (q.ls.length + 1) q = (y0, ((w0 : Nat) : Int), n0) := by
    unfold servedD serveRaw at e0
    rw [if_pos hok, if_neg hw0] at e0
    exact e0
  have hleft : ∀ i, i < k → 0 ≤ (ln q.ls i).left := fun i hi => (okLn_iff.1 (ln_ok hok (show i < q.ls.length by omega))).2.1.1
  rcases he : srvOne q with ⟨o, y1⟩
  cases o with
  | some p =>
    obtain ⟨a, n⟩ := p
    obtain ⟨T, hT, hTl, rfl, rest, hs, hle, hy, hyok⟩ := one_some hok he
    obtain rfl : T = last := by rw [hturn] at hT; omega
    unfold srv at es
    rw [he] at es
    simp only [Prod.mk.injEq] at es
    obtain ⟨rfl, e2, rfl⟩ := es
    obtain rfl : w0 = T := by omega
    refine .inr ⟨by omega, fair_serve hk2 hok hlen hwt hturn hlt hbal hlow ⟨hlowT, fun hg => ?_⟩ hs hy hyok⟩
    rcases hst with h | ⟨_, _, _, h⟩
    · rw [h] at hg; cases hg
    · exact h
  | none =>
    obtain ⟨T, hT, hTl, l, hy, hyok, hwhy⟩ := one_none hok he
    obtain rfl : T = last := by rw [hturn] at hT; omega
    obtain ⟨n1, rest1, hs1, hlt1, rfl, hg⟩ : ∃ n rest, (ln q.ls T).sz = n :: rest ∧ topUp q (ln q.ls T) < n ∧ l = topUp q (ln q.ls T) ∧ q.given = true := by
      rcases hwhy with h | h
      · exact absurd h (hne T hlt)
      · exact h
    have hn1 := (okLn_iff.1 (ln_ok hok hTl)).2.2.2 n1 (by rw [hs1]; simp)
    have ht : topUp q (ln q.ls T) = (ln q.ls T).left := by unfold topUp; rw [if_pos hg]
    have hTlow : (ln q.ls T).left ≤ 99 := by omega
    have hyls : ∀ i, ln y1.ls i = ln q.ls i := fun i => by
      rw [hy]; simp only; rw [ln_set hTl]
      split
      · rename_i e; subst e; rw [ht]
      · rfl
    have hyl : y1.ls.length = k := by rw [hy]; simpa using hlen
    have hyg : y1.given = false := by rw [hy]
    have hlow' : ∀ i, i < k → (ln q.ls i).left ≤ 99 := fun i hi => by
      by_cases e : i = T
      · subst e; exact hTlow
      · exact hlow i hi e
    have es2 : srv (q.ls.length) y1 = (y0, ((w0 : Nat) : Int), n0) := by
      unfold srv at es
      rw [he] at es
      exact es
    obtain ⟨k', hk'⟩ : ∃ k', q.ls.length = k' + 1 := ⟨q.ls.length - 1, by omega⟩
    rw [hk'] at es2
    unfold srv at es2
    rcases he2 : srvOne y1 with ⟨o2, y2⟩
    obtain ⟨T2, hT2, hT2l, hT2n⟩ := turn_nat hyok
    cases o2 with
    | none =>
      exfalso
      obtain ⟨T3, hT3, hT3l, l3, _, _, hwhy3⟩ := one_none hyok he2
      rcases hwhy3 with h | ⟨_, _, _, _, _, h⟩
      · rw [hyls] at h; exact hne T3 (by omega) h
      · rw [hyg] at h; cases h
    | some p =>
      obtain ⟨a, n⟩ := p
      obtain ⟨T3, hT3, hT3l, rfl, rest, hs, hle, hy2, hyok2⟩ := one_some hyok he2
      rw [he2] at es2
      simp only [Prod.mk.injEq] at es2
      obtain ⟨rfl, e2, rfl⟩ := es2
      obtain rfl : w0 = T3 := by omega
      have hT3k : w0 < k := by omega
      have ht3 : ((w0 : Nat) : Int) = ((T : Int) + 1) % (k : Int) := by
        rw [← hT3, hy, hT, hlen]
      by_cases hend : T + 1 < k
      · have e3 : w0 = T + 1 := by
          rw [Int.emod_eq_of_lt (by omega) (by omega)] at ht3
          omega
        subst e3
        refine .inr ⟨by omega, fair_serve (q := y1) hk2 hyok hyl (fun i hi => by rw [hyls]; exact hwt i hi) hT3 hT3k (fun i hi => ?_) (fun i hi _ => by rw [hyls]; exact hlow' i hi) ⟨by rw [hyls]; have := hlow' _ hT3k; omega, fun _ => by rw [hyls]; exact hlow' _ hT3k⟩ hs hy2 hyok2⟩
        rw [hyls, hbal i hi, hyg, hg]
        have : fac T true i = fac (T + 1) false i := by unfold fac; simp only [Bool.false_eq_true, and_false, or_false, and_true]; congr 1; simp only [eq_iff_iff]; omega
        rw [this]
      · have e3 : w0 = 0 := by
          have : (T : Int) + 1 = k := by omega
          rw [this, Int.emod_self] at ht3
          omega
        subst e3
        have hall : ∀ i, i < k → fac T true i = 1 := fun i hi => by
          unfold fac
          by_cases c : i < T
          · rw [if_pos (.inl c)]
          · rw [if_pos (.inr ⟨by omega, rfl⟩)]
        refine .inl ⟨by omega, fair_serve (q := y1) hk2 hyok hyl (fun i hi => by rw [hyls]; exact hwt i hi) hT3 hT3k (fun i hi => ?_) (fun i hi _ => by rw [hyls]; exact hlow' i hi) ⟨by rw [hyls]; have := hlow' _ hT3k; omega, fun _ => by rw [hyls]; exact hlow' _ hT3k⟩ hs hy2 hyok2, fun i hi => ?_⟩
        · rw [hyls, hbal i hi, hyg, hg, hall i hi]
          have : fac 0 false i = 0 := by unfold fac; rw [if_neg (by simp)]
          rw [this, Int.add_zero]
        · have hb := hbal i hi
          rw [hg, hall i hi] at hb
          have h1 := hleft i hi
          have h2 := hlow' i hi
          omega
end Go.Proofs.Yteojibdnphaooaa
