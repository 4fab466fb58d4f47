/- Lemmas. -/
import Derived.Test.YtlpbnkideaojeaaGreatDoorQRpG6
import Derived.LaidHandle
import Derived.Lib.LaidIn
import Derived.Stop.LaidErr
namespace Go.Proofs.YtlpbnkideaojeaaGreatDoor
open Go.RowKit
set_option maxRecDepth 100000
set_option linter.unusedSimpArgs false
set_option linter.unusedVariables false
def fI (x : Int) : Bool := decide (1 ≤ x ∧ x ≤ 100000 ∧ x % 2 = 1)
theorem Gj {x : Int} : fI x = true ↔ 1 ≤ x ∧ x ≤ 100000 ∧ x % 2 = 1 := by unfold fI; exact decide_eq_true_iff
def dP (e : aF) : Int := if e.state = 4 then 0 else 1
theorem LY (e : aF) : 0 ≤ dP e := by unfold dP; split <;> omega
theorem LZ (e : aF) : dP e ≤ 1 := by unfold dP; split <;> omega
def fu (L : List aF) : Int := eZ dP L
theorem L6 (L : List aF) : fu L ≤ L.length := by
 unfold fu
 induction L with
 | nil => simp [eZ]
 | cons e L ih => have := LZ e; simp only [eZ, List.length_cons]; omega
theorem L8 (L : List aF) : 0 ≤ fu L := zR dP LY L
def jw (top : Int) (e : aF) : Bool := fI e.id && decide (e.id ≤ top) && decide (1 ≤ e.state ∧ e.state ≤ 4)
theorem nC {top : Int} {e : aF} : jw top e = true ↔ fI e.id = true ∧ e.id ≤ top ∧ 1 ≤ e.state ∧ e.state ≤ 4 := by unfold jw; simp [and_assoc]
def lQ : List aF → Bool
 | [] => true
 | [_] => true
 | a :: b :: L => decide (a.id < b.id) && lQ (b :: L)
theorem Dl : ∀ (L : List aF), lQ L = true ↔ ∀ i (h : i + 1 < L.length), L[i].id < L[i + 1].id
 | [] => by simp [lQ]
 | [_] => by simp [lQ]
 | a :: b :: L => by
  simp only [lQ, Bool.and_eq_true, decide_eq_true_eq]
  rw [Dl (b :: L)]
  constructor
  ·rintro ⟨h1, h2⟩ i h
   cases i with
   | zero => exact h1
   | succ i => exact h2 i (by simpa using h)
  ·intro h
   exact ⟨h 0 (by simp), fun i hi => h (i + 1) (by simpa using hi)⟩
def fE (r : bZ) : Bool := decide (0 ≤ r.lim ∧ r.lim ≤ 20) && decide (r.top = 0 ∨ fI r.top = true) && decide (r.es.length ≤ 60) && r.es.all (jw r.top) && lQ r.es && decide (fu r.es ≤ r.lim)
theorem qw {r : bZ} : fE r = true ↔ (0 ≤ r.lim ∧ r.lim ≤ 20) ∧ (r.top = 0 ∨ fI r.top = true) ∧ r.es.length ≤ 60 ∧ (∀ i (h : i < r.es.length), jw r.top r.es[i] = true ∧ (0 < i → (r.es[i - 1]'(by omega)).id < r.es[i].id)) ∧ fu r.es ≤ r.lim := by
 unfold fE
 simp only [Bool.and_eq_true, decide_eq_true_eq, List.all_eq_true, Dl]
 constructor
 ·rintro ⟨⟨⟨⟨⟨h1, h2⟩, h3⟩, h4⟩, h5⟩, h6⟩
  refine ⟨h1, h2, h3, fun i hi => ⟨h4 _ (List.getElem_mem hi), fun h0 => ?_⟩, h6⟩
  obtain ⟨j, rfl⟩ : ∃ j, i = j + 1 := ⟨i - 1, by omega⟩
  exact h5 j hi
 ·rintro ⟨h1, h2, h3, h4, h6⟩
  refine ⟨⟨⟨⟨⟨h1, h2⟩, h3⟩, fun e he => ?_⟩, fun i hi => (h4 (i + 1) hi).2 (by omega)⟩, h6⟩
  obtain ⟨i, hi, rfl⟩ := List.mem_iff_getElem.1 he
  exact (h4 i hi).1
def dI : List aF → Int → Option Nat
 | [], _ => none
 | e :: L, id => if e.id = id then some 0 else (dI L id).map (· + 1)
theorem mH {L : List aF} {id : Int} {k : Nat} (h : dI L id = some k) : ∃ hk : k < L.length, L[k].id = id ∧ ∀ j (hj : j < k), (L[j]'(by omega)).id ≠ id := by
 induction L generalizing k with
 | nil => simp [dI] at h
 | cons e L ih =>
  unfold dI at h
  split at h
  ·rename_i he
   simp at h
   subst h
   exact ⟨by simp, he, fun j hj => absurd hj (Nat.not_lt_zero _)⟩
  ·rename_i he
   cases hq : dI L id with
   | none => rw [hq] at h; simp at h
   | some q =>
    rw [hq] at h
    simp at h
    subst h
    obtain ⟨h1, h2, h3⟩ := ih hq
    refine ⟨by simpa using h1, by simpa using h2, fun j hj => ?_⟩
    cases j with
    | zero => simpa using he
    | succ j => simpa using h3 j (by omega)
theorem KP {L : List aF} {id : Int} (h : dI L id = none) : ∀ e ∈ L, e.id ≠ id := by
 induction L with
 | nil => simp
 | cons e L ih =>
  unfold dI at h
  split at h
  ·simp at h
  ·rename_i he
   intro x hx
   rcases List.mem_cons.1 hx with rfl | hx
   ·exact he
   ·exact ih (by cases hq : dI L id <;> rw [hq] at h <;> simp at h ⊢) x hx
theorem Cz {L : List aF} {id : Int} (k : Nat) (hk : k < L.length) (h1 : L[k].id = id) (h2 : ∀ j (hj : j < k), (L[j]'(by omega)).id ≠ id) : dI L id = some k := by
 cases h : dI L id with
 | none => exact absurd h1 (KP h _ (List.getElem_mem hk))
 | some q =>
  obtain ⟨hq, e1, e2⟩ := mH h
  rcases Nat.lt_trichotomy q k with hlt | rfl | hgt
  ·exact absurd e1 (h2 q hlt)
  ·rfl
  ·exact absurd h1 (e2 k hgt)
theorem Ue {L : List aF} {id : Int} (h : ∀ e ∈ L, e.id ≠ id) : dI L id = none := by
 cases hq : dI L id with
 | none => rfl
 | some q => obtain ⟨hk, e1, _⟩ := mH hq; exact absurd e1 (h _ (List.getElem_mem hk))
def gq (r : bZ) (id ev : Int) : bZ × Bool :=
 match dI r.es id with
 | none => (r, false)
 | some k => match r.es[k]? with
  | none => (r, false)
  | some e => (⟨r.lim, r.top, r.es.set k ⟨e.id, (fQ e.state ev).1⟩⟩, (fQ e.state ev).2)
def wD (r : bZ) (id ev : Int) : bZ × Bool := if fE r = true then gq r id ev else (⟨0, 0, []⟩, false)
def jk (r : bZ) (id : Int) : Int :=
 match dI r.es id with
 | some k => match r.es[k]? with | some e => e.state | none => 0
 | none => if fI id = true ∧ id ≤ r.top then 4 else 0
theorem Dm {r : bZ} {id ev : Int} (h : dI r.es id = none) : gq r id ev = (r, false) := by unfold gq; rw [h]
theorem zU {r : bZ} {id ev : Int} {k : Nat} (h : dI r.es id = some k) (hk : k < r.es.length) : gq r id ev = (⟨r.lim, r.top, r.es.set k ⟨r.es[k].id, (fQ r.es[k].state ev).1⟩⟩, (fQ r.es[k].state ev).2) := by
 unfold gq; rw [h]; simp only [List.getElem?_eq_getElem hk]
theorem L9 {r : bZ} {id : Int} {k : Nat} (h : dI r.es id = some k) (hk : k < r.es.length) : jk r id = r.es[k].state := by
 unfold jk; rw [h]; simp only [List.getElem?_eq_getElem hk]
theorem Uf {r : bZ} {id : Int} (h : dI r.es id = none) : jk r id = if fI id = true ∧ id ≤ r.top then 4 else 0 := by unfold jk; rw [h]
theorem Ma {r : bZ} (h : fE r = true) : ∀ i j (hi : i < j) (hj : j < r.es.length), (r.es[i]'(by omega)).id < r.es[j].id := by
 obtain ⟨_, _, _, h4, _⟩ := qw.1 h
 intro i j hi hj
 induction j with
 | zero => omega
 | succ j ih =>
  have h1 := (h4 (j + 1) hj).2 (by omega)
  simp only [Nat.add_sub_cancel] at h1
  by_cases e : i = j
  ·subst e; exact h1
  ·have := ih (by omega) (by omega); omega
theorem Ug (L : List aF) (k : Nat) (hk : k < L.length) (e : aF) : fu (L.set k e) = fu L - dP L[k] + dP e := by
 unfold fu
 induction L generalizing k with
 | nil => exact absurd hk (Nat.not_lt_zero _)
 | cons a L ih =>
  cases k with
  | zero => simp [eZ]; omega
  | succ k => have := ih k (by simpa using hk); simp only [List.set_cons_succ, eZ, List.getElem_cons_succ]; omega
theorem Mc {r : bZ} {id ev : Int} (h : fE r = true) : fE (gq r id ev).1 = true ∧ fu (gq r id ev).1.es ≤ fu r.es ∧ (gq r id ev).1.top = r.top ∧ (gq r id ev).1.lim = r.lim := by
 cases hq : dI r.es id with
 | none => rw [Dm hq]; exact ⟨h, Int.le_refl _, rfl, rfl⟩
 | some k =>
  obtain ⟨hk, e1, e2⟩ := mH hq
  rw [zU hq hk]
  obtain ⟨h1, h2, h3, h4, h5⟩ := qw.1 h
  obtain ⟨n, b, hn⟩ : ∃ n b, fQ r.es[k].state ev = (n, b) := ⟨_, _, rfl⟩
  rw [hn]
  have hek := nC.1 (h4 k hk).1
  have hup : r.es[k].state ≤ n ∧ n ≤ 4 := by
   cases b
   ·have := Uh hn; omega
   ·have := Ui hn; omega
  have hlv : dP (⟨r.es[k].id, n⟩ : aF) ≤ dP r.es[k] := by
   have := LZ (⟨r.es[k].id, n⟩ : aF)
   have := LY r.es[k]
   by_cases e4 : r.es[k].state = 4
   ·have : n = 4 := by omega
    subst this
    unfold dP; simp [e4]
   ·have : dP r.es[k] = 1 := by unfold dP; rw [if_neg e4]
    omega
  have hls := Ug r.es k hk ⟨r.es[k].id, n⟩
  refine ⟨qw.2 ⟨h1, h2, by simpa using h3, fun i hi => ?_, by simp only; omega⟩, by simp only; omega, rfl, rfl⟩
  simp only [List.length_set] at hi
  have hget : ∀ j (hj : j < r.es.length), ((r.es.set k ⟨r.es[k].id, n⟩)[j]'(by simpa using hj)).id = r.es[j].id := fun j hj => by
   rw [List.getElem_set]; split
   ·rename_i e; subst e; rfl
   ·rfl
  refine ⟨?_, fun h0 => ?_⟩
  ·rw [List.getElem_set]; split
   ·exact nC.2 ⟨hek.1, hek.2.1, by simp only; omega, by simp only; omega⟩
   ·exact (h4 i hi).1
  ·rw [hget i hi, hget (i - 1) (by omega)]; exact (h4 i hi).2 h0
theorem Uj (L : List aF) : fu (L.filter fun e => !decide (e.state = 4)) = fu L ∧ ((L.filter fun e => !decide (e.state = 4)).length : Int) = fu L := by
 unfold fu
 induction L with
 | nil => simp [eZ]
 | cons e L ih =>
  by_cases h : e.state = 4
  ·rw [List.filter_cons_of_neg (by simp [h])]
   simp only [eZ, dP, h, if_true]; omega
  ·rw [List.filter_cons_of_pos (by simp [h])]
   simp only [eZ, List.length_cons, dP, h, if_false]; omega
theorem LA (L : List aF) : iW L = 2 * L.length := by
 unfold iW
 induction L with
 | nil => rfl
 | cons e L ih => simp only [dF, gT, List.length_cons, ih]; omega
end Go.Proofs.YtlpbnkideaojeaaGreatDoor
namespace Go.Proofs.YtlpbnkideaojeaaGreatDoor
open Go.RowKit Go.Shelf
attribute [local go_sem] Oper.semAt_some
set_option linter.unusedSimpArgs false
set_option linter.unusedVariables false
theorem Gl {n b : Int} (hn0 : 0 ≤ n) (hn : n ≤ 268435456) (h1 : 1 ≤ b) (h8 : b ≤ 8) : ∃ x xs, bytesOf n (pw b - 1) = x :: xs ∧ 0 ≤ x ∧ x < pw b ∧ ∀ y ∈ xs, 0 ≤ y ∧ y ≤ 255 := by
 have hp := wE h1 h8
 unfold bytesOf
 split
 ·exact ⟨n, [], rfl, by omega, by omega, by simp⟩
 ·exact ⟨_, _, rfl, by omega, by omega, Uk 4 _ (by omega) (by simp; omega)⟩
set_option maxRecDepth 100000 in
set_option maxHeartbeats 2000000 in
theorem yj (n b h : Int) (w : World) : Calls Tryz.prog 154 #[.int .i64 n, .int .i64 b, .int .i64 h] w fun e w' => e = .returned (.string (aY n b h)) ∧ Below w.heap.size w w' := by
 cases hok : rR n b
 ·have hv : aY n b h = ⟨#[]⟩ := by simp [aY, jl, hok]
  rw [hv]
  go_enter Tryz.func154, Tryz.ntmps154
  go_wp2_with (go_at_call 166; refine (Dn n b _).mono ?_; rw [hok]; rintro e w0 ⟨rfl, rfl⟩)
  go_ret
  exact ⟨rfl, Below.refl _ _⟩
 ·obtain ⟨hn0, hn, h1, h8⟩ := Md hok
  obtain ⟨hp1, hp2⟩ := wE h1 h8
  cases hin : aQ h 0 255
  ·have hv : aY n b h = ⟨#[]⟩ := by simp [aY, jl, hin]
   rw [hv]
   go_enter Tryz.func154, Tryz.ntmps154
   go_wp2_with (first | (go_at_call 166; refine (Dn n b _).mono ?_; rw [hok]; rintro e w0 ⟨rfl, rfl⟩) | (go_at_call 25; refine (iX _ _ _ _).mono ?_; rw [hin]; rintro e w0 ⟨rfl, rfl⟩))
   go_ret
   exact ⟨rfl, Below.refl _ _⟩
  ·obtain ⟨hh0, yt⟩ := jm hin
   have hand := Ul hh0 yt h1 h8
   by_cases hm : h % pw b = 0
   ·have hop : jl n b h = true := by simp [jl, hok, hin, hm]
    have hv : aY n b h = strOf (kY h (bytesOf n (pw b - 1))) := by simp [aY, hop]
    rw [hv]
    have hfit := (zV hop).2.2.2
    have hlen := (Dp n (pw b - 1)).2
    obtain ⟨i0, hi, hz0, hz1, hz2⟩ := info_parts (P := Tryz.prog) (e := 5) (z := .int .u8 0) (size := 1) (bytes := 1) (by kernel_rfl)
    refine (callsIn_wide (n := 4)).1 ?_
    refine callsIn_of_wp_marks Tryz.func154 rfl trivial ?_ rfl
    simp only [Tryz.ntmps154, List.size_toArray, List.length_cons, List.length_nil, Nat.reduceAdd, Nat.reduceSub, Array.replicate_succ, Array.replicate_zero, List.push_toArray, List.append_toArray, List.nil_append, List.cons_append]
    gi_wp2_with (first | (refine ⟨trivial, ?_⟩; gi_at_call 166; refine (callsIn_wide.2 (Dn n b _)).mono ?_; rw [hok]; rintro e w0 ⟨rfl, rfl⟩) | (refine ⟨trivial, ?_⟩; gi_at_call 25; refine (callsIn_wide.2 (iX _ _ _ _)).mono ?_; rw [hin]; rintro e w0 ⟨rfl, rfl⟩) | (refine ⟨trivial, ?_⟩; gi_at_call 167; refine (callsIn_wide.2 (Dq _ _ h1 h8)).mono ?_; rintro e w0 ⟨rfl, rfl⟩) | (refine ⟨trivial, ?_⟩; gi_at_call 168; refine (Um _ n b _).mono ?_; rintro e w1 ⟨rfl, rfl⟩))
    have bM := Boxed.new w0 127 (.slice none 0 0)
    have bN := Boxed.new (w0.alloc (.cells #[.slice none 0 0] 127)) 2 (.int .i64 n)
    have bB := Boxed.new ((w0.alloc (.cells #[.slice none 0 0] 127)).alloc (.cells #[.int .i64 n] 2)) 2 (.int .i64 b)
    simp only [World.size_alloc] at bN bB
    have hB0 : Below w0.heap.size w0 (((w0.alloc (.cells #[.slice none 0 0] 127)).alloc (.cells #[.int .i64 n] 2)).alloc (.cells #[.int .i64 b] 2)) := (((Below.refl _ w0).alloc (Nat.le_refl _) _).alloc (by simp) _).alloc (by simp; omega) _
    refine wpIn_rangeFunc_ownG rfl (by omega) (gf := 174) (lb := #[.pointer (some ⟨w0.heap.size + 1 + 1, 0, none⟩), .pointer (some ⟨w0.heap.size + 1, 0, none⟩)]) rfl trivial (enters_of Tryz.func174 (by kernel_rfl) rfl)
     (Un _ (by omega) (w0.heap.size + 1) (w0.heap.size + 1 + 1) n b hn0 hn h1 h8 _ (bN.alloc _) bB) Uo (Uq (by simp) (by simp)) (Below.refl _ _) (fun _ => rfl)
     (fun pre W => (∃ v, Boxed W w0.heap.size 127 v ∧ W.ownsRow w0.heap.size 5 1 v pre.length (pre.map (Value.int .u8)) ∧ True) ∧ Boxed W (w0.heap.size + 1) 2 (.int .i64 n) ∧ Boxed W (w0.heap.size + 1 + 1) 2 (.int .i64 b) ∧ Below w0.heap.size w0 W)
     (fun _ _ _ => False)
     (OwnFrom.and (Own.from (holdsRow_own w0.heap.size w0.heap.size 127 5 1 (fun pre : List Int => pre.length) (fun pre => pre.map (Value.int .u8)) (fun _ _ => True)) _) (OwnFrom.and (Own.from (boxed_own _ _ (fun _ => _)) _) (OwnFrom.and (Own.from (boxed_own _ _ (fun _ => _)) _) (ownFrom_below (Nat.le_refl _) (by simp; omega)))))
     (fun _ _ _ _ _ hs _ _ => hs)
     ⟨⟨_, (bM.alloc _).alloc _, World.ownsRow_nil _ _ _ _, trivial⟩, bN.alloc _, bB, hB0⟩
     (fun x => { tmps := #[.int .i64 n, .int .i64 b, .int .i64 h, undef, undef, undef, .string ⟨#[]⟩, .pointer (some ⟨w0.heap.size, 0, none⟩), .int .u8 x, .int .i64 n, .int .i64 b, .bool true, .bool false, .bool false, .int .i64 h, .bool true, .bool false, .bool false, .bool false, .int .i64 h, .int .i64 b, .int .i64 (pw b - 1), .int .i64 0, .bool false, .bool false, .int .i64 n, .int .i64 b, .func (.func 174) #[] #[.pointer (some ⟨w0.heap.size + 1 + 1, 0, none⟩), .pointer (some ⟨w0.heap.size + 1, 0, none⟩)], .int .u8 x, undef, undef, undef, undef, undef, undef, undef, undef, undef, undef, undef, undef, undef], defers := [] }) ?assign ?body ?done ?stop
    case assign =>
     intro l x W K hK
     gi_wp2
     exact hK
    case body =>
     rintro l pre x W ⟨⟨v, hv, hrow, _⟩, hN, hBb, hB⟩ hpl
     have hc := hv.cell
     have hsz := hB.size
     gi_wp2_with (gi_at_builtin; refine wpListIn_append_own _ rfl _ _ 127 rfl w0.heap.size 5 i0 (.int .u8 0) 1 1 Tryz.underlying127 hi hz0 hz1 hz2 rfl (by decide) _ _ _ rfl (hrow.alloc _) ⟨W.heap.size, 0, none⟩ 1 1 [.int .u8 x] rfl rfl (cell_one_new _ _ _) (by simp [Value.oneCell']) (by unfold maxLen; omega) (by omega) (by simp; omega) ?_; intro v' w1 hown' hgrow _; obtain ⟨g', cap', rfl⟩ := ownsRow_succ hown'; obtain ⟨hv1, hv2, hr2, hk2, hb2⟩ := hv.appended (by decide) hrow hB.size (Nat.le_refl _) hown' hgrow; have hc1 := hv1.cell; have hf1 := hv1.frozen)
     have hN1 : Boxed w1 (w0.heap.size + 1) 2 (.int .i64 n) := (hN.alloc _).kept hgrow (hN.not_row (by decide) hrow)
     have hB1 : Boxed w1 (w0.heap.size + 1 + 1) 2 (.int .i64 b) := (hBb.alloc _).kept hgrow (hBb.not_row (by decide) hrow)
     have Me := hN1.kept (grownBy_setCell' w1 w0.heap.size (.slice (some ⟨g', 0, none⟩) (pre.length + 1) cap')) (by simp)
     have hB2 := hB1.kept (grownBy_setCell' w1 w0.heap.size (.slice (some ⟨g', 0, none⟩) (pre.length + 1) cap')) (by simp; omega)
     exact ⟨hk2.from _, ⟨(show _ = _ from Me).trans hN.symm, (show _ = _ from hB2).trans hBb.symm⟩, ⟨_, hv2, by simpa using hr2, trivial⟩, Me, hB2, hB.trans hb2⟩
    case done =>
     rintro D ys W hD hys ⟨⟨v, hv, hrow, _⟩, hN, hBb, hB⟩ hK
     obtain ⟨x, xs, gB, hx0, hx1, hxs⟩ := Gl hn0 hn h1 h8
     have zW : Hid (bytesOf n (pw b - 1) = x :: xs) := gB
     rw [gB] at hys hlen
     subst hys
     rw [List.length_cons] at hrow hlen
     obtain ⟨g, cap, rfl⟩ := ownsRow_succ hrow
     obtain ⟨-, hfu, hgb, hcap, hlt⟩ := Ur (t := 0) hrow (by omega)
     have hcx : W.cell? ⟨g, 0, none⟩ = some (.int .u8 x) := by
      obtain ⟨q1, q2⟩ := hrow
      rcases q2 with ⟨q2, _⟩ | ⟨b', cap', cur, e1, e2, e3, e4, e5, e6, e7⟩
      ·cases q2
      ·simp only [Value.slice.injEq, Option.some.injEq, Addr.mk.injEq, and_true, true_and] at e1
       obtain ⟨rfl, rfl⟩ := e1
       have h6 : W.cell? ⟨g, 0, none⟩ = cur[0]? := by simp [World.cell?, e3]
       have h8 : (cur.toList.take ((xs.length + 1) * 1))[0]? = ((x :: xs).map (Value.int .u8))[0]? := by rw [e7]
       rw [List.getElem?_take_of_lt (by omega)] at h8
       rw [h6, ← Array.getElem?_toList, h8]; rfl
     have hor := Us hx0 hx1 hh0 yt hm h1 h8
     have hc := hv.cell
     have hne : g ≠ w0.heap.size := by
      rintro rfl
      exact hv.not_row (by decide) hrow rfl
     have hrow2 := Ut (t := 0) hrow (.int .u8 (h + x))
     have hcv := iY (l := (h + x) :: xs) (by simpa using hrow2) (by intro y hy; rcases List.mem_cons.1 hy with rfl | hy; omega; exact hxs y hy)
     have hK2 := (KeepsOthers.setCell W ⟨g, 0, none⟩ (.int .u8 (h + x))).same D _ hK rfl
     have hB2 := hB.setCell (p := ⟨g, 0, none⟩) hgb (.int .u8 (h + x))
     clear hrow hrow2 gB
     gi_wp2
     refine ⟨by simp, .inl ⟨_, _, rfl, run_takeDeferred hK2, ?_⟩⟩
     exact ⟨_, results_tmp rfl _ _ _, by rw [zW.out]; rfl, hB2.trans (belowK_b (w := w0) (Nat.le_refl _) _ D _ _ (by simp at hD; omega) hK2 rfl rfl)⟩
    case stop =>
     rintro D c pre W _ _ h _
     exact h.elim
   ·have hv : aY n b h = ⟨#[]⟩ := by simp [aY, jl, hm]
    rw [hv]
    go_enter Tryz.func154, Tryz.ntmps154
    go_wp2_with (first | (go_at_call 166; refine (Dn n b _).mono ?_; rw [hok]; rintro e w0 ⟨rfl, rfl⟩) | (go_at_call 25; refine (iX _ _ _ _).mono ?_; rw [hin]; rintro e w0 ⟨rfl, rfl⟩) | (go_at_call 167; refine (Dq _ _ h1 h8).mono ?_; rintro e w0 ⟨rfl, rfl⟩))
    go_ret
    exact ⟨rfl, Below.refl _ _⟩
end Go.Proofs.YtlpbnkideaojeaaGreatDoor
namespace Go.Proofs.YtlpbnkideaojeaaGreatDoor
open Go.RowKit
set_option maxRecDepth 100000
set_option linter.unusedSimpArgs false
set_option linter.unusedVariables false
def S3 (b o : Nat) (v : Value) (g : Nat) (x y : Value) (u : World) : Prop := u.cell? ⟨b, o, none⟩ = some v ∧ u.cell? ⟨g, 0, none⟩ = some x ∧ u.cell? ⟨g, 1, none⟩ = some y
theorem wF (b first n : Nat) (sl : List Fd) (c g : Int) (w : World) (hs : sl.length = 112) (hr : aj w b 172 (rC sl first c g)) (hf : first < 112) (hn : n ≤ 112) :
  Calls Tryz.prog 163 #[.pointer (some ⟨b, 0, none⟩), .int .i64 n] w fun x w' => x = .returned (.pointer (some ⟨b, (first + n) % 112 * 2, none⟩)) ∧ Below w.heap.size w w' := by
 have c0 := hr.cell (ku hs first c g).1
 have hi1 : (0 : Int) ≤ ((first : Int) + n) % 112 ∧ ((first : Int) + n) % 112 < 112 := by omega
 have hi2 : (((first : Int) + n) % 112).toNat = (first + n) % 112 := by omega
 go_enter Tryz.func163, Tryz.ntmps163
 go_wp2_with fail
 go_quiet (fail)
 go_wp2_with fail
 go_ret
 exact ⟨rfl, (by repeat' (first | (with_reducible exact Below.refl _ _) | (with_reducible refine Below.drew ?_) | (with_reducible refine ay _ ?_) | (with_reducible refine aA ?_ _) | (refine ah ?_ (by with_reducible assumption)) | (with_reducible refine Below.setCell ?_ ?_ _) | go_size))⟩
set_option maxHeartbeats 2000000 in
theorem Uu (b first n : Nat) (sl : List Fd) (g : Int) (f : Fd) (w : World) (hs : sl.length = 112) (hr : aj w b 172 (rC sl first n g)) (hf : first < 112) (hn : n ≤ 111) (bK : f.fine) (hg0 : 0 ≤ g) (hg1 : g ≤ 1000000) :
  Calls Tryz.prog 144 #[.pointer (some ⟨b, 0, none⟩), .agg #[.string f.n, .string f.v]] w fun x w' => x = .returned (.tuple #[]) ∧ aj w' b 172 (rC (sl.set ((first + n) % 112) f) first ((n + 1 : Nat) : Int) (g + wt f)) ∧ Turn b (b + 1) w w' := by
 have hbw := hr.lt
 go_enter Tryz.func144, Tryz.ntmps144
 go_wp2_with fail
 generalize hV : w.alloc (.cells #[.string f.n, .string f.v] 104) = V; have aO : Below w.heap.size w V := (by rw [← hV]; exact (Below.refl _ _).alloc (Nat.le_refl _) _); have x0 : World.cell? V ⟨w.heap.size, 0, none⟩ = some (.string f.n) := (by rw [← hV]; simp); have x1 : World.cell? V ⟨w.heap.size, 1, none⟩ = some (.string f.v) := (by rw [← hV]; simp); have jy : w.heap.size < (World.heap V).size := (by rw [← hV]; simp); clear hV
 have uq := hr.new aO
 have hbl : b < V.heap.size := uq.lt
 have c1 := uq.cell (ku hs first n g).2.1
 have hk : (first + n) % 112 < 112 := by omega
 obtain ⟨k, hkk⟩ : ∃ k, k = (first + n) % 112 := ⟨_, rfl⟩
 rw [← hkk] at hk
 obtain ⟨s0, s1⟩ := rT hs first n g k hk
 have u0 := uq.cell s0
 have u1 := uq.cell s1
 have HK := hide hkk
 have z0 := uq.frozen (k * 2)
 have z1 := uq.frozen (k * 2 + 1)
 have hne : ¬ b = w.heap.size := by omega
 clear s0 s1 hkk
 have Gm := hide uq
 clear hr uq
 have hS0 := And.intro c1 (And.intro x0 x1)
 refine wp_region_held_drew (S := (S3 b 225 (.int .i64 n) w.heap.size (.string f.n) (.string f.v))) (by kernel_rfl) hS0 (fun hS => ?_)
 clear hS0
 refine wpAnyH_take (i := 0) (v := ?_) rfl (by kernel_rfl) (by kernel_rfl) (by kernel_rfl) (fun _ _ _ h => h) (Or.inl ⟨by rfl, ?_⟩) hS ?_; rotate_left; focus (intro w hw; clear hw; go_simp; try with_reducible rfl)
 refine wpAnyH_take (i := 1) (v := ?_) rfl (by kernel_rfl) (by kernel_rfl) (by kernel_rfl) (fun _ _ _ h => h) (Or.inl ⟨by rfl, ?_⟩) hS ?_; rotate_left; focus (intro w hw; clear hw; go_simp; try with_reducible rfl)
 refine wpAnyH_take (i := 2) (v := ?_) rfl (by kernel_rfl) (by kernel_rfl) (by kernel_rfl) (fun _ _ _ h => h) (Or.inl ⟨by rfl, ?_⟩) hS ?_; rotate_left; focus (intro w hw; clear hw; go_simp; try with_reducible rfl)
 refine wpAnyH_take (i := 3) (v := ?_) rfl (by kernel_rfl) (by kernel_rfl) (by kernel_rfl) (fun _ _ _ h => h) (Or.inl ⟨by rfl, ?_⟩) hS ?_; rotate_left; focus (intro w hw; clear hw; go_simp; try with_reducible rfl)
 refine wpAnyH_take (i := 4) (v := ?_) rfl (by kernel_rfl) (by kernel_rfl) (by kernel_rfl) (fun _ _ _ h => h) (Or.inl ⟨by rfl, ?_⟩) hS ?_; rotate_left; focus (intro w hw; obtain ⟨l0, l1, l2⟩ := hw; go_simp; try with_reducible rfl)
 refine wpAnyH_take (i := 6) (v := ?_) rfl (by kernel_rfl) (by kernel_rfl) (by kernel_rfl) (fun _ _ _ h => h) (Or.inl ⟨by rfl, ?_⟩) hS ?_; rotate_left; focus (intro w hw; obtain ⟨l0, l1, l2⟩ := hw; go_simp; try with_reducible rfl)
 refine wpAnyH_ready (rs := [5]) (by kernel_rfl) (by simp) ?_; refine AllReadyH.cons rfl (fun K hK => ?_) AllReadyH.nil; go_simp
 refine (wF b first n sl n g _ hs (Gm.out.new (ay 1 (Below.refl _ _))) hf (by omega)).mono ?_; rw [← HK.out]; rintro x w2 ⟨rfl, hb2⟩
 have hb2' : Below V.heap.size V w2 := ah (ay 1 (Below.refl _ _)) hb2
 have c1' := (hb2'.cell (p := ⟨b, 225, none⟩) hbl).trans c1
 have Mf := (hb2'.cell (p := ⟨w.heap.size, 0, none⟩) jy).trans x0
 have x1' := (hb2'.cell (p := ⟨w.heap.size, 1, none⟩) jy).trans x1
 have Uv := (hb2'.cell (p := ⟨b, k * 2, none⟩) hbl).trans u0
 have Uw := (hb2'.cell (p := ⟨b, k * 2 + 1, none⟩) hbl).trans u1
 have Ux := (hb2'.frozen (p := ⟨b, k * 2, none⟩) hbl).trans z0
 have z1' := (hb2'.frozen (p := ⟨b, k * 2 + 1, none⟩) hbl).trans z1
 refine hK.out _ _ ⟨c1', Mf, x1'⟩ (fun hS => ?_)
 clear hK K c1 u0 u1 z0 z1 hb2
 refine wpAnyH_take (i := 7) (v := ?_) rfl (by kernel_rfl) (by kernel_rfl) (by kernel_rfl) (fun _ _ _ h => h) (Or.inl ⟨by rfl, ?_⟩) hS ?_; rotate_left; focus (intro w hw; clear hw; go_simp; try with_reducible rfl)
 refine wpAnyH_ready (rs := [8]) (by kernel_rfl) (by simp) ?_; refine AllReadyH.cons rfl (fun K hK => ?_) AllReadyH.nil; go_simp
 have hk1 : ¬ k * 2 = 225 := by omega
 have hk2 : ¬ k * 2 + 1 = 225 := by omega
 have hr3 := ((Gm.out.new hb2').set (k * 2) (.string f.n)).set (k * 2 + 1) (.string f.v)
 rw [wG hs _ _ _ k hk f] at hr3
 have hs' : (sl.set k f).length = 112 := by simp [hs]
 have ht3 : Turn b (b + 1) V ((w2.setCell ⟨b, k * 2, none⟩ (.string f.n)).setCell ⟨b, k * 2 + 1, none⟩ (.string f.v)) :=
  ((iL hb2' b (b + 1)).setCell _ (.inl ⟨Nat.le_refl _, by simp⟩)).setCell _ (.inl ⟨Nat.le_refl _, by simp⟩)
 generalize (w2.setCell ⟨b, k * 2, none⟩ (.string f.n)).setCell ⟨b, k * 2 + 1, none⟩ (.string f.v) = w3 at *
 have y0 := (ht3.cell w.heap.size 0 jy (by omega)).trans x0
 have y1 := (ht3.cell w.heap.size 1 jy (by omega)).trans x1
 have c3 := hr3.cell (ku hs' first n g).2.1
 have q3 := hr3.frozen 225
 refine hK.out _ _ ⟨c3, y0, y1⟩ (fun _ => ?_)
 clear hK K hS c1' Mf x1' Uv Uw Ux z1' hb2' w2
 refine wpAnyH_done (by kernel_rfl) ?_ _
 have HR3 := hide hr3
 clear hr3
 go_wp2_with fail
 have hr4 := HR3.out.set 225 (.int .i64 ((n : Int) + 1))
 rw [Gn hs'] at hr4
 have gZ := ht3.setCell (p := ⟨b, 225, none⟩) (.int .i64 ((n : Int) + 1)) (.inl ⟨Nat.le_refl _, by simp⟩)
 generalize w3.setCell ⟨b, 225, none⟩ (.int .i64 ((n : Int) + 1)) = w4 at *
 replace y0 := (gZ.cell w.heap.size 0 jy (by omega)).trans x0
 replace y1 := (gZ.cell w.heap.size 1 jy (by omega)).trans x1
 have d2 := hr4.cell (ku hs' first ((n : Int) + 1) g).2.2
 have d3 := hr4.frozen 226
 have jA := hr4.lt
 have zX := zY f
 obtain ⟨z, hz⟩ : ∃ z, wt f = z := ⟨_, rfl⟩
 rw [hz] at zX
 have fin : ∀ w5, Below w4.heap.size w4 w5 → aj (w5.setCell ⟨b, 226, none⟩ (.int .i64 (g + z))) b 172 (rC (sl.set ((first + n) % 112) f) first ((n + 1 : Nat) : Int) (g + wt f)) ∧ Turn b (b + 1) w (w5.setCell ⟨b, 226, none⟩ (.int .i64 (g + z))) := fun w5 h5 => by
  have oK := (hr4.new h5).set 226 (.int .i64 (g + z))
  rw [Gp hs', HK.out] at oK
  rw [hz]
  refine ⟨oK, ((iL aO b (b + 1)).trans (gZ.trans (iL h5 b (b + 1)))).setCell _ (.inl ⟨Nat.le_refl _, by simp⟩)⟩
 have HZ := hide hz
 clear hz x0 x1 c3 q3 gZ ht3 hr4 HR3 Gm
 have rU : IntKind.i64.wrap (g + z) = g + z := by rw [IntKind.wrap_i64]; omega
 refine wp_region_any (by kernel_rfl) ?_; change wpAny _ _ _ _ _ _ _ (World.drew _)
 refine wpAny_take (i := 0) (v := ?_) rfl (by kernel_rfl) (by kernel_rfl) (by kernel_rfl) (fun _ _ _ h => h) (Or.inl ⟨by rfl, ?_⟩) ?_; rotate_left; focus (intro w; go_simp; try with_reducible rfl)
 refine wpAny_take (i := 1) (v := ?_) rfl (by kernel_rfl) (by kernel_rfl) (by kernel_rfl) (fun _ _ _ h => h) (Or.inl ⟨by rfl, ?_⟩) ?_; rotate_left; focus (intro w; go_simp; try with_reducible rfl)
 refine wpAny_take (i := 2) (v := ?_) rfl (by kernel_rfl) (by kernel_rfl) (by kernel_rfl) (fun _ _ _ h => h) (Or.inl ⟨by rfl, ?_⟩) ?_; rotate_left; focus (intro w; go_simp; try with_reducible rfl)
 refine wpAny_ready (rs := [3, 4]) (by kernel_rfl) (by simp) ?_; refine AllReady.cons rfl (fun K hK => ?_) (AllReady.cons rfl (fun K hK => ?_) AllReady.nil)
 ·go_simp; refine hK _ _ ?_; clear hK K
  refine wpAny_ready (rs := [4]) (by kernel_rfl) (by simp) ?_; refine AllReady.cons rfl (fun K hK => ?_) AllReady.nil
  go_simp; refine hK _ _ ?_; clear hK K
  refine wpAny_ready (rs := [5]) (by kernel_rfl) (by simp) ?_; refine AllReady.cons rfl (fun K hK => ?_) AllReady.nil
  go_simp
  refine (oL f _ bK).mono ?_; rw [HZ.out]; rintro x w5 ⟨rfl, hb5⟩
  have eT : Below w4.heap.size w4 w5 := ah (ay 1 (Below.refl _ _)) hb5
  have e2 := (eT.cell (p := ⟨b, 226, none⟩) jA).trans d2
  have e3 := (eT.frozen (p := ⟨b, 226, none⟩) jA).trans d3
  refine hK _ _ ?_
  clear hK K
  refine wpAny_take (i := 6) (v := ?_) rfl (by kernel_rfl) (by kernel_rfl) (by kernel_rfl) (fun _ _ _ h => h) (Or.inl ⟨by rfl, ?_⟩) ?_; rotate_left; focus (intro w; go_simp; try with_reducible rfl)
  refine wpAny_take (i := 7) (v := ?_) rfl (by kernel_rfl) (by kernel_rfl) (by kernel_rfl) (fun _ _ _ h => h) (Or.inl ⟨by rfl, ?_⟩) ?_; rotate_left; focus (intro w; go_simp; try with_reducible rfl)
  refine wpAny_take (i := 8) (v := ?_) rfl (by kernel_rfl) (by kernel_rfl) (by kernel_rfl) (fun _ _ _ h => h) (Or.inl ⟨by rfl, ?_⟩) ?_; rotate_left; focus (intro w; go_simp; try with_reducible rfl)
  refine wpAny_ready (rs := [9]) (by kernel_rfl) (by simp) ?_; refine AllReady.cons rfl (fun K hK => ?_) AllReady.nil
  go_simp; refine hK _ _ ?_; clear hK K
  refine wpAny_done (by kernel_rfl) ?_ _
  go_wp2_with fail
  refine bodyPost_end (v := .tuple #[]) (by simp [results, Tryz.results144, go_sem]) rfl ?_
  exact ⟨rfl, fin _ eT⟩
 ·go_simp; refine hK _ _ ?_; clear hK K
  refine wpAny_ready (rs := [3, 5]) (by kernel_rfl) (by simp) ?_; refine AllReady.cons rfl (fun K hK => ?_) (AllReady.cons rfl (fun K hK => ?_) AllReady.nil)
  ·go_simp; refine hK _ _ ?_; clear hK K
   refine wpAny_ready (rs := [5]) (by kernel_rfl) (by simp) ?_; refine AllReady.cons rfl (fun K hK => ?_) AllReady.nil
   go_simp
   refine (oL f _ bK).mono ?_; rw [HZ.out]; rintro x w5 ⟨rfl, hb5⟩
   have eT : Below w4.heap.size w4 w5 := ah (ay 1 (Below.refl _ _)) hb5
   have e2 := (eT.cell (p := ⟨b, 226, none⟩) jA).trans d2
   have e3 := (eT.frozen (p := ⟨b, 226, none⟩) jA).trans d3
   refine hK _ _ ?_
   clear hK K
   refine wpAny_take (i := 6) (v := ?_) rfl (by kernel_rfl) (by kernel_rfl) (by kernel_rfl) (fun _ _ _ h => h) (Or.inl ⟨by rfl, ?_⟩) ?_; rotate_left; focus (intro w; go_simp; try with_reducible rfl)
   refine wpAny_take (i := 7) (v := ?_) rfl (by kernel_rfl) (by kernel_rfl) (by kernel_rfl) (fun _ _ _ h => h) (Or.inl ⟨by rfl, ?_⟩) ?_; rotate_left; focus (intro w; go_simp; try with_reducible rfl)
   refine wpAny_take (i := 8) (v := ?_) rfl (by kernel_rfl) (by kernel_rfl) (by kernel_rfl) (fun _ _ _ h => h) (Or.inl ⟨by rfl, ?_⟩) ?_; rotate_left; focus (intro w; go_simp; try with_reducible rfl)
   refine wpAny_ready (rs := [9]) (by kernel_rfl) (by simp) ?_; refine AllReady.cons rfl (fun K hK => ?_) AllReady.nil
   go_simp; refine hK _ _ ?_; clear hK K
   refine wpAny_done (by kernel_rfl) ?_ _
   go_wp2_with fail
   refine bodyPost_end (v := .tuple #[]) (by simp [results, Tryz.results144, go_sem]) rfl ?_
   exact ⟨rfl, fin _ eT⟩
  ·go_simp
   refine (oL f _ bK).mono ?_; rw [HZ.out]; rintro x w5 ⟨rfl, hb5⟩
   have eT : Below w4.heap.size w4 w5 := ah (ay 1 (Below.refl _ _)) hb5
   have e2 := (eT.cell (p := ⟨b, 226, none⟩) jA).trans d2
   have e3 := (eT.frozen (p := ⟨b, 226, none⟩) jA).trans d3
   refine hK _ _ ?_
   clear hK K
   refine wpAny_ready (rs := [3]) (by kernel_rfl) (by simp) ?_; refine AllReady.cons rfl (fun K hK => ?_) AllReady.nil
   go_simp; refine hK _ _ ?_; clear hK K
   refine wpAny_take (i := 6) (v := ?_) rfl (by kernel_rfl) (by kernel_rfl) (by kernel_rfl) (fun _ _ _ h => h) (Or.inl ⟨by rfl, ?_⟩) ?_; rotate_left; focus (intro w; go_simp; try with_reducible rfl)
   refine wpAny_take (i := 7) (v := ?_) rfl (by kernel_rfl) (by kernel_rfl) (by kernel_rfl) (fun _ _ _ h => h) (Or.inl ⟨by rfl, ?_⟩) ?_; rotate_left; focus (intro w; go_simp; try with_reducible rfl)
   refine wpAny_take (i := 8) (v := ?_) rfl (by kernel_rfl) (by kernel_rfl) (by kernel_rfl) (fun _ _ _ h => h) (Or.inl ⟨by rfl, ?_⟩) ?_; rotate_left; focus (intro w; go_simp; try with_reducible rfl)
   refine wpAny_ready (rs := [9]) (by kernel_rfl) (by simp) ?_; refine AllReady.cons rfl (fun K hK => ?_) AllReady.nil
   go_simp; refine hK _ _ ?_; clear hK K
   refine wpAny_done (by kernel_rfl) ?_ _
   go_wp2_with fail
   refine bodyPost_end (v := .tuple #[]) (by simp [results, Tryz.results144, go_sem]) rfl ?_
   exact ⟨rfl, fin _ eT⟩
end Go.Proofs.YtlpbnkideaojeaaGreatDoor
namespace Go.Proofs.YtlpbnkideaojeaaGreatDoor
def lS (room : Int) (L : List Fd) (f : Fd) : (Int × List Fd) × Bool := if bI room L then (if okF f then ((room, shr room (f :: L)), true) else ((room, L), false)) else ((0, []), false)
def jH (room : Int) (L : List Fd) (r : Int) : (Int × List Fd) × Bool := if bI room L then (if aQ r 0 1000 then ((r, shr r L), true) else ((room, L), false)) else ((0, []), false)
theorem Gq (w : World) (base : Nat) (e : TypeId) : w.ownsRow base e 2 (.slice none 0 0) 0 (fv []) := ⟨rfl, .inl ⟨rfl, rfl⟩⟩
end Go.Proofs.YtlpbnkideaojeaaGreatDoor
namespace Go.Proofs.YtlpbnkideaojeaaGreatDoor
open Go.RowKit
set_option maxRecDepth 100000
set_option linter.unusedSimpArgs false
set_option linter.unusedVariables false
set_option maxHeartbeats 1000000 in
theorem zZ (L : List Fd) (v : Value) (w : World) (hr0 : Reads w v L.length 2 (fv L)) (hf : ∀ f ∈ L, f.fine) :
  Calls Tryz.prog 99 #[v] w fun x w' => x = .returned (.bool (L.all okF)) ∧ Below w.heap.size w w' := by
 obtain ⟨hl, ad, cap, rfl, h1, h2, h3⟩ := hr0
 have H3 := hide h3; have HF := hide hf
 clear h3 hf
 unfold maxLen at h2
 obtain ⟨R, hR⟩ : ∃ R, R = L.all okF := ⟨_, rfl⟩
 rw [← hR]
 have HR := hide hR
 clear hR
 go_enter Tryz.func99, Tryz.ntmps99
 go_wp2_with fail
 go_loopw [7] (fun i wr => ∃ (k : Nat), i = .int .i64 k ∧ k ≤ L.length ∧ (∀ f ∈ L.take k, okF f = true) ∧ Below w.heap.size w wr) (fun i _ => L.length - (intOf i).toNat)
 case atStart => exact ⟨0, rfl, Nat.zero_le _, by simp, Below.refl _ _⟩
 case round =>
  obtain ⟨k, rfl, hk, hall, hb⟩ := hrel
  by_cases hlt : k < L.length
  ·obtain ⟨b, o, rfl, hbw, hc⟩ := H3.out (by omega)
   obtain ⟨s0, s1⟩ := kK L k hlt
   have fT := HF.out _ (List.getElem_mem hlt)
   have HA := hide (Dr L k hlt hall)
   have HB : Hid (okF L[k] = false → L.all okF = false) := fun h => by
    cases e : L.all okF
    ·rfl
    ·have := List.all_eq_true.1 e _ (List.getElem_mem hlt); rw [h] at this; cases this
   obtain ⟨f, bK⟩ : ∃ f, f = L[k] := ⟨_, rfl⟩
   rw [← bK] at s0 s1 fT HA HB
   have c0 : wr.cell? ⟨b, o + k * 2, none⟩ = some (.string f.n) := by rw [hb.cell (p := ⟨b, o + k * 2, none⟩) hbw]; exact hc _ _ s0
   have c1 : wr.cell? ⟨b, o + k * 2 + 1, none⟩ = some (.string f.v) := by rw [hb.cell (p := ⟨b, o + k * 2 + 1, none⟩) hbw]; exact hc _ _ s1
   clear hc s0 s1 bK hall
   cases hok : okF f
   ·have jO := HR.out.trans (HB.out hok)
    subst jO
    clear HB HR HA
    go_wp2_with fail
    refine (yu f _ fT).mono ?_; rw [hok]; rintro x w1 ⟨rfl, hb1⟩
    go_wp2_with fail
    go_ret
    exact ⟨rfl, ah (aA hb _) hb1⟩
   ·have Gr := hide (HA.out hok)
    clear HA HB
    go_wp2_with fail
    refine (yu f _ fT).mono ?_; rw [hok]; rintro x w1 ⟨rfl, hb1⟩
    go_wp2_with fail
    exact ⟨⟨k + 1, by go_num, by omega, Gr.out, ah (aA hb _) hb1⟩, by simp [intOf]; omega⟩
  ·obtain rfl : k = L.length := by omega
   rw [List.take_length] at hall
   have jO := HR.out.trans (List.all_eq_true.2 hall)
   subst jO
   clear HR hall
   go_wp2_with fail
   go_ret
   exact ⟨rfl, hb⟩
theorem Uy : (Rows.laid_internal_strconv_uint64pow10 : DataW Unit) = Lib.tabData .u64 Lib.pow10Tab := by kernel_rfl
theorem Uz {W : World} {r : List (String × DataW Unit)} (h : laidMet Tryz.prog (("internal/strconv.uint64pow10", Rows.laid_internal_strconv_uint64pow10) :: r) W) : qU W := by
 rw [Uy] at h
 exact Lib.tabIs_of_head (g := 0) (t := 224) (e := 191) (n := 20) (by kernel_rfl) (by kernel_rfl) Tryz.underlying224 Tryz.underlying191 (by kernel_rfl) (by kernel_rfl) h
theorem RL {W : World} (h : laidMet Tryz.prog [("math/bits.deBruijn32tab", Rows.laid_math_bits_deBruijn32tab), ("math/bits.deBruijn64tab", Rows.laid_math_bits_deBruijn64tab), ("internal/strconv.uint64pow10", Rows.laid_internal_strconv_uint64pow10)] W) : qU W := Uz h.tail.tail
def Dt : Nat → DataW Unit → List Value
 | 0, _ => []
 | _ + 1, .lit (.int k z) => [.int k z]
 | n + 1, .agg ps => ps.flatMap (Dt n)
 | _ + 1, _ => []
def Gs (h : Array Obj) (g : Nat) (cs : Array Value) : Array Obj := h.modify g fun
 | .cells _ t frozen => .cells cs t frozen
 | o => o
def Cq (h : Array Obj) : Array Obj :=
 let h1 := Gs h 1 (Dt 3 Rows.laid_math_bits_deBruijn32tab).toArray
 let h2 := Gs h1 2 (Dt 3 Rows.laid_math_bits_deBruijn64tab).toArray
 Gs h2 0 (Dt 3 Rows.laid_internal_strconv_uint64pow10).toArray
theorem RI (os : Os) (args : Array Value) : laidMet Tryz.prog [("math/bits.deBruijn32tab", Rows.laid_math_bits_deBruijn32tab), ("math/bits.deBruijn64tab", Rows.laid_math_bits_deBruijn64tab), ("internal/strconv.uint64pow10", Rows.laid_internal_strconv_uint64pow10)] (({ World.holding Tryz.prog os ⟨#[], #[], []⟩ with heap := Cq (World.holding Tryz.prog os ⟨#[], #[], []⟩).heap } : World).forCall (fun _ _ => 0) ⟨#[], args, []⟩).memory :=
 (LaidIn.of_run [1, 2, 0] 8 (by kernel_rfl) (by kernel_rfl) (by kernel_rfl) (by kernel_rfl)).met
end Go.Proofs.YtlpbnkideaojeaaGreatDoor
