/- Rounds in boxes for the laws; how many sizes wait; what is queued and served, line by line. -/
import Derived.Test.YteojibdnphaooaaTurnBox
import Derived.Test.YteojibdnphaooaaTurnServed
import Derived.Test.YteojibdnphaooaaLikeRound
import Derived.Test.YteojibdnphaooaaTurnTail
namespace Go.Proofs.Yteojibdnphaooaa
open Go.RowKit
set_option maxRecDepth 100000
set_option linter.unusedSimpArgs false
set_option linter.unusedVariables false
/-- A Round in block b, what it owns in blocks lo .. hi - 1, apart from b. -/
structure BxN (w : World) (b lo hi : Nat) (d : RoundD) (a : Option Addr) (p : Nat) : Prop where
  row : RowIs w b 26 [.int .i64 d.turn, .bool d.given, .slice a d.ls.length p]
  own : OwX lineT w lo hi (.slice a d.ls.length p) d.ls
theorem BxN.rd {w : World} {b lo hi : Nat} {d : RoundD} {a : Option Addr} {p : Nat} (h : BxN w b lo hi d a p) : RdR lineS w (.slice a d.ls.length p) d.ls := h.own.rd.tail
theorem BxN.new {w w' : World} {b lo hi : Nat} {d : RoundD} {a : Option Addr} {p : Nat} (h : BxN w b lo hi d a p) (hb : Below w.heap.size w w') : BxN w' b lo hi d a p := ⟨h.row.new hb, h.own.new hb⟩
theorem BxN.make (w : World) (d : RoundD) {lo hi : Nat} {a : Option Addr} {p : Nat} (h : OwX lineT w lo hi (.slice a d.ls.length p) d.ls) : BxN (w.alloc (.cells #[.int .i64 d.turn, .bool d.given, .slice a d.ls.length p] 26)) w.heap.size lo hi d a p :=
  ⟨rowIs_new w 26 [.int .i64 d.turn, .bool d.given, .slice a d.ls.length p], h.new ((Below.refl _ _).alloc (Nat.le_refl _) _)⟩
/-- Below a bound that lies above it nothing turns. -/
theorem BxN.below {w w' : World} {b lo hi B : Nat} {d : RoundD} {a : Option Addr} {p : Nat} (h : BxN w b lo hi d a p) (hb : Below B w w') (h1 : b < B) (h2 : hi ≤ B) : BxN w' b lo hi d a p := by
  obtain ⟨bs, o1, o2, o3⟩ := h.own
  exact ⟨h.row.kept (hb.block b h1), bs, o1.keep hb.size (fun y hy => hb.block y (by have := o3 y hy; omega)), o2, o3⟩
theorem OwX.grown {D : Type} {E : Shp D} {w w' : World} {lo hi : Nat} {v : Value} {L : List D} {row : Option Nat} (h : OwX E w lo hi v L) (hg : w.grownBy w' row) (hr : ∀ k, row = some k → k < lo ∨ hi ≤ k) : OwX E w' lo hi v L := by
  obtain ⟨bs, o1, o2, o3⟩ := h
  exact ⟨bs, o1.keep hg.size (fun y hy => hg.block y (o1.lt y hy) (fun e => by have := hr y e.symm; have := o3 y hy; omega)), o2, o3⟩
theorem BxN.grown {w w' : World} {b lo hi : Nat} {d : RoundD} {a : Option Addr} {p : Nat} {row : Option Nat} (h : BxN w b lo hi d a p) (hg : w.grownBy w' row) (hr : ∀ k, row = some k → k ≠ b ∧ (k < lo ∨ hi ≤ k)) : BxN w' b lo hi d a p :=
  ⟨h.row.kept (hg.block b h.row.lt (fun e => (hr b e.symm).1 rfl)), h.own.grown hg (fun k hk => (hr k hk).2)⟩
/-- A box that is written anew. -/
theorem BxN.put {w : World} {b lo hi lo' hi' : Nat} {d d' : RoundD} {a a' : Option Addr} {p p' : Nat} (h : BxN w b lo hi d a p) (ho : OwX lineT w lo' hi' (.slice a' d'.ls.length p') d'.ls) (hne : b < lo' ∨ hi' ≤ b) :
    BxN (((w.setCell ⟨b, 0, none⟩ (.int .i64 d'.turn)).setCell ⟨b, 1, none⟩ (.bool d'.given)).setCell ⟨b, 2, none⟩ (.slice a' d'.ls.length p')) b lo' hi' d' a' p' :=
  ⟨((h.row.set 0 _).set 1 _).set 2 _, ((ho.far _ _ hne).far _ _ hne).far _ _ hne⟩
theorem BxN.putR {w : World} {b lo' hi' : Nat} {d' : RoundD} {a' : Option Addr} {p' : Nat} {c0 c1 c2 : Value} (h : RowIs w b 26 [c0, c1, c2]) (ho : OwX lineT w lo' hi' (.slice a' d'.ls.length p') d'.ls) (hne : b < lo' ∨ hi' ≤ b) :
    BxN (((w.setCell ⟨b, 0, none⟩ (.int .i64 d'.turn)).setCell ⟨b, 1, none⟩ (.bool d'.given)).setCell ⟨b, 2, none⟩ (.slice a' d'.ls.length p')) b lo' hi' d' a' p' :=
  ⟨((h.set 0 _).set 1 _).set 2 _, ((ho.far _ _ hne).far _ _ hne).far _ _ hne⟩
theorem below_put {B b : Nat} {w0 w : World} (h : Below B w0 w) (hb : B ≤ b) (u0 u1 u2 : Value) : Below B w0 (((w.setCell ⟨b, 0, none⟩ u0).setCell ⟨b, 1, none⟩ u1).setCell ⟨b, 2, none⟩ u2) :=
  ((h.setCell (p := ⟨b, 0, none⟩) hb _).setCell (p := ⟨b, 1, none⟩) hb _).setCell (p := ⟨b, 2, none⟩) hb _
theorem waiting_ok {r : RoundD} (h : okRn r = true) : waitingD r = waitLs r.ls ∧ 0 ≤ waitLs r.ls ∧ waitLs r.ls ≤ 18000 := by
  obtain ⟨⟨_, h1⟩, _, h3⟩ := okRn_iff.1 h
  have := wait_nn h3
  exact ⟨by unfold waitingD; rw [if_pos h], this.1, by omega⟩
/-- How many sizes wait. -/
def totLs : List LineD → Nat
  | [] => 0
  | x :: l => x.sz.length + totLs l
theorem tot_ok {r : RoundD} (h : okRn r = true) : totLs r.ls ≤ 180 := by
  obtain ⟨⟨_, h1⟩, _, h3⟩ := okRn_iff.1 h
  have key : ∀ L : List LineD, (∀ x ∈ L, x.sz.length ≤ 30) → totLs L ≤ L.length * 30 := by
    intro L
    induction L with
    | nil => intro _; simp [totLs]
    | cons x L ih =>
      intro hx
      have h3 := ih (fun y hy => hx y (by simp [hy]))
      have h4 := hx x (by simp)
      simp only [totLs, List.length_cons]
      omega
  have := key r.ls (fun x hx => (okLn_iff.1 (h3 x hx)).2.2.1)
  omega
theorem SrvRes.tot {r y : RoundD} {w : Nat} {n : Int} (h : SrvRes r y w n) : totLs y.ls + 1 = totLs r.ls := by
  have e : ∀ (A B : List LineD), A.length = B.length → (∀ i, (ln B i).sz = (ln A i).sz) → totLs B = totLs A := by
    intro A
    induction A with
    | nil => intro B hl _; cases B with | nil => rfl | cons _ _ => simp at hl
    | cons a A ih =>
      intro B hl ho
      cases B with
      | nil => simp at hl
      | cons b B =>
        have h0 := ho 0
        have h1 := ih B (by simpa using hl) (fun i => by simpa [ln] using ho (i + 1))
        simp [ln] at h0
        simp only [totLs]
        rw [h0, h1]
  have key : ∀ (A B : List LineD) (w : Nat), A.length = B.length → w < A.length → (∀ i, i ≠ w → (ln B i).sz = (ln A i).sz) → (ln A w).sz = n :: (ln B w).sz → totLs B + 1 = totLs A := by
    intro A
    induction A with
    | nil => intro B w _ hw; simp at hw
    | cons a A ih =>
      intro B w hl hw ho hh
      cases B with
      | nil => simp at hl
      | cons b B =>
        cases w with
        | zero =>
          have h1 := e A B (by simpa using hl) (fun i => by simpa [ln] using ho (i + 1) (by omega))
          simp [ln] at hh
          simp only [totLs]
          rw [hh, h1]
          simp only [List.length_cons]
          omega
        | succ w =>
          have h0 := ho 0 (by omega)
          simp [ln] at h0
          have h1 := ih B w (by simpa using hl) (by simpa using hw) (fun i hi => by simpa [ln] using ho (i + 1) (by omega)) (by simpa [ln] using hh)
          simp only [totLs]
          rw [h0, ← h1]
          omega
  exact key r.ls y.ls w h.len.symm h.lt h.other h.head
/-- What Queued says of the line. -/
theorem queued_yes {d x : RoundD} {line size : Int} (h : queuedD d line size = (x, true)) : okRn d = true ∧ okRn x = true ∧ ∃ k : Nat, line = k ∧ k < d.ls.length ∧ x.ls.length = d.ls.length ∧ (ln x.ls k).sz = (ln d.ls k).sz ++ [size] := by
  unfold queuedD at h
  split at h
  · simp at h
  · rename_i hn
    have hok : okRn d = true := by simpa using hn
    split at h
    · rename_i hc
      simp only [Prod.mk.injEq, and_true] at h
      subst h
      have hl : line.toNat < d.ls.length := by omega
      have hx := okLn_iff.1 (ln_ok hok hl)
      obtain ⟨h1, h2, h3⟩ := okRn_iff.1 hok
      refine ⟨hok, ?_, line.toNat, by omega, hl, by simp, ?_⟩
      · refine okRn_iff.2 ⟨by simpa using h1, by simpa using h2, fun y hy => ?_⟩
        rcases List.mem_or_eq_of_mem_set hy with hy | rfl
        · exact h3 y hy
        · refine okLn_mk hx.1 hx.2.1 ?_ ?_
          · have : (ln d.ls line.toNat).sz.length ≤ 30 := hx.2.2.1
            have h30 : (ln d.ls line.toNat).sz.length ≠ 30 := hc.2.2.2.2
            simp only [List.length_append, List.length_cons, List.length_nil]
            show (ln d.ls line.toNat).sz.length + 1 ≤ 30
            omega
          · intro z hz
            rcases List.mem_append.1 hz with hz | hz
            · exact hx.2.2.2 z hz
            · simp at hz; omega
      · simp only
        rw [ln_set hl, if_pos rfl]
    · simp at h
theorem queued_no {d x : RoundD} {line size : Int} (hok : okRn d = true) (h : queuedD d line size = (x, false)) : x = d := by
  unfold queuedD at h
  rw [if_neg (by rw [hok]; simp)] at h
  split at h
  · simp at h
  · simp at h; exact h.symm
/-- append at an operation that a guard lets by. -/
theorem wpList_appW (w : World) {ops : Array Oper} {rest : List Oper} {o : Oper} {a : Act} {Q : Exit → Act → World → Prop} (hw : Region.wanted o (yielded ops a.tmps) = true) (s x : Operand) (t : TypeId) (ho : o.op = .call { callee := .builtin .append, args := #[s, x], argTypes := #[t, t] })
    (e : TypeId) (z : Value) (size bytes : Nat) (ht : Try.prog.underlying t = some (.slice e)) (hinf : ((Try.prog.info? e).map fun i => (i.zero, i.size, i.bytes)) = some (some z, size, bytes)) (hzs : z.cells.size = size) (hsz : 0 < size)
    (base : Nat) (v : Value) (n : Nat) (xs : List Value) (hs : a.eval s = v) (hown : w.ownsRow base e size v n xs) (u : Value) (m : Nat) (news : List Value) (hx : a.eval x = u) (hr : Reads w u m size news) (h1 : ∀ u ∈ news, u.oneCell' = true)
    (hnm : n + m ≤ 2097152) (hby : bytes ≤ 1000) (hbase : base ≤ w.heap.size)
    (h : ∀ ad cap w', w'.ownsRow base e size (.slice ad (n + m) cap) (n + m) (xs ++ news) → w.grownBy w' v.ownBlock → ((Value.slice ad (n + m) cap).ownBlock = v.ownBlock ∨ (Value.slice ad (n + m) cap).ownBlock = some w.heap.size) → wpList Try.prog ops Q rest (a.put o.dst (.slice ad (n + m) cap)) w') : wpList Try.prog ops Q (o :: rest) a w :=
  wpList_step fun _ hK => by rw [if_pos hw]; exact wp_app w s x t ho e z size bytes ht hinf hzs hsz base v n xs hs hown u m news hx hr h1 hnm hby hbase fun ad cap w' h2 h3 h4 => hK _ _ (h ad cap w' h2 h3 h4)
theorem made_zeros11 (n : Nat) : (madeCells (Value.int .i64 0).cells n).toList = iv (List.replicate n 0) := by
  apply List.ext_getElem?
  intro j
  by_cases h : j < n
  · simp [madeCells, iv, Value.cells, h, Nat.mod_one]
  · simp [madeCells, iv, Value.cells, h]
/-- make([]int64, R): R zeros. -/
theorem make_zeros11 (R : Nat) (h : R ≤ 1048576) : ∃ M : Array Value, M.size = R ∧ M.toList = iv (List.replicate R 0) ∧ ∀ X : World, (Instr.makeSlice 33 (.int .i64 (R : Int)) (.int .i64 (R : Int))).run Try.prog X = .ok (.slice (some ⟨X.heap.size, 0, none⟩) R R) (X.alloc (.cells M 2)) := by
  obtain ⟨i0, hi, hz0, hz1, hz2⟩ := info_parts (P := Try.prog) (e := 2) (z := .int .i64 0) (size := 1) (bytes := 8) (by kernel_rfl)
  refine ⟨madeCells (Value.int .i64 0).cells (R * 1), by rw [size_madeCells, Nat.mul_one], by rw [Nat.mul_one]; exact made_zeros11 R, fun X => ?_⟩
  have h := run_make (P := Try.prog) X 33 2 i0 (.int .i64 0) Try.underlying33 hi hz0 .i64 .i64 (R : Int) (R : Int) (by omega) (by omega) (by rw [hz2]; omega) (by omega)
  rw [hz1] at h
  simpa using h
theorem sum_set (sm : Nat → Int) (K k : Nat) (n : Int) (hk : k < K) : (iv ((List.range K).map sm)).set k (.int .i64 (sm k + n)) = iv ((List.range K).map (fun i => if i = k then sm i + n else sm i)) := by
  refine List.ext_getElem? fun i => ?_
  simp only [iv, List.map_map, List.getElem?_set, List.length_map, List.length_range, List.getElem?_map]
  by_cases e : k = i
  · subst e
    simp [hk]
  · simp only [if_neg e]
    by_cases hi : i < K
    · simp [List.getElem?_range hi, show ¬ i = k from fun c => e c.symm]
    · simp [List.getElem?_eq_none, show K ≤ i by omega]
/-- A Line's Sizes, to be read. -/
theorem OwX.line {w : World} {lo hi : Nat} {a : Option Addr} {n p k : Nat} {L : List LineD} (h : RdR lineS w (.slice a n p) L) (hk : k < L.length) : ∃ b o az pz, a = some ⟨b, o, none⟩ ∧ b < w.heap.size ∧ w.cell? ⟨b, o + k * 3, none⟩ = some (.int .i64 (ln L k).wt) ∧ w.cell? ⟨b, o + k * 3 + 2, none⟩ = some (.slice az (ln L k).sz.length pz) ∧ RdR intS w (.slice az (ln L k).sz.length pz) (ln L k).sz ∧ (ln L k).sz.length ≤ pz ∧ pz ≤ 9223372036854775807 := by
  rw [ln_get hk]
  obtain ⟨b, o, cs, rfl, hb, ⟨vz, rfl, hz⟩, hc⟩ := h.at k hk
  obtain ⟨az, pz, rfl, q1, q2⟩ := hz.form
  exact ⟨b, o, az, pz, rfl, hb, hc 0 _ rfl, hc 2 _ rfl, hz, q1, q2⟩
end Go.Proofs.Yteojibdnphaooaa
