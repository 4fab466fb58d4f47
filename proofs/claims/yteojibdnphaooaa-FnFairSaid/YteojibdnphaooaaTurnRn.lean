/- A Round in a box, its Lines owned, none of their blocks the box's: what is read of it, and what each store leaves. -/
import Derived.Test.YteojibdnphaooaaTurnPass
import Derived.Test.YteojibdnphaooaaShape4
namespace Go.Proofs.Yteojibdnphaooaa
open Go.RowKit
set_option maxRecDepth 100000
set_option linter.unusedSimpArgs false
set_option linter.unusedVariables false
/-- A Round in block g: its Lines in block gl (capacity vp), all that they own at or above lo, none of it block g. -/
structure RnIs (w : World) (g lo gl vp : Nat) (d : RoundD) : Prop where
  row : RowIs w g 26 [.int .i64 d.turn, .bool d.given, .slice (some ⟨gl, 0, none⟩) d.ls.length vp]
  ex : ∃ bs, OwR lineS w (.slice (some ⟨gl, 0, none⟩) d.ls.length vp) d.ls bs ∧ bs.Nodup ∧ g ∉ bs ∧ ∀ b ∈ bs, lo ≤ b
/-- All below B is as it was, whatever bound B below the box and what it owns. -/
def Kept3 (lo g : Nat) (w w' : World) : Prop := w.heap.size ≤ w'.heap.size ∧ ∀ B, B ≤ lo → B ≤ g → B ≤ w.heap.size → Below B w w'
theorem Kept3.refl (lo g : Nat) (w : World) : Kept3 lo g w w := ⟨Nat.le_refl _, fun B _ _ _ => Below.refl _ _⟩
theorem Kept3.trans {lo g : Nat} {a b c : World} (h : Kept3 lo g a b) (h2 : Kept3 lo g b c) : Kept3 lo g a c := ⟨Nat.le_trans h.1 h2.1, fun B h1 h3 h4 => (h.2 B h1 h3 h4).trans (h2.2 B h1 h3 (Nat.le_trans h4 h.1))⟩
theorem Kept3.of {lo g : Nat} {a b : World} (h : Below a.heap.size a b) : Kept3 lo g a b := ⟨h.size, fun B _ _ h4 => h.mono h4⟩
theorem Kept3.set {lo g : Nat} {a b : World} (h : Kept3 lo g a b) (p : Addr) (u : Value) (hp : lo ≤ p.block ∨ g ≤ p.block) : Kept3 lo g a (b.setCell p u) := ⟨by simpa using h.1, fun B h1 h3 h4 => (h.2 B h1 h3 h4).setCell (by omega) u⟩
theorem Kept3.box {lo g : Nat} {a b : World} (h : a.grownBy b (some g)) : Kept3 lo g a b := ⟨h.size, fun B _ h2 h3 => (Below.refl _ _).grown h h3 (fun k hk => by rw [← Option.some.inj hk]; exact h2)⟩
theorem RnIs.new {w w' : World} {g lo gl vp : Nat} {d : RoundD} (h : RnIs w g lo gl vp d) (hb : Below w.heap.size w w') : RnIs w' g lo gl vp d := by
  obtain ⟨bs, h1, h2, h3, h4⟩ := h.ex
  exact ⟨h.row.new hb, bs, h1.keep hb.size (fun b hb' => hb.block b (h1.lt b hb')), h2, h3, h4⟩
theorem RnIs.rd {w : World} {g lo gl vp : Nat} {d : RoundD} (h : RnIs w g lo gl vp d) : RdR lineS w (.slice (some ⟨gl, 0, none⟩) d.ls.length vp) d.ls := by
  obtain ⟨bs, h1, _⟩ := h.ex
  exact h1.rd
/-- The box itself turns. -/
theorem RnIs.box {w w' : World} {g lo gl vp : Nat} {d : RoundD} {t : Int} {b : Bool} (h : RnIs w g lo gl vp d) (hg : w.grownBy w' (some g)) (hr : RowIs w' g 26 [.int .i64 t, .bool b, .slice (some ⟨gl, 0, none⟩) d.ls.length vp]) : RnIs w' g lo gl vp ⟨t, b, d.ls⟩ := by
  obtain ⟨bs, h1, h2, h3, h4⟩ := h.ex
  exact ⟨hr, bs, h1.keep hg.size (fun y hy => hg.block y (h1.lt y hy) (fun e => h3 (by rw [← Option.some.inj e]; exact hy))), h2, h3, h4⟩
theorem RnIs.given {w : World} {g lo gl vp : Nat} {d : RoundD} (h : RnIs w g lo gl vp d) (b : Bool) : RnIs (w.setCell ⟨g, 1, none⟩ (.bool b)) g lo gl vp ⟨d.turn, b, d.ls⟩ :=
  h.box (gb_set (gb_refl _ _) ⟨g, 1, none⟩ (.bool b) rfl) (h.row.set 1 _)
theorem RnIs.turnTo {w : World} {g lo gl vp : Nat} {d : RoundD} (h : RnIs w g lo gl vp d) (t : Int) : RnIs (w.setCell ⟨g, 0, none⟩ (.int .i64 t)) g lo gl vp ⟨t, d.given, d.ls⟩ :=
  h.box (gb_set (gb_refl _ _) ⟨g, 0, none⟩ (.int .i64 t) rfl) (h.row.set 0 _)
/-- What is read of a Line, and what a store into it leaves. -/
theorem RnIs.line {w : World} {g lo gl vp : Nat} {d : RoundD} (h : RnIs w g lo gl vp d) (T : Nat) (hT : T < d.ls.length) :
    gl < w.heap.size ∧ lo ≤ gl ∧ gl ≠ g ∧ (∀ j, w.frozen? ⟨gl, j, none⟩ = false) ∧ w.cell? ⟨gl, T * 3, none⟩ = some (.int .i64 d.ls[T].wt) ∧ w.cell? ⟨gl, T * 3 + 1, none⟩ = some (.int .i64 d.ls[T].left) ∧
    ∃ az pz bz, w.cell? ⟨gl, T * 3 + 2, none⟩ = some (.slice az d.ls[T].sz.length pz) ∧ d.ls[T].sz.length ≤ pz ∧ pz ≤ 9223372036854775807 ∧ OwR intS w (.slice az d.ls[T].sz.length pz) d.ls[T].sz bz ∧ (∀ y ∈ bz, lo ≤ y ∧ y ≠ g ∧ y ≠ gl) ∧
    (∀ wt : Int, RnIs (w.setCell ⟨gl, T * 3, none⟩ (.int .i64 wt)) g lo gl vp ⟨d.turn, d.given, d.ls.set T ⟨wt, d.ls[T].left, d.ls[T].sz⟩⟩) ∧
    (∀ l : Int, RnIs (w.setCell ⟨gl, T * 3 + 1, none⟩ (.int .i64 l)) g lo gl vp ⟨d.turn, d.given, d.ls.set T ⟨d.ls[T].wt, l, d.ls[T].sz⟩⟩) ∧
    (∀ (w1 : World) (v' : Value) (S : List Int) (b' : List Nat), TurnB bz w w1 → OwR intS w1 v' S b' → b'.Nodup → (∀ y ∈ b', y ∈ bz ∨ w.heap.size ≤ y) → RnIs (w1.setCell ⟨gl, T * 3 + 2, none⟩ v') g lo gl vp ⟨d.turn, d.given, d.ls.set T ⟨d.ls[T].wt, d.ls[T].left, S⟩⟩) := by
  obtain ⟨bs, h1, h2, h3, h4⟩ := h.ex
  have hlt := h1.lt
  obtain ⟨g', cap', cs, b, he, hgl, hgm, hgb, hbn, hbs, hown, hcell, hfr, hput⟩ := h1.swap h2 T hT
  simp only [Value.slice.injEq, Option.some.injEq, Addr.mk.injEq, true_and, and_true] at he
  obtain ⟨rfl, rfl⟩ := he
  obtain ⟨vz, bz, rfl, hz, rfl⟩ := hown
  obtain ⟨az, pz, rfl, p1, p2⟩ := hz.rd.form
  have hgg : gl ≠ g := fun e => h3 (e ▸ hgm)
  have hrow : ∀ (r : Nat) (u : Value) (n : Nat), n = d.ls.length → RowIs (w.setCell ⟨gl, T * 3 + r, none⟩ u) g 26 [.int .i64 d.turn, .bool d.given, .slice (some ⟨gl, 0, none⟩) n vp] := fun r u n hn => by subst hn; exact h.row.far _ _ hgg
  refine ⟨hgl, h4 gl hgm, hgg, hfr, hcell 0 _ rfl, hcell 1 _ rfl, az, pz, b, hcell 2 _ rfl, p1, p2, hz, fun y hy => ⟨h4 y (hbs y hy), fun e => h3 (e ▸ hbs y hy), fun e => hgb (e ▸ hy)⟩, fun wt => ?_, fun l => ?_, fun w1 v' S b' ht hO hn hb => ?_⟩
  · obtain ⟨bs', q1, q2, q3⟩ := hput w 0 (.int .i64 wt) ⟨wt, d.ls[T].left, d.ls[T].sz⟩ b (Nat.le_refl _) (fun _ _ _ => rfl) (by decide) ⟨_, b, rfl, hz, rfl⟩ hbn (fun y hy => .inl hy)
    refine ⟨hrow 0 _ _ (by simp), bs', ?_, q2, fun e => ?_, fun y hy => ?_⟩
    · simp only [List.length_set]; exact q1
    · rcases q3 g e with c | c
      · exact h3 c
      · exact h3 (hbs g c)
    · rcases q3 y hy with c | c
      · exact h4 y c
      · exact h4 y (hbs y c)
  · obtain ⟨bs', q1, q2, q3⟩ := hput w 1 (.int .i64 l) ⟨d.ls[T].wt, l, d.ls[T].sz⟩ b (Nat.le_refl _) (fun _ _ _ => rfl) (by decide) ⟨_, b, rfl, hz, rfl⟩ hbn (fun y hy => .inl hy)
    refine ⟨hrow 1 _ _ (by simp), bs', ?_, q2, fun e => ?_, fun y hy => ?_⟩
    · simp only [List.length_set]; exact q1
    · rcases q3 g e with c | c
      · exact h3 c
      · exact h3 (hbs g c)
    · rcases q3 y hy with c | c
      · exact h4 y c
      · exact h4 y (hbs y c)
  · have hgl3 := h.row.lt
    obtain ⟨bs', q1, q2, q3⟩ := hput w1 2 v' ⟨d.ls[T].wt, d.ls[T].left, S⟩ b' ht.size (fun y hy hyb => ht.block y (hlt y hy) hyb) (by decide) ⟨v', b', rfl, hO, rfl⟩ hn (fun y hy => by
      rcases hb y hy with c | c
      · exact .inl c
      · exact .inr (fun e => by have := hlt y e; omega))
    have hgb' : g ∉ b' := fun e => by
      rcases hb g e with c | c
      · exact h3 (hbs g c)
      · omega
    have hrw : RowIs w1 g 26 [.int .i64 d.turn, .bool d.given, .slice (some ⟨gl, 0, none⟩) d.ls.length vp] := h.row.kept (ht.block g hgl3 (fun e => h3 (hbs g e)))
    refine ⟨?_, bs', ?_, q2, fun e => ?_, fun y hy => ?_⟩
    · have := hrw.far ⟨gl, T * 3 + 2, none⟩ v' hgg
      simpa using this
    · simp only [List.length_set]; exact q1
    · rcases q3 g e with c | c
      · exact h3 c
      · exact hgb' c
    · rcases q3 y hy with c | c
      · exact h4 y c
      · rcases hb y c with c | c
        · exact h4 y (hbs y c)
        · have := h4 gl hgm; omega
theorem RnIs.owx {w : World} {g lo gl vp : Nat} {d : RoundD} (h : RnIs w g lo gl vp d) : OwX lineS w lo w.heap.size (.slice (some ⟨gl, 0, none⟩) d.ls.length vp) d.ls := by
  obtain ⟨bs, h1, h2, h3, h4⟩ := h.ex
  exact ⟨bs, h1, h2, fun b hb => ⟨h4 b hb, h1.lt b hb⟩⟩
theorem rnIs_new {w : World} {lo : Nat} {v : Value} {d : RoundD} (h : OwX lineS w lo w.heap.size v d.ls) (h1 : 1 ≤ d.ls.length) : ∃ gl vp, v = .slice (some ⟨gl, 0, none⟩) d.ls.length vp ∧ RnIs (w.alloc (.cells #[.int .i64 d.turn, .bool d.given, v] 26)) w.heap.size lo gl vp d := by
  obtain ⟨bs, hO, hn, hb⟩ := h
  obtain ⟨gl, vp, cs, b, rfl, _⟩ := hO.swap hn 0 h1
  refine ⟨gl, vp, rfl, rowIs_new w 26 [.int .i64 d.turn, .bool d.given, .slice (some ⟨gl, 0, none⟩) d.ls.length vp], bs, ?_, hn, fun e => by have := (hb _ e).2; omega, fun y hy => (hb y hy).1⟩
  have hbx : Below w.heap.size w (w.alloc (.cells #[.int .i64 d.turn, .bool d.given, .slice (some ⟨gl, 0, none⟩) d.ls.length vp] 26)) := (Below.refl _ _).alloc (Nat.le_refl _) _
  exact hO.keep hbx.size (fun y hy => hbx.block y (hO.lt y hy))
end Go.Proofs.Yteojibdnphaooaa
