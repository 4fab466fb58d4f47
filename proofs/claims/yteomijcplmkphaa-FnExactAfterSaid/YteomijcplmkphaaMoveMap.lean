/- A map whose keys are pairs of numbers: what is looked up in it, what is written into it, in words of a function from pairs to numbers. -/
import Derived.Test.YteomijcplmkphaaBase
import Derived.Laws.StructEq
import Derived.Maps.Own
namespace Go.Proofs.Yteomijcplmkphaa
open Go.RowKit
set_option maxRecDepth 100000
set_option linter.unusedSimpArgs false
set_option linter.unusedVariables false

abbrev mvKey (s e : Int) : Value := .agg #[.int .i64 s, .int .i64 e]
def MapHas (w : World) (g : Nat) (f : Int → Int → Option Int) : Prop :=
  ∃ es clock, w.heap[g]? = some (.map es clock) ∧ (∀ x ∈ es.toList, ∃ s e v, x.key = mvKey s e ∧ x.val = .int .i64 v ∧ f s e = some v) ∧ (∀ s e v, f s e = some v → ∃ x ∈ es.toList, x.key = mvKey s e)

theorem mv_equal (s e a b : Int) (w : World) : (Op.equal 53 (mvKey s e) (mvKey a b)).run Try.prog w = .ok (decide (s = a ∧ e = b)) w := by
  unfold Op.equal Op.maxDepth
  rw [run_equalIn_agg (P := Try.prog) w 9999 53 _ _ (by kernel_rfl) (by kernel_rfl)]
  have h1 : (Try.prog.fieldsOf 53).toList = [⟨ "state", 2, 0, false, "", "loop.example/g00296/impl", 0⟩, ⟨ "event", 2, 1, false, "", "loop.example/g00296/impl", 8⟩] := by kernel_rfl
  rw [h1]
  have p0 : ∀ u v : Int, (part 2 #[.int .i64 u, .int .i64 v] 0).run Try.prog w = .ok (.int .i64 u) w := fun u v => by kernel_rfl
  have p1 : ∀ u v : Int, (part 2 #[.int .i64 u, .int .i64 v] 1).run Try.prog w = .ok (.int .i64 v) w := fun u v => by kernel_rfl
  simp [Op.eqFields, p0, p1, run_equalIn_int (P := Try.prog) w 9998 2 .i64 .i64 _ _ (by kernel_rfl)]
  by_cases h : s = a <;> by_cases h' : e = b <;> simp [h, h']
theorem mv_check (c : Bool) (s e : Int) (w : World) : (Instr.checkKey c 10000 53 (mvKey s e)).run Try.prog w = .ok () w := by
  kernel_rfl
/-- Found: the first entry with this key; where all with it hold one number, that one. -/
theorem mv_find (s e : Int) (w : World) (f : Int → Int → Option Int) : ∀ (es : List MapEntry) (i : Nat), (∀ x ∈ es, ∃ s e v, x.key = mvKey s e ∧ x.val = .int .i64 v ∧ f s e = some v) →
    ((∃ x ∈ es, x.key = mvKey s e) → ∃ j v, f s e = some v ∧ (Instr.findAsking 53 (mvKey s e) es i).run Try.prog w = .ok (some (j, .int .i64 v)) w) ∧ ((¬ ∃ x ∈ es, x.key = mvKey s e) → (Instr.findAsking 53 (mvKey s e) es i).run Try.prog w = .ok none w)
  | [], i, _ => ⟨fun ⟨x, hx, _⟩ => (by cases hx), fun _ => (by simp [Instr.findAsking])⟩
  | x :: es, i, h => by
    obtain ⟨a, b, v, hk, hv, hf⟩ := h x (by simp)
    have ih := mv_find s e w f es (i + 1) (fun y hy => h y (by simp [hy]))
    have hq := mv_equal s e a b w
    by_cases hs : s = a ∧ e = b
    · obtain ⟨rfl, rfl⟩ := hs
      simp at hq
      refine ⟨fun _ => ⟨i, v, hf, ?_⟩, fun hn => absurd ⟨x, by simp, hk⟩ hn⟩
      simp [Instr.findAsking, hk, hv, hq]
    · have hd : decide (s = a ∧ e = b) = false := by simpa using hs
      rw [hd] at hq
      have hstep : (Instr.findAsking 53 (mvKey s e) (x :: es) i).run Try.prog w = (Instr.findAsking 53 (mvKey s e) es (i + 1)).run Try.prog w := by simp [Instr.findAsking, hk, hq]
      rw [hstep]
      have hne : x.key ≠ mvKey s e := by
        rw [hk]; intro hh; apply hs
        simp [mvKey] at hh
        exact ⟨hh.1.symm, hh.2.symm⟩
      constructor
      · rintro ⟨y, hy, hyk⟩
        rcases List.mem_cons.1 hy with rfl | hy
        · exact absurd hyk hne
        · exact ih.1 ⟨y, hy, hyk⟩
      · intro hn
        exact ih.2 (fun ⟨y, hy, hyk⟩ => hn ⟨y, by simp [hy], hyk⟩)
theorem mv_findKey (s e : Int) (w : World) (es : List MapEntry) : (Instr.findKey 53 (mvKey s e) es).run Try.prog w = (Instr.findAsking 53 (mvKey s e) es 0).run Try.prog w := by
  unfold Instr.findKey
  have hu : (underlying 53).run Try.prog w = .ok (.struct (Try.prog.fieldsOf 53)) w := by kernel_rfl
  cases es with
  | nil => simp [hu, Instr.findNow, Instr.findAsking]
  | cons x es =>
    have hn : Instr.findNow (.struct (Try.prog.fieldsOf 53)) (mvKey s e) (x :: es) 0 = none := by
      simp [Instr.findNow, Instr.sameNow]
    simp [hu, hn]
theorem mv_lookup {w : World} {g : Nat} {f : Int → Int → Option Int} (h : MapHas w g f) (s e : Int) : (Instr.lookup 43 (.map (some g)) (mvKey s e) true).run Try.prog w = .ok (.tuple #[.int .i64 ((f s e).getD 0), .bool (f s e).isSome]) w := by
  obtain ⟨es, clock, hb, h1, h2⟩ := h
  have hu : (underlying 43).run Try.prog w = .ok (.map 53 2) w := by kernel_rfl
  have hg : (getObj g).run Try.prog w = .ok (.map es clock) w := MapKept.run_getObj_map hb
  have hz : (zeroValue 2).run Try.prog w = .ok (.int .i64 0) w := by kernel_rfl
  have hf := mv_find s e w f es.toList 0 h1
  have hK := mv_findKey s e w es.toList
  by_cases hex : ∃ x ∈ es.toList, x.key = mvKey s e
  · obtain ⟨j, v, hv, hr⟩ := hf.1 hex
    have hK2 : (Instr.findKey 53 (mvKey s e) es.toList).run Try.prog w = .ok (some (j, .int .i64 v)) w := by
      rw [hK]; exact hr
    simp [Instr.lookup, hu, hg, mv_check, hK2, hv]
  · have hr := hf.2 hex
    have hv : f s e = none := by
      cases hh : f s e with
      | none => rfl
      | some v => exact absurd (h2 s e v hh) hex
    have hK2 : (Instr.findKey 53 (mvKey s e) es.toList).run Try.prog w = .ok none w := by
      rw [hK]; exact hr
    simp [Instr.lookup, hu, hg, mv_check, hK2, hv, hz]
def fPut (f : Int → Int → Option Int) (s e v : Int) : Int → Int → Option Int := fun a b => if a = s ∧ b = e then some v else f a b
theorem mv_update {w : World} {g : Nat} {f : Int → Int → Option Int} (h : MapHas w g f) (s e v : Int) (hn : f s e = none) : ∃ w', (Instr.mapUpdate 43 (.map (some g)) (mvKey s e) (.int .i64 v)).run Try.prog w = .ok () w' ∧ MapHas w' g (fPut f s e v) ∧ w.grownBy w' (some g) := by
  obtain ⟨es, clock, hb, h1, h2⟩ := h
  have hu : (underlying 43).run Try.prog w = .ok (.map 53 2) w := by kernel_rfl
  have hg : (getObj g).run Try.prog w = .ok (.map es clock) w := MapKept.run_getObj_map hb
  have hf := mv_find s e w f es.toList 0 h1
  have hK := mv_findKey s e w es.toList
  have hex : ¬ ∃ x ∈ es.toList, x.key = mvKey s e := by
    rintro ⟨x, hx, hxk⟩
    obtain ⟨a, b, v', hk', _, hf'⟩ := h1 x hx
    rw [hk'] at hxk
    simp [mvKey] at hxk
    rw [hxk.1, hxk.2, hn] at hf'
    cases hf'
  have hK2 : (Instr.findKey 53 (mvKey s e) es.toList).run Try.prog w = .ok none w := by
    rw [hK]; exact hf.2 hex
  refine ⟨ChangeMaps.setBlock w g (.map (es.push ⟨mvKey s e, .int .i64 v, clock⟩) (clock + 1)), ?_, ?_, ?_⟩
  · have hset : (setObj g (.map (es.push ⟨mvKey s e, .int .i64 v, clock⟩) (clock + 1))).run Try.prog w = .ok () (ChangeMaps.setBlock w g (.map (es.push ⟨mvKey s e, .int .i64 v, clock⟩) (clock + 1))) := by
      exact MapKept.run_setObj_map _ hb
    simp [Instr.mapUpdate, hu, hg, mv_check, hK2, hset]
  · refine ⟨_, _, ChangeMaps.heap_setBlock_same hb _, ?_, ?_⟩
    · intro x hx
      simp at hx
      rcases hx with hx | rfl
      · obtain ⟨a, b, v', hk', hv', hf'⟩ := h1 x (by simpa using hx)
        refine ⟨a, b, v', hk', hv', ?_⟩
        unfold fPut
        split
        · rename_i hab
          rw [hab.1, hab.2, hn] at hf'
          cases hf'
        · exact hf'
      · exact ⟨s, e, v, rfl, rfl, by simp [fPut]⟩
    · intro a b v' hv'
      unfold fPut at hv'
      split at hv'
      · rename_i hab
        obtain ⟨rfl, rfl⟩ := hab
        exact ⟨⟨mvKey a b, .int .i64 v, clock⟩, by simp, rfl⟩
      · obtain ⟨x, hx, hxk⟩ := h2 a b v' hv'
        exact ⟨x, by simp at hx ⊢; exact Or.inl hx, hxk⟩
  · exact ⟨rfl, rfl, rfl, by simp [ChangeMaps.setBlock], fun i _ hi => ChangeMaps.heap_setBlock_other hb _ (fun e => hi (by rw [e]))⟩
theorem mv_clear {w : World} {g : Nat} {f : Int → Int → Option Int} (h : MapHas w g f) (t : TypeId) : ∃ w', (Builtin.clear_ #[43] t #[.map (some g)]).run Try.prog w = .ok (.tuple #[]) w' ∧ MapHas w' g (fun _ _ => none) ∧ w.grownBy w' (some g) := by
  obtain ⟨es, clock, hb, h1, h2⟩ := h
  have hu : (underlying 43).run Try.prog w = .ok (.map 53 2) w := by kernel_rfl
  have hg : (getObj g).run Try.prog w = .ok (.map es clock) w := MapKept.run_getObj_map hb
  refine ⟨ChangeMaps.setBlock w g (.map #[] clock), ?_, ?_, ?_⟩
  · have hset : (setObj g (.map #[] clock)).run Try.prog w = .ok () (ChangeMaps.setBlock w g (.map #[] clock)) := MapKept.run_setObj_map _ hb
    simp [Builtin.clear_, hu, hg, hset]
  · exact ⟨_, _, ChangeMaps.heap_setBlock_same hb _, by simp, by simp⟩
  · exact ⟨rfl, rfl, rfl, by simp [ChangeMaps.setBlock], fun i _ hi => ChangeMaps.heap_setBlock_other hb _ (fun e => hi (by rw [e]))⟩
theorem mv_made (w : World) : MapHas (w.alloc (.map #[] 0)) w.heap.size (fun _ _ => none) := ⟨#[], 0, (MapKept.heap_alloc w _).1, by simp, by simp⟩
theorem MapHas.kept {w w' : World} {g : Nat} {f : Int → Int → Option Int} {row : Option Nat} (h : MapHas w g f) (hg : w.grownBy w' row) (hne : some g ≠ row) : MapHas w' g f := by
  obtain ⟨es, clock, hb, r⟩ := h
  exact ⟨es, clock, (hg.block g (Array.getElem?_eq_some_iff.1 hb).1 hne).trans hb, r⟩
theorem MapHas.lt {w : World} {g : Nat} {f : Int → Int → Option Int} (h : MapHas w g f) : g < w.heap.size := by
  obtain ⟨es, clock, hb, r⟩ := h
  exact (Array.getElem?_eq_some_iff.1 hb).1
theorem MapHas.setCell {w : World} {g : Nat} {f : Int → Int → Option Int} (h : MapHas w g f) {a : Addr} (ha : g ≠ a.block) (u : Value) : MapHas (w.setCell a u) g f := by
  obtain ⟨es, clock, hb, r⟩ := h
  exact ⟨es, clock, by rw [RowKit.Below.heap_setCell _ _ _ _ ha]; exact hb, r⟩
theorem MapHas.ext {w : World} {g : Nat} {f f' : Int → Int → Option Int} (h : MapHas w g f) (he : ∀ s e, f s e = f' s e) : MapHas w g f' := by
  obtain rfl : f = f' := funext fun s => funext fun e => he s e
  exact h
end Go.Proofs.Yteomijcplmkphaa
