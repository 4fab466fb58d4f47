/- A map from texts to numbers: what is looked up in it, what is written into it, in words of a function from texts to numbers. -/
import Derived.Test.YtfemmnhfllbgjaaGreatDoorBase
import Derived.Laws.StructEq
import Derived.Maps.Own
namespace Go.Proofs.YtfemmnhfllbgjaaGreatDoor
open Go.RowKit
set_option maxRecDepth 100000
set_option linter.unusedSimpArgs false
set_option linter.unusedVariables false

def MapStr (w : World) (g : Nat) (f : ByteArray → Option Int) : Prop :=
  ∃ es clock, w.heap[g]? = some (.map es clock) ∧ (∀ x ∈ es.toList, ∃ s v, x.key = .string s ∧ x.val = .int .i64 v ∧ f s = some v) ∧ (∀ s v, f s = some v → ∃ x ∈ es.toList, x.key = .string s)
theorem ms_find (s : ByteArray) (f : ByteArray → Option Int) : ∀ (es : List MapEntry) (i : Nat), (∀ x ∈ es, ∃ s v, x.key = .string s ∧ x.val = .int .i64 v ∧ f s = some v) →
    ((∃ x ∈ es, x.key = .string s) → ∃ j v, f s = some v ∧ Instr.findNow .string (.string s) es i = some (some (j, .int .i64 v))) ∧ ((¬ ∃ x ∈ es, x.key = .string s) → Instr.findNow .string (.string s) es i = some none)
  | [], i, _ => ⟨fun ⟨x, hx, _⟩ => (by cases hx), fun _ => (by simp [Instr.findNow])⟩
  | x :: es, i, h => by
    obtain ⟨a, v, hk, hv, hf⟩ := h x (by simp)
    have ih := ms_find s f es (i + 1) (fun y hy => h y (by simp [hy]))
    by_cases hs : s = a
    · subst hs
      refine ⟨fun _ => ⟨i, v, hf, ?_⟩, fun hn => absurd ⟨x, by simp, hk⟩ hn⟩
      have hss : (s == s) = true := (MapKept.bytes_beq s s).2 rfl
      simp [Instr.findNow, Instr.sameNow, hk, hv, hss]
    · have hd : (s == a) = false := Bool.eq_false_iff.2 fun c => hs ((MapKept.bytes_beq s a).1 c)
      have hstep : Instr.findNow .string (.string s) (x :: es) i = Instr.findNow .string (.string s) es (i + 1) := by simp [Instr.findNow, Instr.sameNow, hk, hd]
      rw [hstep]
      have hne : x.key ≠ .string s := by
        rw [hk]; intro hh; apply hs
        injection hh with hh
        exact hh.symm
      constructor
      · rintro ⟨y, hy, hyk⟩
        rcases List.mem_cons.1 hy with rfl | hy
        · exact absurd hyk hne
        · exact ih.1 ⟨y, hy, hyk⟩
      · intro hn
        exact ih.2 (fun ⟨y, hy, hyk⟩ => hn ⟨y, by simp [hy], hyk⟩)
theorem ms_check (c : Bool) (s : ByteArray) (w : World) : (Instr.checkKey c 10000 9 (.string s)).run Tryz.prog w = .ok () w := by
  kernel_rfl
theorem ms_findKey (s : ByteArray) (w : World) (es : List MapEntry) {r : Option (Nat × Value)} (h : Instr.findNow .string (.string s) es 0 = some r) : (Instr.findKey 9 (.string s) es).run Tryz.prog w = .ok r w := by
  unfold Instr.findKey
  have hu : (underlying 9).run Tryz.prog w = .ok .string w := by kernel_rfl
  simp [hu, h]
theorem ms_lookup {w : World} {g : Nat} {f : ByteArray → Option Int} (h : MapStr w g f) (s : ByteArray) : (Instr.lookup 55 (.map (some g)) (.string s) true).run Tryz.prog w = .ok (.tuple #[.int .i64 ((f s).getD 0), .bool (f s).isSome]) w := by
  obtain ⟨es, clock, hb, h1, h2⟩ := h
  have hu : (underlying 55).run Tryz.prog w = .ok (.map 9 3) w := by kernel_rfl
  have hg : (getObj g).run Tryz.prog w = .ok (.map es clock) w := MapKept.run_getObj_map hb
  have hz : (zeroValue 3).run Tryz.prog w = .ok (.int .i64 0) w := by kernel_rfl
  have hf := ms_find s f es.toList 0 h1
  by_cases hex : ∃ x ∈ es.toList, x.key = .string s
  · obtain ⟨j, v, hv, hr⟩ := hf.1 hex
    have hK2 := ms_findKey s w es.toList hr
    simp [Instr.lookup, hu, hg, ms_check, hK2, hv]
  · have hr := hf.2 hex
    have hv : f s = none := by
      cases hh : f s with
      | none => rfl
      | some v => exact absurd (h2 s v hh) hex
    have hK2 := ms_findKey s w es.toList hr
    simp [Instr.lookup, hu, hg, ms_check, hK2, hv, hz]
def sPut (f : ByteArray → Option Int) (s : ByteArray) (v : Int) : ByteArray → Option Int := fun a => if a = s then some v else f a
theorem ms_update {w : World} {g : Nat} {f : ByteArray → Option Int} (h : MapStr w g f) (s : ByteArray) (v : Int) (hn : f s = none) : ∃ w', (Instr.mapUpdate 55 (.map (some g)) (.string s) (.int .i64 v)).run Tryz.prog w = .ok () w' ∧ MapStr w' g (sPut f s v) ∧ w.grownBy w' (some g) := by
  obtain ⟨es, clock, hb, h1, h2⟩ := h
  have hu : (underlying 55).run Tryz.prog w = .ok (.map 9 3) w := by kernel_rfl
  have hg : (getObj g).run Tryz.prog w = .ok (.map es clock) w := MapKept.run_getObj_map hb
  have hf := ms_find s f es.toList 0 h1
  have hex : ¬ ∃ x ∈ es.toList, x.key = .string s := by
    rintro ⟨x, hx, hxk⟩
    obtain ⟨a, v', hk', _, hf'⟩ := h1 x hx
    rw [hk'] at hxk
    injection hxk with hxk
    rw [hxk, hn] at hf'
    cases hf'
  have hK2 := ms_findKey s w es.toList (hf.2 hex)
  refine ⟨ChangeMaps.setBlock w g (.map (es.push ⟨.string s, .int .i64 v, clock⟩) (clock + 1)), ?_, ?_, ?_⟩
  · have hset : (setObj g (.map (es.push ⟨.string s, .int .i64 v, clock⟩) (clock + 1))).run Tryz.prog w = .ok () (ChangeMaps.setBlock w g (.map (es.push ⟨.string s, .int .i64 v, clock⟩) (clock + 1))) := by
      exact MapKept.run_setObj_map _ hb
    simp [Instr.mapUpdate, hu, hg, ms_check, hK2, hset]
  · refine ⟨_, _, ChangeMaps.heap_setBlock_same hb _, ?_, ?_⟩
    · intro x hx
      simp at hx
      rcases hx with hx | rfl
      · obtain ⟨a, v', hk', hv', hf'⟩ := h1 x (by simpa using hx)
        refine ⟨a, v', hk', hv', ?_⟩
        unfold sPut
        split
        · rename_i hab
          rw [hab, hn] at hf'
          cases hf'
        · exact hf'
      · exact ⟨s, v, rfl, rfl, by simp [sPut]⟩
    · intro a v' hv'
      unfold sPut at hv'
      split at hv'
      · rename_i hab
        obtain rfl := hab
        exact ⟨⟨.string a, .int .i64 v, clock⟩, by simp, rfl⟩
      · obtain ⟨x, hx, hxk⟩ := h2 a v' hv'
        exact ⟨x, by simp at hx ⊢; exact Or.inl hx, hxk⟩
  · exact ⟨rfl, rfl, rfl, by simp [ChangeMaps.setBlock], fun i _ hi => ChangeMaps.heap_setBlock_other hb _ (fun e => hi (by rw [e]))⟩
theorem ms_make (n : Int) (w : World) : (Instr.makeMap 55 (some (.int .i64 n))).run Tryz.prog w = .ok (.map (some w.heap.size)) (w.alloc (.map #[] 0)) := by
  have hu : (underlying 55).run Tryz.prog w = .ok (.map 9 3) w := by kernel_rfl
  have h := run_makeMap (P := Tryz.prog) 55 w
  have hi : (asInt (.int .i64 n)).run Tryz.prog w = .ok n w := by kernel_rfl
  unfold Instr.makeMap at h ⊢
  simp [hu, hi] at h ⊢
theorem ms_made (w : World) : MapStr (w.alloc (.map #[] 0)) w.heap.size (fun _ => none) := ⟨#[], 0, (MapKept.heap_alloc w _).1, by simp, by simp⟩
theorem MapStr.kept {w w' : World} {g : Nat} {f : ByteArray → Option Int} (h : MapStr w g f) (hk : w'.heap[g]? = w.heap[g]?) : MapStr w' g f := by
  obtain ⟨es, clock, hb, r⟩ := h
  exact ⟨es, clock, hk.trans hb, r⟩
theorem MapStr.lt {w : World} {g : Nat} {f : ByteArray → Option Int} (h : MapStr w g f) : g < w.heap.size := by
  obtain ⟨es, clock, hb, r⟩ := h
  exact (Array.getElem?_eq_some_iff.1 hb).1
theorem MapStr.new {w w' : World} {g : Nat} {f : ByteArray → Option Int} (h : MapStr w g f) (hb : Below w.heap.size w w') : MapStr w' g f := h.kept (hb.block g h.lt)
theorem MapStr.setCell {w : World} {g : Nat} {f : ByteArray → Option Int} (h : MapStr w g f) {a : Addr} (ha : g ≠ a.block) (u : Value) : MapStr (w.setCell a u) g f := by
  obtain ⟨es, clock, hb, r⟩ := h
  exact ⟨es, clock, by rw [RowKit.Below.heap_setCell _ _ _ _ ha]; exact hb, r⟩
theorem MapStr.ext {w : World} {g : Nat} {f f' : ByteArray → Option Int} (h : MapStr w g f) (he : ∀ s, f s = f' s) : MapStr w g f' := by
  obtain rfl : f = f' := funext he
  exact h
end Go.Proofs.YtfemmnhfllbgjaaGreatDoor
