/- Lemmas. -/
import Derived.Test.YtlpbnkideaojeaaGreatDoorQRpLinkOf
namespace Go.Proofs.YtlpbnkideaojeaaGreatDoor
open Go.RowKit
set_option maxRecDepth 100000
set_option linter.unusedSimpArgs false
set_option linter.unusedVariables false
theorem aa9 {B : Nat} {a b c : World} {L : List Nat} (h : Below B a b) (ht : aG L b c) (hg : ∀ x ∈ L, B ≤ x) (hB : B ≤ b.heap.size) : Below B a c :=
 ⟨ht.os.trans h.os, ht.tape.trans h.tape, ht.output.trans h.output, Nat.le_trans h.size ht.size, fun k hk => (ht.block k (by omega) (fun hx => by have := hg k hx; omega)).trans (h.block k hk)⟩
theorem QN {w : World} {lo : Nat} {d : aH} {ve vi vo vf : Value} {bs : List Nat} (h : dY w bs d ve vi vo vf) (hlo : ∀ b ∈ bs, lo ≤ b) (hl : lo ≤ w.heap.size) : fO (w.alloc (.cells (lJ d ve vi vo vf (.slice none 0 0)).toArray 61)) lo w.heap.size d [] bs := by
 have hb : Below w.heap.size w (w.alloc (.cells (lJ d ve vi vo vf (.slice none 0 0)).toArray 61)) := (Below.refl _ _).alloc (Nat.le_refl _) _
 refine ⟨⟨ve, vi, vo, vf, .slice none 0 0, bs, aB w 61 _, h.new hb, World.ownsRow_nil _ _ _ _, fun _ hx => hx, fun q hq => by simp [Value.ownBlock] at hq⟩, fun b hb2 => ?_, hlo, fun hx => by have := h.lt _ hx; omega, Nat.le_trans hl hb.size⟩
 have hs := hb.size
 rcases List.mem_cons.1 hb2 with e | e
 ·rw [e]; simp
 ·have := h.lt b e; omega
theorem aa7 (w : World) : dY w [] vP (.slice none 0 0) (.slice none 0 0) (.slice none 0 0) (.slice none 0 0) :=
 ⟨⟨[], [], [], [], ⟨[], rfl, World.ownsRow_nil w 0 _ _, fun t ht => (by cases ht), rfl⟩, ⟨[], rfl, World.ownsRow_nil w 0 _ _, fun t ht => (by cases ht), rfl⟩, ⟨[], rfl, World.ownsRow_nil w 0 _ _, fun t ht => (by cases ht), rfl⟩, ⟨[], rfl, World.ownsRow_nil w 0 _ _, fun t ht => (by cases ht), rfl⟩, rfl⟩, List.nodup_nil⟩
end Go.Proofs.YtlpbnkideaojeaaGreatDoor
