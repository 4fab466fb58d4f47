/- Several small texts of one level, one behind the other. -/
import Derived.Test.YtllaeakeaabiaaaGreatRows
import Derived.Handy
import Derived.Deep.QuietTactic
import Derived.BigQuiet
import Derived.Scope
import Derived.WalkMore
/- Small laws on worlds: what was there before a chain of calls, new blocks and draws is there behind it. -/
namespace Go.Proofs.YtllaeakeaabiaaaGreat
open Go.RowKit
set_option maxRecDepth 100000

theorem bchain {w a b : World} (h1 : Below w.heap.size w a) (h2 : Below a.heap.size a b) : Below w.heap.size w b := h1.trans (h2.mono h1.size)
theorem bo_alloc {w a : World} (h : Below w.heap.size w a) (o : Obj) : Below w.heap.size w (a.alloc o) := h.alloc h.size o
theorem bo_drewN {B : Nat} {a w : World} (n : Nat) (h : Below B a w) : Below B a (w.drewN n) := ⟨h.os, h.tape, h.output, h.size, h.block⟩
theorem bcell {W w1 : World} (hb : Below W.heap.size W w1) : (∀ b o, b < W.heap.size → w1.cell? ⟨b, o, none⟩ = W.cell? ⟨b, o, none⟩) ∧ (∀ b o, b < W.heap.size → w1.frozen? ⟨b, o, none⟩ = W.frozen? ⟨b, o, none⟩) :=
  ⟨fun b o h => hb.cell (p := ⟨b, o, none⟩) h, fun b o h => hb.frozen (p := ⟨b, o, none⟩) h⟩
theorem empty_le : (⟨#[]⟩ : ByteArray).size ≤ maxLen := Nat.zero_le _
end Go.Proofs.YtllaeakeaabiaaaGreat
/- A scope in which the run jumps to several labels: what holds at every jump, and a measure that every pass lowers. -/
namespace Go.Proofs.YtllaeakeaabiaaaGreat
open Go

/-- As Q; by a goto to label l: J l. -/
def jumps (J : Nat → Act → World → Prop) (Q : Exit → Act → World → Prop) : Exit → Act → World → Prop
  | .goto l, a, w => J l a w
  | e, a, w => Q e a w

section
variable {P : Program} {a : Act} {w : World} {Q : Exit → Act → World → Prop}

theorem wp_scope_labels {c : Code} (rest : Nat → Code) (J : Nat → Act → World → Prop) (μ : Nat → Act → World → Nat) (hf : ∀ l a w, J l a w → findLabel c l = some (rest l))
    (first : c.wp P (jumps J Q) a w)
    (pass : ∀ l a w, J l a w → (rest l).wp P (jumps (fun l' a' w' => J l' a' w' ∧ μ l' a' w' < μ l a w) Q) a w) : (Code.scope c).wp P Q a w := by
  intro b k cs
  have key : ∀ n l a w, μ l a w = n → J l a w → ∃ e a' w', Q e a' w' ∧ Arrives P (lone (b.at a (.code (rest l) :: .inScope c :: k)) cs w) b k cs e a' w' := by
    intro n
    induction n using Nat.strongRecOn with
    | _ n ih =>
      intro l a w hn hJ
      obtain ⟨e, a₁, w₁, hq, harr⟩ := pass l a w hJ b (.inScope c :: k) cs
      cases e with
      | normal => exact ⟨.normal, a₁, w₁, hq, Steps.trans harr (.one step_inScope)⟩
      | exit id => exact ⟨.exit id, a₁, w₁, hq, fun k' hk => harr k' (by simp [exitTo, hk])⟩
      | goto l' =>
        obtain ⟨hJ', hlt⟩ := hq
        have hg : gotoIn l' (.inScope c :: k) = some (.code (rest l') :: .inScope c :: k) := by simp [gotoIn, hf l' _ _ hJ']
        obtain ⟨e₂, a₂, w₂, hq₂, harr₂⟩ := ih _ (by omega) l' a₁ w₁ rfl hJ'
        exact ⟨e₂, a₂, w₂, hq₂, .of_steps (harr _ hg) harr₂⟩
      | ret => exact ⟨_, a₁, w₁, hq, harr⟩
      | panic ch => exact ⟨_, a₁, w₁, hq, harr⟩
      | outgrown => exact ⟨_, a₁, w₁, hq, harr⟩
  obtain ⟨e, a₁, w₁, hq, harr⟩ := first b (.inScope c :: k) cs
  cases e with
  | normal => exact ⟨.normal, a₁, w₁, hq, .head step_scope (Steps.trans harr (.one step_inScope))⟩
  | exit id => exact ⟨.exit id, a₁, w₁, hq, fun k' hk => .head step_scope (harr k' (by simp [exitTo, hk]))⟩
  | goto l' =>
    have hJ' : J l' a₁ w₁ := hq
    have hg : gotoIn l' (.inScope c :: k) = some (.code (rest l') :: .inScope c :: k) := by simp [gotoIn, hf l' _ _ hJ']
    obtain ⟨e₂, a₂, w₂, hq₂, harr₂⟩ := key _ l' a₁ w₁ rfl hJ'
    exact ⟨e₂, a₂, w₂, hq₂, .of_steps (.head step_scope (harr _ hg)) harr₂⟩
  | ret => exact ⟨_, a₁, w₁, hq, .of_steps (.one step_scope) harr⟩
  | panic ch => exact ⟨_, a₁, w₁, hq, .of_steps (.one step_scope) harr⟩
  | outgrown => exact ⟨_, a₁, w₁, hq, .of_steps (.one step_scope) harr⟩

def three {α : Type} (x0 x1 x2 y : α) : Nat → α
  | 0 => x0
  | 1 => x1
  | 2 => x2
  | _ => y

theorem wp_scope_three {c r0 r1 r2 : Code} (J0 J1 J2 : Act → World → Prop) (μ0 μ1 μ2 : Act → World → Nat) (h0 : findLabel c 0 = some r0) (h1 : findLabel c 1 = some r1) (h2 : findLabel c 2 = some r2)
    (first : c.wp P (jumps (three J0 J1 J2 fun _ _ => False) Q) a w)
    (p0 : ∀ a w, J0 a w → r0.wp P (jumps (three (fun a' w' => J0 a' w' ∧ μ0 a' w' < μ0 a w) (fun a' w' => J1 a' w' ∧ μ1 a' w' < μ0 a w) (fun a' w' => J2 a' w' ∧ μ2 a' w' < μ0 a w) fun _ _ => False) Q) a w)
    (p1 : ∀ a w, J1 a w → r1.wp P (jumps (three (fun a' w' => J0 a' w' ∧ μ0 a' w' < μ1 a w) (fun a' w' => J1 a' w' ∧ μ1 a' w' < μ1 a w) (fun a' w' => J2 a' w' ∧ μ2 a' w' < μ1 a w) fun _ _ => False) Q) a w)
    (p2 : ∀ a w, J2 a w → r2.wp P (jumps (three (fun a' w' => J0 a' w' ∧ μ0 a' w' < μ2 a w) (fun a' w' => J1 a' w' ∧ μ1 a' w' < μ2 a w) (fun a' w' => J2 a' w' ∧ μ2 a' w' < μ2 a w) fun _ _ => False) Q) a w) :
    (Code.scope c).wp P Q a w := by
  have mono : ∀ (X Y : Nat → Act → World → Prop), (∀ l a w, X l a w → Y l a w) → ∀ e a w, jumps X Q e a w → jumps Y Q e a w := by
    intro X Y h e a w
    cases e <;> first | exact h _ _ _ | exact id
  refine wp_scope_labels (three r0 r1 r2 r0) (three J0 J1 J2 fun _ _ => False) (three μ0 μ1 μ2 fun _ _ => 0) ?_ first ?_
  · intro l a w
    match l with
    | 0 => intro _; exact h0
    | 1 => intro _; exact h1
    | 2 => intro _; exact h2
    | n + 3 => intro h; exact h.elim
  · intro l a w
    match l with
    | 0 =>
      intro h b k cs
      obtain ⟨e, a', w', hq, harr⟩ := p0 a w h b k cs
      refine ⟨e, a', w', mono _ _ ?_ _ _ _ hq, harr⟩
      intro l a w
      match l with
      | 0 => exact id
      | 1 => exact id
      | 2 => exact id
      | n + 3 => intro h; exact h.elim
    | 1 =>
      intro h b k cs
      obtain ⟨e, a', w', hq, harr⟩ := p1 a w h b k cs
      refine ⟨e, a', w', mono _ _ ?_ _ _ _ hq, harr⟩
      intro l a w
      match l with
      | 0 => exact id
      | 1 => exact id
      | 2 => exact id
      | n + 3 => intro h; exact h.elim
    | 2 =>
      intro h b k cs
      obtain ⟨e, a', w', hq, harr⟩ := p2 a w h b k cs
      refine ⟨e, a', w', mono _ _ ?_ _ _ _ hq, harr⟩
      intro l a w
      match l with
      | 0 => exact id
      | 1 => exact id
      | 2 => exact id
      | n + 3 => intro h; exact h.elim
    | n + 3 => intro h; exact h.elim
end
end Go.Proofs.YtllaeakeaabiaaaGreat
