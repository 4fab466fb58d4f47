/- A text that is bent: the walk. -/
import Derived.Test.YtppdmipdnelcpaaBend
namespace Go.Proofs.Ytppdmipdnelcpaa
open Go.RowKit
set_option maxRecDepth 100000
set_option linter.unusedSimpArgs false
set_option linter.unusedVariables false
attribute [local go_sem ↓] Go.wp_at_zero Go.wp_at_succ

theorem moves_bytes {g : Nat} {w a : World} (h : Moves g w a) (s : ByteArray) : Moves g w (Lib.bytesWorld a 5 s) :=
  h.trans ⟨rfl, rfl, rfl, by rw [Lib.bytesWorld_size]; omega, fun k hk _ => Lib.bytesWorld_at_old a 5 s k hk⟩

theorem BR.set {w : World} {base n cap blk : Nat} (h : BR w base (some ⟨blk, 0, none⟩) n cap) (k : Nat) (u : Value) (hu : ByteVal u) : BR (w.setCell ⟨blk, k, none⟩ u) base (some ⟨blk, 0, none⟩) n cap := by
  obtain ⟨h1, h2, h3⟩ := h
  refine ⟨h1, h2, fun hn => ?_⟩
  obtain ⟨b', e, hb, hl, hc⟩ := h3 hn
  simp only [Option.some.injEq, Addr.mk.injEq, and_true] at e
  subst e
  refine ⟨blk, rfl, hb, by simpa using hl, fun j hj => ?_⟩
  obtain ⟨⟨v, hv, hcv⟩, hf⟩ := hc j hj
  refine ⟨?_, by rw [World.frozen?_setCell]; exact hf⟩
  by_cases hjk : k = j
  · subst hjk
    exact ⟨u, hu, World.cell?_setCell_same' _ _ _ (by rw [hcv]; rfl)⟩
  · refine ⟨v, hv, ?_⟩
    exact (World.cell?_setCell_other _ ⟨blk, k, none⟩ ⟨blk, j, none⟩ _ (by simp [hjk])).trans hcv

theorem owns_ad {w : World} {base : Nat} {e : TypeId} {size n cap : Nat} {ad : Option Addr} {xs : List Value} (h : w.ownsRow base e size (.slice ad n cap) n xs) : ad = none ∨ ∃ b o, ad = some ⟨b, o, none⟩ := by
  rcases h.2 with ⟨h2, _⟩ | ⟨g, cap', cur, e1, _⟩
  · simp only [Value.slice.injEq] at h2; exact .inl h2.1
  · simp only [Value.slice.injEq] at e1; exact .inr ⟨g, 0, e1.1⟩

end Go.Proofs.Ytppdmipdnelcpaa
