/- Chapter 3's Prefixed, of the program and of the model. -/
import Derived.Test.YtiilmbbgngpleaaPrefixIter
import Derived.Test.YtiilmbbgngpleaaPrefixSpec
import Derived.Lib.EndianBits
namespace Go.Proofs.Ytiilmbbgngpleaa
open Go.RowKit Go.Shelf
attribute [local go_sem] Oper.semAt_some
set_option linter.unusedSimpArgs false
set_option linter.unusedVariables false

/-- Are all three in range? -/
def okP (n b h : Int) : Bool := okN n b && inB h 0 255 && decide (h % pw b = 0)
/-- What Prefixed answers. -/
def preV (n b h : Int) : ByteArray := if okP n b h = true then strOf (addHead h (bytesOf n (pw b - 1))) else ⟨#[]⟩

theorem okP_true {n b h : Int} (k : okP n b h = true) : (0 ≤ n ∧ n ≤ 268435456 ∧ 1 ≤ b ∧ b ≤ 8) ∧ (0 ≤ h ∧ h ≤ 255) ∧ h % pw b = 0 ∧ h + (pw b - 1) ≤ 255 := by
  simp only [okP, Bool.and_eq_true] at k
  have k1 := okN_true k.1.1
  have k2 := inB_true k.1.2
  have k3 : h % pw b = 0 := of_decide_eq_true k.2
  have k4 := pw_cases k1.2.2.1 k1.2.2.2
  refine ⟨k1, k2, k3, ?_⟩
  rcases k4 with e | e | e | e | e | e | e | e <;> rw [e] at k3 ⊢ <;> omega

theorem and_all : ∀ k : Fin 256, (bits .and .i64 (k.val : Int) 1 = (k.val : Int) % 2 ∧ bits .and .i64 (k.val : Int) 3 = (k.val : Int) % 4 ∧ bits .and .i64 (k.val : Int) 7 = (k.val : Int) % 8
    ∧ bits .and .i64 (k.val : Int) 15 = (k.val : Int) % 16) ∧ (bits .and .i64 (k.val : Int) 31 = (k.val : Int) % 32 ∧ bits .and .i64 (k.val : Int) 63 = (k.val : Int) % 64
    ∧ bits .and .i64 (k.val : Int) 127 = (k.val : Int) % 128 ∧ bits .and .i64 (k.val : Int) 255 = (k.val : Int) % 256) := by decide +kernel

theorem and_pw {x b : Int} (h0 : 0 ≤ x) (h1 : x ≤ 255) (hb1 : 1 ≤ b) (hb8 : b ≤ 8) : bits .and .i64 x (pw b - 1) = x % pw b := by
  obtain ⟨⟨a1, a2, a3, a4⟩, a5, a6, a7, a8⟩ := and_all ⟨x.toNat, by omega⟩
  have e : ((x.toNat : Nat) : Int) = x := by omega
  simp only [e] at a1 a2 a3 a4 a5 a6 a7 a8
  rcases bits8 hb1 hb8 with rfl | rfl | rfl | rfl | rfl | rfl | rfl | rfl <;> simpa [pw] using (by assumption)

theorem or_pw {x h b : Int} (hx0 : 0 ≤ x) (hx1 : x < pw b) (h0 : 0 ≤ h) (h1 : h ≤ 255) (hm : h % pw b = 0) (hb1 : 1 ≤ b) (hb8 : b ≤ 8) : bits .or .u8 x h = h + x := by
  have hp := (pw_lo hb1 hb8).2
  rw [bits_join_low .u8 8 (by decide) (fun n h₀ h₁ => by rw [IntKind.wrap_u8]; omega) b.toNat x h hx0 hx1 (by omega) h0 hm (by omega)]
  omega

end Go.Proofs.Ytiilmbbgngpleaa
