/- A Bucket in its box; two Buckets held against each other; what the laws of chapter 12 want of the plain words. -/
import Derived.Test.YthoiefhcaplmiaaBktMath
import Derived.Test.YthoiefhcaplmiaaRowIs
import Derived.Laws.StructEq
namespace Go.Proofs.Ythoiefhcaplmiaa
open Go.RowKit
set_option maxRecDepth 100000
set_option linter.unusedSimpArgs false
set_option linter.unusedVariables false
structure BxK (w : World) (b : Nat) (d : Bk) : Prop where
  row : RowIs w b 25 [.int .i64 d.r, .int .i64 d.m, .int .i64 d.l, .int .i64 d.a]
theorem BxK.new {w w' : World} {b : Nat} {d : Bk} (h : BxK w b d) (hb : Below w.heap.size w w') : BxK w' b d := ⟨h.row.new hb⟩
theorem BxK.make (w : World) (d : Bk) : BxK (w.alloc (.cells #[.int .i64 d.r, .int .i64 d.m, .int .i64 d.l, .int .i64 d.a] 25)) w.heap.size d := ⟨rowIs_new w _ _⟩
theorem bk_fields : (Try.prog.fieldsOf 25).toList = [⟨ "Rate", 2, 0, false, "", "", 0⟩, ⟨ "Most", 2, 1, false, "", "", 8⟩, ⟨ "Level", 2, 2, false, "", "", 16⟩, ⟨ "At", 2, 3, false, "", "", 24⟩] := by kernel_rfl
theorem bk_equal (r m l a : Int) (w : World) : (Op.equalIn 10000 25 (.agg #[.int .i64 r, .int .i64 m, .int .i64 l, .int .i64 a]) (.agg #[.int .i64 r, .int .i64 m, .int .i64 l, .int .i64 a])).run Try.prog w = .ok true w := by
  rw [run_equalIn_agg (P := Try.prog) w 9999 25 _ _ (by kernel_rfl) (by kernel_rfl), bk_fields]
  have p0 : (part 2 #[.int .i64 r, .int .i64 m, .int .i64 l, .int .i64 a] 0).run Try.prog w = .ok (.int .i64 r) w := by kernel_rfl
  have p1 : (part 2 #[.int .i64 r, .int .i64 m, .int .i64 l, .int .i64 a] 1).run Try.prog w = .ok (.int .i64 m) w := by kernel_rfl
  have p2 : (part 2 #[.int .i64 r, .int .i64 m, .int .i64 l, .int .i64 a] 2).run Try.prog w = .ok (.int .i64 l) w := by kernel_rfl
  have p3 : (part 2 #[.int .i64 r, .int .i64 m, .int .i64 l, .int .i64 a] 3).run Try.prog w = .ok (.int .i64 a) w := by kernel_rfl
  simp [Op.eqFields, p0, p1, p2, p3, run_equalIn_int (P := Try.prog) w 9998 2 .i64 .i64 _ _ (by kernel_rfl)]
theorem bk_eql (r m l a : Int) (w : World) : (binOp .eql 25 (.agg #[.int .i64 r, .int .i64 m, .int .i64 l, .int .i64 a]) (.agg #[.int .i64 r, .int .i64 m, .int .i64 l, .int .i64 a])).run Try.prog w = .ok (.bool true) w := by
  rw [run_eql_struct, bk_equal]; rfl
theorem bk_neq (r m l a : Int) (w : World) : (binOp .neq 25 (.agg #[.int .i64 r, .int .i64 m, .int .i64 l, .int .i64 a]) (.agg #[.int .i64 r, .int .i64 m, .int .i64 l, .int .i64 a])).run Try.prog w = .ok (.bool false) w := by
  rw [run_neq_struct, bk_equal]; rfl
theorem bk_field (r m l a : Int) (w : World) : (Instr.field 25 (.agg #[.int .i64 r, .int .i64 m, .int .i64 l, .int .i64 a]) 2).run Try.prog w = .ok (.int .i64 l) w := by kernel_rfl
theorem bk_guard : Try.prog.eqGuardType Try.prog.depth 25 = false := by kernel_rfl
/-- What is told of a time at which a bucket has so much. -/
theorem wh_yes {b : Bk} {n t : Int} (h : whV b n = t) (h0 : 0 ≤ t) : b.a ≤ t ∧ t ≤ 1000000 ∧ 0 ≤ b.a ∧ ∃ l, filV b t = ⟨b.r, b.m, l, t⟩ ∧ n ≤ l ∧ (b.a < t → ∃ l', filV b (t - 1) = ⟨b.r, b.m, l', t - 1⟩ ∧ l' < n) := by
  unfold whV at h
  split at h
  · omega
  rename_i hk
  cases hok : okBk b
  · exact absurd (Or.inl hok) hk
  cases hin : inB n 0 b.m
  · exact absurd (Or.inr hin) hk
  have hn := inB_true hin
  obtain ⟨⟨r0, r1⟩, ⟨m0, m1⟩, ⟨l0, l1⟩, a0, a1⟩ := okBk_true hok
  have hf : ∀ now, b.a ≤ now → now ≤ 1000000 → filV b now = ⟨b.r, b.m, lvV b now, now⟩ := fun now g0 g1 => by
    unfold filV
    rw [if_neg (by rw [hok]; decide), if_neg (by rw [inB_of g0 g1]; decide)]
    rfl
  split at h
  · rename_i hl
    subst h
    refine ⟨by omega, a1, a0, _, hf _ (by omega) a1, ?_, fun c => by omega⟩
    have := lv_bd hok (show b.a ≤ b.a by omega) a1
    omega
  · rename_i hl
    split at h
    · omega
    · rename_i hr
      split at h
      · omega
      · rename_i ht
        obtain ⟨g1, g2, g3⟩ := full_has hok (Int.not_le.1 hl) hn.2 hr (Int.not_lt.1 ht)
        subst h
        exact ⟨by omega, by omega, a0, _, hf _ (by omega) (by omega), g2, fun _ => ⟨_, hf _ (by omega) (by omega), g3⟩⟩
/-- What a pour tells: what was poured and what is left is no more than there was and what came in. -/
theorem pour_step {b y : Bk} {at' k s st f : Int} {is : Bool} (h : okBk b = true) (h0 : b.a ≤ at') (hk : 0 ≤ k) (hs : s + b.l ≤ st + b.r * (b.a - f)) (hy : pouV b at' k = (y, is)) :
    okBk y = true ∧ y.r = b.r ∧ y.m = b.m ∧ y.a ≤ at' ∧ b.a ≤ y.a ∧ (if is = true then s + k else s) + y.l ≤ st + b.r * (y.a - f) ∧ (at' ≤ 1000000 → y.a = at') ∧ (is = true → k ≤ b.m) := by
  unfold pouV at hy
  rw [if_neg (by rw [h]; decide)] at hy
  cases hin : inB at' b.a 1000000
  · rw [if_pos hin] at hy
    obtain ⟨rfl, rfl⟩ := Prod.mk.inj hy
    exact ⟨h, rfl, rfl, h0, Int.le_refl _, by simpa using hs, fun c => (by rw [inB_of h0 c] at hin; cases hin), fun c => (by cases c)⟩
  · obtain ⟨g0, g1⟩ := inB_true hin
    rw [if_neg (by rw [hin]; decide)] at hy
    have hb := lv_bd h g0 g1
    have hlv : lvV b at' ≤ b.l + b.r * (at' - b.a) := by unfold lvV; split <;> omega
    have he : b.r * (at' - f) = b.r * (b.a - f) + b.r * (at' - b.a) := by rw [← Int.mul_add]; congr 1; omega
    obtain ⟨⟨r0, r1⟩, ⟨m0, m1⟩, ⟨l0, l1⟩, a0, a1⟩ := okBk_true h
    split at hy
    · obtain ⟨rfl, rfl⟩ := Prod.mk.inj hy
      refine ⟨fil_ok h g0 g1, rfl, rfl, Int.le_refl _, g0, ?_, fun _ => rfl, fun c => by cases c⟩
      show (if false = true then s + k else s) + lvV b at' ≤ st + b.r * (at' - f)
      rw [he]
      simp only [Bool.false_eq_true, if_false]
      generalize b.r * (at' - b.a) = x at *
      generalize b.r * (b.a - f) = z at *
      omega
    · rename_i hn
      obtain ⟨rfl, rfl⟩ := Prod.mk.inj hy
      refine ⟨okBk_of ⟨r0, r1⟩ ⟨m0, m1⟩ ⟨?_, ?_⟩ ⟨?_, g1⟩, rfl, rfl, Int.le_refl _, g0, ?_, fun _ => rfl, fun _ => ?_⟩
      · show 0 ≤ lvV b at' - k; omega
      · show lvV b at' - k ≤ b.m; omega
      · show 0 ≤ at'; omega
      · show (if true = true then s + k else s) + (lvV b at' - k) ≤ st + b.r * (at' - f)
        rw [he, if_pos rfl]
        generalize b.r * (at' - b.a) = x at *
        generalize b.r * (b.a - f) = z at *
        omega
      · omega
end Go.Proofs.Ythoiefhcaplmiaa
