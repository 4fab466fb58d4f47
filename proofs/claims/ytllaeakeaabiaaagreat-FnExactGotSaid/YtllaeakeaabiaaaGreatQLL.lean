/- Several small texts of one level, one behind the other. -/
import Derived.Test.YtllaeakeaabiaaaGreatQG5
import Derived.Test.YtllaeakeaabiaaaGreatQG3
import Derived.Test.YtllaeakeaabiaaaGreatQLitRead3
import Derived.Laws.MakeOwn
import Derived.Handy
import Derived.Test.YtllaeakeaabiaaaGreatQG2
import Derived.WalkKit
import Derived.ProofKit
import Derived.OpenShut
import Derived.ShutString
import Derived.ChangeOld
import Derived.Below
import Derived.Lib.SmallJoins
import Derived.Deep.DeepCutAuto
/- What chapter 4's laws draw: some text, whatever it is; of what was there the cursor alone has moved. -/
namespace Go.Proofs.YtllaeakeaabiaaaGreat
open Go.RowKit
set_option maxRecDepth 100000
set_option linter.unusedSimpArgs false
set_option linter.unusedVariables false

theorem owns_all (w : World) (M : Array Value) (e : TypeId) (size R : Nat) (h : M.size = R * size) (hR : R ≤ 1048576) : (w.alloc (.cells M e)).ownsRow w.heap.size e size (.slice (some ⟨w.heap.size, 0, none⟩) R R) R M.toList :=
  ⟨by simp [h], .inr ⟨w.heap.size, R, M, rfl, Nat.le_refl _, heap_alloc_new w _, Nat.le_refl _, by unfold maxLen; omega, h, by rw [← h, ← Array.length_toList, List.take_length]⟩⟩
/-- A row of 200 noughts is made, and is a text. -/
theorem made200 (w : World) : ∃ (w2 : World) (z : ByteArray), z.size = 200 ∧ (∀ w', w' = w2 → (w' = w2)) ∧ (Instr.makeSlice 131 (.int .i64 200) (.int .i64 200)).run Tryz.prog w = .ok (.slice (some ⟨w.heap.size, 0, none⟩) 200 200) w2 ∧ (convert 131 9 (.slice (some ⟨w.heap.size, 0, none⟩) 200 200)).run Tryz.prog w2 = .ok (.string z) w2 ∧ ∃ o, w2 = w.alloc o := by
  obtain ⟨i0, hi, hz0, hz1, hz2⟩ := info_parts (P := Tryz.prog) (e := 5) (z := .int .u8 0) (size := 1) (bytes := 1) (by kernel_rfl)
  have h := run_makeSlice (P := Tryz.prog) w 131 5 i0 (.int .u8 0) Tryz.underlying131 hi hz0 .i64 .i64 200 200 (by omega) (by omega) (by rw [hz1]; decide) (by rw [hz2]; decide) (by omega)
  rw [hz1] at h
  obtain ⟨z, hs, hcv⟩ := row_to_string (owns_all w (madeCells (Value.int .u8 0).cells (200 * 1)) 5 1 200 (size_madeCells _ _) (by omega)) (by
    intro u hu
    simp only [madeCells, Array.toList_map, List.mem_map] at hu
    obtain ⟨j, _, rfl⟩ := hu
    have e : (Value.int .u8 0).cells = #[Value.int .u8 0] := rfl
    rw [e]
    have e2 : j % (#[Value.int .u8 0] : Array Value).size = 0 := Nat.mod_one j
    rw [e2]
    exact ⟨0, rfl, by omega, by omega⟩)
  exact ⟨_, z, hs, fun _ h => h, h, hcv, _, rfl⟩

theorem pkV_small (t : ByteArray) : (pkV t).1.size ≤ 126 := by
  unfold pkV
  split
  · rename_i h
    cases ho : (l4V t).2
    · have : l4V t = (⟨#[]⟩, false) := by
        unfold l4V at ho ⊢
        split at ho
        · cases ho
        · rename_i q; rw [if_neg q]
      rw [this]; exact Nat.zero_le _
    · rw [l4V_size ho]; omega
  · exact Nat.zero_le _
theorem litV_small (t : ByteArray) : (litV t).size ≤ 206 := by
  by_cases h : 200 < t.size
  · rw [litV_long h]; exact Nat.zero_le _
  · obtain ⟨m, x, p, e, hp, hm, hx, ho, _⟩ := lit_form (t := t) (by omega)
    rw [e, ba_size_append, hp]
    have := (law_size ho).2.1
    omega

end Go.Proofs.YtllaeakeaabiaaaGreat
/- The law FnPacked returns true at every argument and leaves it as it was. No condition. -/
namespace Go.Proofs.YtllaeakeaabiaaaGreat
open Go.RowKit
set_option maxRecDepth 100000
set_option linter.unusedVariables false
set_option linter.unusedSimpArgs false

theorem un_pk {t : ByteArray} (h : (unV t).2 = true) : pkV (unV t).1 = (t, true) := by
  rw [unV_pack] at h ⊢
  cases hr : rawV t with
  | none => rw [hr] at h; cases h
  | some r =>
    rw [hr] at h
    simp only at h ⊢
    split at h
    · rename_i q
      rw [if_pos q]
      show pkV (strOf (r.1.map sch)) = _
      rw [pkV_sch (raw_range hr) q.1, q.2, strOf_bys]
    · cases h
theorem pk_no {s : ByteArray} (h : (pkV s).2 = false) : (pkV s).1 = ⟨#[]⟩ := by
  unfold pkV at h ⊢
  split at h
  · rename_i q
    rw [if_pos q]
    unfold l4V at h ⊢
    split at h
    · cases h
    · rename_i q; rw [if_neg q]
  · rename_i q; rw [if_neg q]
theorem pk_un {s : ByteArray} (h : (pkV s).2 = true) : unV (pkV s).1 = (s, true) ∧ (pkV s).1.size = (5 * s.size + 7) / 8 := by
  unfold pkV at h ⊢
  split at h
  · rename_i q
    rw [if_pos q]
    refine ⟨?_, l4V_size h⟩
    have hz := l4V_size h
    unfold l4V at h hz ⊢
    split at h
    · rename_i ho
      rw [if_pos ho] at hz ⊢
      simp only at hz ⊢
      obtain ⟨c, u, h1, h2⟩ := raw_packed (okS_range ho)
      unfold unV
      rw [if_pos (by omega), h1]
      simp only
      rw [if_pos h2, strOf_sgn ho]
    · cases h
  · cases h

end Go.Proofs.YtllaeakeaabiaaaGreat
/- Reading what a literal is written as, whatever comes behind; and less of it is not read. -/
namespace Go.Proofs.YtllaeakeaabiaaaGreat
open Go.RowKit
set_option maxRecDepth 100000
set_option linter.unusedVariables false
set_option linter.unusedSimpArgs false

theorem hi_append (a b : ByteArray) (x : Int) (h : 0 < a.size) : hiV (a ++ b) x = hiV a x := by
  rw [hiV_list, hiV_list, bys_append]
  cases e : bys a with
  | nil => have := bys_len a; rw [e] at this; simp at this; omega
  | cons y ys => rfl

theorem rd_lit {s : ByteArray} (t : ByteArray) (h : s.size ≤ 200) : rlV (litV s ++ t) = (s, ((litV s).size : Int)) := by
  obtain ⟨m, x, p, e, hp, hm, hx, ho, hcase⟩ := lit_form h
  have hrd : rdV (litV s ++ t) 7 = ((m : Int), ((preV (m : Int) 7 x).size : Int)) := by rw [e, ba_append_assoc]; exact law_read ho _
  have hk := (law_size ho).1
  have hsz : (litV s).size = (preV (m : Int) 7 x).size + m := by rw [e, ba_size_append, hp]
  have hhi : hiV (litV s ++ t) 7 = x := by
    rw [e, ba_append_assoc, hi_append _ _ _ hk]; exact law_high ho
  have hex : (litV s ++ t).extract (preV (m : Int) 7 x).size ((preV (m : Int) 7 x).size + m) = p := by
    rw [e, ← hp]; exact ba_mid _ _ _
  have htx : txV (litV s ++ t) m (preV (m : Int) 7 x).size = s := by
    unfold txV
    rw [hhi, hex]
    rcases hcase with ⟨rfl, hl, hlt⟩ | ⟨rfl, hl⟩
    · rw [if_pos rfl]
      have hpk : pkV s = (p, true) := by rw [← hl]; simp [pkV, h]
      have := (pk_un (s := s) (by rw [hpk])).1
      rw [hpk] at this
      rw [this]
    · rw [if_neg (by decide), hl]
  rw [rlV_at hrd, htx, if_pos (by rw [ba_size_append]; omega), if_pos]
  · rw [hsz]; simp
  · rw [← hsz]; exact (ba_left _ _).symm

/-- What is read is what its literal says, and begins with it. -/
theorem rl_pos {t : ByteArray} (h : 0 < (rlV t).2) : ∃ e : Nat, (rlV t).2 = (e : Int) ∧ 0 < e ∧ e ≤ t.size ∧ litV (rlV t).1 = t.extract 0 e ∧ (rlV t).1.size ≤ 200 := by
  rcases rd7 t with hrd | ⟨n, k, hrd, hk0, hk6, hks, hn⟩
  · rw [rlV_none hrd] at h; exact absurd h (by decide)
  rw [rlV_at hrd] at h ⊢
  by_cases h1 : (n : Int) ≤ (t.size : Int) - k
  · rw [if_pos h1] at h ⊢
    by_cases h2 : litV (txV t n k) = t.extract 0 (k + n)
    · rw [if_pos h2] at h ⊢
      refine ⟨k + n, by simp, by omega, by omega, h2, ?_⟩
      by_cases q : 200 < (txV t n k).size
      · rw [litV_long q] at h2
        have := congrArg ByteArray.size h2
        rw [ba_extract_size (by omega) (by omega)] at this
        have h0 : (⟨#[]⟩ : ByteArray).size = 0 := rfl
        rw [h0] at this
        omega
      · show (txV t n k).size ≤ 200; omega
    · rw [if_neg h2] at h; exact absurd h (by decide)
  · rw [if_neg h1] at h; exact absurd h (by decide)

theorem rl_nonneg (t : ByteArray) : 0 ≤ (rlV t).2 := by
  rcases rd7 t with hrd | ⟨n, k, hrd, hk0, hk6, hks, hn⟩
  · rw [rlV_none hrd]; decide
  rw [rlV_at hrd]
  split
  · split
    · show (0 : Int) ≤ (k : Int) + n; omega
    · decide
  · decide

theorem rl_cut {s : ByteArray} (h : s.size ≤ 200) : (rlV ((litV s).extract 0 ((litV s).size - 1))).2 = 0 := by
  have hpos := lit_pos h
  obtain ⟨c, hc⟩ : ∃ c, (litV s).extract 0 ((litV s).size - 1) = c := ⟨_, rfl⟩
  rw [hc]
  have h0 := rl_nonneg c
  by_cases hp : 0 < (rlV c).2
  · exfalso
    obtain ⟨e, he, e0, e1, e2, e3⟩ := rl_pos hp
    have hcs : c.size = (litV s).size - 1 := by rw [← hc, ba_extract_size (by omega) (by omega)]; omega
    have hsplit := ba_split (litV s) ((litV s).size - 1) (by omega)
    rw [hc] at hsplit
    have hcut : (litV s).extract 0 e = c.extract 0 e := by
      refine bys_inj ?_
      rw [bys_extract, bys_extract, ← hsplit, bys_append, List.take_append_of_le_length (by rw [bys_len]; omega)]
    obtain ⟨m, k, hm, hmk, hk⟩ := lit_rd h ⟨#[]⟩
    have hemp : litV s ++ ⟨#[]⟩ = litV s := bys_inj (by rw [bys_append]; simp [bys])
    rw [hemp] at hm
    have hl : (litV (rlV c).1).size = e := by rw [e2, ba_extract_size (by omega) (by omega)]; omega
    have := lit_head (s := litV s) (t := (rlV c).1) hm e3 (by omega) (by rw [hl, hcut, e2])
    omega
  · omega

theorem lit_len {s : ByteArray} (h : s.size ≤ 200) : ((litV s).size : Int) ≤ (s.size : Int) + wdV (s.size : Int) 7 := by
  obtain ⟨m, x, p, e, hp, hm, hx, ho, hcase⟩ := lit_form h
  have hsz : (litV s).size = (preV (m : Int) 7 x).size + m := by rw [e, ba_size_append, hp]
  have hw : ∀ n : Nat, n ≤ 200 → wdV (n : Int) 7 = if n < 127 then 1 else 2 := by
    intro n hn
    have hN : okN (n : Int) 7 = true := by simp [okN]; omega
    rw [wdV_yes hN]
    have e7 : pw 7 - 1 = 127 := rfl
    rw [e7]
    unfold bytesOf
    by_cases q : (n : Int) < 127
    · rw [if_pos q, if_pos (by omega)]; rfl
    · rw [if_neg q, if_neg (by omega), restF_small (by omega)]; rfl
  have hpre : ((preV (m : Int) 7 x).size : Int) = wdV (m : Int) 7 := by
    have hrd := law_read ho ⟨#[]⟩
    have hemp : preV (m : Int) 7 x ++ ⟨#[]⟩ = preV (m : Int) 7 x := bys_inj (by rw [bys_append]; simp [bys])
    rw [hemp] at hrd
    have := (law_written (t := preV (m : Int) 7 x) (b := 7) (by rw [hrd]; have := (law_size ho).1; simpa using this)).2.1
    rw [hrd] at this
    exact this.symm
  have h1 := hw m hm
  have h2 := hw s.size h
  have hms : m ≤ s.size := by
    rcases hcase with ⟨_, _, hl⟩ | ⟨_, hl⟩
    · omega
    · rw [← hl]; omega
  rw [hsz]
  rw [h1] at hpre
  rw [h2]
  split at hpre <;> split <;> omega
theorem lit_none {s : ByteArray} (h : 200 < s.size) : litV s = ⟨#[]⟩ := litV_long h
end Go.Proofs.YtllaeakeaabiaaaGreat
