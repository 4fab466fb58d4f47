/- Chapter 14's model: times, names, the mac, a number's text. -/
import Derived.Test.YtbikmedbmnfdbaaTokMath
import Derived.Test.YtbikmedbmnfdbaaHeapRows
import Derived.Test.YtbikmedbmnfdbaaLater
import Derived.Test.YtbikmedbmnfdbaaRowIs
import Derived.Deep.Cut
import Derived.Deep.DeepCutAuto

namespace Go.Proofs.Ytbikmedbmnfdbaa
open Go.RowKit
set_option maxRecDepth 100000
set_option linter.unusedSimpArgs false
set_option linter.unusedVariables false
theorem nameB_no {s : ByteArray} {k : Nat} (hk : k < s.size) (h : ¬ (97 ≤ (s[k].toNat : Int) ∧ (s[k].toNat : Int) ≤ 122)) : nameB s = false := by
  unfold nameB
  have : (bys s).all (fun b => inB b 97 122) = false := by
    refine List.all_eq_false.2 ⟨(s[k].toNat : Int), ?_, ?_⟩
    · have := bys_drop s k hk
      exact List.mem_of_mem_drop (by rw [this]; simp)
    · rw [inB_not h]; simp
  rw [this]; rfl
theorem nameB_yes {s : ByteArray} (h : ∀ j (hj : j < s.size), 97 ≤ (s[j].toNat : Int) ∧ (s[j].toNat : Int) ≤ 122) : nameB s = inB (s.size : Int) 1 20 := by
  unfold nameB
  have : (bys s).all (fun b => inB b 97 122) = true := by
    refine List.all_eq_true.2 fun x hx => ?_
    obtain ⟨j, hj, rfl⟩ := List.mem_iff_getElem.1 hx
    have hj' : j < s.size := by rw [bys_len] at hj; exact hj
    have e : (bys s)[j] = (s[j].toNat : Int) := by simp [bys]; rfl
    rw [e]
    exact inB_of (h j hj').1 (h j hj').2
  rw [this]; simp
set_option maxHeartbeats 1000000 in
theorem specName (s : ByteArray) (w : World) (hs : s.size ≤ maxLen) : Calls Try.prog 23 #[.string s] w fun x w' => x = .returned (.bool (nameB s)) ∧ Below w.heap.size w w' := by
  unfold maxLen at hs
  obtain ⟨A, hA⟩ : ∃ A, nameB s = A := ⟨_, rfl⟩
  rw [hA]
  have HA := hide hA
  clear hA
  go_enter Try.func23, Try.ntmps23
  go_wp2_with fail
  go_loop [3] (fun i => ∃ k : Nat, i = .int .i64 k ∧ k ≤ s.size ∧ Hid (∀ j (hj : j < s.size), j < k → 97 ≤ (s[j].toNat : Int) ∧ (s[j].toNat : Int) ≤ 122)) (fun i => s.size - (intOf i).toNat)
  case atStart => exact ⟨0, rfl, Nat.zero_le _, fun j _ hj => absurd hj (Nat.not_lt_zero _)⟩
  case round =>
    obtain ⟨k, rfl, hk, HN⟩ := hrel
    by_cases hlt : k < s.size
    · have hltI : (k : Int) < s.size := by omega
      obtain ⟨b, hb⟩ : ∃ b, (s[k].toNat : Int) = b := ⟨_, rfl⟩
      have hb0 : 0 ≤ b ∧ b ≤ 255 := by have := s[k].toNat_lt; omega
      have HB := hide hb
      by_cases h1 : b < 97
      · have HF : Hid (A = false) := by show A = false; rw [← HA.out]; exact nameB_no hlt (by rw [hb]; omega)
        go_wp2_with fail
        go_ret
        exact ⟨by rw [HF.out]; rfl, (by repeat' (first | (with_reducible exact Below.refl _ _) | (with_reducible refine Below.drew ?_) | (with_reducible refine bo_drewN _ ?_) | (with_reducible refine bo_alloc ?_ _) | (refine bchain ?_ (by with_reducible assumption)) | (with_reducible refine Below.setCell ?_ ?_ _) | go_size))⟩
      · by_cases h2 : 122 < b
        · have HF : Hid (A = false) := by show A = false; rw [← HA.out]; exact nameB_no hlt (by rw [hb]; omega)
          go_wp2_with fail
          go_ret
          exact ⟨by rw [HF.out]; rfl, (by repeat' (first | (with_reducible exact Below.refl _ _) | (with_reducible refine Below.drew ?_) | (with_reducible refine bo_drewN _ ?_) | (with_reducible refine bo_alloc ?_ _) | (refine bchain ?_ (by with_reducible assumption)) | (with_reducible refine Below.setCell ?_ ?_ _) | go_size))⟩
        · have HN2 : Hid (∀ j (hj : j < s.size), j < k + 1 → 97 ≤ (s[j].toNat : Int) ∧ (s[j].toNat : Int) ≤ 122) := fun j hj hjk => by
            by_cases e : j = k
            · subst e; rw [HB.out]; omega
            · exact HN.out j hj (by omega)
          go_wp2_with fail
          go_round
          case rel => exact ⟨k + 1, by go_num, by omega, HN2⟩
          case measure => simp [intOf]; omega
    · obtain rfl : k = s.size := by omega
      have HF : Hid (A = inB (s.size : Int) 1 20) := by show A = _; rw [← HA.out]; exact nameB_yes (fun j hj => HN.out j hj hj)
      by_cases h1 : (1 : Int) ≤ s.size
      · by_cases h2 : (s.size : Int) ≤ 20
        · have e : inB (s.size : Int) 1 20 = true := inB_of h1 h2
          go_wp2_with fail
          go_ret
          exact ⟨by rw [HF.out, e]; rfl, (by repeat' (first | (with_reducible exact Below.refl _ _) | (with_reducible refine Below.drew ?_) | (with_reducible refine bo_drewN _ ?_) | (with_reducible refine bo_alloc ?_ _) | (refine bchain ?_ (by with_reducible assumption)) | (with_reducible refine Below.setCell ?_ ?_ _) | go_size))⟩
        · have e : inB (s.size : Int) 1 20 = false := inB_not (by omega)
          go_wp2_with fail
          go_ret
          exact ⟨by rw [HF.out, e]; rfl, (by repeat' (first | (with_reducible exact Below.refl _ _) | (with_reducible refine Below.drew ?_) | (with_reducible refine bo_drewN _ ?_) | (with_reducible refine bo_alloc ?_ _) | (refine bchain ?_ (by with_reducible assumption)) | (with_reducible refine Below.setCell ?_ ?_ _) | go_size))⟩
      · have e : inB (s.size : Int) 1 20 = false := inB_not (by omega)
        go_wp2_with fail
        go_ret
        exact ⟨by rw [HF.out, e]; rfl, (by repeat' (first | (with_reducible exact Below.refl _ _) | (with_reducible refine Below.drew ?_) | (with_reducible refine bo_drewN _ ?_) | (with_reducible refine bo_alloc ?_ _) | (refine bchain ?_ (by with_reducible assumption)) | (with_reducible refine Below.setCell ?_ ?_ _) | go_size))⟩
end Go.Proofs.Ytbikmedbmnfdbaa
