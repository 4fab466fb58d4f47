/- Chapter 14's model: a text parted at its points, tokens made, read and signed. -/
import Derived.Test.YtfemmnhfllbgjaaGreatDoorTokSpec2
import Derived.Test.YtfemmnhfllbgjaaGreatDoorAppRows
import Derived.Test.YtfemmnhfllbgjaaGreatDoorRowNew
import Derived.Deep.DeepMust

namespace Go.Proofs.YtfemmnhfllbgjaaGreatDoor
open Go.RowKit
set_option maxRecDepth 100000
set_option linter.unusedSimpArgs false
set_option linter.unusedVariables false
def splitV (s : ByteArray) : List ByteArray := (splitL (bys s)).map strOf
def sv14 (L : List (List Int)) : List Value := L.map fun l => Value.string (strOf l)
theorem sv14_app (A B : List (List Int)) : sv14 (A ++ B) = sv14 A ++ sv14 B := by simp [sv14]
theorem sv14_len (A : List (List Int)) : (sv14 A).length = A.length := by simp [sv14]
theorem sv14_one (A : List (List Int)) : ∀ u ∈ sv14 A, u.oneCell' = true := by
  intro u hu
  obtain ⟨x, _, rfl⟩ := List.mem_map.1 hu
  rfl
theorem piece_is (s : ByteArray) (f k : Nat) : strOf (((bys s).drop f).take (k - f)) = s.extract f k := by
  refine bys_inj ?_
  rw [bys_strOf (fun x hx => bys_range s x (List.mem_of_mem_drop (List.mem_of_mem_take hx))), bys_extract, List.drop_take]
set_option maxHeartbeats 4000000 in
theorem specSplit (s : ByteArray) (w : World) (hs : s.size ≤ 2000000) : Calls Tryz.prog 64 #[.string s, .int .u8 46] w fun x w' => ∃ v', x = .returned v' ∧ w'.ownsRow w.heap.size 9 1 v' (splitL (bys s)).length (sv14 (splitL (bys s))) ∧ Below w.heap.size w w' := by
  obtain ⟨A, hA⟩ : ∃ A, splitL (bys s) = A := ⟨_, rfl⟩
  rw [hA]
  have HA := hide hA
  clear hA
  go_enter Tryz.func64, Tryz.ntmps64
  go_upto_region 2 with fail
  have hbV : Below w.heap.size w (w.alloc (.cells #[] 9)) := (Below.refl _ _).alloc (Nat.le_refl _) _
  have hoV : (w.alloc (.cells #[] 9)).ownsRow w.heap.size 9 1 (.slice (some ⟨w.heap.size, 0, none⟩) 0 0) 0 [] := owns_lit w 9 1 0 #[] rfl (by omega)
  generalize w.alloc (.cells #[] 9) = V at *
  have HBV := hide hbV; have HOV := hide hoV
  clear hbV hoV
  go_wp2_with fail
  go_loopw [5, 6, 7] (fun o f i wr => ∃ (k fr : Nat) (O : List (List Int)) (a : Option Addr) (p : Nat), i = .int .i64 k ∧ f = .int .i64 fr ∧ o = .slice a O.length p ∧ O.length ≤ k ∧ k ≤ s.size + 1 ∧ fr ≤ k ∧ Hid ((k ≤ s.size ∧ (∀ x ∈ ((bys s).drop fr).take (k - fr), x ≠ 46) ∧ A = O ++ splitL ((bys s).drop fr)) ∨ (k = s.size + 1 ∧ O = A)) ∧ Hid (wr.ownsRow w.heap.size 9 1 (.slice a O.length p) O.length (sv14 O)) ∧ Hid (Below w.heap.size w wr)) (fun _ _ i _ => s.size + 1 - (intOf i).toNat)
  case atStart => exact ⟨0, 0, [], _, _, rfl, rfl, rfl, by simp, by omega, by omega, .inl ⟨by omega, by simp, by rw [List.drop_zero, HA.out]; rfl⟩, HOV, HBV⟩
  case round =>
    clear HOV HBV
    obtain ⟨k, fr, O, a, p, rfl, rfl, rfl, hOk, hk, hfk, HI, HO, HB⟩ := hrel
    by_cases hlt : k ≤ s.size
    · have hltI : (k : Int) ≤ s.size := by omega
      have hinv : (∀ x ∈ ((bys s).drop fr).take (k - fr), x ≠ 46) ∧ A = O ++ splitL ((bys s).drop fr) := by
        rcases HI.out with ⟨_, h⟩ | ⟨h, _⟩
        · exact h
        · omega
      have hsl : ∀ w : World, (Instr.slice 9 (.string s) (some (.int .i64 fr)) (some (.int .i64 k)) none).run Tryz.prog w = .ok (.string (s.extract fr k)) w := fun w => by
        have h := run_slice_string (P := Tryz.prog) w 9 s .i64 .i64 (fr : Int) (k : Int) Tryz.underlying9 (by omega) (by omega) (by omega)
        simpa using h
      obtain ⟨pc, hpc⟩ : ∃ pc, s.extract fr k = pc := ⟨_, rfl⟩
      rw [hpc] at hsl
      have hpe := piece_is s fr k
      rw [hpc] at hpe
      obtain ⟨pl, hpl⟩ : ∃ pl, ((bys s).drop fr).take (k - fr) = pl := ⟨_, rfl⟩
      rw [hpl] at hpe hinv
      have hX : Below wr.heap.size wr (wr.alloc (.cells #[.string pc] 9)) := (Below.refl _ _).alloc (Nat.le_refl _) _
      have hownX := owns_new HO.out hX
      have hRd : Reads (wr.alloc (.cells #[.string pc] 9)) (.slice (some ⟨wr.heap.size, 0, none⟩) 1 1) 1 1 (sv14 [pl]) := by
        have h := reads_of_owns (owns_lit wr 9 1 1 #[.string pc] rfl (by omega))
        simpa [sv14, hpe] using h
      have hbX := bchain HB.out hX
      have sX := hbX.size
      have HINV := hide hinv
      have HPL := hide hpl
      clear hinv hpl HI hpe hpc
      by_cases hend : k = s.size
      · have hendI : ((k : Int) == (s.size : Int)) = true := by simp; omega
        have HF : Hid (O ++ [pl] = A) := by
          show _ = A
          rw [HINV.out.2]
          have e : pl = (bys s).drop fr := by rw [← HPL.out, List.take_of_length_le (by rw [List.length_drop, bys_len]; omega)]
          rw [← e, splitL_none HINV.out.1]
        have HEND := hide hend
        clear hend
        go_wp2_with (at_builtin; go_must (refine wpList_app _ (by rfl) _ _ 30 (by rfl) 9 (.string ⟨#[]⟩) 1 16 Tryz.underlying30 (by kernel_rfl) rfl (by decide) w.heap.size _ O.length (sv14 O) (by rfl) hownX _ 1 (sv14 [pl]) (by rfl) hRd (sv14_one _) (by omega) (by decide) sX ?_))
        intro ad7 cap7 w7 hown7 hg7 hat7
        have HB7 := hide (hbX.grown hg7 sX (fun z hz => (hownX.lt z hz).1))
        have HO7 : Hid (w7.ownsRow w.heap.size 9 1 (.slice ad7 (O ++ [pl]).length cap7) (O ++ [pl]).length (sv14 (O ++ [pl]))) := by
          show World.ownsRow _ _ _ _ _ _ _
          rw [sv14_app]
          simpa using hown7
        clear hown7 hg7 hat7 hownX hRd hbX sX hX HO HB
        go_wp2_with fail
        go_roundw
        case rel => exact ⟨k + 1, k + 1, O ++ [pl], ad7, cap7, by go_num, by go_num, by simp, by simp; omega, by have := HEND.out; omega, by omega, .inr ⟨by have := HEND.out; omega, HF.out⟩, HO7, HB7⟩
        case measure => simp [intOf]; omega
      · have hendI : ((k : Int) == (s.size : Int)) = false := by simp; omega
        have hks : k < s.size := by omega
        have hksI : (k : Int) < s.size := by omega
        have hbk := bys_drop s k hks
        have hdf : (bys s).drop fr = pl ++ (bys s).drop k := by
          rw [← HPL.out]
          have h := List.take_append_drop (k - fr) ((bys s).drop fr)
          rw [List.drop_drop] at h
          have e : fr + (k - fr) = k := by omega
          rw [e] at h
          exact h.symm
        obtain ⟨b, hbe⟩ : ∃ b, (s[k].toNat : Int) = b := ⟨_, rfl⟩
        rw [hbe] at hbk
        have HBE := hide hbe
        rw [hbk] at hdf
        by_cases hb46 : b = 46
        · subst hb46
          have HF : Hid (A = (O ++ [pl]) ++ splitL ((bys s).drop (k + 1))) := by
            show A = _
            rw [HINV.out.2, hdf, splitL_app HINV.out.1]; simp
          clear hdf hbk
          go_wp2_with (at_builtin; go_must (refine wpList_app _ (by rfl) _ _ 30 (by rfl) 9 (.string ⟨#[]⟩) 1 16 Tryz.underlying30 (by kernel_rfl) rfl (by decide) w.heap.size _ O.length (sv14 O) (by rfl) hownX _ 1 (sv14 [pl]) (by rfl) hRd (sv14_one _) (by omega) (by decide) sX ?_))
          intro ad7 cap7 w7 hown7 hg7 hat7
          have HB7 := hide (hbX.grown hg7 sX (fun z hz => (hownX.lt z hz).1))
          have HO7 : Hid (w7.ownsRow w.heap.size 9 1 (.slice ad7 (O ++ [pl]).length cap7) (O ++ [pl]).length (sv14 (O ++ [pl]))) := by
            show World.ownsRow _ _ _ _ _ _ _
            rw [sv14_app]
            simpa using hown7
          clear hown7 hg7 hat7 hownX hRd hbX sX hX HO HB
          go_wp2_with fail
          go_roundw
          case rel => exact ⟨k + 1, k + 1, O ++ [pl], ad7, cap7, by go_num, by go_num, by simp, by simp; omega, by omega, by omega, .inl ⟨by omega, by simp, HF.out⟩, HO7, HB7⟩
          case measure => simp [intOf]; omega
        · have hbq : (b == 46) = false := by simpa using hb46
          have HN : Hid (∀ x ∈ ((bys s).drop fr).take (k + 1 - fr), x ≠ 46) := by
            show ∀ x ∈ _, _
            have e : k + 1 - fr = (k - fr) + 1 := by omega
            rw [e, List.take_add_one, HPL.out]
            intro x hx
            rcases List.mem_append.1 hx with h | h
            · exact HINV.out.1 x h
            · rw [List.getElem?_drop, show fr + (k - fr) = k by omega, byte_at hks] at h
              simp at h
              rw [h, HBE.out]; exact hb46
          have HE : Hid (A = O ++ splitL ((bys s).drop fr)) := HINV.out.2
          clear hdf hbk hownX hRd hbX sX hX hsl HINV
          go_wp2_with fail
          go_roundw
          case rel => exact ⟨k + 1, fr, O, a, p, by go_num, rfl, rfl, by omega, by omega, by omega, .inl ⟨by omega, HN.out, HE.out⟩, HO, HB⟩
          case measure => simp [intOf]; omega
    · have hltI : ¬ (k : Int) ≤ s.size := by omega
      have HF : Hid (O = A) := by
        rcases HI.out with ⟨h, _⟩ | ⟨_, h⟩
        · omega
        · exact h
      go_wp2_with fail
      go_ret
      have e := HF.out
      subst e
      exact ⟨_, rfl, HO.out, HB.out⟩
end Go.Proofs.YtfemmnhfllbgjaaGreatDoor
