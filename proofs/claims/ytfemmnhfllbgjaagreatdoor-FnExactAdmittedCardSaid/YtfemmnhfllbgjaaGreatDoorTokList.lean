/- Chapter 14's model: whether a place is listed. -/
import Derived.Test.YtfemmnhfllbgjaaGreatDoorTokSpec1
import Derived.Deep.QuietTactic
import Derived.BigQuiet

namespace Go.Proofs.YtfemmnhfllbgjaaGreatDoor
open Go.RowKit
set_option maxRecDepth 100000
set_option linter.unusedSimpArgs false
set_option linter.unusedVariables false
/-- Does the text x let the target t by? -/
def hitB (t x : ByteArray) : Bool := decide (x = t) || (decide (1 ≤ x.size) && decide ((bys x).head? = some 42) && decide (x.size - 1 ≤ t.size) && decide (t.extract (t.size - (x.size - 1)) t.size = x.extract 1 x.size))
def listV (L : List ByteArray) (t : ByteArray) : Bool := if L.length ≤ 20 ∧ 1 ≤ t.size ∧ t.size ≤ 60 ∧ ∀ x ∈ L, x.size ≤ 60 then L.any (hitB t) else false
theorem list_no {L : List ByteArray} {t : ByteArray} (h : ¬ (L.length ≤ 20 ∧ 1 ≤ t.size ∧ t.size ≤ 60 ∧ ∀ x ∈ L, x.size ≤ 60)) : listV L t = false := by unfold listV; rw [if_neg h]
theorem any_take {L : List ByteArray} {t : ByteArray} {k : Nat} (h : k < L.length) : (L.take (k + 1)).any (hitB t) = ((L.take k).any (hitB t) || hitB t L[k]) := by
  rw [List.take_add_one, List.getElem?_eq_getElem h, List.any_append]; simp
set_option maxRecDepth 100000 in
set_option maxHeartbeats 4000000 in
theorem specListed (L : List ByteArray) (t : ByteArray) (v : Value) (w : World) (hr : Reads w v L.length 1 (L.map Value.string)) (hLs : ∀ x ∈ L, x.size ≤ maxLen) (ht : t.size ≤ maxLen) : Calls Tryz.prog 40 #[v, .string t] w fun x w' => x = .returned (.bool (listV L t)) ∧ Below w.heap.size w w' := by
  obtain ⟨hl, ad, cap, rfl, hcap, hcm, hc⟩ := hr
  unfold maxLen at ht hcm
  have HC := hide hc; have HLS := hide hLs
  clear hc hLs hl
  obtain ⟨A, hA⟩ : ∃ A, listV L t = A := ⟨_, rfl⟩
  rw [hA]
  have HA := hide hA
  clear hA
  have hin := fun w => specIn (t.size : Int) 1 60 w
  by_cases h20 : (20 : Int) < L.length
  · have HF : Hid (A = false) := by show A = false; rw [← HA.out]; exact list_no (by omega)
    go_enter Tryz.func40, Tryz.ntmps40
    go_wp2_with fail
    go_ret
    exact ⟨by rw [HF.out]; rfl, (by repeat' (first | (with_reducible exact Below.refl _ _) | (with_reducible refine Below.drew ?_) | (with_reducible refine bo_drewN _ ?_) | (with_reducible refine bo_alloc ?_ _) | (refine bchain ?_ (by with_reducible assumption)) | (with_reducible refine Below.setCell ?_ ?_ _) | go_size))⟩
  cases h60 : inB (t.size : Int) 1 60
  · rw [h60] at hin
    have HF : Hid (A = false) := by show A = false; rw [← HA.out]; exact list_no (fun c => inB_false h60 (by omega))
    go_enter Tryz.func40, Tryz.ntmps40
    go_wp2_with fail
    refine (hin _).mono ?_; rintro e w1 ⟨rfl, hsame⟩; obtain rfl := hsame.symm; clear hsame
    go_wp2_with fail
    go_ret
    exact ⟨by rw [HF.out]; rfl, (by repeat' (first | (with_reducible exact Below.refl _ _) | (with_reducible refine Below.drew ?_) | (with_reducible refine bo_drewN _ ?_) | (with_reducible refine bo_alloc ?_ _) | (refine bchain ?_ (by with_reducible assumption)) | (with_reducible refine Below.setCell ?_ ?_ _) | go_size))⟩
  rw [h60] at hin
  obtain ⟨t1, t60⟩ := inB_true h60
  clear h60
  go_enter Tryz.func40, Tryz.ntmps40
  go_wp2_with fail
  refine (hin _).mono ?_; rintro e w1 ⟨rfl, hsame⟩; obtain rfl := hsame.symm; clear hsame
  clear hin
  go_wp2_with fail
  go_loopw [5, 6] (fun f i wr => ∃ k : Nat, i = .int .i64 k ∧ k ≤ L.length ∧ f = .bool ((L.take k).any (hitB t)) ∧ Hid (∀ x ∈ L.take k, x.size ≤ 60) ∧ Hid (Below w.heap.size w wr)) (fun _ i _ => L.length - (intOf i).toNat)
  case atStart => exact ⟨0, rfl, by omega, by simp, by show ∀ x ∈ L.take 0, _; simp, Below.refl _ _⟩
  case round =>
    obtain ⟨k, rfl, hk, rfl, HS, HB⟩ := hrel
    by_cases hlt : k < L.length
    · have hltI : (k : Int) < L.length := by omega
      obtain ⟨b, o, rfl, hbw, hcc⟩ := HC.out (by omega)
      obtain ⟨x, hx⟩ : ∃ x, L[k] = x := ⟨_, rfl⟩
      have hcx := hcc k (.string x) (by rw [List.getElem?_map, List.getElem?_eq_getElem hlt, hx]; rfl)
      have cx : wr.cell? ⟨b, o + k, none⟩ = some (.string x) := (HB.out.cell (p := ⟨b, o + k, none⟩) hbw).trans hcx
      have hbr : b < wr.heap.size := Nat.lt_of_lt_of_le hbw HB.out.size
      have hxm : x.size ≤ 9223372036854775807 := by have := HLS.out x (by rw [← hx]; exact List.getElem_mem hlt); unfold maxLen at this; exact this
      have hat := any_take (t := t) hlt
      rw [hx] at hat
      clear hcc hcx
      by_cases hx60 : (60 : Int) < x.size
      · have HF : Hid (A = false) := by show A = false; rw [← HA.out]; exact list_no (fun c => by have := c.2.2.2 x (by rw [← hx]; exact List.getElem_mem hlt); omega)
        clear hat hx
        go_wp2_with fail
        go_ret
        exact ⟨by rw [HF.out]; rfl, HB.out⟩
      have HS2 : Hid (∀ y ∈ L.take (k + 1), y.size ≤ 60) := by
        show ∀ y ∈ _, _
        intro y hy
        rw [List.take_add_one, List.getElem?_eq_getElem hlt, hx] at hy
        rcases List.mem_append.1 hy with h | h
        · exact HS.out y h
        · simp at h; subst h; omega
      have HAT := hide hat
      clear hat hx
      obtain ⟨f, hf⟩ : ∃ f, (L.take k).any (hitB t) = f := ⟨_, rfl⟩
      rw [hf] at HAT ⊢
      clear hf
      have ew : IntKind.i64.wrap ((x.size : Int) - 1) = (x.size : Int) - 1 := by rw [IntKind.wrap_i64]; omega
      cases f
      rotate_left
      · have HR : Hid ((L.take (k + 1)).any (hitB t) = true) := by show _ = true; rw [HAT.out]; rfl
        clear HAT
        go_upto_region 11 with fail
        go_quiet (fail)
        go_wp2_with fail
        go_roundw
        case rel => exact ⟨k + 1, by go_num, by omega, by first | (rw [HR.out]) | (simp [HR.out]), HS2, hide (bo_drewN _ HB.out)⟩
        case measure => simp [intOf]; omega
      have HH : Hid ((L.take (k + 1)).any (hitB t) = hitB t x) := by show _ = _; rw [HAT.out]; rfl
      clear HAT
      by_cases hxt : x = t
      · subst hxt
        have HR : Hid ((L.take (k + 1)).any (hitB x) = true) := by show _ = true; rw [HH.out]; unfold hitB; simp
        clear HH
        go_upto_region 11 with fail
        go_quiet (fail)
        go_wp2_with fail
        go_roundw
        case rel => exact ⟨k + 1, by go_num, by omega, by first | (rw [HR.out]) | (simp [HR.out]), HS2, hide (bo_drewN _ HB.out)⟩
        case measure => simp [intOf]; omega
      have hne := tl_ne hxt
      by_cases hx0 : x.size = 0
      · have HR : Hid ((L.take (k + 1)).any (hitB t) = false) := by show _ = false; rw [HH.out]; unfold hitB; simp [hxt, hx0]
        have hd1 : decide ((1 : Int) ≤ (x.size : Int)) = false := decide_eq_false (by omega)
        clear HH hx0 hxt
        go_upto_region 11 with fail
        go_quiet (fail)
        go_wp2_with fail
        go_roundw
        case rel => exact ⟨k + 1, by go_num, by omega, by first | (rw [HR.out]) | (simp [HR.out]), HS2, hide (bo_drewN _ HB.out)⟩
        case measure => simp [intOf]; omega
      have hx1 : 0 < x.size := by omega
      have hx1I : (0 : Int) < x.size := by omega
      have hd0 : (1 : Int) ≤ (x.size : Int) := by omega
      have hbx : (bys x).head? = some (x[0].toNat : Int) := by rw [bys_cons hx1]; rfl
      obtain ⟨c, hce⟩ : ∃ c, (x[0].toNat : Int) = c := ⟨_, rfl⟩
      rw [hce] at hbx
      have HCE := hide hce
      by_cases h42 : c = 42
      rotate_left
      · have HR : Hid ((L.take (k + 1)).any (hitB t) = false) := by show _ = false; rw [HH.out]; unfold hitB; rw [hbx]; simp [hxt, h42]
        have hc2 : (c == 42) = false := by simpa using h42
        clear HH hxt hbx h42 hx0
        go_upto_region 11 with fail
        go_quiet (fail)
        go_wp2_with fail
        go_roundw
        case rel => exact ⟨k + 1, by go_num, by omega, by first | (rw [HR.out]) | (simp [HR.out]), HS2, hide (bo_drewN _ HB.out)⟩
        case measure => simp [intOf]; omega
      subst h42
      by_cases hnt : (x.size : Int) - 1 ≤ t.size
      rotate_left
      · have HR : Hid ((L.take (k + 1)).any (hitB t) = false) := by show _ = false; rw [HH.out]; unfold hitB; rw [decide_eq_false (show ¬ x.size - 1 ≤ t.size by omega)]; simp [hxt]
        have hd2 : decide ((x.size : Int) ≤ (t.size : Int) + 1) = false := decide_eq_false (by omega)
        have hd3 : decide ((x.size : Int) - 1 ≤ (t.size : Int)) = false := decide_eq_false (by omega)
        clear HH hxt hbx hx0
        go_upto_region 11 with fail
        go_quiet (fail)
        go_wp2_with fail
        go_roundw
        case rel => exact ⟨k + 1, by go_num, by omega, by first | (rw [HR.out]) | (simp [HR.out]), HS2, hide (bo_drewN _ HB.out)⟩
        case measure => simp [intOf]; omega
      obtain ⟨m, hm⟩ : ∃ m : Int, (t.size : Int) - ((x.size : Int) - 1) = m := ⟨_, rfl⟩
      have hm0 : 0 ≤ m ∧ m ≤ t.size := by omega
      have hmn : m.toNat = t.size - (x.size - 1) := by omega
      have ewm : IntKind.i64.wrap ((t.size : Int) - ((x.size : Int) - 1)) = m := by rw [hm, IntKind.wrap_i64]; omega
      obtain ⟨T, hT⟩ : ∃ T, t.extract m.toNat t.size = T := ⟨_, rfl⟩
      have hsl1 : ∀ w : World, (Instr.slice 9 (.string t) (some (.int .i64 m)) none none).run Tryz.prog w = .ok (.string T) w := fun w => by
        rw [run_slice_string_from_if (P := Tryz.prog) w 9 t .i64 m Tryz.underlying9, if_pos hm0, hT]
      obtain ⟨X1, hX1⟩ : ∃ X, x.extract 1 x.size = X := ⟨_, rfl⟩
      have hsl2 : ∀ w : World, (Instr.slice 9 (.string x) (some (.int .i64 1)) none none).run Tryz.prog w = .ok (.string X1) w := fun w => by
        rw [run_slice_string_from_if (P := Tryz.prog) w 9 x .i64 1 Tryz.underlying9, if_pos ⟨by decide, by omega⟩, ← hX1]; rfl
      have hh : hitB t x = decide (T = X1) := by
        unfold hitB
        rw [hbx, ← hT, ← hX1, hmn, decide_eq_true (show x.size - 1 ≤ t.size by omega), decide_eq_true (show 1 ≤ x.size by omega), decide_eq_false hxt]; simp
      have hd2 : (x.size : Int) ≤ (t.size : Int) + 1 := by omega
      clear hbx hm hmn hT hX1 hxt hx0
      by_cases he : T = X1
      · subst he
        have HR : Hid ((L.take (k + 1)).any (hitB t) = true) := by show _ = true; rw [HH.out, hh]; simp
        clear HH hh
        go_upto_region 11 with fail
        go_quiet (fail)
        go_wp2_with fail
        go_roundw
        case rel => exact ⟨k + 1, by go_num, by omega, by first | (rw [HR.out]) | (simp [HR.out]), HS2, hide (bo_drewN _ HB.out)⟩
        case measure => simp [intOf]; omega
      · have HR : Hid ((L.take (k + 1)).any (hitB t) = false) := by show _ = false; rw [HH.out, hh]; simp [he]
        have hte := tl_ne he
        clear HH hh
        go_upto_region 11 with fail
        go_quiet (fail)
        go_wp2_with fail
        go_roundw
        case rel => exact ⟨k + 1, by go_num, by omega, by first | (rw [HR.out]) | (simp [HR.out]), HS2, hide (bo_drewN _ HB.out)⟩
        case measure => simp [intOf]; omega
    · obtain rfl : k = L.length := by omega
      have hltI : ¬ ((L.length : Nat) : Int) < L.length := by omega
      have HF : Hid (A = (L.take L.length).any (hitB t)) := by
        show A = _
        rw [← HA.out, List.take_of_length_le (Nat.le_refl _)]
        unfold listV
        have hs := HS.out
        rw [List.take_of_length_le (Nat.le_refl _)] at hs
        rw [if_pos ⟨by omega, by omega, by omega, hs⟩]
      obtain ⟨q, hq⟩ : ∃ q, (L.take L.length).any (hitB t) = q := ⟨_, rfl⟩
      rw [hq] at HF ⊢
      clear hq
      go_wp2_with fail
      go_ret
      exact ⟨by rw [HF.out]; rfl, HB.out⟩
end Go.Proofs.YtfemmnhfllbgjaaGreatDoor
