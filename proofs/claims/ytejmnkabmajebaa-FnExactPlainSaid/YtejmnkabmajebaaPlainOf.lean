/- Plain and FieldOf, of the program and of the model, in plain words. -/
import Derived.Test.YtejmnkabmajebaaWeigh
import Derived.Test.YtejmnkabmajebaaTables
import Derived.Test.YtejmnkabmajebaaSpecTable
import Derived.Test.YtejmnkabmajebaaRowIs
import Derived.Test.YtejmnkabmajebaaClone

namespace Go.Proofs.Ytejmnkabmajebaa
open Go.RowKit
set_option maxRecDepth 100000
set_option linter.unusedSimpArgs false
set_option linter.unusedVariables false

theorem szL_mem {L : List Fd} : ∀ f ∈ L, szF f ≤ szL L := by
  induction L with
  | nil => intro f hf; cases hf
  | cons g L ih =>
    intro f hf
    have h1 := szF_pos g
    have h2 := szL_pos L
    simp only [szL]
    rcases List.mem_cons.1 hf with rfl | hf
    · omega
    · have := ih f hf; omega
/-- How many bytes the Names and Values have; -1: one of them is not right. -/
def plainV (L : List Fd) : Int := if L.all okF then szL L else -1
theorem plain_bad {L : List Fd} (k : Nat) (hk : k < L.length) (h : okF L[k] = false) : plainV L = -1 := by
  unfold plainV
  rw [if_neg]
  intro e
  have := List.all_eq_true.1 e _ (List.getElem_mem hk)
  rw [h] at this; cases this
theorem plain_good {L : List Fd} (h : ∀ f ∈ L, okF f = true) : plainV L = szL L := by unfold plainV; rw [if_pos (List.all_eq_true.2 h)]
theorem szF_ok {f : Fd} (h : okF f = true) : szF f ≤ 100 := by have := okF_parts h; unfold szF; omega
theorem szL_ok {L : List Fd} (h : ∀ f ∈ L, okF f = true) : szL L ≤ 100 * L.length := by
  induction L with
  | nil => simp [szL]
  | cons f L ih => have := szF_ok (h f (by simp)); have := ih fun g hg => h g (by simp [hg]); simp only [szL, List.length_cons]; omega

set_option maxHeartbeats 1000000 in
theorem implRights (L : List Fd) (v : Value) (w : World) (hr0 : Reads w v L.length 2 (fv L)) (hf : ∀ f ∈ L, f.fine) :
    Calls Try.prog 40 #[v] w fun x w' => x = .returned (.bool (L.all okF)) ∧ Below w.heap.size w w' := by
  obtain ⟨hl, ad, cap, rfl, h1, h2, h3⟩ := hr0
  have H3 := hide h3; have HF := hide hf
  clear h3 hf
  unfold maxLen at h2
  obtain ⟨R, hR⟩ : ∃ R, R = L.all okF := ⟨_, rfl⟩
  rw [← hR]
  have HR := hide hR
  clear hR
  go_enter Try.func40, Try.ntmps40
  go_wp2_with fail
  go_loopw [7] (fun i wr => ∃ (k : Nat), i = .int .i64 k ∧ k ≤ L.length ∧ (∀ f ∈ L.take k, okF f = true) ∧ Below w.heap.size w wr) (fun i _ => L.length - (intOf i).toNat)
  case atStart => exact ⟨0, rfl, Nat.zero_le _, by simp, Below.refl _ _⟩
  case round =>
    obtain ⟨k, rfl, hk, hall, hb⟩ := hrel
    by_cases hlt : k < L.length
    · obtain ⟨b, o, rfl, hbw, hc⟩ := H3.out (by omega)
      obtain ⟨s0, s1⟩ := fv_get L k hlt
      have hfk := HF.out _ (List.getElem_mem hlt)
      have HA := hide (all_take_succ L k hlt hall)
      have HB : Hid (okF L[k] = false → L.all okF = false) := fun h => by
        cases e : L.all okF
        · rfl
        · have := List.all_eq_true.1 e _ (List.getElem_mem hlt); rw [h] at this; cases this
      obtain ⟨f, hff⟩ : ∃ f, f = L[k] := ⟨_, rfl⟩
      rw [← hff] at s0 s1 hfk HA HB
      have c0 : wr.cell? ⟨b, o + k * 2, none⟩ = some (.string f.n) := by rw [hb.cell (p := ⟨b, o + k * 2, none⟩) hbw]; exact hc _ _ s0
      have c1 : wr.cell? ⟨b, o + k * 2 + 1, none⟩ = some (.string f.v) := by rw [hb.cell (p := ⟨b, o + k * 2 + 1, none⟩) hbw]; exact hc _ _ s1
      clear hc s0 s1 hff hall
      cases hok : okF f
      · have hRf := HR.out.trans (HB.out hok)
        subst hRf
        clear HB HR HA
        go_wp2_with fail
        refine (implRight f _ hfk).mono ?_; rw [hok]; rintro x w1 ⟨rfl, hb1⟩
        go_wp2_with fail
        go_ret
        exact ⟨rfl, bchain (bo_alloc hb _) hb1⟩
      · have HAA := hide (HA.out hok)
        clear HA HB
        go_wp2_with fail
        refine (implRight f _ hfk).mono ?_; rw [hok]; rintro x w1 ⟨rfl, hb1⟩
        go_wp2_with fail
        exact ⟨⟨k + 1, by go_num, by omega, HAA.out, bchain (bo_alloc hb _) hb1⟩, by simp [intOf]; omega⟩
    · obtain rfl : k = L.length := by omega
      rw [List.take_length] at hall
      have hRf := HR.out.trans (List.all_eq_true.2 hall)
      subst hRf
      clear HR hall
      go_wp2_with fail
      go_ret
      exact ⟨rfl, hb⟩
set_option maxHeartbeats 1000000 in
theorem implPlain (L : List Fd) (v : Value) (w : World) (hr0 : Reads w v L.length 2 (fv L)) (hf : ∀ f ∈ L, f.fine) (hL : L.length ≤ 1048576) :
    Calls Try.prog 19 #[v] w fun x w' => x = .returned (.int .i64 (plainV L)) ∧ Below w.heap.size w w' := by
  have HRD := hide hr0
  obtain ⟨hl, ad, cap, rfl, h1, h2, h3⟩ := hr0
  have H3 := hide h3
  clear h3
  unfold maxLen at h2
  cases hA : L.all okF
  · have hP : plainV L = -1 := by simp [plainV, hA]
    rw [hP]
    clear hP
    go_enter Try.func19, Try.ntmps19
    go_wp2_with fail
    refine (implRights L _ _ HRD.out hf).mono ?_; rw [hA]; rintro x w1 ⟨rfl, hb1⟩
    go_wp2_with fail
    go_ret
    exact ⟨rfl, hb1⟩
  · have hok : ∀ f ∈ L, okF f = true := List.all_eq_true.1 hA
    rw [plain_good hok]
    have HOK := hide hok
    clear hok
    go_enter Try.func19, Try.ntmps19
    go_wp2_with fail
    refine (implRights L _ _ HRD.out hf).mono ?_; rw [hA]; rintro x w1 ⟨rfl, hb1⟩
    go_wp2_with fail
    clear hA
    obtain ⟨V1, rfl⟩ : ∃ x : World, x = w1 := ⟨_, rfl⟩
    go_loopw [3, 11] (fun s i wr => ∃ (k : Nat), i = .int .i64 k ∧ s = .int .i64 (szL (L.take k)) ∧ k ≤ L.length ∧ Below w.heap.size w wr) (fun _ i _ => L.length - (intOf i).toNat)
    case atStart => exact ⟨0, rfl, by simp [szL], Nat.zero_le _, hb1⟩
    case round =>
      obtain ⟨k, rfl, rfl, hk, hb⟩ := hrel
      by_cases hlt : k < L.length
      · obtain ⟨b, o, rfl, hbw, hc⟩ := H3.out (by omega)
        obtain ⟨s0, s1⟩ := fv_get L k hlt
        have hfk := okF_parts (HOK.out _ (List.getElem_mem hlt))
        have hsu := szL_succ L k hlt
        have hp := szL_pos (L.take k)
        have hrg := szL_ok (L := L.take k) fun f hf => HOK.out f (List.mem_of_mem_take hf)
        rw [List.length_take, Nat.min_eq_left (by omega)] at hrg
        have hrg' : szL (L.take k) ≤ 104857600 := by omega
        clear hrg
        obtain ⟨f, hff⟩ : ∃ f, f = L[k] := ⟨_, rfl⟩
        rw [← hff] at s0 s1 hfk hsu
        have c0 : wr.cell? ⟨b, o + k * 2, none⟩ = some (.string f.n) := by rw [hb.cell (p := ⟨b, o + k * 2, none⟩) hbw]; exact hc _ _ s0
        have c1 : wr.cell? ⟨b, o + k * 2 + 1, none⟩ = some (.string f.v) := by rw [hb.cell (p := ⟨b, o + k * 2 + 1, none⟩) hbw]; exact hc _ _ s1
        clear hc s0 s1 hff
        have HU := hide hsu
        obtain ⟨g1, g2, g3⟩ := hfk
        generalize szL (L.take k) = A at *
        clear hsu
        go_wp2_with fail
        exact ⟨⟨k + 1, by go_num, int_eq (by rw [HU.out]; unfold szF; omega), by omega, bo_alloc hb _⟩, by simp [intOf]; omega⟩
      · obtain rfl : k = L.length := by omega
        rw [List.take_length]
        go_wp2_with fail
        go_ret
        exact ⟨rfl, hb⟩
set_option maxHeartbeats 1000000 in
theorem specPlain (L : List Fd) (v : Value) (w : World) (hr0 : Reads w v L.length 2 (fv L)) (hf : ∀ f ∈ L, f.fine) (hL : L.length ≤ 1048576) :
    Calls Try.prog 20 #[v] w fun x w' => x = .returned (.int .i64 (plainV L)) ∧ Below w.heap.size w w' := by
  obtain ⟨hl, ad, cap, rfl, h1, h2, h3⟩ := hr0
  have H3 := hide h3; have HF := hide hf
  clear h3 hf
  unfold maxLen at h2
  obtain ⟨R, hR⟩ : ∃ R, R = plainV L := ⟨_, rfl⟩
  rw [← hR]
  have HR := hide hR
  clear hR
  go_enter Try.func20, Try.ntmps20
  go_wp2_with fail
  go_loopw [3, 4] (fun s i wr => ∃ (k : Nat), i = .int .i64 k ∧ s = .int .i64 (szL (L.take k)) ∧ k ≤ L.length ∧ (∀ f ∈ L.take k, okF f = true) ∧ Below w.heap.size w wr) (fun _ i _ => L.length - (intOf i).toNat)
  case atStart => exact ⟨0, rfl, by simp [szL], Nat.zero_le _, by simp, Below.refl _ _⟩
  case round =>
    obtain ⟨k, rfl, rfl, hk, hall, hb⟩ := hrel
    by_cases hlt : k < L.length
    · obtain ⟨b, o, rfl, hbw, hc⟩ := H3.out (by omega)
      obtain ⟨s0, s1⟩ := fv_get L k hlt
      have hfk := HF.out _ (List.getElem_mem hlt)
      have HA := hide (all_take_succ L k hlt hall)
      have HB := hide (plain_bad k hlt)
      have HU := hide (szL_succ L k hlt)
      have hp := szL_pos (L.take k)
      have hrg := szL_ok hall
      rw [List.length_take, Nat.min_eq_left (by omega)] at hrg
      have hrg' : szL (L.take k) ≤ 104857600 := by omega
      obtain ⟨f, hff⟩ : ∃ f, f = L[k] := ⟨_, rfl⟩
      rw [← hff] at s0 s1 hfk HA HB HU
      have c0 : wr.cell? ⟨b, o + k * 2, none⟩ = some (.string f.n) := by rw [hb.cell (p := ⟨b, o + k * 2, none⟩) hbw]; exact hc _ _ s0
      have c1 : wr.cell? ⟨b, o + k * 2 + 1, none⟩ = some (.string f.v) := by rw [hb.cell (p := ⟨b, o + k * 2 + 1, none⟩) hbw]; exact hc _ _ s1
      have hbr : b < wr.heap.size := Nat.lt_of_lt_of_le hbw hb.size
      clear hc s0 s1 hff hall hrg
      generalize szL (L.take k) = A at *
      cases hok : okF f
      · have hRf := HR.out.trans (HB.out hok)
        subst hRf
        clear HB HR HA
        go_wp2_with fail
        refine (specField f _ hfk).mono ?_; rw [hok]; rintro x w1 ⟨rfl, hb1⟩
        go_wp2_with fail
        go_ret
        exact ⟨rfl, bchain hb hb1⟩
      · have HAA := hide (HA.out hok)
        have hok' := okF_parts hok
        obtain ⟨g1, g2, g3⟩ := hok'
        clear HA HB
        go_wp2_with fail
        refine (specField f _ hfk).mono ?_; rw [hok]; rintro x w1 ⟨rfl, hb1⟩
        have c0' := (hb1.cell (p := ⟨b, o + k * 2, none⟩) hbr).trans c0
        have c1' := (hb1.cell (p := ⟨b, o + k * 2 + 1, none⟩) hbr).trans c1
        clear c0 c1
        have HB1 := hide (bchain hb hb1)
        clear hb hb1
        go_wp2_with fail
        go_quiet (fail)
        go_wp2_with fail
        go_roundw
        case rel => exact ⟨k + 1, by go_num, int_eq (by rw [HU.out]; unfold szF; omega), by omega, HAA.out, bo_drewN _ HB1.out⟩
        case measure => simp [intOf]; omega
    · obtain rfl : k = L.length := by omega
      rw [List.take_length] at hall ⊢
      have hRf := HR.out.trans (plain_good hall)
      subst hRf
      clear HR hall
      go_wp2_with fail
      go_ret
      exact ⟨rfl, hb⟩
/-- The Value of the first Field with this Name. -/
def firstV (name : ByteArray) : List Fd → ByteArray × Bool
  | [] => (⟨#[]⟩, false)
  | f :: L => if (f.n.toList == name.toList) = true then (f.v, true) else firstV name L
theorem first_skip {name : ByteArray} {L : List Fd} (k : Nat) (h : ∀ f ∈ L.take k, (f.n.toList == name.toList) = false) : firstV name L = firstV name (L.drop k) := by
  induction k generalizing L with
  | zero => simp
  | succ k ih =>
    cases L with
    | nil => simp
    | cons f L =>
      rw [firstV, h f (by simp)]
      simp only [Bool.false_eq_true, if_false, List.drop_succ_cons]
      exact ih fun g hg => h g (by simp [hg])
theorem first_at {name : ByteArray} {L : List Fd} (k : Nat) (hk : k < L.length) (h : ∀ f ∈ L.take k, (f.n.toList == name.toList) = false) (hy : (L[k].n.toList == name.toList) = true) : firstV name L = (L[k].v, true) := by
  rw [first_skip k h, List.drop_eq_getElem_cons hk, firstV, if_pos hy]
theorem first_none {name : ByteArray} {L : List Fd} (h : ∀ f ∈ L, (f.n.toList == name.toList) = false) : firstV name L = (⟨#[]⟩, false) := by
  rw [first_skip L.length (by simpa using h)]; simp [firstV]
theorem no_take_succ {name : ByteArray} (L : List Fd) (k : Nat) (h : k < L.length) (ha : ∀ f ∈ L.take k, (f.n.toList == name.toList) = false) (hk : (L[k].n.toList == name.toList) = false) : ∀ f ∈ L.take (k + 1), (f.n.toList == name.toList) = false := by
  rw [List.take_succ_eq_append_getElem h]
  intro f hf
  rcases List.mem_append.1 hf with h | h
  · exact ha f h
  · simp only [List.mem_singleton] at h; rw [h]; exact hk

set_option maxHeartbeats 1000000 in
theorem implFieldOf (L : List Fd) (name : ByteArray) (v : Value) (w : World) (hr0 : Reads w v L.length 2 (fv L)) (hz : ∀ f ∈ L, f.v.size ≤ 281474976710656) :
    Calls Try.prog 16 #[v, .string name] w fun x w' => x = .returned (.tuple #[.string (firstV name L).1, .bool (firstV name L).2]) ∧ Below w.heap.size w w' := by
  obtain ⟨hl, ad, cap, rfl, h1, h2, h3⟩ := hr0
  have H3 := hide h3; have HZ := hide hz
  clear h3 hz
  unfold maxLen at h2
  obtain ⟨R, hR⟩ : ∃ R, R = firstV name L := ⟨_, rfl⟩
  rw [← hR]
  have HR := hide hR
  clear hR
  go_enter Try.func16, Try.ntmps16
  go_wp2_with fail
  go_loopw [10] (fun i wr => ∃ (k : Nat), i = .int .i64 k ∧ k ≤ L.length ∧ (∀ f ∈ L.take k, (f.n.toList == name.toList) = false) ∧ Below w.heap.size w wr) (fun i _ => L.length - (intOf i).toNat)
  case atStart => exact ⟨0, rfl, Nat.zero_le _, by simp, Below.refl _ _⟩
  case round =>
    obtain ⟨k, rfl, hk, hall, hb⟩ := hrel
    by_cases hlt : k < L.length
    · obtain ⟨b, o, rfl, hbw, hc⟩ := H3.out (by omega)
      obtain ⟨s0, s1⟩ := fv_get L k hlt
      have hzk := HZ.out _ (List.getElem_mem hlt)
      have HA := hide (no_take_succ L k hlt hall)
      have HB := hide (first_at k hlt hall)
      obtain ⟨f, hff⟩ : ∃ f, f = L[k] := ⟨_, rfl⟩
      rw [← hff] at s0 s1 hzk HA HB
      have c0 : wr.cell? ⟨b, o + k * 2, none⟩ = some (.string f.n) := by rw [hb.cell (p := ⟨b, o + k * 2, none⟩) hbw]; exact hc _ _ s0
      have c1 : wr.cell? ⟨b, o + k * 2 + 1, none⟩ = some (.string f.v) := by rw [hb.cell (p := ⟨b, o + k * 2 + 1, none⟩) hbw]; exact hc _ _ s1
      clear hc s0 s1 hff hall
      cases hok : (f.n.toList == name.toList)
      · have HAA := hide (HA.out hok)
        clear HA HB
        go_wp2_with fail
        exact ⟨⟨k + 1, by go_num, by omega, HAA.out, bo_alloc hb _⟩, by simp [intOf]; omega⟩
      · have hRf := HR.out.trans (HB.out hok)
        subst hRf
        clear HB HR HA
        go_wp2_with fail
        refine (clone f.v _ hzk).mono ?_; rintro x w1 ⟨rfl, hb1⟩
        go_wp2_with fail
        go_ret2
        exact ⟨rfl, bchain (bo_alloc hb _) hb1⟩
    · obtain rfl : k = L.length := by omega
      rw [List.take_length] at hall
      have hRf := HR.out.trans (first_none hall)
      subst hRf
      clear HR hall
      go_wp2_with fail
      go_ret2
      exact ⟨rfl, hb⟩
set_option maxHeartbeats 1000000 in
theorem specFieldOf (L : List Fd) (name : ByteArray) (v : Value) (w : World) (hr0 : Reads w v L.length 2 (fv L)) :
    Calls Try.prog 23 #[v, .string name] w fun x w' => x = .returned (.tuple #[.string (firstV name L).1, .bool (firstV name L).2]) ∧ Below w.heap.size w w' := by
  obtain ⟨hl, ad, cap, rfl, h1, h2, h3⟩ := hr0
  have H3 := hide h3
  clear h3
  unfold maxLen at h2
  obtain ⟨R, hR⟩ : ∃ R, R = firstV name L := ⟨_, rfl⟩
  rw [← hR]
  have HR := hide hR
  clear hR
  go_enter Try.func23, Try.ntmps23
  go_wp2_with fail
  go_loopw [6] (fun i wr => ∃ (k : Nat), i = .int .i64 k ∧ k ≤ L.length ∧ (∀ f ∈ L.take k, (f.n.toList == name.toList) = false) ∧ Below w.heap.size w wr) (fun i _ => L.length - (intOf i).toNat)
  case atStart => exact ⟨0, rfl, Nat.zero_le _, by simp, Below.refl _ _⟩
  case round =>
    obtain ⟨k, rfl, hk, hall, hb⟩ := hrel
    by_cases hlt : k < L.length
    · obtain ⟨b, o, rfl, hbw, hc⟩ := H3.out (by omega)
      obtain ⟨s0, s1⟩ := fv_get L k hlt
      have HA := hide (no_take_succ L k hlt hall)
      have HB := hide (first_at k hlt hall)
      obtain ⟨f, hff⟩ : ∃ f, f = L[k] := ⟨_, rfl⟩
      rw [← hff] at s0 s1 HA HB
      have c0 : wr.cell? ⟨b, o + k * 2, none⟩ = some (.string f.n) := by rw [hb.cell (p := ⟨b, o + k * 2, none⟩) hbw]; exact hc _ _ s0
      have c1 : wr.cell? ⟨b, o + k * 2 + 1, none⟩ = some (.string f.v) := by rw [hb.cell (p := ⟨b, o + k * 2 + 1, none⟩) hbw]; exact hc _ _ s1
      clear hc s0 s1 hff hall
      cases hok : (f.n.toList == name.toList)
      · have HAA := hide (HA.out hok)
        clear HA HB
        go_wp2_with fail
        exact ⟨⟨k + 1, by go_num, by omega, HAA.out, hb⟩, by simp [intOf]; omega⟩
      · have hRf := HR.out.trans (HB.out hok)
        subst hRf
        clear HB HR HA
        go_wp2_with fail
        go_ret2
        exact ⟨rfl, hb⟩
    · obtain rfl : k = L.length := by omega
      rw [List.take_length] at hall
      have hRf := HR.out.trans (first_none hall)
      subst hRf
      clear HR hall
      go_wp2_with fail
      go_ret2
      exact ⟨rfl, hb⟩
open Go.ChangeShapes Go.WideShapes Go.ChangeAt Go.Joins in
theorem open_FieldS {H : Type} {enc : TypeId × Value → H} {W : World} {base : Nat} {v : Value} {d : DataW H} {p : List MemPlace} (hv : Value.okWide Try.prog W .any base 47 v)
    (h : DataW.Trod enc Try.prog W 0 (fun _ => true) true 47 v d p) : ∃ L : List Fd, Reads W v L.length 2 (fv L) ∧ ∀ f ∈ L, f.fine := by
  obtain ⟨sa, sl, sc, rfl⟩ := okWide_slice Try.underlying47 hv
  obtain ⟨n1, hn1⟩ := h
  exact open_rows (α := Fd) ⟨⟨#[]⟩, ⟨#[]⟩⟩ Fd.cs 2 fcs_len Fd.fine Try.underlying47 (by kernel_rfl) (by decide) (fun cs n y hy => open_fcells hy) (v := .slice sa sl sc) (by simpa [Value.cells] using hn1)
end Go.Proofs.Ytejmnkabmajebaa
