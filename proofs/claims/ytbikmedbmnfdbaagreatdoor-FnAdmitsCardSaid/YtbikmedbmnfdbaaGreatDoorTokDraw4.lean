/- What the laws of lists draw: lists of places. -/
import Derived.Test.YtbikmedbmnfdbaaGreatDoorTokDraw3


namespace Go.Proofs.YtbikmedbmnfdbaaGreatDoor
open Go.RowKit
set_option maxRecDepth 100000
set_option linter.unusedSimpArgs false
set_option linter.unusedVariables false
theorem sv_one (L : List ByteArray) : ∀ u ∈ L.map Value.string, u.oneCell' = true := by
  intro u hu
  obtain ⟨z, _, rfl⟩ := List.mem_map.1 hu
  rfl
/-- A drawn list: a row of its own, apart from the cursor. -/
structure LsAt (u : World) (base g : Nat) (v : Value) (L : List ByteArray) : Prop where
  own : u.ownsRow base 9 1 v L.length (L.map Value.string)
  lt : g < base
  small : ∀ x ∈ L, x.size ≤ 61
theorem LsAt.new {u u' : World} {base g : Nat} {v : Value} {L : List ByteArray} (h : LsAt u base g v L) (hb : Below u.heap.size u u') : LsAt u' base g v L := ⟨owns_new h.own hb, h.lt, h.small⟩
theorem LsAt.moves {u u' : World} {base g : Nat} {v : Value} {L : List ByteArray} (h : LsAt u base g v L) (hm : Moves g u u') : LsAt u' base g v L := ⟨owns_moves h.own hm h.lt, h.lt, h.small⟩
theorem LsAt.owx {u : World} {base g : Nat} {v : Value} {L : List ByteArray} (h : LsAt u base g v L) : OwX strS u base u.heap.size v L := strs_ow h.own (fun x hx => by have := h.small x hx; omega)
theorem moves_grown {g : Nat} {w X Y : World} {row : Option Nat} (h : Moves g w X) (hg : X.grownBy Y row) (hr : ∀ k, row = some k → w.heap.size ≤ k) : Moves g w Y :=
  ⟨hg.os.trans h.os, hg.tape.trans h.tape, hg.output.trans h.output, Nat.le_trans h.size hg.size, fun k hk hne => (hg.block k (Nat.lt_of_lt_of_le hk h.size) (fun e => by have := hr k e.symm; omega)).trans (h.block k hk hne)⟩
theorem cur_grown {g B : Nat} {X Y : World} {row : Option Nat} (h : Cur X g B) (hg : X.grownBy Y row) (hr : ∀ k, row = some k → g < k) : Cur Y g B :=
  h.kept ⟨hg.os, hg.tape, hg.output, hg.size, fun k hk => hg.block k (by have := h.lt; omega) (fun e => by have := hr k e.symm; omega)⟩
set_option maxRecDepth 100000 in
set_option maxHeartbeats 4000000 in
theorem drawList14 (g B : Nat) (w : World) (hc : Cur w g B) :
    Calls Tryz.prog 59 #[.pointer (some ⟨g, 0, none⟩)] w fun e w' => ∃ (v : Value) (L : List ByteArray), e = .returned v ∧ LsAt w' w.heap.size g v L ∧ L.length ≤ 21 ∧ Cur w' g B ∧ Moves g w w' := by
  have hgw := hc.lt
  go_enter Tryz.func59, Tryz.ntmps59
  go_wp2_with fail
  have hX : Below w.heap.size w (w.alloc (.cells #[] 9)) := (Below.refl _ _).alloc (Nat.le_refl _) _
  have HL0 : Hid (LsAt (w.alloc (.cells #[] 9)) w.heap.size g (.slice (some ⟨w.heap.size, 0, none⟩) 0 0) []) := ⟨owns_lit w 9 1 0 #[] rfl (by omega), hgw, by simp⟩
  have HC0 := hide (hc.below hX)
  have HM0 : Hid (Moves g w (w.alloc (.cells #[] 9))) := Moves.of_below hX
  clear hX hc
  generalize w.alloc (.cells #[] 9) = W at *
  refine (below1 g B 4 _ HC0.out (by omega)).mono ?_; rintro e w1 ⟨n0, h0, h1, _, rfl, hc1, hm1⟩
  have h4 := h1 (by omega)
  obtain ⟨n, rfl⟩ : ∃ n : Nat, n0 = n := ⟨n0.toNat, by omega⟩
  have HL1 := hide (HL0.out.moves hm1)
  have HC1 := hide hc1
  have HM1 := hide (HM0.out.trans hm1)
  clear h1 hc1 hm1 HL0 HC0 HM0
  go_wp2_with fail
  go_loopw [3, 4] (fun s n wr => ∃ (k : Nat) (L : List ByteArray) (a : Option Addr) (p : Nat), n = .int .i64 (k : Int) ∧ s = .slice a L.length p ∧ k + L.length ≤ 3 ∧ Hid (LsAt wr w.heap.size g (.slice a L.length p) L) ∧ Hid (Cur wr g B) ∧ Hid (Moves g w wr)) (fun _ n _ => (intOf n).toNat)
  case atStart => exact ⟨n, [], _, _, rfl, rfl, by simp; omega, HL1, HC1, HM1⟩
  case round =>
    clear HL1 HC1 HM1
    obtain ⟨k, L, a, p, rfl, rfl, hkL, HL, HC, HM⟩ := hrel
    by_cases hk : 0 < k
    · have hkI : (0 : Int) < k := by omega
      have hgr := HC.out.lt
      have hsr := HM.out.size
      obtain ⟨VA, hVA⟩ : ∃ V, wr.alloc (.cells #[.string ⟨#[97, 46, 120]⟩, .string ⟨#[42, 46, 121]⟩, .string ⟨#[98, 46, 121]⟩, .string ⟨#[42]⟩, .string ⟨#[]⟩] 9) = V := ⟨_, rfl⟩
      have RA : RowIs VA wr.heap.size 9 [.string ⟨#[97, 46, 120]⟩, .string ⟨#[42, 46, 121]⟩, .string ⟨#[98, 46, 121]⟩, .string ⟨#[42]⟩, .string ⟨#[]⟩] := by rw [← hVA]; exact rowIs_new wr _ _
      have hbA : Below wr.heap.size wr VA := by rw [← hVA]; exact (Below.refl _ _).alloc (Nat.le_refl _) _
      go_wp2_with fail
      (try rw [hVA])
      clear hVA
      refine (below1 g B 5 _ (HC.out.below hbA) (by omega)).mono ?_; rintro e w2 ⟨q, q0, q1, _, rfl, hc2, hm2⟩
      have q6 := q1 (by omega)
      replace RA := RA.moves hm2 (by omega)
      obtain ⟨qn, rfl⟩ : ∃ n : Nat, q = n := ⟨q.toNat, by omega⟩
      obtain ⟨z, hz0, hz⟩ : ∃ z : ByteArray, z.size ≤ 61 ∧ w2.cell? ⟨wr.heap.size, qn, none⟩ = some (.string z) := by
        have : qn = 0 ∨ qn = 1 ∨ qn = 2 ∨ qn = 3 ∨ qn = 4 := by omega
        rcases this with rfl | rfl | rfl | rfl | rfl <;> exact ⟨_, by decide, RA.cell rfl⟩
      have hlA := RA.lt
      have HL2 := hide ((HL.out.new hbA).moves hm2)
      have HM2 := hide ((HM.out.trans (Moves.of_below hbA)).trans hm2)
      have hX : Below w2.heap.size w2 (w2.alloc (.cells #[.string z] 9)) := (Below.refl _ _).alloc (Nat.le_refl _) _
      have HOX := hide (owns_new HL2.out.own hX)
      have HRX : Hid (Reads (w2.alloc (.cells #[.string z] 9)) (.slice (some ⟨w2.heap.size, 0, none⟩) 1 1) 1 1 [.string z]) := reads_of_owns (owns_lit w2 9 1 1 #[.string z] rfl (by omega))
      have hsX : w.heap.size ≤ (w2.alloc (.cells #[.string z] 9)).heap.size := by have := HM2.out.size; simp; omega
      have HC2 := hide (hc2.below hX)
      have HMX := hide (HM2.out.trans (Moves.of_below hX))
      have HSM : Hid (∀ y ∈ L ++ [z], y.size ≤ 61) := fun y hy => by
        rcases List.mem_append.1 hy with h | h
        · exact HL.out.small y h
        · simp at h; subst h; exact hz0
      clear q1 RA hbA hm2 HL HC HM HL2 HM2 hX hc2
      go_wp2_with (at_builtin; go_must (refine wpList_app _ (by rfl) _ _ 30 (by rfl) 9 (.string ⟨#[]⟩) 1 16 Tryz.underlying30 (by kernel_rfl) rfl (by decide) w.heap.size _ L.length (L.map Value.string) (by rfl) HOX.out _ 1 [.string z] (by rfl) HRX.out (sv_one [z]) (by omega) (by decide) hsX ?_))
      intro ad7 cp7 w7 hown7 hg7 hat7
      have HM7 := hide (moves_grown HMX.out hg7 (fun k hk => (HOX.out.lt k hk).1))
      have HC7 := hide (cur_grown HC2.out hg7 (fun k hk => by have := (HOX.out.lt k hk).1; omega))
      have HL7 : Hid (LsAt w7 w.heap.size g (.slice ad7 (L ++ [z]).length cp7) (L ++ [z])) := ⟨by rw [List.map_append, List.length_append]; exact hown7, hgw, HSM.out⟩
      clear hown7 hg7 hat7 HMX HC2 HOX HRX hsX hz hlA hsr hgr
      go_wp2_with fail
      go_roundw
      case rel => exact ⟨k - 1, L ++ [z], ad7, cp7, int_eq (by omega), by rw [List.length_append]; rfl, by simp; omega, HL7, HC7, HM7⟩
      case measure => simp [intOf]; omega
    · have hkI : ¬ (0 : Int) < k := by omega
      go_wp2_with fail
      refine (once1 g B 20 _ HC.out (by omega)).mono ?_; rintro e w3 ⟨b, rfl, hc3, hm3⟩
      have HL3 := hide (HL.out.moves hm3)
      have HM3 := hide (HM.out.trans hm3)
      have HC3 := hide hc3
      clear HL HC HM hc3 hm3
      cases b
      · go_wp2_with fail
        go_ret
        exact ⟨_, L, rfl, HL3.out, by omega, HC3.out, HM3.out⟩
      go_wp2_with fail
      refine (below1 g B 2 _ HC3.out (by omega)).mono ?_; rintro e w4 ⟨m, m0, m1, _, rfl, hc4, hm4⟩
      have m2 := m1 (by omega)
      have HL4 := hide (HL3.out.moves hm4)
      have HM4 := hide (HM3.out.trans hm4)
      have HC4 := hide hc4
      clear HL3 HC3 HM3 hc4 hm4 m1
      have hm01 : m = 0 ∨ m = 1 := by omega
      rcases hm01 with rfl | rfl
      · go_wp2_with fail
        refine (below1 g B 2 _ HC4.out (by omega)).mono ?_; rintro e w5 ⟨q, q0, q1, _, rfl, hc5, hm5⟩
        have q2 := q1 (by omega)
        obtain ⟨qn, rfl⟩ : ∃ n : Nat, q = n := ⟨q.toNat, by omega⟩
        obtain ⟨M, hMs, hML, hmk⟩ := make_strs (20 + qn) (by omega)
        have hmk' : ∀ X : World, (Instr.makeSlice 30 (.int .i64 (20 + (qn : Int))) (.int .i64 (20 + (qn : Int)))).run Tryz.prog X = .ok (.slice (some ⟨X.heap.size, 0, none⟩) (20 + qn) (20 + qn)) (X.alloc (.cells M 9)) := fun X => by have := hmk X; rw [show ((20 + qn : Nat) : Int) = 20 + (qn : Int) by omega] at this; exact this
        have hX : Below w5.heap.size w5 (w5.alloc (.cells M 9)) := (Below.refl _ _).alloc (Nat.le_refl _) _
        have HMX := hide ((HM4.out.trans hm5).trans (Moves.of_below hX))
        have HCX := hide (hc5.below hX)
        have hs5 := (HM4.out.trans hm5).size
        have HLX : Hid (LsAt (w5.alloc (.cells M 9)) w.heap.size g (.slice (some ⟨w5.heap.size, 0, none⟩) (20 + qn) (20 + qn)) (List.replicate (20 + qn) ⟨#[]⟩)) := by
          have h9 := owns_lit w5 9 1 (20 + qn) M (by omega) (by omega)
          rw [hML] at h9
          exact ⟨by rw [List.length_replicate, List.map_replicate]; exact owns_base h9 (fun k hk => by have := (h9.lt k hk).1; omega), hgw, fun x hx => by rw [List.eq_of_mem_replicate hx]; decide⟩
        have HLL : Hid ((List.replicate (20 + qn) (⟨#[]⟩ : ByteArray)).length ≤ 21) := by show _ ≤ 21; rw [List.length_replicate]; omega
        clear hmk hML hMs hc5 hm5 HL4 HC4 HM4 hX q1
        go_wp2_with fail
        go_ret
        exact ⟨_, _, rfl, HLX.out, HLL.out, HCX.out, HMX.out⟩
      · go_wp2_with fail
        refine (below1 g B 2 _ HC4.out (by omega)).mono ?_; rintro e w5 ⟨q, q0, q1, _, rfl, hc5, hm5⟩
        have q2 := q1 (by omega)
        obtain ⟨qn, rfl⟩ : ∃ n : Nat, q = n := ⟨q.toNat, by omega⟩
        obtain ⟨M, hMs, hML, hmk⟩ := make_bytes (60 + qn) (by omega)
        have hmk' : ∀ X : World, (Instr.makeSlice 22 (.int .i64 (60 + (qn : Int))) (.int .i64 (60 + (qn : Int)))).run Tryz.prog X = .ok (.slice (some ⟨X.heap.size, 0, none⟩) (60 + qn) (60 + qn)) (X.alloc (.cells M 5)) := fun X => by have := hmk X; rw [show ((60 + qn : Nat) : Int) = 60 + (qn : Int) by omega] at this; exact this
        have hX1 : Below w5.heap.size w5 (w5.alloc (.cells M 5)) := (Below.refl _ _).alloc (Nat.le_refl _) _
        have hmd := madeB_of (u := w5) hMs hML hc5.lt (by omega)
        obtain ⟨z, hzs, hcv⟩ := hmd.text
        have HL5 := hide ((HL4.out.moves hm5).new hX1)
        have HM5 := hide ((HM4.out.trans hm5).trans (Moves.of_below hX1))
        have HC5 := hide (hc5.below hX1)
        have hz0 : z.size ≤ 61 := by omega
        clear hmk hML hMs hc5 hm5 HL4 HC4 HM4 q1 hmd hX1 hzs
        obtain ⟨V, hV⟩ : ∃ V, w5.alloc (.cells M 5) = V := ⟨_, rfl⟩
        rw [hV] at HL5 HM5 HC5 hcv
        have hX : Below V.heap.size V (V.alloc (.cells #[.string z] 9)) := (Below.refl _ _).alloc (Nat.le_refl _) _
        have HOX := hide (owns_new HL5.out.own hX)
        have HRX : Hid (Reads (V.alloc (.cells #[.string z] 9)) (.slice (some ⟨V.heap.size, 0, none⟩) 1 1) 1 1 [.string z]) := reads_of_owns (owns_lit V 9 1 1 #[.string z] rfl (by omega))
        have hsX : w.heap.size ≤ (V.alloc (.cells #[.string z] 9)).heap.size := by have := HM5.out.size; simp; omega
        have HCX := hide (HC5.out.below hX)
        have HMX := hide (HM5.out.trans (Moves.of_below hX))
        have HSM : Hid (∀ y ∈ L ++ [z], y.size ≤ 61) := fun y hy => by
          rcases List.mem_append.1 hy with h | h
          · exact HL5.out.small y h
          · simp at h; subst h; exact hz0
        clear HL5 HM5 HC5 hX
        go_wp2_with (at_builtin; go_must (refine wpList_app _ (by rfl) _ _ 30 (by rfl) 9 (.string ⟨#[]⟩) 1 16 Tryz.underlying30 (by kernel_rfl) rfl (by decide) w.heap.size _ L.length (L.map Value.string) (by rfl) HOX.out _ 1 [.string z] (by rfl) HRX.out (sv_one [z]) (by omega) (by decide) hsX ?_))
        intro ad7 cp7 w7 hown7 hg7 hat7
        have HM7 := hide (moves_grown HMX.out hg7 (fun k hk => (HOX.out.lt k hk).1))
        have HC7 := hide (cur_grown HCX.out hg7 (fun k hk => by have := (HOX.out.lt k hk).1; omega))
        have HL7 : Hid (LsAt w7 w.heap.size g (.slice ad7 (L.length + 1) cp7) (L ++ [z])) := ⟨by rw [List.map_append, List.length_append]; exact hown7, hgw, HSM.out⟩
        clear hown7 hg7 hat7 HMX HCX HOX HRX hsX hcv hV
        go_wp2_with fail
        go_ret
        exact ⟨_, L ++ [z], rfl, HL7.out, by simp; omega, HC7.out, HM7.out⟩
end Go.Proofs.YtbikmedbmnfdbaaGreatDoor
