/- What the laws of tokens draw: texts out of a row of which two are made, lists of places, places. -/
import Derived.Test.YtnadephjbglcfaaGreatDoorTokDraw2
import Derived.Test.YtnadephjbglcfaaGreatDoorShStr
import Derived.Test.YtnadephjbglcfaaGreatDoorRegionInv
import Derived.Test.YtnadephjbglcfaaGreatDoorAppRows
import Derived.Test.YtnadephjbglcfaaGreatDoorRowNew
import Derived.Deep.Cut
import Derived.Deep.DeepCutAuto
import Derived.Deep.DeepMust


namespace Go.Proofs.YtnadephjbglcfaaGreatDoor
open Go.RowKit
set_option maxRecDepth 100000
set_option linter.unusedSimpArgs false
set_option linter.unusedVariables false
theorem made_all (z : Value) (R : Nat) (hz : z.cells = #[z]) : (madeCells z.cells R).toList = List.replicate R z := by
  rw [hz]
  apply List.ext_getElem
  · simp [size_madeCells]
  · intro i h1 h2
    simp [madeCells, Nat.mod_one]
theorem make_bytesF (R : Nat) (h : R ≤ 1048576) : ∃ M : Array Value, M.size = R ∧ M.toList = List.replicate R (.int .u8 0) ∧ ∀ X : World, (Instr.makeSlice 22 (.int .i64 (R : Int)) (.int .i64 (R : Int))).run Tryz.prog X = .ok (.slice (some ⟨X.heap.size, 0, none⟩) R R) (X.alloc (.cells M 5)) := by
  obtain ⟨i0, hi, hz0, hz1, hz2⟩ := info_parts (P := Tryz.prog) (e := 5) (z := .int .u8 0) (size := 1) (bytes := 1) (by kernel_rfl)
  refine ⟨madeCells (Value.int .u8 0).cells (R * 1), by rw [size_madeCells, Nat.mul_one], by rw [Nat.mul_one]; exact made_all _ R rfl, fun X => ?_⟩
  have h := run_make (P := Tryz.prog) X 22 5 i0 (.int .u8 0) Tryz.underlying22 hi hz0 .i64 .i64 (R : Int) (R : Int) (by omega) (by omega) (by rw [hz2]; omega) (by omega)
  rw [hz1] at h
  simpa using h
theorem make_strs (R : Nat) (h : R ≤ 1048576) : ∃ M : Array Value, M.size = R ∧ M.toList = List.replicate R (.string ⟨#[]⟩) ∧ ∀ X : World, (Instr.makeSlice 43 (.int .i64 (R : Int)) (.int .i64 (R : Int))).run Tryz.prog X = .ok (.slice (some ⟨X.heap.size, 0, none⟩) R R) (X.alloc (.cells M 9)) := by
  obtain ⟨i0, hi, hz0, hz1, hz2⟩ := info_parts (P := Tryz.prog) (e := 9) (z := .string ⟨#[]⟩) (size := 1) (bytes := 16) (by kernel_rfl)
  refine ⟨madeCells (Value.string ⟨#[]⟩).cells (R * 1), by rw [size_madeCells, Nat.mul_one], by rw [Nat.mul_one]; exact made_all _ R rfl, fun X => ?_⟩
  have h := run_make (P := Tryz.prog) X 43 9 i0 (.string ⟨#[]⟩) Tryz.underlying43 hi hz0 .i64 .i64 (R : Int) (R : Int) (by omega) (by omega) (by rw [hz2]; omega) (by omega)
  rw [hz1] at h
  simpa using h
/-- A row of n bytes that was made, apart from the cursor's block. -/
structure MadeB (u : World) (q n g : Nat) : Prop where
  ne : q ≠ g
  own : u.ownsRow 0 5 1 (.slice (some ⟨q, 0, none⟩) n n) n (List.replicate n (.int .u8 0))
theorem MadeB.new {u u' : World} {q n g : Nat} (h : MadeB u q n g) (hb : Below u.heap.size u u') : MadeB u' q n g := ⟨h.ne, owns_new h.own hb⟩
theorem MadeB.moves {u u' : World} {q n g : Nat} (h : MadeB u q n g) (hm : Moves g u u') : MadeB u' q n g := ⟨h.ne, owns_kept h.own (fun k hk hl => hm.block k hl (fun e => h.ne (by have : q = k := Option.some.inj hk; omega)))⟩
theorem madeB_of {u : World} {n g : Nat} {M : Array Value} (hM : M.size = n) (hL : M.toList = List.replicate n (.int .u8 0)) (hg : g < u.heap.size) (hn : n ≤ 1000000) : MadeB (u.alloc (.cells M 5)) u.heap.size n g :=
  ⟨by omega, by have := owns_lit u 5 1 n M (by omega) hn; rw [hL] at this; exact owns_base this (fun _ _ => Nat.zero_le _)⟩
theorem MadeB.text {u : World} {q n g : Nat} (h : MadeB u q n g) : ∃ s : ByteArray, s.size = n ∧ (convert 22 9 (.slice (some ⟨q, 0, none⟩) n n)).run Tryz.prog u = .ok (.string s) u :=
  row_to_string h.own (fun x hx => by rw [List.eq_of_mem_replicate hx]; exact ⟨0, rfl, by decide, by decide⟩)
/-- A row of N texts, each of at most S bytes, apart from the cursor's block. -/
def RowS (u : World) (q N S g : Nat) : Prop := q < u.heap.size ∧ q ≠ g ∧ ∀ j, j < N → ∃ s : ByteArray, s.size ≤ S ∧ u.cell? ⟨q, j, none⟩ = some (.string s)
theorem RowS.new {u u' : World} {q N S g : Nat} (h : RowS u q N S g) (hb : Below u.heap.size u u') : RowS u' q N S g := by
  obtain ⟨h1, h2, h3⟩ := h
  refine ⟨Nat.lt_of_lt_of_le h1 hb.size, h2, fun j hj => ?_⟩
  obtain ⟨s, hs, hc⟩ := h3 j hj
  exact ⟨s, hs, (hb.cell (p := ⟨q, j, none⟩) h1).trans hc⟩
theorem RowS.moves {u u' : World} {q N S g : Nat} (h : RowS u q N S g) (hm : Moves g u u') : RowS u' q N S g := by
  obtain ⟨h1, h2, h3⟩ := h
  refine ⟨Nat.lt_of_lt_of_le h1 hm.size, h2, fun j hj => ?_⟩
  obtain ⟨s, hs, hc⟩ := h3 j hj
  exact ⟨s, hs, (hm.cell q j h1 h2).trans hc⟩
/-- A text that is picked out of a row of N, of which two are made: what holds while the operations come up in whatever order. -/
structure PickI (g B S m1 m2 N : Nat) (U : World) (l : Array Bool) (u : World) (x0 x1 x2 x3 x4 x6 x7 x8 x9 : Value) : Prop where
  hm : Moves g U u
  hc : Cur u g B
  f0 : l.getD 0 false = true → ∃ q, x0 = .slice (some ⟨q, 0, none⟩) m1 m1 ∧ MadeB u q m1 g
  f1 : l.getD 1 false = true → ∃ s : ByteArray, x1 = .string s ∧ s.size ≤ S
  f2 : l.getD 2 false = true → ∃ q, x2 = .slice (some ⟨q, 0, none⟩) m2 m2 ∧ MadeB u q m2 g
  f3 : l.getD 3 false = true → ∃ s : ByteArray, x3 = .string s ∧ s.size ≤ S
  f4 : l.getD 4 false = true → ∃ q, x4 = .slice (some ⟨q, 0, none⟩) N N ∧ RowS u q N S g
  f6 : l.getD 6 false = true → ∃ k : Nat, x6 = .int .i64 (k : Int) ∧ k < N
  f7 : l.getD 7 false = true → ∃ q k : Nat, x7 = .pointer (some ⟨q, k, none⟩) ∧ RowS u q N S g ∧ k < N
  f8 : l.getD 8 false = true → ∃ s : ByteArray, x8 = .string s ∧ s.size ≤ S
  f9 : l.getD 9 false = true → ∃ s : ByteArray, x9 = .string s ∧ s.size ≤ S
  tk : l.getD 5 false = true
theorem set_keep {i j : Nat} {l : Array Bool} (h : l.getD j false = true) : (l.setIfInBounds i true).getD j false = true := by
  by_cases e : i = j
  · subst e
    by_cases hi : i < l.size
    · exact set_is hi
    · simp [hi] at h
  · simp only [Array.getD_eq_getD_getElem?] at h ⊢
    rw [Array.getElem?_setIfInBounds_ne e]; exact h
set_option maxRecDepth 100000 in
set_option maxHeartbeats 4000000 in
theorem drawToken (ac : Option Addr) (len cap : Nat) (w : World) (hl : len ≤ 4096) (hcode : CodeAt w ac len w.heap.size) :
    Calls Tryz.prog 5 #[.slice ac len cap] w fun e w' => ∃ (nm key : ByteArray) (un : Int), e = .returned (.tuple #[.string nm, .int .i64 un, .string key]) ∧ nm.size ≤ 100 ∧ key.size ≤ 41 ∧ -1 ≤ un ∧ un ≤ 1000001 ∧ Below w.heap.size w w' := by
  go_enter Tryz.func5, Tryz.ntmps5
  go_wp2_with fail
  refine (new1 ac len cap _ hl hcode).mono ?_; rintro x w1 ⟨g, rfl, hg, hc1, hb1⟩
  go_wp2_with fail
  refine (drawName14 g _ _ hc1).mono ?_; rintro e w2 ⟨nm, hnm, rfl, hc2, hm2⟩
  go_wp2_with fail
  refine (below1 g _ 60 _ hc2 (by omega)).mono ?_; rintro e w3 ⟨un, u0, u1, _, rfl, hc3, hm3⟩
  have u60 := u1 (by omega)
  have HM3 := hide (hm2.trans hm3)
  have HB1 := hide hb1
  have hs1 := hb1.size
  clear hc1 hc2 hm2 hm3 u1 hb1
  go_wp2_with fail
  refine (once1 g _ 10 _ hc3 (by omega)).mono ?_; rintro e w4 ⟨v, rfl, hc4, hm4⟩
  replace HM3 := hide (HM3.out.trans hm4)
  have hg4 := hc4.lt
  clear hc3 hm4
  go_upto_if 16 with fail
  go_cut [7, 17, 18, 19, 20, 21] (fun s7 _ _ _ _ _ wc => ∃ un : Int, s7 = .int .i64 un ∧ -1 ≤ un ∧ un ≤ 1000001 ∧ Hid (Cur wc g w.heap.size) ∧ Hid (Moves g w1 wc))
  case first =>
    cases v
    · go_wp2_with fail
      go_meet
      case rel => exact ⟨un, rfl, by omega, by omega, hc4, HM3⟩
    · go_wp2_with fail
      obtain ⟨VA, hVA⟩ : ∃ V, w4.alloc (.cells #[.int .i64 (-1), .int .i64 1000000, .int .i64 1000001] 2) = V := ⟨_, rfl⟩
      have RA : RowIs VA w4.heap.size 2 [.int .i64 (-1), .int .i64 1000000, .int .i64 1000001] := by rw [← hVA]; exact rowIs_new w4 _ _
      have hbA : Below w4.heap.size w4 VA := by rw [← hVA]; exact (Below.refl _ _).alloc (Nat.le_refl _) _
      rw [hVA]
      clear hVA
      refine (below1 g _ 3 _ (hc4.below hbA) (by omega)).mono ?_; rintro e w5 ⟨q, q0, q1, _, rfl, hc5, hm5⟩
      have q6 := q1 (by omega)
      replace RA := RA.moves hm5 (by omega)
      obtain ⟨qn, rfl⟩ : ∃ n : Nat, q = n := ⟨q.toNat, by omega⟩
      obtain ⟨z, hz0, hz1, hz⟩ : ∃ z : Int, -1 ≤ z ∧ z ≤ 1000001 ∧ w5.cell? ⟨w4.heap.size, qn, none⟩ = some (.int .i64 z) := by
        have : qn = 0 ∨ qn = 1 ∨ qn = 2 := by omega
        rcases this with rfl | rfl | rfl <;> exact ⟨_, by decide, by decide, RA.cell rfl⟩
      have hlA := RA.lt
      have HM5 := hide ((HM3.out.trans (Moves.of_below hbA)).trans hm5)
      have HC5 := hide hc5
      clear q1 RA hbA hm5 HM3 hc4 hc5
      go_wp2_with fail
      go_meet
      case rel => exact ⟨z, rfl, hz0, hz1, HC5, HM5⟩
  case rest =>
    clear hc4 HM3 hg4
    obtain ⟨un, rfl, hu0, hu1, HC0, HM0⟩ := hcut
    obtain ⟨B, hB⟩ : ∃ B, w.heap.size = B := ⟨_, rfl⟩
    rw [hB] at HC0
    have HBB := hide hB
    clear hB
    go_wp2_with fail
    obtain ⟨M1, hM1, hL1, hk1⟩ := make_bytesF 40 (by decide)
    obtain ⟨M2, hM2, hL2, hk2⟩ := make_bytesF 41 (by decide)
    refine wp_region_any (by kernel_rfl) ?_; change wpAny _ _ _ _ _ _ _ (World.drew _)
    refine wpAny_take (i := 5) (v := ?_) rfl (by kernel_rfl) (by kernel_rfl) (by kernel_rfl) (fun _ _ _ h => h) (Or.inl ⟨by rfl, ?_⟩) ?_; rotate_left; focus (intro w; go_simp; try with_reducible rfl)
    refine wpAny_inv (fun (l : Array Bool) (a : Act) (u : World) => ∃ x0 x1 x2 x3 x4 x6 x7 x8 x9, a = ⟨#[.slice ac len cap, undef, .string ⟨#[]⟩, .int .i64 0, .string ⟨#[]⟩, .pointer (some ⟨g, 0, none⟩), .string nm, .int .i64 un, x9, u9, u10, u11, u12, u13, u14, u15, u16, u17, u18, u19, u20, u21, x0, x1, x2, x3, x4, .pointer (some ⟨g, 0, none⟩), x6, x7, x8, u31, u32, u33], []⟩ ∧ PickI g B 41 40 41 5 wc l u x0 x1 x2 x3 x4 x6 x7 x8 x9) ?hs ?he _ _ _ _ rfl (by decide) ?h0
    case h0 => exact ⟨_, _, _, _, _, _, _, _, _, rfl, ⟨Moves.refl _ _ |>.drew, HC0.out.drew, fun h => absurd h (by decide), fun h => absurd h (by decide), fun h => absurd h (by decide), fun h => absurd h (by decide), fun h => absurd h (by decide), fun h => absurd h (by decide), fun h => absurd h (by decide), fun h => absurd h (by decide), fun h => absurd h (by decide), by decide⟩⟩
    case he =>
      rintro l a u ⟨x0, x1, x2, x3, x4, x6, x7, x8, x9, rfl, H⟩ hl hr
      have hall := all_listed hl (by kernel_rfl) hr
      obtain ⟨s, rfl, hs⟩ := H.f9 (hall 9 (by decide))
      have hcE := H.hc
      have hmE := H.hm
      clear H hall hr hl
      have HBE := hide (HB1.out.trans ((HM0.out.trans hmE).below (by omega) hs1))
      clear hcE hmE
      go_wp2_with fail
      go_ret3
      exact ⟨nm, s, un, rfl, hnm, hs, hu0, hu1, HBE.out⟩
    case hs =>
      rintro l a u io ⟨x0, x1, x2, x3, x4, x6, x7, x8, x9, rfl, H⟩ hl hr
      have hm := H.hm
      have hc := H.hc
      have hgu := hc.lt
      have f0 := H.f0
      have f1 := H.f1
      have f2 := H.f2
      have f3 := H.f3
      have f4 := H.f4
      have f6 := H.f6
      have f7 := H.f7
      have f8 := H.f8
      have f9 := H.f9
      have tk := H.tk
      clear H
      have hlt2 := ready_lt hr
      match io, hlt2, hr with
      | 0, _, hr =>
        have hb : Below u.heap.size u (u.alloc (.cells M1 5)) := (Below.refl _ _).alloc (Nat.le_refl _) _
        have hk : (Instr.makeSlice 22 (.int .i64 40) (.int .i64 40)).run Tryz.prog u = .ok (.slice (some ⟨u.heap.size, 0, none⟩) 40 40) (u.alloc (.cells M1 5)) := hk1 u
        refine wpOp_step (o := _) rfl (fun K hK => ?_)
        go_simp
        refine hK _ _ ?_; clear hK K
        exact ⟨_, _, _, _, _, _, _, _, _, rfl, ⟨hm.alloc _, hc.alloc _, fun _ => ⟨_, rfl, madeB_of hM1 hL1 hgu (by decide)⟩, fun h => (f1 (set_or h (by decide))), fun h => by obtain ⟨q, e, r⟩ := f2 (set_or h (by decide)); exact ⟨q, e, r.new hb⟩, fun h => (f3 (set_or h (by decide))), fun h => by obtain ⟨q, e, r⟩ := f4 (set_or h (by decide)); exact ⟨q, e, r.new hb⟩, fun h => (f6 (set_or h (by decide))), fun h => by obtain ⟨q, k, e, r, hk⟩ := f7 (set_or h (by decide)); exact ⟨q, k, e, r.new hb, hk⟩, fun h => (f8 (set_or h (by decide))), fun h => (f9 (set_or h (by decide))), set_keep tk⟩⟩
      | 1, _, hr =>
        obtain ⟨q, rfl, hmd⟩ := f0 (ready_waits hr (j := 0) (by kernel_rfl))
        obtain ⟨s, hs, hcv⟩ := hmd.text
        refine wpOp_step (o := _) rfl (fun K hK => ?_)
        go_simp
        refine hK _ _ ?_; clear hK K
        exact ⟨_, _, _, _, _, _, _, _, _, rfl, ⟨hm, hc, fun h => (f0 (set_or h (by decide))), fun _ => ⟨s, rfl, by omega⟩, fun h => (f2 (set_or h (by decide))), fun h => (f3 (set_or h (by decide))), fun h => (f4 (set_or h (by decide))), fun h => (f6 (set_or h (by decide))), fun h => (f7 (set_or h (by decide))), fun h => (f8 (set_or h (by decide))), fun h => (f9 (set_or h (by decide))), set_keep tk⟩⟩
      | 2, _, hr =>
        have hb : Below u.heap.size u (u.alloc (.cells M2 5)) := (Below.refl _ _).alloc (Nat.le_refl _) _
        have hk : (Instr.makeSlice 22 (.int .i64 41) (.int .i64 41)).run Tryz.prog u = .ok (.slice (some ⟨u.heap.size, 0, none⟩) 41 41) (u.alloc (.cells M2 5)) := hk2 u
        refine wpOp_step (o := _) rfl (fun K hK => ?_)
        go_simp
        refine hK _ _ ?_; clear hK K
        exact ⟨_, _, _, _, _, _, _, _, _, rfl, ⟨hm.alloc _, hc.alloc _, fun h => by obtain ⟨q, e, r⟩ := f0 (set_or h (by decide)); exact ⟨q, e, r.new hb⟩, fun h => (f1 (set_or h (by decide))), fun _ => ⟨_, rfl, madeB_of hM2 hL2 hgu (by decide)⟩, fun h => (f3 (set_or h (by decide))), fun h => by obtain ⟨q, e, r⟩ := f4 (set_or h (by decide)); exact ⟨q, e, r.new hb⟩, fun h => (f6 (set_or h (by decide))), fun h => by obtain ⟨q, k, e, r, hk⟩ := f7 (set_or h (by decide)); exact ⟨q, k, e, r.new hb, hk⟩, fun h => (f8 (set_or h (by decide))), fun h => (f9 (set_or h (by decide))), set_keep tk⟩⟩
      | 3, _, hr =>
        obtain ⟨q, rfl, hmd⟩ := f2 (ready_waits hr (j := 2) (by kernel_rfl))
        obtain ⟨s, hs, hcv⟩ := hmd.text
        refine wpOp_step (o := _) rfl (fun K hK => ?_)
        go_simp
        refine hK _ _ ?_; clear hK K
        exact ⟨_, _, _, _, _, _, _, _, _, rfl, ⟨hm, hc, fun h => (f0 (set_or h (by decide))), fun h => (f1 (set_or h (by decide))), fun h => (f2 (set_or h (by decide))), fun _ => ⟨s, rfl, by omega⟩, fun h => (f4 (set_or h (by decide))), fun h => (f6 (set_or h (by decide))), fun h => (f7 (set_or h (by decide))), fun h => (f8 (set_or h (by decide))), fun h => (f9 (set_or h (by decide))), set_keep tk⟩⟩
      | 4, _, hr =>
        obtain ⟨s1, rfl, hs1⟩ := f1 (ready_waits hr (j := 1) (by kernel_rfl))
        obtain ⟨s3, rfl, hs3⟩ := f3 (ready_waits hr (j := 3) (by kernel_rfl))
        have hb : Below u.heap.size u (u.alloc (.cells #[.string ⟨#[107, 49]⟩, .string ⟨#[107, 50]⟩, .string ⟨#[]⟩, .string s1, .string s3] 9)) := (Below.refl _ _).alloc (Nat.le_refl _) _
        have RA := rowIs_new u 9 [.string ⟨#[107, 49]⟩, .string ⟨#[107, 50]⟩, .string ⟨#[]⟩, .string s1, .string s3]
        have hRS : RowS (u.alloc (.cells #[.string ⟨#[107, 49]⟩, .string ⟨#[107, 50]⟩, .string ⟨#[]⟩, .string s1, .string s3] 9)) u.heap.size 5 41 g := by
          refine ⟨by simp, by omega, fun j hj => ?_⟩
          have hj5 : j = 0 ∨ j = 1 ∨ j = 2 ∨ j = 3 ∨ j = 4 := by omega
          rcases hj5 with rfl | rfl | rfl | rfl | rfl <;> exact ⟨_, by first | exact hs1 | exact hs3 | decide, RA.cell rfl⟩
        refine wpOp_step (o := _) rfl (fun K hK => ?_)
        go_simp
        refine hK _ _ ?_; clear hK K
        exact ⟨_, _, _, _, _, _, _, _, _, rfl, ⟨hm.alloc _, hc.alloc _, fun h => by obtain ⟨q, e, r⟩ := f0 (set_or h (by decide)); exact ⟨q, e, r.new hb⟩, fun _ => ⟨s1, rfl, hs1⟩, fun h => by obtain ⟨q, e, r⟩ := f2 (set_or h (by decide)); exact ⟨q, e, r.new hb⟩, fun _ => ⟨s3, rfl, hs3⟩, fun _ => ⟨_, rfl, hRS⟩, fun h => (f6 (set_or h (by decide))), fun h => by obtain ⟨q, k, e, r, hk⟩ := f7 (set_or h (by decide)); exact ⟨q, k, e, r.new hb, hk⟩, fun h => (f8 (set_or h (by decide))), fun h => (f9 (set_or h (by decide))), set_keep tk⟩⟩
      | 5, _, hr =>
        have h0 := (ready_new hr hl).1
        rw [tk] at h0
        cases h0
      | 6, _, hr =>
        refine wpOp_step (o := _) rfl (fun K hK => ?_)
        go_simp
        refine (below1 g B 5 _ hc (by omega)).mono ?_
        rintro e u2 ⟨z, z0, z1, _, rfl, hc2, hm2⟩
        have z2 := z1 (by omega)
        obtain ⟨k, rfl⟩ : ∃ k : Nat, z = k := ⟨z.toNat, by omega⟩
        refine hK _ _ ?_; clear hK K
        exact ⟨_, _, _, _, _, _, _, _, _, rfl, ⟨hm.trans hm2, hc2, fun h => by obtain ⟨q, e, r⟩ := f0 (set_or h (by decide)); exact ⟨q, e, r.moves hm2⟩, fun h => (f1 (set_or h (by decide))), fun h => by obtain ⟨q, e, r⟩ := f2 (set_or h (by decide)); exact ⟨q, e, r.moves hm2⟩, fun h => (f3 (set_or h (by decide))), fun h => by obtain ⟨q, e, r⟩ := f4 (set_or h (by decide)); exact ⟨q, e, r.moves hm2⟩, fun _ => ⟨k, rfl, by omega⟩, fun h => by obtain ⟨q, k, e, r, hk⟩ := f7 (set_or h (by decide)); exact ⟨q, k, e, r.moves hm2, hk⟩, fun h => (f8 (set_or h (by decide))), fun h => (f9 (set_or h (by decide))), set_keep tk⟩⟩
      | 7, _, hr =>
        obtain ⟨q, rfl, hRS⟩ := f4 (ready_waits hr (j := 4) (by kernel_rfl))
        obtain ⟨k, rfl, hk⟩ := f6 (ready_waits hr (j := 6) (by kernel_rfl))
        have hkI : (k : Int) < 5 := by omega
        refine wpOp_step (o := _) rfl (fun K hK => ?_)
        go_simp
        refine hK _ _ ?_; clear hK K
        exact ⟨_, _, _, _, _, _, _, _, _, rfl, ⟨hm, hc, fun h => (f0 (set_or h (by decide))), fun h => (f1 (set_or h (by decide))), fun h => (f2 (set_or h (by decide))), fun h => (f3 (set_or h (by decide))), fun _ => ⟨q, rfl, hRS⟩, fun _ => ⟨k, rfl, hk⟩, fun _ => ⟨q, k, rfl, hRS, hk⟩, fun h => (f8 (set_or h (by decide))), fun h => (f9 (set_or h (by decide))), set_keep tk⟩⟩
      | 8, _, hr =>
        obtain ⟨q, k, rfl, hRS, hk⟩ := f7 (ready_waits hr (j := 7) (by kernel_rfl))
        obtain ⟨s, hs, hcs⟩ := hRS.2.2 k hk
        have hql := hRS.1
        refine wpOp_step (o := _) rfl (fun K hK => ?_)
        go_simp
        refine hK _ _ ?_; clear hK K
        exact ⟨_, _, _, _, _, _, _, _, _, rfl, ⟨hm, hc, fun h => (f0 (set_or h (by decide))), fun h => (f1 (set_or h (by decide))), fun h => (f2 (set_or h (by decide))), fun h => (f3 (set_or h (by decide))), fun h => (f4 (set_or h (by decide))), fun h => (f6 (set_or h (by decide))), fun _ => ⟨q, k, rfl, hRS, hk⟩, fun _ => ⟨s, rfl, hs⟩, fun h => (f9 (set_or h (by decide))), set_keep tk⟩⟩
      | 9, _, hr =>
        obtain ⟨s, rfl, hs⟩ := f8 (ready_waits hr (j := 8) (by kernel_rfl))
        refine wpOp_step (o := _) rfl (fun K hK => ?_)
        go_simp
        refine hK _ _ ?_; clear hK K
        exact ⟨_, _, _, _, _, _, _, _, _, rfl, ⟨hm, hc, fun h => (f0 (set_or h (by decide))), fun h => (f1 (set_or h (by decide))), fun h => (f2 (set_or h (by decide))), fun h => (f3 (set_or h (by decide))), fun h => (f4 (set_or h (by decide))), fun h => (f6 (set_or h (by decide))), fun h => (f7 (set_or h (by decide))), fun _ => ⟨s, rfl, hs⟩, fun _ => ⟨s, rfl, hs⟩, set_keep tk⟩⟩
      | n + 10, h, _ => exact absurd h (by simp)
end Go.Proofs.YtnadephjbglcfaaGreatDoor
