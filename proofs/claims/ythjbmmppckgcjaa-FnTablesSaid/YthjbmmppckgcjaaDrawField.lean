/- A Field that is drawn: two texts of at most 100 bytes; of what was there the cursor alone has moved. -/
import Derived.Test.YthjbmmppckgcjaaCurTurn
import Derived.Test.YthjbmmppckgcjaaRegionInv
import Derived.Test.YthjbmmppckgcjaaFields
import Derived.Test.YthjbmmppckgcjaaRowIs
import Derived.Test.YthjbmmppckgcjaaMade
import Derived.Deep.DeepCutAuto


namespace Go.Proofs.Ythjbmmppckgcjaa
open Go.RowKit
set_option linter.unusedSimpArgs false
set_option linter.unusedVariables false

/-- A list of four short texts in a block of its own. -/
def TxR (g : Nat) (u : World) (x : Value) : Prop := ∃ (b : Nat) (s0 s1 s2 s3 : ByteArray), x = .slice (some ⟨b, 0, none⟩) 4 4 ∧ b ≠ g ∧ RowIs u b 9 [.string s0, .string s1, .string s2, .string s3] ∧ s0.size ≤ 7 ∧ s1.size ≤ 7 ∧ s2.size ≤ 7 ∧ s3.size ≤ 7
theorem TxR.moves {g : Nat} {u u' : World} {x : Value} (h : TxR g u x) (hm : Moves g u u') : TxR g u' x := by
  obtain ⟨b, s0, s1, s2, s3, rfl, hb, hr, q⟩ := h
  exact ⟨b, s0, s1, s2, s3, rfl, hb, hr.moves hm hb, q⟩
theorem TxR.make (g : Nat) (u : World) (s0 s1 s2 s3 : ByteArray) (h0 : s0.size ≤ 7) (h1 : s1.size ≤ 7) (h2 : s2.size ≤ 7) (h3 : s3.size ≤ 7) (hg : g < u.heap.size) :
    TxR g (u.alloc (.cells #[.string s0, .string s1, .string s2, .string s3] 9)) (.slice (some ⟨u.heap.size, 0, none⟩) 4 4) :=
  ⟨_, s0, s1, s2, s3, rfl, by omega, rowIs_new u 9 [.string s0, .string s1, .string s2, .string s3], h0, h1, h2, h3⟩
/-- A place in memory that holds a short text. -/
def TxC (g : Nat) (u : World) (x : Value) : Prop := ∃ (b k : Nat) (s : ByteArray), x = .pointer (some ⟨b, k, none⟩) ∧ b ≠ g ∧ u.cell? ⟨b, k, none⟩ = some (.string s) ∧ s.size ≤ 7
theorem TxC.moves {g : Nat} {u u' : World} {x : Value} (h : TxC g u x) (hm : Moves g u u') : TxC g u' x := by
  obtain ⟨b, k, s, rfl, hb, hc, hs⟩ := h
  exact ⟨b, k, s, rfl, hb, (hm.cell b k (World.block_lt_of_cell? u ⟨b, k, none⟩ hc) hb).trans hc, hs⟩
def Tx7 (x : Value) : Prop := ∃ s : ByteArray, x = .string s ∧ s.size ≤ 7
def Num4 (x : Value) : Prop := ∃ z : Int, x = .int .i64 z ∧ 0 ≤ z ∧ z < 4
def Fd7 (x : Value) : Prop := ∃ f : Fd, x = .agg #[.string f.n, .string f.v] ∧ f.n.size ≤ 7 ∧ f.v.size ≤ 7
/-- A Field in a new block; d: it has been written. -/
def FdB (lo : Nat) (u : World) (x : Value) (d : Prop) : Prop := ∃ (b : Nat) (cs : List Value), x = .pointer (some ⟨b, 0, none⟩) ∧ lo ≤ b ∧ (RowIs u b 28 cs ∧ ∃ v0 v1, cs = [v0, v1]) ∧ (d → ∃ f : Fd, cs = f.cs ∧ f.n.size ≤ 7 ∧ f.v.size ≤ 7)
theorem FdB.moves {g lo : Nat} {u u' : World} {x : Value} {d d' : Prop} (h : FdB lo u x d) (hm : Moves g u u') (hg : g < lo) (hd : d' → d) : FdB lo u' x d' := by
  obtain ⟨b, cs, rfl, hb, ⟨hr, h2⟩, hc⟩ := h
  exact ⟨b, cs, rfl, hb, ⟨hr.moves hm (by omega), h2⟩, fun k => hc (hd k)⟩
theorem cell4 {u : World} {b : Nat} {ty : TypeId} {s0 s1 s2 s3 : ByteArray} (h : RowIs u b ty [.string s0, .string s1, .string s2, .string s3]) (k : Nat) (hk : k < 4) (q0 : s0.size ≤ 7) (q1 : s1.size ≤ 7) (q2 : s2.size ≤ 7) (q3 : s3.size ≤ 7) :
    ∃ s : ByteArray, u.cell? ⟨b, k, none⟩ = some (.string s) ∧ s.size ≤ 7 := by
  match k, hk with
  | 0, _ => exact ⟨s0, h.cell rfl, q0⟩
  | 1, _ => exact ⟨s1, h.cell rfl, q1⟩
  | 2, _ => exact ⟨s2, h.cell rfl, q2⟩
  | 3, _ => exact ⟨s3, h.cell rfl, q3⟩

theorem make_bytes (R : Nat) (h : R ≤ 1048576) : ∃ M : Array Value, M.size = R ∧ (∀ u ∈ M.toList, ByteVal u) ∧ ∀ X : World, (Instr.makeSlice 22 (.int .i64 (R : Int)) (.int .i64 (R : Int))).run Try.prog X = .ok (.slice (some ⟨X.heap.size, 0, none⟩) R R) (X.alloc (.cells M 5)) := by
  obtain ⟨i0, hi, hz0, hz1, hz2⟩ := info_parts (P := Try.prog) (e := 5) (z := .int .u8 0) (size := 1) (bytes := 1) (by kernel_rfl)
  refine ⟨madeCells (Value.int .u8 0).cells (R * 1), by rw [size_madeCells]; omega, ?_, fun X => ?_⟩
  · intro u hu
    have : u = .int .u8 0 := by
      simp only [madeCells, Value.cells] at hu
      simp at hu
      obtain ⟨j, _, hj⟩ := hu
      simp [Nat.mod_one] at hj
      exact hj.symm
    exact ⟨0, this, by omega, by omega⟩
  · have h := run_make (P := Try.prog) X 22 5 i0 (.int .u8 0) Try.underlying22 hi hz0 .i64 .i64 (R : Int) (R : Int) (by omega) (by omega) (by rw [hz2]; omega) (by omega)
    rw [hz1] at h
    simpa using h

set_option maxHeartbeats 4000000 in
theorem drawField (g B : Nat) (w : World) (hc : Cur w g B) :
    Calls Try.prog 38 #[.pointer (some ⟨g, 0, none⟩)] w fun e w' => ∃ f : Fd, f.n.size ≤ 100 ∧ f.v.size ≤ 100 ∧ e = .returned (.agg #[.string f.n, .string f.v]) ∧ Cur w' g B ∧ Moves g w w' := by
  have hgw := hc.lt
  go_enter Try.func38, Try.ntmps38
  go_wp2_with fail
  generalize hw1 : w.alloc _ = w1
  have hc1 : Cur w1 g B := by rw [← hw1]; exact hc.alloc _
  have hm1 : Moves g w w1 := by rw [← hw1]; exact (Moves.refl g w).alloc _
  have hr1 : RowIs w1 w.heap.size 28 [.string ⟨#[]⟩, .string ⟨#[]⟩] := by rw [← hw1]; exact rowIs_new w 28 [.string ⟨#[]⟩, .string ⟨#[]⟩]
  have hs1 : w1.heap.size = w.heap.size + 1 := by rw [← hw1]; simp
  clear hw1
  go_cut [3] (fun x wc => ∃ (b : Nat) (f : Fd), x = .pointer (some ⟨b, 0, none⟩) ∧ w1.heap.size ≤ b ∧ RowIs wc b 28 f.cs ∧ f.n.size ≤ 100 ∧ f.v.size ≤ 100 ∧ Cur wc g B ∧ Moves g w1 wc)
  case first =>
    refine region_inv (by kernel_rfl) (fun (l : Array Bool) (a : Act) (u : World) => ∃ x3 x4 x5 x6 x7 x8 x9 x10 x11 x12 x13 x14, a = ⟨#[.pointer (some ⟨g, 0, none⟩), undef, .pointer (some ⟨w.heap.size, 0, none⟩), x3, x4, x5, x6, x7, x8, x9, x10, x11, x12, x13, x14, undef, undef, undef, undef, undef, undef, undef, undef, undef, undef, undef, undef, undef, undef, undef, undef, undef, undef, undef, undef, undef, undef, undef, undef, undef, undef, undef, undef, undef], []⟩ ∧ Cur u g B ∧ Moves g w1 u ∧ (l.getD 0 false = true → l.getD 12 false = false → TxR g u x4) ∧ (l.getD 1 false = true → x5 = .pointer (some ⟨g, 0, none⟩)) ∧ (l.getD 2 false = true → Num4 x6) ∧ (l.getD 3 false = true → l.getD 12 false = false → TxC g u x7) ∧ (l.getD 4 false = true → Tx7 x8) ∧ (l.getD 5 false = true → l.getD 12 false = false → TxR g u x9) ∧ (l.getD 6 false = true → x10 = .pointer (some ⟨g, 0, none⟩)) ∧ (l.getD 7 false = true → Num4 x11) ∧ (l.getD 8 false = true → l.getD 12 false = false → TxC g u x12) ∧ (l.getD 9 false = true → Tx7 x13) ∧ (l.getD 10 false = true → Fd7 x14) ∧ (l.getD 11 false = true → FdB w1.heap.size u x3 (l.getD 12 false = true)) ∧ (l.getD 12 false = true → ∀ j, j < 12 → l.getD j false = true)) ?h0 ?hs ?he
    case h0 => exact ⟨undef, undef, undef, undef, undef, undef, undef, undef, undef, undef, undef, undef, rfl, hc1.drew, (Moves.refl g w1).drew, by simp, by simp, by simp, by simp, by simp, by simp, by simp, by simp, by simp, by simp, by simp, by simp, by simp⟩
    case he =>
      rintro l a u ⟨x3, x4, x5, x6, x7, x8, x9, x10, x11, x12, x13, x14, rfl, hcu, hmu, f0, f1, f2, f3, f4, f5, f6, f7, f8, f9, f10, f11, f12⟩ hl hr
      have hall := all_listed hl (by kernel_rfl) hr
      obtain ⟨b, cs, rfl, hb, hrow, hcs⟩ := f11 (hall 11 (by decide))
      obtain ⟨f, rfl, hn, hv⟩ := hcs (hall 12 (by decide))
      go_wp2_with fail
      go_meet
      exact ⟨b, f, rfl, hb, hrow.1, by omega, by omega, hcu, hmu⟩
    case hs =>
      rintro l a u i ⟨x3, x4, x5, x6, x7, x8, x9, x10, x11, x12, x13, x14, rfl, hcu, hmu, f0, f1, f2, f3, f4, f5, f6, f7, f8, f9, f10, f11, f12⟩ hl hr
      have hsu := hmu.size
      have hlt := ready_lt hr
      match i, hlt, hr with
      | 0, _, hr =>
        refine wpOp_step (o := _) rfl (fun K hK => ?_)
        have h12 := not_last hr hl f12 (by decide)
        go_simp
        refine hK _ _ ?_; clear hK K
        exact ⟨_, _, _, _, _, _, _, _, _, _, _, _, rfl, hcu.alloc _, hmu.alloc _, fun _ _ => TxR.make g u _ _ _ _ (by decide) (by decide) (by decide) (by decide) (by omega), fun h => f1 (set_or h (by decide)), fun h => f2 (set_or h (by decide)), fun h n => (f3 (set_or h (by decide)) (set_same n)).moves ((Moves.refl g u).alloc _), fun h => f4 (set_or h (by decide)), fun h n => (f5 (set_or h (by decide)) (set_same n)).moves ((Moves.refl g u).alloc _), fun h => f6 (set_or h (by decide)), fun h => f7 (set_or h (by decide)), fun h n => (f8 (set_or h (by decide)) (set_same n)).moves ((Moves.refl g u).alloc _), fun h => f9 (set_or h (by decide)), fun h => f10 (set_or h (by decide)), fun h => (f11 (set_or h (by decide))).moves ((Moves.refl g u).alloc _) (by omega) (fun k => set_or k (by decide)), last_kept hr hl f12 (by decide)⟩
      | 1, _, hr =>
        refine wpOp_step (o := _) rfl (fun K hK => ?_)
        go_simp
        refine hK _ _ ?_; clear hK K
        exact ⟨_, _, _, _, _, _, _, _, _, _, _, _, rfl, hcu, hmu, fun h n => (f0 (set_or h (by decide)) (set_same n)).moves (Moves.refl g u), fun _ => rfl, fun h => f2 (set_or h (by decide)), fun h n => (f3 (set_or h (by decide)) (set_same n)).moves (Moves.refl g u), fun h => f4 (set_or h (by decide)), fun h n => (f5 (set_or h (by decide)) (set_same n)).moves (Moves.refl g u), fun h => f6 (set_or h (by decide)), fun h => f7 (set_or h (by decide)), fun h n => (f8 (set_or h (by decide)) (set_same n)).moves (Moves.refl g u), fun h => f9 (set_or h (by decide)), fun h => f10 (set_or h (by decide)), fun h => (f11 (set_or h (by decide))).moves (Moves.refl g u) (by omega) (fun k => set_or k (by decide)), last_kept hr hl f12 (by decide)⟩
      | 2, _, hr =>
        obtain rfl := f1 (ready_waits hr (j := 1) (by kernel_rfl))
        refine wpOp_step (o := _) rfl (fun K hK => ?_)
        go_simp
        refine (below1 g B 4 _ hcu (by omega)).mono ?_; rintro e u1 ⟨z, z0, z1, _, rfl, hc2, hm2⟩
        have z4 : z < 4 := z1 (by omega)
        refine hK _ _ ?_; clear hK K
        exact ⟨_, _, _, _, _, _, _, _, _, _, _, _, rfl, hc2, hmu.trans hm2, fun h n => (f0 (set_or h (by decide)) (set_same n)).moves hm2, fun h => f1 (set_or h (by decide)), fun _ => ⟨z, rfl, z0, z4⟩, fun h n => (f3 (set_or h (by decide)) (set_same n)).moves hm2, fun h => f4 (set_or h (by decide)), fun h n => (f5 (set_or h (by decide)) (set_same n)).moves hm2, fun h => f6 (set_or h (by decide)), fun h => f7 (set_or h (by decide)), fun h n => (f8 (set_or h (by decide)) (set_same n)).moves hm2, fun h => f9 (set_or h (by decide)), fun h => f10 (set_or h (by decide)), fun h => (f11 (set_or h (by decide))).moves hm2 (by omega) (fun k => set_or k (by decide)), last_kept hr hl f12 (by decide)⟩
      | 3, _, hr =>
        have TR := f0 (ready_waits hr (j := 0) (by kernel_rfl)) (not_last hr hl f12 (by decide))
        have TN := f2 (ready_waits hr (j := 2) (by kernel_rfl))
        obtain ⟨b, s0, s1, s2, s3, rfl, hbg, hrow, q0, q1, q2, q3⟩ := TR
        obtain ⟨z, rfl, z0, z4⟩ := TN
        obtain ⟨k, rfl⟩ : ∃ k : Nat, z = k := ⟨z.toNat, by omega⟩
        have hk : k < 4 := by omega
        clear z0
        have hcell := cell4 hrow k hk q0 q1 q2 q3
        have z0 : (0 : Int) ≤ k := by omega
        refine wpOp_step (o := _) rfl (fun K hK => ?_)
        go_simp
        refine hK _ _ ?_; clear hK K
        exact ⟨_, _, _, _, _, _, _, _, _, _, _, _, rfl, hcu, hmu, fun h n => (f0 (set_or h (by decide)) (set_same n)).moves (Moves.refl g u), fun h => f1 (set_or h (by decide)), fun h => f2 (set_or h (by decide)), fun _ _ => ⟨b, k, hcell.choose, by first | rfl | simp, hbg, hcell.choose_spec⟩, fun h => f4 (set_or h (by decide)), fun h n => (f5 (set_or h (by decide)) (set_same n)).moves (Moves.refl g u), fun h => f6 (set_or h (by decide)), fun h => f7 (set_or h (by decide)), fun h n => (f8 (set_or h (by decide)) (set_same n)).moves (Moves.refl g u), fun h => f9 (set_or h (by decide)), fun h => f10 (set_or h (by decide)), fun h => (f11 (set_or h (by decide))).moves (Moves.refl g u) (by omega) (fun k => set_or k (by decide)), last_kept hr hl f12 (by decide)⟩
      | 4, _, hr =>
        obtain ⟨b, k, s, rfl, hbg, hcl, hs7⟩ := f3 (ready_waits hr (j := 3) (by kernel_rfl)) (not_last hr hl f12 (by decide))
        refine wpOp_step (o := _) rfl (fun K hK => ?_)
        go_simp
        refine hK _ _ ?_; clear hK K
        exact ⟨_, _, _, _, _, _, _, _, _, _, _, _, rfl, hcu, hmu, fun h n => (f0 (set_or h (by decide)) (set_same n)).moves (Moves.refl g u), fun h => f1 (set_or h (by decide)), fun h => f2 (set_or h (by decide)), fun h n => (f3 (set_or h (by decide)) (set_same n)).moves (Moves.refl g u), fun _ => ⟨s, rfl, hs7⟩, fun h n => (f5 (set_or h (by decide)) (set_same n)).moves (Moves.refl g u), fun h => f6 (set_or h (by decide)), fun h => f7 (set_or h (by decide)), fun h n => (f8 (set_or h (by decide)) (set_same n)).moves (Moves.refl g u), fun h => f9 (set_or h (by decide)), fun h => f10 (set_or h (by decide)), fun h => (f11 (set_or h (by decide))).moves (Moves.refl g u) (by omega) (fun k => set_or k (by decide)), last_kept hr hl f12 (by decide)⟩
      | 5, _, hr =>
        refine wpOp_step (o := _) rfl (fun K hK => ?_)
        have h12 := not_last hr hl f12 (by decide)
        go_simp
        refine hK _ _ ?_; clear hK K
        exact ⟨_, _, _, _, _, _, _, _, _, _, _, _, rfl, hcu.alloc _, hmu.alloc _, fun h n => (f0 (set_or h (by decide)) (set_same n)).moves ((Moves.refl g u).alloc _), fun h => f1 (set_or h (by decide)), fun h => f2 (set_or h (by decide)), fun h n => (f3 (set_or h (by decide)) (set_same n)).moves ((Moves.refl g u).alloc _), fun h => f4 (set_or h (by decide)), fun _ _ => TxR.make g u _ _ _ _ (by decide) (by decide) (by decide) (by decide) (by omega), fun h => f6 (set_or h (by decide)), fun h => f7 (set_or h (by decide)), fun h n => (f8 (set_or h (by decide)) (set_same n)).moves ((Moves.refl g u).alloc _), fun h => f9 (set_or h (by decide)), fun h => f10 (set_or h (by decide)), fun h => (f11 (set_or h (by decide))).moves ((Moves.refl g u).alloc _) (by omega) (fun k => set_or k (by decide)), last_kept hr hl f12 (by decide)⟩
      | 6, _, hr =>
        refine wpOp_step (o := _) rfl (fun K hK => ?_)
        go_simp
        refine hK _ _ ?_; clear hK K
        exact ⟨_, _, _, _, _, _, _, _, _, _, _, _, rfl, hcu, hmu, fun h n => (f0 (set_or h (by decide)) (set_same n)).moves (Moves.refl g u), fun h => f1 (set_or h (by decide)), fun h => f2 (set_or h (by decide)), fun h n => (f3 (set_or h (by decide)) (set_same n)).moves (Moves.refl g u), fun h => f4 (set_or h (by decide)), fun h n => (f5 (set_or h (by decide)) (set_same n)).moves (Moves.refl g u), fun _ => rfl, fun h => f7 (set_or h (by decide)), fun h n => (f8 (set_or h (by decide)) (set_same n)).moves (Moves.refl g u), fun h => f9 (set_or h (by decide)), fun h => f10 (set_or h (by decide)), fun h => (f11 (set_or h (by decide))).moves (Moves.refl g u) (by omega) (fun k => set_or k (by decide)), last_kept hr hl f12 (by decide)⟩
      | 7, _, hr =>
        obtain rfl := f6 (ready_waits hr (j := 6) (by kernel_rfl))
        refine wpOp_step (o := _) rfl (fun K hK => ?_)
        go_simp
        refine (below1 g B 4 _ hcu (by omega)).mono ?_; rintro e u1 ⟨z, z0, z1, _, rfl, hc2, hm2⟩
        have z4 : z < 4 := z1 (by omega)
        refine hK _ _ ?_; clear hK K
        exact ⟨_, _, _, _, _, _, _, _, _, _, _, _, rfl, hc2, hmu.trans hm2, fun h n => (f0 (set_or h (by decide)) (set_same n)).moves hm2, fun h => f1 (set_or h (by decide)), fun h => f2 (set_or h (by decide)), fun h n => (f3 (set_or h (by decide)) (set_same n)).moves hm2, fun h => f4 (set_or h (by decide)), fun h n => (f5 (set_or h (by decide)) (set_same n)).moves hm2, fun h => f6 (set_or h (by decide)), fun _ => ⟨z, rfl, z0, z4⟩, fun h n => (f8 (set_or h (by decide)) (set_same n)).moves hm2, fun h => f9 (set_or h (by decide)), fun h => f10 (set_or h (by decide)), fun h => (f11 (set_or h (by decide))).moves hm2 (by omega) (fun k => set_or k (by decide)), last_kept hr hl f12 (by decide)⟩
      | 8, _, hr =>
        have TR := f5 (ready_waits hr (j := 5) (by kernel_rfl)) (not_last hr hl f12 (by decide))
        have TN := f7 (ready_waits hr (j := 7) (by kernel_rfl))
        obtain ⟨b, s0, s1, s2, s3, rfl, hbg, hrow, q0, q1, q2, q3⟩ := TR
        obtain ⟨z, rfl, z0, z4⟩ := TN
        obtain ⟨k, rfl⟩ : ∃ k : Nat, z = k := ⟨z.toNat, by omega⟩
        have hk : k < 4 := by omega
        clear z0
        have hcell := cell4 hrow k hk q0 q1 q2 q3
        have z0 : (0 : Int) ≤ k := by omega
        refine wpOp_step (o := _) rfl (fun K hK => ?_)
        go_simp
        refine hK _ _ ?_; clear hK K
        exact ⟨_, _, _, _, _, _, _, _, _, _, _, _, rfl, hcu, hmu, fun h n => (f0 (set_or h (by decide)) (set_same n)).moves (Moves.refl g u), fun h => f1 (set_or h (by decide)), fun h => f2 (set_or h (by decide)), fun h n => (f3 (set_or h (by decide)) (set_same n)).moves (Moves.refl g u), fun h => f4 (set_or h (by decide)), fun h n => (f5 (set_or h (by decide)) (set_same n)).moves (Moves.refl g u), fun h => f6 (set_or h (by decide)), fun h => f7 (set_or h (by decide)), fun _ _ => ⟨b, k, hcell.choose, by first | rfl | simp, hbg, hcell.choose_spec⟩, fun h => f9 (set_or h (by decide)), fun h => f10 (set_or h (by decide)), fun h => (f11 (set_or h (by decide))).moves (Moves.refl g u) (by omega) (fun k => set_or k (by decide)), last_kept hr hl f12 (by decide)⟩
      | 9, _, hr =>
        obtain ⟨b, k, s, rfl, hbg, hcl, hs7⟩ := f8 (ready_waits hr (j := 8) (by kernel_rfl)) (not_last hr hl f12 (by decide))
        refine wpOp_step (o := _) rfl (fun K hK => ?_)
        go_simp
        refine hK _ _ ?_; clear hK K
        exact ⟨_, _, _, _, _, _, _, _, _, _, _, _, rfl, hcu, hmu, fun h n => (f0 (set_or h (by decide)) (set_same n)).moves (Moves.refl g u), fun h => f1 (set_or h (by decide)), fun h => f2 (set_or h (by decide)), fun h n => (f3 (set_or h (by decide)) (set_same n)).moves (Moves.refl g u), fun h => f4 (set_or h (by decide)), fun h n => (f5 (set_or h (by decide)) (set_same n)).moves (Moves.refl g u), fun h => f6 (set_or h (by decide)), fun h => f7 (set_or h (by decide)), fun h n => (f8 (set_or h (by decide)) (set_same n)).moves (Moves.refl g u), fun _ => ⟨s, rfl, hs7⟩, fun h => f10 (set_or h (by decide)), fun h => (f11 (set_or h (by decide))).moves (Moves.refl g u) (by omega) (fun k => set_or k (by decide)), last_kept hr hl f12 (by decide)⟩
      | 10, _, hr =>
        obtain ⟨s, rfl, hs7⟩ := f4 (ready_waits hr (j := 4) (by kernel_rfl))
        obtain ⟨t, rfl, ht7⟩ := f9 (ready_waits hr (j := 9) (by kernel_rfl))
        refine wpOp_step (o := _) rfl (fun K hK => ?_)
        go_simp
        refine hK _ _ ?_; clear hK K
        exact ⟨_, _, _, _, _, _, _, _, _, _, _, _, rfl, hcu, hmu, fun h n => (f0 (set_or h (by decide)) (set_same n)).moves (Moves.refl g u), fun h => f1 (set_or h (by decide)), fun h => f2 (set_or h (by decide)), fun h n => (f3 (set_or h (by decide)) (set_same n)).moves (Moves.refl g u), fun h => f4 (set_or h (by decide)), fun h n => (f5 (set_or h (by decide)) (set_same n)).moves (Moves.refl g u), fun h => f6 (set_or h (by decide)), fun h => f7 (set_or h (by decide)), fun h n => (f8 (set_or h (by decide)) (set_same n)).moves (Moves.refl g u), fun h => f9 (set_or h (by decide)), fun _ => ⟨⟨s, t⟩, rfl, hs7, ht7⟩, fun h => (f11 (set_or h (by decide))).moves (Moves.refl g u) (by omega) (fun k => set_or k (by decide)), last_kept hr hl f12 (by decide)⟩
      | 11, _, hr =>
        refine wpOp_step (o := _) rfl (fun K hK => ?_)
        have h12 := not_last hr hl f12 (by decide)
        go_simp
        refine hK _ _ ?_; clear hK K
        exact ⟨_, _, _, _, _, _, _, _, _, _, _, _, rfl, hcu.alloc _, hmu.alloc _, fun h n => (f0 (set_or h (by decide)) (set_same n)).moves ((Moves.refl g u).alloc _), fun h => f1 (set_or h (by decide)), fun h => f2 (set_or h (by decide)), fun h n => (f3 (set_or h (by decide)) (set_same n)).moves ((Moves.refl g u).alloc _), fun h => f4 (set_or h (by decide)), fun h n => (f5 (set_or h (by decide)) (set_same n)).moves ((Moves.refl g u).alloc _), fun h => f6 (set_or h (by decide)), fun h => f7 (set_or h (by decide)), fun h n => (f8 (set_or h (by decide)) (set_same n)).moves ((Moves.refl g u).alloc _), fun h => f9 (set_or h (by decide)), fun h => f10 (set_or h (by decide)), fun _ => ⟨u.heap.size, _, rfl, hsu, ⟨rowIs_new u 28 [.string ⟨#[]⟩, .string ⟨#[]⟩], _, _, rfl⟩, fun k => by rw [set_or k (by decide)] at h12; cases h12⟩, last_kept hr hl f12 (by decide)⟩
      | 12, _, hr =>
        obtain ⟨f, rfl, hn, hv⟩ := f10 (ready_waits hr (j := 10) (by kernel_rfl))
        obtain ⟨b, cs, rfl, hb, hrow, _⟩ := f11 (ready_waits hr (j := 11) (by kernel_rfl))
        obtain ⟨v0, v1, rfl⟩ := hrow.2
        have c0 := hrow.1.cell (j := 0) rfl
        have c1 := hrow.1.cell (j := 1) rfl
        have e0 := hrow.1.frozen 0
        have e1 := hrow.1.frozen 1
        have hbl := hrow.1.lt
        refine wpOp_step (o := _) rfl (fun K hK => ?_)
        go_simp
        refine hK _ _ ?_; clear hK K
        exact ⟨_, _, _, _, _, _, _, _, _, _, _, _, rfl, (hcu.set _ _ (by show g < b; omega)).set _ _ (by show g < b; omega), (hmu.setNew _ (by show w1.heap.size ≤ b; omega) _).setNew _ (by show w1.heap.size ≤ b; omega) _, fun h n => absurd n (by rw [set_is (by rw [hl]; decide)]; simp), fun h => f1 (set_or h (by decide)), fun h => f2 (set_or h (by decide)), fun h n => absurd n (by rw [set_is (by rw [hl]; decide)]; simp), fun h => f4 (set_or h (by decide)), fun h n => absurd n (by rw [set_is (by rw [hl]; decide)]; simp), fun h => f6 (set_or h (by decide)), fun h => f7 (set_or h (by decide)), fun h n => absurd n (by rw [set_is (by rw [hl]; decide)]; simp), fun h => f9 (set_or h (by decide)), fun h => f10 (set_or h (by decide)), fun _ => ⟨b, _, rfl, hb, ⟨(hrow.1.set 0 _).set 1 _, _, _, rfl⟩, fun _ => ⟨f, rfl, hn, hv⟩⟩, last_comes hr (by kernel_rfl)⟩
      | n + 13, h, _ => exact absurd h (by show ¬ n + 13 < 13; omega)
  case rest =>
    obtain ⟨b, f, rfl, hb, hrow, hn, hv, hcc, hmc⟩ := hcut
    go_wp2_with fail
    refine (once1 g B 4 _ hcc (by omega)).mono ?_; rintro e w2 ⟨v, rfl, hc2, hm2⟩
    replace hrow := hrow.moves hm2 (by omega)
    replace hmc := hmc.trans hm2
    clear hm2 hcc
    go_upto_if 16 with fail
    go_cut [] (fun wc => ∃ f : Fd, RowIs wc b 28 f.cs ∧ f.n.size ≤ 100 ∧ f.v.size ≤ 100 ∧ Cur wc g B ∧ Moves g w1 wc)
    case first =>
      cases v
      · go_wp2_with fail
        go_meet
        exact ⟨f, hrow, hn, hv, hc2, hmc⟩
      · go_wp2_with fail
        refine (text1 g B 9 _ hc2 (by omega) (by omega)).mono ?_; rintro e w3 ⟨t, ht, rfl, hc3, hm3⟩
        replace hrow := hrow.moves hm3 (by omega)
        replace hmc := hmc.trans hm3
        have c1 := hrow.cell (j := 1) rfl
        have e1 := hrow.frozen 1
        go_wp2_with fail
        go_meet
        exact ⟨⟨f.n, t⟩, hrow.set 1 _, hn, by show t.size ≤ 100; omega, hc3.set ⟨b, 1, none⟩ (.string t) (by show g < b; omega), hmc.setNew ⟨b, 1, none⟩ (by show w1.heap.size ≤ b; omega) (.string t)⟩
    case rest =>
    clear hrow hn hv hc2 hmc
    obtain ⟨f, hrow, hn, hv, hc2, hmc⟩ := hcut
    go_wp2_with fail
    refine (once1 g B 20 _ hc2 (by omega)).mono ?_; rintro e w5 ⟨v5, rfl, hc5, hm5⟩
    replace hrow := hrow.moves hm5 (by omega)
    replace hmc := hmc.trans hm5
    clear hm5 hc2
    go_upto_if 21 with fail
    go_cut [] (fun wc => ∃ f : Fd, RowIs wc b 28 f.cs ∧ f.n.size ≤ 100 ∧ f.v.size ≤ 100 ∧ Cur wc g B ∧ Moves g w1 wc)
    case first =>
      cases v5
      · go_wp2_with fail
        go_meet
        exact ⟨f, hrow, hn, hv, hc5, hmc⟩
      go_wp2_with fail
      refine (below1 g B 3 _ hc5 (by omega)).mono ?_; rintro e w6 ⟨z, z0, z1, _, rfl, hc6, hm6⟩
      replace hrow := hrow.moves hm6 (by omega)
      replace hmc := hmc.trans hm6
      have z3 := z1 (by omega)
      clear hm6 z1
      obtain rfl | rfl | rfl : z = 0 ∨ z = 1 ∨ z = 2 := by omega
      · have c0 := hrow.cell (j := 0) rfl
        have e0 := hrow.frozen 0
        go_wp2_with fail
        go_meet
        exact ⟨⟨⟨#[]⟩, f.v⟩, hrow.set 0 _, by show (0 : Nat) ≤ 100; omega, hv, hc6.set ⟨b, 0, none⟩ (.string ⟨#[]⟩) (by show g < b; omega), hmc.setNew ⟨b, 0, none⟩ (by show w1.heap.size ≤ b; omega) (.string ⟨#[]⟩)⟩
      · go_wp2_with fail
        refine (below1 g B 2 _ hc6 (by omega)).mono ?_; rintro e w7 ⟨y, y0, y1, _, rfl, hc7, hm7⟩
        replace hrow := hrow.moves hm7 (by omega)
        replace hmc := hmc.trans hm7
        have y2 := y1 (by omega)
        clear hm7 y1
        have hg7 : g < w7.heap.size := hc7.lt
        have hbb := hrow.lt
        have c0 := hrow.cell (j := 0) rfl
        have c1 := hrow.cell (j := 1) rfl
        have e0 := hrow.frozen 0
        have e1 := hrow.frozen 1
        obtain rfl | rfl : y = 0 ∨ y = 1 := by omega
        · obtain ⟨M, hM, hMb, hmk⟩ := make_bytes 40 (by omega)
          have hmk1 : ∀ X : World, (Instr.makeSlice 22 (.int .i64 40) (.int .i64 40)).run Try.prog X = .ok (.slice (some ⟨X.heap.size, 0, none⟩) 40 40) (X.alloc (.cells M 5)) := hmk
          obtain ⟨s, hs, hcv⟩ := row_to_string (owns_made w7 M 5 1 40 (by simpa using hM) (by omega)) hMb
          clear hmk hMb hM
          go_wp2_with fail
          go_meet
          exact ⟨⟨s, f.v⟩, (hrow.set 0 (.string s)).alloc _, by show s.size ≤ 100; omega, hv, (hc7.set ⟨b, 0, none⟩ (.string s) (by show g < b; omega)).alloc _, (hmc.setNew ⟨b, 0, none⟩ (by show w1.heap.size ≤ b; omega) (.string s)).alloc _⟩
        · obtain ⟨M, hM, hMb, hmk⟩ := make_bytes 41 (by omega)
          have hmk1 : ∀ X : World, (Instr.makeSlice 22 (.int .i64 41) (.int .i64 41)).run Try.prog X = .ok (.slice (some ⟨X.heap.size, 0, none⟩) 41 41) (X.alloc (.cells M 5)) := hmk
          obtain ⟨s, hs, hcv⟩ := row_to_string (owns_made w7 M 5 1 41 (by simpa using hM) (by omega)) hMb
          clear hmk hMb hM
          go_wp2_with fail
          go_meet
          exact ⟨⟨s, f.v⟩, (hrow.set 0 (.string s)).alloc _, by show s.size ≤ 100; omega, hv, (hc7.set ⟨b, 0, none⟩ (.string s) (by show g < b; omega)).alloc _, (hmc.setNew ⟨b, 0, none⟩ (by show w1.heap.size ≤ b; omega) (.string s)).alloc _⟩
      · go_wp2_with fail
        refine (below1 g B 2 _ hc6 (by omega)).mono ?_; rintro e w7 ⟨y, y0, y1, _, rfl, hc7, hm7⟩
        replace hrow := hrow.moves hm7 (by omega)
        replace hmc := hmc.trans hm7
        have y2 := y1 (by omega)
        clear hm7 y1
        have hg7 : g < w7.heap.size := hc7.lt
        have hbb := hrow.lt
        have c0 := hrow.cell (j := 0) rfl
        have c1 := hrow.cell (j := 1) rfl
        have e0 := hrow.frozen 0
        have e1 := hrow.frozen 1
        obtain rfl | rfl : y = 0 ∨ y = 1 := by omega
        · obtain ⟨M, hM, hMb, hmk⟩ := make_bytes 60 (by omega)
          have hmk1 : ∀ X : World, (Instr.makeSlice 22 (.int .i64 60) (.int .i64 60)).run Try.prog X = .ok (.slice (some ⟨X.heap.size, 0, none⟩) 60 60) (X.alloc (.cells M 5)) := hmk
          obtain ⟨s, hs, hcv⟩ := row_to_string (owns_made w7 M 5 1 60 (by simpa using hM) (by omega)) hMb
          clear hmk hMb hM
          go_wp2_with fail
          go_meet
          exact ⟨⟨f.n, s⟩, (hrow.set 1 (.string s)).alloc _, hn, by show s.size ≤ 100; omega, (hc7.set ⟨b, 1, none⟩ (.string s) (by show g < b; omega)).alloc _, (hmc.setNew ⟨b, 1, none⟩ (by show w1.heap.size ≤ b; omega) (.string s)).alloc _⟩
        · obtain ⟨M, hM, hMb, hmk⟩ := make_bytes 61 (by omega)
          have hmk1 : ∀ X : World, (Instr.makeSlice 22 (.int .i64 61) (.int .i64 61)).run Try.prog X = .ok (.slice (some ⟨X.heap.size, 0, none⟩) 61 61) (X.alloc (.cells M 5)) := hmk
          obtain ⟨s, hs, hcv⟩ := row_to_string (owns_made w7 M 5 1 61 (by simpa using hM) (by omega)) hMb
          clear hmk hMb hM
          go_wp2_with fail
          go_meet
          exact ⟨⟨f.n, s⟩, (hrow.set 1 (.string s)).alloc _, hn, by show s.size ≤ 100; omega, (hc7.set ⟨b, 1, none⟩ (.string s) (by show g < b; omega)).alloc _, (hmc.setNew ⟨b, 1, none⟩ (by show w1.heap.size ≤ b; omega) (.string s)).alloc _⟩
    case rest =>
    clear hrow hn hv hc5 hmc
    obtain ⟨f, hrow, hn, hv, hc5, hmc⟩ := hcut
    have hgb : g < b := by omega
    have hbw : w.heap.size ≠ b := by omega
    have hbw2 : b ≠ w.heap.size := by omega
    have c0 := hrow.cell (j := 0) rfl
    have c1 := hrow.cell (j := 1) rfl
    have hr5 := hr1.moves hmc (by omega)
    have r0 := hr5.cell (j := 0) rfl
    have r1 := hr5.cell (j := 1) rfl
    have p0 := hr5.frozen 0
    have p1 := hr5.frozen 1
    have hwb := hr5.lt
    have hbb := hrow.lt
    go_wp2_with fail
    refine bodyPost_ret (v := (.agg #[.string f.n, .string f.v])) (by simp [results, Try.results38, go_sem, *]) rfl ?_
    exact ⟨f, hn, hv, rfl, (hc5.set ⟨w.heap.size, 0, none⟩ (.string f.n) (by show g < w.heap.size; omega)).set ⟨w.heap.size, 1, none⟩ (.string f.v) (by show g < w.heap.size; omega), ((hm1.trans hmc).setNew ⟨w.heap.size, 0, none⟩ (Nat.le_refl w.heap.size) (.string f.n)).setNew ⟨w.heap.size, 1, none⟩ (Nat.le_refl w.heap.size) (.string f.v)⟩
end Go.Proofs.Ythjbmmppckgcjaa
