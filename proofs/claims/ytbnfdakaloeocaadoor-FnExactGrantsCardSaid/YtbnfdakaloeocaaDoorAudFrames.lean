/- Chapter 19, the program: framesOf keeps those Frames that are of one Kind and Stream. -/
import Derived.Test.YtbnfdakaloeocaaDoorAudFrames2
import Derived.Test.YtbnfdakaloeocaaDoorFrReads
import Derived.Test.YtbnfdakaloeocaaDoorRowNew
import Derived.Deep.RegionHeld3
import Derived.Deep.LoopGhost
import Derived.WalkMore
import Derived.Deep.Cut
import Derived.Deep.DeepCutAuto


namespace Go.Proofs.YtbnfdakaloeocaaDoor
open Go.RowKit
set_option maxRecDepth 100000
set_option linter.unusedSimpArgs false
set_option linter.unusedVariables false
set_option maxHeartbeats 4000000 in
theorem implFramesOf (s : ByteArray) (k id : Int) (a0 a2 : Addr) (w : World) (hs : s.size ≤ 2097152) (he : Errs w a0 a2) :
    Calls Tryd.prog 10 #[.string s, .int .i64 k, .int .i64 id] w fun x w' => ∃ v', x = .returned v' ∧ w'.ownsRow w.heap.size 28 4 v' (keepF k id (frsV s)).length (fr (keepF k id (frsV s))) ∧ Below w.heap.size w w' := by
  have hsp := fun w he => implFrames s a0 a2 w hs he
  obtain ⟨L, hL⟩ : ∃ L, frsV s = L := ⟨_, rfl⟩
  have hlen : L.length ≤ 2097152 := by rw [← hL]; exact Nat.le_trans (frsV_len s) hs
  rw [hL]
  rw [show (frmV s).1 = L from hL] at hsp
  obtain ⟨Z1, hZ1⟩ : ∃ Z, (frmV s).2.1 = Z := ⟨_, rfl⟩
  obtain ⟨Z2, hZ2⟩ : ∃ Z, (frmV s).2.2 = Z := ⟨_, rfl⟩
  rw [hZ1, hZ2] at hsp
  clear hZ1 hZ2 hL
  have hX : Below w.heap.size w (w.alloc (.cells #[.int .i64 k] 2)) := (Below.refl _ _).alloc (Nat.le_refl _) _
  have R1 := rowIs_new w 2 [.int .i64 k]
  have hY : Below (w.alloc (.cells #[.int .i64 k] 2)).heap.size (w.alloc (.cells #[.int .i64 k] 2)) ((w.alloc (.cells #[.int .i64 k] 2)).alloc (.cells #[.int .i64 id] 2)) := (Below.refl _ _).alloc (Nat.le_refl _) _
  replace R1 := R1.new hY
  have R2 := rowIs_new (w.alloc (.cells #[.int .i64 k] 2)) 2 [.int .i64 id]
  have hsz : (w.alloc (.cells #[.int .i64 k] 2)).heap.size = w.heap.size + 1 := by simp
  rw [hsz] at R2
  have HB := hide (bchain hX hY)
  have HE := hide (he.new HB.out)
  clear hX hY hsz he
  go_enter Tryd.func10, Tryd.ntmps10
  go_upto_region 1 with fail
  generalize (w.alloc (.cells #[.int .i64 k] 2)).alloc (.cells #[.int .i64 id] 2) = W at *
  have l1 := R1.lt
  have l2 := R2.lt
  have c1 := hide (R1.cell (j := 0) rfl)
  have c2 := hide (R2.cell (j := 0) rfl)
  clear R1 R2
  go_wp2_with fail
  refine (hsp _ HE.out).mono ?_; rintro x w1 ⟨v, rfl, ho, hb1⟩
  have hR := reads_of_owns ho
  obtain ⟨_, ad, cap, rfl, _⟩ := hR
  replace c1 := hide ((hb1.cell (p := ⟨w.heap.size, 0, none⟩) l1).trans c1.out)
  replace c2 := hide ((hb1.cell (p := ⟨w.heap.size + 1, 0, none⟩) l2).trans c2.out)
  have hs1 := hb1.size
  replace HB := hide (bchain HB.out hb1)
  have HR := hide (reads_of_owns ho)
  clear hsp HE ho hb1
  go_wp2_with fail
  have hbF : Below w1.heap.size w1 (w1.alloc (.cells #[.func (.func 17) #[] #[.pointer (some ⟨w.heap.size, 0, none⟩), .pointer (some ⟨w.heap.size + 1, 0, none⟩)]] 32)) := (Below.refl _ _).alloc (Nat.le_refl _) _
  have RF := rowIs_new w1 32 [.func (.func 17) #[] #[.pointer (some ⟨w.heap.size, 0, none⟩), .pointer (some ⟨w.heap.size + 1, 0, none⟩)]]
  refine (implOnlyF L k id _ ⟨w1.heap.size, 0, none⟩ w.heap.size (w.heap.size + 1) (w1.alloc (.cells #[.func (.func 17) #[] #[.pointer (some ⟨w.heap.size, 0, none⟩), .pointer (some ⟨w.heap.size + 1, 0, none⟩)]] 32)) hlen (HR.out.new hbF) (RF.cell (j := 0) rfl) RF.lt ((hbF.cell (p := ⟨w.heap.size, 0, none⟩) (by show w.heap.size < _; omega)).trans c1.out) ((hbF.cell (p := ⟨w.heap.size + 1, 0, none⟩) (by show w.heap.size + 1 < _; omega)).trans c2.out) (by simp; omega) (by simp; omega)).mono ?_
  rintro z w2 ⟨v2, rfl, ho2, hb2⟩
  obtain ⟨a2, p2, rfl, _⟩ := owns_form ho2
  have hBF := bchain HB.out hbF
  replace HB := hide (bchain hBF hb2)
  have HO := hide (owns_base (base' := w.heap.size) ho2 (fun q hq => Nat.le_trans hBF.size (ho2.lt q hq).1))
  clear hb2 ho2 RF hbF hBF
  go_wp2_with fail
  go_ret
  exact ⟨_, rfl, HO.out, HB.out⟩
end Go.Proofs.YtbnfdakaloeocaaDoor
