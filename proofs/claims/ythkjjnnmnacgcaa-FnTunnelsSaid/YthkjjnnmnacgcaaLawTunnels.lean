/- The law FnTunnels returns true at every argument and leaves it as it was. No condition. -/
import Derived.Test.YthkjjnnmnacgcaaTunSpec3
import Derived.Test.YthkjjnnmnacgcaaTunImpl
import Derived.Test.YthkjjnnmnacgcaaTunDraw
import Derived.Test.YthkjjnnmnacgcaaTunLaw
import Derived.Deep.DeepCutAuto
import Derived.Deep.RegionHeld3
import Derived.WalkKit
import Derived.ProofKit
import Derived.OpenShut
import Derived.ShutString
import Derived.ChangeOld
import Derived.Below
import Derived.Lib.SmallJoins

namespace Go.Proofs.Ythkjjnnmnacgcaa
open Go.RowKit
set_option maxRecDepth 100000
set_option linter.unusedSimpArgs false
set_option linter.unusedVariables false
namespace lawTunnels
set_option maxHeartbeats 8000000 in
set_option maxRecDepth 100000 in
theorem walk (a : Option Addr) (len cap : Nat) (w : World) (hl : len ≤ maxLen) (hcode : CodeAt w a len w.heap.size) :
    Calls Try.prog 3 #[.slice a len cap] w fun x w' => x = .returned (.bool true) ∧ Below w.heap.size w w' := by
  unfold maxLen at hl
  by_cases hbig : (4096 : Int) < len
  · go_enter Try.func3, Try.ntmps3
    go_wp2_with fail
    refine (big1 a len cap _).mono ?_; rw [decide_eq_true hbig]; rintro x w1 ⟨rfl, rfl⟩
    go_wp2_with fail
    go_ret
    exact ⟨rfl, Below.refl _ _⟩
  have hl' : len ≤ 4096 := by omega
  have HCODE := hide hcode
  clear hcode
  go_enter Try.func3, Try.ntmps3
  go_wp2_with fail
  refine (big1 a len cap _).mono ?_; rw [decide_eq_false (by omega)]; rintro x w0 ⟨rfl, rfl⟩
  have HBW := hide (Below.refl w0.heap.size w0)
  go_wp2_with fail
  refine (drawIn16 a len cap _ hl' (HCODE.out.behind HBW.out)).mono ?_; rintro x w1 ⟨t, s, fin, t1, t2, hs, rfl, hb⟩
  replace HBW := hide (bchain HBW.out hb)
  clear hb
  go_upto_region 4 with (refine wpList_store_row (by rfl) 27 _ _ (by rfl) w1.heap.size [.int .i64 t.up.r, .string t.up.b, .bool t.up.e, .bool t.up.k, .int .i64 t.dn.r, .string t.dn.b, .bool t.dn.e, .bool t.dn.k, .int .i64 t.went, .int .i64 t.came] (by rfl) (by rfl) 27 [.int .i64 0, .string ⟨#[]⟩, .bool false, .bool false, .int .i64 0, .string ⟨#[]⟩, .bool false, .bool false, .int .i64 0, .int .i64 0] (rowIs_new w1 27 [.int .i64 0, .string ⟨#[]⟩, .bool false, .bool false, .int .i64 0, .string ⟨#[]⟩, .bool false, .bool false, .int .i64 0, .int .i64 0]) (by kernel_rfl) rfl (by intro u hu; simp at hu; rcases hu with rfl | rfl | rfl | rfl | rfl | rfl | rfl | rfl | rfl | rfl <;> rfl) ?_)
  have BT : Hid (BxU ((w1.alloc (.cells #[.int .i64 0, .string ⟨#[]⟩, .bool false, .bool false, .int .i64 0, .string ⟨#[]⟩, .bool false, .bool false, .int .i64 0, .int .i64 0] 27)).setRow w1.heap.size #[.int .i64 t.up.r, .string t.up.b, .bool t.up.e, .bool t.up.k, .int .i64 t.dn.r, .string t.dn.b, .bool t.dn.e, .bool t.dn.k, .int .i64 t.went, .int .i64 t.came]) w1.heap.size t) := ⟨rowIs_setRow (cs' := [.int .i64 t.up.r, .string t.up.b, .bool t.up.e, .bool t.up.k, .int .i64 t.dn.r, .string t.dn.b, .bool t.dn.e, .bool t.dn.k, .int .i64 t.went, .int .i64 t.came]) (rowIs_new w1 27 [.int .i64 0, .string ⟨#[]⟩, .bool false, .bool false, .int .i64 0, .string ⟨#[]⟩, .bool false, .bool false, .int .i64 0, .int .i64 0])⟩
  have hbV : Below w1.heap.size w1 ((w1.alloc (.cells #[.int .i64 0, .string ⟨#[]⟩, .bool false, .bool false, .int .i64 0, .string ⟨#[]⟩, .bool false, .bool false, .int .i64 0, .int .i64 0] 27)).setRow w1.heap.size #[.int .i64 t.up.r, .string t.up.b, .bool t.up.e, .bool t.up.k, .int .i64 t.dn.r, .string t.dn.b, .bool t.dn.e, .bool t.dn.k, .int .i64 t.went, .int .i64 t.came]) := below_setRow ((Below.refl _ _).alloc (Nat.le_refl _) _) (Nat.le_refl _) #[.int .i64 t.up.r, .string t.up.b, .bool t.up.e, .bool t.up.k, .int .i64 t.dn.r, .string t.dn.b, .bool t.dn.e, .bool t.dn.k, .int .i64 t.went, .int .i64 t.came]
  replace HBW := hide (bchain HBW.out hbV)
  clear hbV
  generalize hV : (w1.alloc (.cells #[.int .i64 0, .string ⟨#[]⟩, .bool false, .bool false, .int .i64 0, .string ⟨#[]⟩, .bool false, .bool false, .int .i64 0, .int .i64 0] 27)).setRow w1.heap.size #[.int .i64 t.up.r, .string t.up.b, .bool t.up.e, .bool t.up.k, .int .i64 t.dn.r, .string t.dn.b, .bool t.dn.e, .bool t.dn.k, .int .i64 t.went, .int .i64 t.came] = v1 at *
  clear hV
  generalize w1.heap.size = gBT at *
  have ts : t.up.b.size ≤ maxLen := by unfold maxLen; omega
  have ts2 : t.dn.b.size ≤ maxLen := by unfold maxLen; omega
  have hs2 : s.size ≤ 1048576 := by omega
  have iIn := fun w => implIn16 t s fin w ts ts2 hs2
  have sIn := fun w => specIn16 t s fin w ts ts2 hs2
  have hxs := in_sm (t := t) (s := s) fin t1 t2 hs
  obtain ⟨⟨x, is⟩, hX⟩ : ∃ y, inTu t s fin = y := ⟨_, rfl⟩
  rw [hX] at iIn sIn hxs
  have HX := hide hX
  dsimp only at iIn sIn hxs
  have xs1 : x.up.b.size ≤ maxLen := by unfold maxLen; have := hxs.1; omega
  have xs2 : x.dn.b.size ≤ maxLen := by unfold maxLen; have := hxs.2; omega
  have hii : (is != is) = false := by simp
  clear hX hxs
  go_wp2_with (first | (refine wpList_load_row (by rfl) 27 _ (by rfl) gBT (by rfl) [.int .i64 t.up.r, .string t.up.b, .bool t.up.e, .bool t.up.k, .int .i64 t.dn.r, .string t.dn.b, .bool t.dn.e, .bool t.dn.k, .int .i64 t.went, .int .i64 t.came] _ 27 BT.out.row Try.underlying27 rfl (by kernel_rfl) ?_))
  refine (iIn _).mono ?_; clear iIn; rintro x9 w2 ⟨rfl, hb⟩
  replace BT := hide (BT.out.new hb)
  replace HBW := hide (bchain HBW.out hb)
  clear hb
  go_upto_region 5 with (refine wpList_store_row (by rfl) 27 _ _ (by rfl) w2.heap.size [.int .i64 x.up.r, .string x.up.b, .bool x.up.e, .bool x.up.k, .int .i64 x.dn.r, .string x.dn.b, .bool x.dn.e, .bool x.dn.k, .int .i64 x.went, .int .i64 x.came] (by rfl) (by rfl) 27 [.int .i64 0, .string ⟨#[]⟩, .bool false, .bool false, .int .i64 0, .string ⟨#[]⟩, .bool false, .bool false, .int .i64 0, .int .i64 0] (rowIs_new w2 27 [.int .i64 0, .string ⟨#[]⟩, .bool false, .bool false, .int .i64 0, .string ⟨#[]⟩, .bool false, .bool false, .int .i64 0, .int .i64 0]) (by kernel_rfl) rfl (by intro u hu; simp at hu; rcases hu with rfl | rfl | rfl | rfl | rfl | rfl | rfl | rfl | rfl | rfl <;> rfl) ?_)
  have BX : Hid (BxU ((w2.alloc (.cells #[.int .i64 0, .string ⟨#[]⟩, .bool false, .bool false, .int .i64 0, .string ⟨#[]⟩, .bool false, .bool false, .int .i64 0, .int .i64 0] 27)).setRow w2.heap.size #[.int .i64 x.up.r, .string x.up.b, .bool x.up.e, .bool x.up.k, .int .i64 x.dn.r, .string x.dn.b, .bool x.dn.e, .bool x.dn.k, .int .i64 x.went, .int .i64 x.came]) w2.heap.size x) := ⟨rowIs_setRow (cs' := [.int .i64 x.up.r, .string x.up.b, .bool x.up.e, .bool x.up.k, .int .i64 x.dn.r, .string x.dn.b, .bool x.dn.e, .bool x.dn.k, .int .i64 x.went, .int .i64 x.came]) (rowIs_new w2 27 [.int .i64 0, .string ⟨#[]⟩, .bool false, .bool false, .int .i64 0, .string ⟨#[]⟩, .bool false, .bool false, .int .i64 0, .int .i64 0])⟩
  have hbV : Below w2.heap.size w2 ((w2.alloc (.cells #[.int .i64 0, .string ⟨#[]⟩, .bool false, .bool false, .int .i64 0, .string ⟨#[]⟩, .bool false, .bool false, .int .i64 0, .int .i64 0] 27)).setRow w2.heap.size #[.int .i64 x.up.r, .string x.up.b, .bool x.up.e, .bool x.up.k, .int .i64 x.dn.r, .string x.dn.b, .bool x.dn.e, .bool x.dn.k, .int .i64 x.went, .int .i64 x.came]) := below_setRow ((Below.refl _ _).alloc (Nat.le_refl _) _) (Nat.le_refl _) #[.int .i64 x.up.r, .string x.up.b, .bool x.up.e, .bool x.up.k, .int .i64 x.dn.r, .string x.dn.b, .bool x.dn.e, .bool x.dn.k, .int .i64 x.went, .int .i64 x.came]
  replace BT := hide (BT.out.new hbV)
  replace HBW := hide (bchain HBW.out hbV)
  clear hbV
  generalize hV : (w2.alloc (.cells #[.int .i64 0, .string ⟨#[]⟩, .bool false, .bool false, .int .i64 0, .string ⟨#[]⟩, .bool false, .bool false, .int .i64 0, .int .i64 0] 27)).setRow w2.heap.size #[.int .i64 x.up.r, .string x.up.b, .bool x.up.e, .bool x.up.k, .int .i64 x.dn.r, .string x.dn.b, .bool x.dn.e, .bool x.dn.k, .int .i64 x.went, .int .i64 x.came] = v2 at *
  clear hV
  generalize w2.heap.size = gBX at *
  go_wp2_with fail
  refine (drawOut16 a len cap _ hl' (HCODE.out.behind HBW.out)).mono ?_; rintro x w3 ⟨ad, n, a1, a2, rfl, hb⟩
  replace BT := hide (BT.out.new hb)
  replace BX := hide (BX.out.new hb)
  replace HBW := hide (bchain HBW.out hb)
  clear hb
  go_upto_region 6 with (refine wpList_store_row (by rfl) 27 _ _ (by rfl) w3.heap.size [.int .i64 ad.up.r, .string ad.up.b, .bool ad.up.e, .bool ad.up.k, .int .i64 ad.dn.r, .string ad.dn.b, .bool ad.dn.e, .bool ad.dn.k, .int .i64 ad.went, .int .i64 ad.came] (by rfl) (by rfl) 27 [.int .i64 0, .string ⟨#[]⟩, .bool false, .bool false, .int .i64 0, .string ⟨#[]⟩, .bool false, .bool false, .int .i64 0, .int .i64 0] (rowIs_new w3 27 [.int .i64 0, .string ⟨#[]⟩, .bool false, .bool false, .int .i64 0, .string ⟨#[]⟩, .bool false, .bool false, .int .i64 0, .int .i64 0]) (by kernel_rfl) rfl (by intro u hu; simp at hu; rcases hu with rfl | rfl | rfl | rfl | rfl | rfl | rfl | rfl | rfl | rfl <;> rfl) ?_)
  have BA : Hid (BxU ((w3.alloc (.cells #[.int .i64 0, .string ⟨#[]⟩, .bool false, .bool false, .int .i64 0, .string ⟨#[]⟩, .bool false, .bool false, .int .i64 0, .int .i64 0] 27)).setRow w3.heap.size #[.int .i64 ad.up.r, .string ad.up.b, .bool ad.up.e, .bool ad.up.k, .int .i64 ad.dn.r, .string ad.dn.b, .bool ad.dn.e, .bool ad.dn.k, .int .i64 ad.went, .int .i64 ad.came]) w3.heap.size ad) := ⟨rowIs_setRow (cs' := [.int .i64 ad.up.r, .string ad.up.b, .bool ad.up.e, .bool ad.up.k, .int .i64 ad.dn.r, .string ad.dn.b, .bool ad.dn.e, .bool ad.dn.k, .int .i64 ad.went, .int .i64 ad.came]) (rowIs_new w3 27 [.int .i64 0, .string ⟨#[]⟩, .bool false, .bool false, .int .i64 0, .string ⟨#[]⟩, .bool false, .bool false, .int .i64 0, .int .i64 0])⟩
  have hbV : Below w3.heap.size w3 ((w3.alloc (.cells #[.int .i64 0, .string ⟨#[]⟩, .bool false, .bool false, .int .i64 0, .string ⟨#[]⟩, .bool false, .bool false, .int .i64 0, .int .i64 0] 27)).setRow w3.heap.size #[.int .i64 ad.up.r, .string ad.up.b, .bool ad.up.e, .bool ad.up.k, .int .i64 ad.dn.r, .string ad.dn.b, .bool ad.dn.e, .bool ad.dn.k, .int .i64 ad.went, .int .i64 ad.came]) := below_setRow ((Below.refl _ _).alloc (Nat.le_refl _) _) (Nat.le_refl _) #[.int .i64 ad.up.r, .string ad.up.b, .bool ad.up.e, .bool ad.up.k, .int .i64 ad.dn.r, .string ad.dn.b, .bool ad.dn.e, .bool ad.dn.k, .int .i64 ad.went, .int .i64 ad.came]
  replace BT := hide (BT.out.new hbV)
  replace BX := hide (BX.out.new hbV)
  replace HBW := hide (bchain HBW.out hbV)
  clear hbV
  generalize hV : (w3.alloc (.cells #[.int .i64 0, .string ⟨#[]⟩, .bool false, .bool false, .int .i64 0, .string ⟨#[]⟩, .bool false, .bool false, .int .i64 0, .int .i64 0] 27)).setRow w3.heap.size #[.int .i64 ad.up.r, .string ad.up.b, .bool ad.up.e, .bool ad.up.k, .int .i64 ad.dn.r, .string ad.dn.b, .bool ad.dn.e, .bool ad.dn.k, .int .i64 ad.went, .int .i64 ad.came] = v3 at *
  clear hV
  generalize w3.heap.size = gBA at *
  have as1 : ad.up.b.size ≤ maxLen := by unfold maxLen; omega
  have as2 : ad.dn.b.size ≤ maxLen := by unfold maxLen; omega
  have iOu := fun w => implOut ad n w as1 as2
  have sOu := fun w => specOut ad n w as1 as2
  have hys := out_sm (t := ad) n a1 a2
  obtain ⟨⟨y, u⟩, hY⟩ : ∃ z, outTu ad n = z := ⟨_, rfl⟩
  rw [hY] at iOu sOu hys
  have HY := hide hY
  dsimp only at iOu sOu hys
  have ys1 : y.up.b.size ≤ maxLen := by unfold maxLen; have := hys.1; omega
  have ys2 : y.dn.b.size ≤ maxLen := by unfold maxLen; have := hys.2; omega
  have huu : (u.toList != u.toList) = false := by simp
  clear hY hys
  go_wp2_with (first | (refine wpList_load_row (by rfl) 27 _ (by rfl) gBA (by rfl) [.int .i64 ad.up.r, .string ad.up.b, .bool ad.up.e, .bool ad.up.k, .int .i64 ad.dn.r, .string ad.dn.b, .bool ad.dn.e, .bool ad.dn.k, .int .i64 ad.went, .int .i64 ad.came] _ 27 BA.out.row Try.underlying27 rfl (by kernel_rfl) ?_))
  refine (iOu _).mono ?_; clear iOu; rintro x9 w4 ⟨rfl, hb⟩
  replace BT := hide (BT.out.new hb)
  replace BX := hide (BX.out.new hb)
  replace BA := hide (BA.out.new hb)
  replace HBW := hide (bchain HBW.out hb)
  clear hb
  go_upto_region 7 with (refine wpList_store_row (by rfl) 27 _ _ (by rfl) w4.heap.size [.int .i64 y.up.r, .string y.up.b, .bool y.up.e, .bool y.up.k, .int .i64 y.dn.r, .string y.dn.b, .bool y.dn.e, .bool y.dn.k, .int .i64 y.went, .int .i64 y.came] (by rfl) (by rfl) 27 [.int .i64 0, .string ⟨#[]⟩, .bool false, .bool false, .int .i64 0, .string ⟨#[]⟩, .bool false, .bool false, .int .i64 0, .int .i64 0] (rowIs_new w4 27 [.int .i64 0, .string ⟨#[]⟩, .bool false, .bool false, .int .i64 0, .string ⟨#[]⟩, .bool false, .bool false, .int .i64 0, .int .i64 0]) (by kernel_rfl) rfl (by intro u hu; simp at hu; rcases hu with rfl | rfl | rfl | rfl | rfl | rfl | rfl | rfl | rfl | rfl <;> rfl) ?_)
  have BY : Hid (BxU ((w4.alloc (.cells #[.int .i64 0, .string ⟨#[]⟩, .bool false, .bool false, .int .i64 0, .string ⟨#[]⟩, .bool false, .bool false, .int .i64 0, .int .i64 0] 27)).setRow w4.heap.size #[.int .i64 y.up.r, .string y.up.b, .bool y.up.e, .bool y.up.k, .int .i64 y.dn.r, .string y.dn.b, .bool y.dn.e, .bool y.dn.k, .int .i64 y.went, .int .i64 y.came]) w4.heap.size y) := ⟨rowIs_setRow (cs' := [.int .i64 y.up.r, .string y.up.b, .bool y.up.e, .bool y.up.k, .int .i64 y.dn.r, .string y.dn.b, .bool y.dn.e, .bool y.dn.k, .int .i64 y.went, .int .i64 y.came]) (rowIs_new w4 27 [.int .i64 0, .string ⟨#[]⟩, .bool false, .bool false, .int .i64 0, .string ⟨#[]⟩, .bool false, .bool false, .int .i64 0, .int .i64 0])⟩
  have hbV : Below w4.heap.size w4 ((w4.alloc (.cells #[.int .i64 0, .string ⟨#[]⟩, .bool false, .bool false, .int .i64 0, .string ⟨#[]⟩, .bool false, .bool false, .int .i64 0, .int .i64 0] 27)).setRow w4.heap.size #[.int .i64 y.up.r, .string y.up.b, .bool y.up.e, .bool y.up.k, .int .i64 y.dn.r, .string y.dn.b, .bool y.dn.e, .bool y.dn.k, .int .i64 y.went, .int .i64 y.came]) := below_setRow ((Below.refl _ _).alloc (Nat.le_refl _) _) (Nat.le_refl _) #[.int .i64 y.up.r, .string y.up.b, .bool y.up.e, .bool y.up.k, .int .i64 y.dn.r, .string y.dn.b, .bool y.dn.e, .bool y.dn.k, .int .i64 y.went, .int .i64 y.came]
  replace BT := hide (BT.out.new hbV)
  replace BX := hide (BX.out.new hbV)
  replace BA := hide (BA.out.new hbV)
  replace HBW := hide (bchain HBW.out hbV)
  clear hbV
  generalize hV : (w4.alloc (.cells #[.int .i64 0, .string ⟨#[]⟩, .bool false, .bool false, .int .i64 0, .string ⟨#[]⟩, .bool false, .bool false, .int .i64 0, .int .i64 0] 27)).setRow w4.heap.size #[.int .i64 y.up.r, .string y.up.b, .bool y.up.e, .bool y.up.k, .int .i64 y.dn.r, .string y.dn.b, .bool y.dn.e, .bool y.dn.k, .int .i64 y.went, .int .i64 y.came] = v4 at *
  clear hV
  generalize w4.heap.size = gBY at *
  go_wp2_with fail
  refine (drawBack16 a len cap _ hl' (HCODE.out.behind HBW.out)).mono ?_; rintro x w5 ⟨bd, v, last, b1, b2, hv, rfl, hb⟩
  replace BT := hide (BT.out.new hb)
  replace BX := hide (BX.out.new hb)
  replace BA := hide (BA.out.new hb)
  replace BY := hide (BY.out.new hb)
  replace HBW := hide (bchain HBW.out hb)
  clear hb
  go_upto_region 8 with (refine wpList_store_row (by rfl) 27 _ _ (by rfl) w5.heap.size [.int .i64 bd.up.r, .string bd.up.b, .bool bd.up.e, .bool bd.up.k, .int .i64 bd.dn.r, .string bd.dn.b, .bool bd.dn.e, .bool bd.dn.k, .int .i64 bd.went, .int .i64 bd.came] (by rfl) (by rfl) 27 [.int .i64 0, .string ⟨#[]⟩, .bool false, .bool false, .int .i64 0, .string ⟨#[]⟩, .bool false, .bool false, .int .i64 0, .int .i64 0] (rowIs_new w5 27 [.int .i64 0, .string ⟨#[]⟩, .bool false, .bool false, .int .i64 0, .string ⟨#[]⟩, .bool false, .bool false, .int .i64 0, .int .i64 0]) (by kernel_rfl) rfl (by intro u hu; simp at hu; rcases hu with rfl | rfl | rfl | rfl | rfl | rfl | rfl | rfl | rfl | rfl <;> rfl) ?_)
  have BB : Hid (BxU ((w5.alloc (.cells #[.int .i64 0, .string ⟨#[]⟩, .bool false, .bool false, .int .i64 0, .string ⟨#[]⟩, .bool false, .bool false, .int .i64 0, .int .i64 0] 27)).setRow w5.heap.size #[.int .i64 bd.up.r, .string bd.up.b, .bool bd.up.e, .bool bd.up.k, .int .i64 bd.dn.r, .string bd.dn.b, .bool bd.dn.e, .bool bd.dn.k, .int .i64 bd.went, .int .i64 bd.came]) w5.heap.size bd) := ⟨rowIs_setRow (cs' := [.int .i64 bd.up.r, .string bd.up.b, .bool bd.up.e, .bool bd.up.k, .int .i64 bd.dn.r, .string bd.dn.b, .bool bd.dn.e, .bool bd.dn.k, .int .i64 bd.went, .int .i64 bd.came]) (rowIs_new w5 27 [.int .i64 0, .string ⟨#[]⟩, .bool false, .bool false, .int .i64 0, .string ⟨#[]⟩, .bool false, .bool false, .int .i64 0, .int .i64 0])⟩
  have hbV : Below w5.heap.size w5 ((w5.alloc (.cells #[.int .i64 0, .string ⟨#[]⟩, .bool false, .bool false, .int .i64 0, .string ⟨#[]⟩, .bool false, .bool false, .int .i64 0, .int .i64 0] 27)).setRow w5.heap.size #[.int .i64 bd.up.r, .string bd.up.b, .bool bd.up.e, .bool bd.up.k, .int .i64 bd.dn.r, .string bd.dn.b, .bool bd.dn.e, .bool bd.dn.k, .int .i64 bd.went, .int .i64 bd.came]) := below_setRow ((Below.refl _ _).alloc (Nat.le_refl _) _) (Nat.le_refl _) #[.int .i64 bd.up.r, .string bd.up.b, .bool bd.up.e, .bool bd.up.k, .int .i64 bd.dn.r, .string bd.dn.b, .bool bd.dn.e, .bool bd.dn.k, .int .i64 bd.went, .int .i64 bd.came]
  replace BT := hide (BT.out.new hbV)
  replace BX := hide (BX.out.new hbV)
  replace BA := hide (BA.out.new hbV)
  replace BY := hide (BY.out.new hbV)
  replace HBW := hide (bchain HBW.out hbV)
  clear hbV
  generalize hV : (w5.alloc (.cells #[.int .i64 0, .string ⟨#[]⟩, .bool false, .bool false, .int .i64 0, .string ⟨#[]⟩, .bool false, .bool false, .int .i64 0, .int .i64 0] 27)).setRow w5.heap.size #[.int .i64 bd.up.r, .string bd.up.b, .bool bd.up.e, .bool bd.up.k, .int .i64 bd.dn.r, .string bd.dn.b, .bool bd.dn.e, .bool bd.dn.k, .int .i64 bd.went, .int .i64 bd.came] = v5 at *
  clear hV
  generalize w5.heap.size = gBB at *
  have bs1 : bd.up.b.size ≤ maxLen := by unfold maxLen; omega
  have bs2 : bd.dn.b.size ≤ maxLen := by unfold maxLen; omega
  have hv2 : v.size ≤ 1048576 := by omega
  have iBa := fun w => implBack bd v last w bs1 bs2 hv2
  have sBa := fun w => specBack bd v last w bs1 bs2 hv2
  have hzs := bck_sm (t := bd) (s := v) last b1 b2 hv
  obtain ⟨⟨z, kk⟩, hZ⟩ : ∃ q, bckTu bd v last = q := ⟨_, rfl⟩
  rw [hZ] at iBa sBa hzs
  have HZ := hide hZ
  dsimp only at iBa sBa hzs
  have zs1 : z.up.b.size ≤ maxLen := by unfold maxLen; have := hzs.1; omega
  have zs2 : z.dn.b.size ≤ maxLen := by unfold maxLen; have := hzs.2; omega
  have hkk : (kk != kk) = false := by simp
  clear hZ hzs
  go_wp2_with (first | (refine wpList_load_row (by rfl) 27 _ (by rfl) gBB (by rfl) [.int .i64 bd.up.r, .string bd.up.b, .bool bd.up.e, .bool bd.up.k, .int .i64 bd.dn.r, .string bd.dn.b, .bool bd.dn.e, .bool bd.dn.k, .int .i64 bd.went, .int .i64 bd.came] _ 27 BB.out.row Try.underlying27 rfl (by kernel_rfl) ?_))
  refine (iBa _).mono ?_; clear iBa; rintro x9 w6 ⟨rfl, hb⟩
  replace BT := hide (BT.out.new hb)
  replace BX := hide (BX.out.new hb)
  replace BA := hide (BA.out.new hb)
  replace BY := hide (BY.out.new hb)
  replace BB := hide (BB.out.new hb)
  replace HBW := hide (bchain HBW.out hb)
  clear hb
  go_upto_region 9 with (refine wpList_store_row (by rfl) 27 _ _ (by rfl) w6.heap.size [.int .i64 z.up.r, .string z.up.b, .bool z.up.e, .bool z.up.k, .int .i64 z.dn.r, .string z.dn.b, .bool z.dn.e, .bool z.dn.k, .int .i64 z.went, .int .i64 z.came] (by rfl) (by rfl) 27 [.int .i64 0, .string ⟨#[]⟩, .bool false, .bool false, .int .i64 0, .string ⟨#[]⟩, .bool false, .bool false, .int .i64 0, .int .i64 0] (rowIs_new w6 27 [.int .i64 0, .string ⟨#[]⟩, .bool false, .bool false, .int .i64 0, .string ⟨#[]⟩, .bool false, .bool false, .int .i64 0, .int .i64 0]) (by kernel_rfl) rfl (by intro u hu; simp at hu; rcases hu with rfl | rfl | rfl | rfl | rfl | rfl | rfl | rfl | rfl | rfl <;> rfl) ?_)
  have BZ : Hid (BxU ((w6.alloc (.cells #[.int .i64 0, .string ⟨#[]⟩, .bool false, .bool false, .int .i64 0, .string ⟨#[]⟩, .bool false, .bool false, .int .i64 0, .int .i64 0] 27)).setRow w6.heap.size #[.int .i64 z.up.r, .string z.up.b, .bool z.up.e, .bool z.up.k, .int .i64 z.dn.r, .string z.dn.b, .bool z.dn.e, .bool z.dn.k, .int .i64 z.went, .int .i64 z.came]) w6.heap.size z) := ⟨rowIs_setRow (cs' := [.int .i64 z.up.r, .string z.up.b, .bool z.up.e, .bool z.up.k, .int .i64 z.dn.r, .string z.dn.b, .bool z.dn.e, .bool z.dn.k, .int .i64 z.went, .int .i64 z.came]) (rowIs_new w6 27 [.int .i64 0, .string ⟨#[]⟩, .bool false, .bool false, .int .i64 0, .string ⟨#[]⟩, .bool false, .bool false, .int .i64 0, .int .i64 0])⟩
  have hbV : Below w6.heap.size w6 ((w6.alloc (.cells #[.int .i64 0, .string ⟨#[]⟩, .bool false, .bool false, .int .i64 0, .string ⟨#[]⟩, .bool false, .bool false, .int .i64 0, .int .i64 0] 27)).setRow w6.heap.size #[.int .i64 z.up.r, .string z.up.b, .bool z.up.e, .bool z.up.k, .int .i64 z.dn.r, .string z.dn.b, .bool z.dn.e, .bool z.dn.k, .int .i64 z.went, .int .i64 z.came]) := below_setRow ((Below.refl _ _).alloc (Nat.le_refl _) _) (Nat.le_refl _) #[.int .i64 z.up.r, .string z.up.b, .bool z.up.e, .bool z.up.k, .int .i64 z.dn.r, .string z.dn.b, .bool z.dn.e, .bool z.dn.k, .int .i64 z.went, .int .i64 z.came]
  replace BT := hide (BT.out.new hbV)
  replace BX := hide (BX.out.new hbV)
  replace BA := hide (BA.out.new hbV)
  replace BY := hide (BY.out.new hbV)
  replace BB := hide (BB.out.new hbV)
  replace HBW := hide (bchain HBW.out hbV)
  clear hbV
  generalize hV : (w6.alloc (.cells #[.int .i64 0, .string ⟨#[]⟩, .bool false, .bool false, .int .i64 0, .string ⟨#[]⟩, .bool false, .bool false, .int .i64 0, .int .i64 0] 27)).setRow w6.heap.size #[.int .i64 z.up.r, .string z.up.b, .bool z.up.e, .bool z.up.k, .int .i64 z.dn.r, .string z.dn.b, .bool z.dn.e, .bool z.dn.k, .int .i64 z.went, .int .i64 z.came] = v6 at *
  clear hV
  generalize w6.heap.size = gBZ at *
  go_wp2_with fail
  refine (drawOver a len cap _ hl' (HCODE.out.behind HBW.out)).mono ?_; rintro x w7 ⟨o, o1, o2, rfl, hb⟩
  replace BT := hide (BT.out.new hb)
  replace BX := hide (BX.out.new hb)
  replace BA := hide (BA.out.new hb)
  replace BY := hide (BY.out.new hb)
  replace BB := hide (BB.out.new hb)
  replace BZ := hide (BZ.out.new hb)
  replace HBW := hide (bchain HBW.out hb)
  clear hb
  go_upto_region 10 with (refine wpList_store_row (by rfl) 27 _ _ (by rfl) w7.heap.size [.int .i64 o.up.r, .string o.up.b, .bool o.up.e, .bool o.up.k, .int .i64 o.dn.r, .string o.dn.b, .bool o.dn.e, .bool o.dn.k, .int .i64 o.went, .int .i64 o.came] (by rfl) (by rfl) 27 [.int .i64 0, .string ⟨#[]⟩, .bool false, .bool false, .int .i64 0, .string ⟨#[]⟩, .bool false, .bool false, .int .i64 0, .int .i64 0] (rowIs_new w7 27 [.int .i64 0, .string ⟨#[]⟩, .bool false, .bool false, .int .i64 0, .string ⟨#[]⟩, .bool false, .bool false, .int .i64 0, .int .i64 0]) (by kernel_rfl) rfl (by intro u hu; simp at hu; rcases hu with rfl | rfl | rfl | rfl | rfl | rfl | rfl | rfl | rfl | rfl <;> rfl) ?_)
  have BO : Hid (BxU ((w7.alloc (.cells #[.int .i64 0, .string ⟨#[]⟩, .bool false, .bool false, .int .i64 0, .string ⟨#[]⟩, .bool false, .bool false, .int .i64 0, .int .i64 0] 27)).setRow w7.heap.size #[.int .i64 o.up.r, .string o.up.b, .bool o.up.e, .bool o.up.k, .int .i64 o.dn.r, .string o.dn.b, .bool o.dn.e, .bool o.dn.k, .int .i64 o.went, .int .i64 o.came]) w7.heap.size o) := ⟨rowIs_setRow (cs' := [.int .i64 o.up.r, .string o.up.b, .bool o.up.e, .bool o.up.k, .int .i64 o.dn.r, .string o.dn.b, .bool o.dn.e, .bool o.dn.k, .int .i64 o.went, .int .i64 o.came]) (rowIs_new w7 27 [.int .i64 0, .string ⟨#[]⟩, .bool false, .bool false, .int .i64 0, .string ⟨#[]⟩, .bool false, .bool false, .int .i64 0, .int .i64 0])⟩
  have hbV : Below w7.heap.size w7 ((w7.alloc (.cells #[.int .i64 0, .string ⟨#[]⟩, .bool false, .bool false, .int .i64 0, .string ⟨#[]⟩, .bool false, .bool false, .int .i64 0, .int .i64 0] 27)).setRow w7.heap.size #[.int .i64 o.up.r, .string o.up.b, .bool o.up.e, .bool o.up.k, .int .i64 o.dn.r, .string o.dn.b, .bool o.dn.e, .bool o.dn.k, .int .i64 o.went, .int .i64 o.came]) := below_setRow ((Below.refl _ _).alloc (Nat.le_refl _) _) (Nat.le_refl _) #[.int .i64 o.up.r, .string o.up.b, .bool o.up.e, .bool o.up.k, .int .i64 o.dn.r, .string o.dn.b, .bool o.dn.e, .bool o.dn.k, .int .i64 o.went, .int .i64 o.came]
  replace BT := hide (BT.out.new hbV)
  replace BX := hide (BX.out.new hbV)
  replace BA := hide (BA.out.new hbV)
  replace BY := hide (BY.out.new hbV)
  replace BB := hide (BB.out.new hbV)
  replace BZ := hide (BZ.out.new hbV)
  replace HBW := hide (bchain HBW.out hbV)
  clear hbV
  generalize hV : (w7.alloc (.cells #[.int .i64 0, .string ⟨#[]⟩, .bool false, .bool false, .int .i64 0, .string ⟨#[]⟩, .bool false, .bool false, .int .i64 0, .int .i64 0] 27)).setRow w7.heap.size #[.int .i64 o.up.r, .string o.up.b, .bool o.up.e, .bool o.up.k, .int .i64 o.dn.r, .string o.dn.b, .bool o.dn.e, .bool o.dn.k, .int .i64 o.went, .int .i64 o.came] = v7 at *
  clear hV
  generalize w7.heap.size = gBO at *
  have os1 : o.up.b.size ≤ maxLen := by unfold maxLen; omega
  have os2 : o.dn.b.size ≤ maxLen := by unfold maxLen; omega
  have iTo := fun w => implTorn o w os1 os2
  have sTo := fun w => specTorn o w os1 os2
  have iOv := fun w => implOver o w os1 os2
  have sOv := fun w => specOver o w os1 os2
  have hqs := trn_sm (t := o)
  have hTL := @trn_law o
  obtain ⟨q, hQ⟩ : ∃ q, trnTu o = q := ⟨_, rfl⟩
  obtain ⟨ov, hOV⟩ : ∃ q, ovrTu o = q := ⟨_, rfl⟩
  rw [hQ] at iTo sTo hqs hTL
  rw [hOV] at iOv sOv
  have HTL := hide hTL
  have qs1 : q.up.b.size ≤ maxLen := by unfold maxLen; have := hqs.1; omega
  have qs2 : q.dn.b.size ≤ maxLen := by unfold maxLen; have := hqs.2; omega
  have hvv : (ov != ov) = false := by simp
  clear hQ hOV hqs hTL
  go_wp2_with fail
  refine (drawNewTunnel a len cap _ hl' (HCODE.out.behind HBW.out)).mono ?_; rintro x w8 ⟨r, rfl, hb⟩
  replace BT := hide (BT.out.new hb)
  replace BX := hide (BX.out.new hb)
  replace BA := hide (BA.out.new hb)
  replace BY := hide (BY.out.new hb)
  replace BB := hide (BB.out.new hb)
  replace BZ := hide (BZ.out.new hb)
  replace BO := hide (BO.out.new hb)
  replace HBW := hide (bchain HBW.out hb)
  clear hb
  have iNe := fun w => implNewTunnel r w
  have sNe := fun w => specNewTunnel r w
  obtain ⟨⟨nw, made⟩, hN⟩ : ∃ q, newTu r = q := ⟨_, rfl⟩
  rw [hN] at iNe sNe
  dsimp only at iNe sNe
  have hmm : (made != made) = false := by simp
  clear hN
  go_wp2_with fail
  refine (iNe _).mono ?_; clear iNe; rintro x9 w9 ⟨rfl, hb⟩
  replace BT := hide (BT.out.new hb)
  replace BX := hide (BX.out.new hb)
  replace BA := hide (BA.out.new hb)
  replace BY := hide (BY.out.new hb)
  replace BB := hide (BB.out.new hb)
  replace BZ := hide (BZ.out.new hb)
  replace BO := hide (BO.out.new hb)
  replace HBW := hide (bchain HBW.out hb)
  clear hb
  go_upto_region 12 with (refine wpList_store_row (by rfl) 27 _ _ (by rfl) w9.heap.size [.int .i64 nw.up.r, .string nw.up.b, .bool nw.up.e, .bool nw.up.k, .int .i64 nw.dn.r, .string nw.dn.b, .bool nw.dn.e, .bool nw.dn.k, .int .i64 nw.went, .int .i64 nw.came] (by rfl) (by rfl) 27 [.int .i64 0, .string ⟨#[]⟩, .bool false, .bool false, .int .i64 0, .string ⟨#[]⟩, .bool false, .bool false, .int .i64 0, .int .i64 0] (rowIs_new w9 27 [.int .i64 0, .string ⟨#[]⟩, .bool false, .bool false, .int .i64 0, .string ⟨#[]⟩, .bool false, .bool false, .int .i64 0, .int .i64 0]) (by kernel_rfl) rfl (by intro u hu; simp at hu; rcases hu with rfl | rfl | rfl | rfl | rfl | rfl | rfl | rfl | rfl | rfl <;> rfl) ?_)
  have BW : Hid (BxU ((w9.alloc (.cells #[.int .i64 0, .string ⟨#[]⟩, .bool false, .bool false, .int .i64 0, .string ⟨#[]⟩, .bool false, .bool false, .int .i64 0, .int .i64 0] 27)).setRow w9.heap.size #[.int .i64 nw.up.r, .string nw.up.b, .bool nw.up.e, .bool nw.up.k, .int .i64 nw.dn.r, .string nw.dn.b, .bool nw.dn.e, .bool nw.dn.k, .int .i64 nw.went, .int .i64 nw.came]) w9.heap.size nw) := ⟨rowIs_setRow (cs' := [.int .i64 nw.up.r, .string nw.up.b, .bool nw.up.e, .bool nw.up.k, .int .i64 nw.dn.r, .string nw.dn.b, .bool nw.dn.e, .bool nw.dn.k, .int .i64 nw.went, .int .i64 nw.came]) (rowIs_new w9 27 [.int .i64 0, .string ⟨#[]⟩, .bool false, .bool false, .int .i64 0, .string ⟨#[]⟩, .bool false, .bool false, .int .i64 0, .int .i64 0])⟩
  have hbV : Below w9.heap.size w9 ((w9.alloc (.cells #[.int .i64 0, .string ⟨#[]⟩, .bool false, .bool false, .int .i64 0, .string ⟨#[]⟩, .bool false, .bool false, .int .i64 0, .int .i64 0] 27)).setRow w9.heap.size #[.int .i64 nw.up.r, .string nw.up.b, .bool nw.up.e, .bool nw.up.k, .int .i64 nw.dn.r, .string nw.dn.b, .bool nw.dn.e, .bool nw.dn.k, .int .i64 nw.went, .int .i64 nw.came]) := below_setRow ((Below.refl _ _).alloc (Nat.le_refl _) _) (Nat.le_refl _) #[.int .i64 nw.up.r, .string nw.up.b, .bool nw.up.e, .bool nw.up.k, .int .i64 nw.dn.r, .string nw.dn.b, .bool nw.dn.e, .bool nw.dn.k, .int .i64 nw.went, .int .i64 nw.came]
  replace BT := hide (BT.out.new hbV)
  replace BX := hide (BX.out.new hbV)
  replace BA := hide (BA.out.new hbV)
  replace BY := hide (BY.out.new hbV)
  replace BB := hide (BB.out.new hbV)
  replace BZ := hide (BZ.out.new hbV)
  replace BO := hide (BO.out.new hbV)
  replace HBW := hide (bchain HBW.out hbV)
  clear hbV
  generalize hV : (w9.alloc (.cells #[.int .i64 0, .string ⟨#[]⟩, .bool false, .bool false, .int .i64 0, .string ⟨#[]⟩, .bool false, .bool false, .int .i64 0, .int .i64 0] 27)).setRow w9.heap.size #[.int .i64 nw.up.r, .string nw.up.b, .bool nw.up.e, .bool nw.up.k, .int .i64 nw.dn.r, .string nw.dn.b, .bool nw.dn.e, .bool nw.dn.k, .int .i64 nw.went, .int .i64 nw.came] = v9 at *
  clear hV
  generalize w9.heap.size = gBW at *
  go_wp2_with (first | (refine wpList_load_row (by rfl) 27 _ (by rfl) gBT (by rfl) [.int .i64 t.up.r, .string t.up.b, .bool t.up.e, .bool t.up.k, .int .i64 t.dn.r, .string t.dn.b, .bool t.dn.e, .bool t.dn.k, .int .i64 t.went, .int .i64 t.came] _ 27 BT.out.row Try.underlying27 rfl (by kernel_rfl) ?_))
  refine (sIn _).mono ?_; clear sIn; rintro x9 w10 ⟨rfl, hb⟩
  replace BT := hide (BT.out.new hb)
  replace BX := hide (BX.out.new hb)
  replace BA := hide (BA.out.new hb)
  replace BY := hide (BY.out.new hb)
  replace BB := hide (BB.out.new hb)
  replace BZ := hide (BZ.out.new hb)
  replace BO := hide (BO.out.new hb)
  replace BW := hide (BW.out.new hb)
  replace HBW := hide (bchain HBW.out hb)
  clear hb
  go_upto_region 13 with (refine wpList_store_row (by rfl) 27 _ _ (by rfl) w10.heap.size [.int .i64 x.up.r, .string x.up.b, .bool x.up.e, .bool x.up.k, .int .i64 x.dn.r, .string x.dn.b, .bool x.dn.e, .bool x.dn.k, .int .i64 x.went, .int .i64 x.came] (by rfl) (by rfl) 27 [.int .i64 0, .string ⟨#[]⟩, .bool false, .bool false, .int .i64 0, .string ⟨#[]⟩, .bool false, .bool false, .int .i64 0, .int .i64 0] (rowIs_new w10 27 [.int .i64 0, .string ⟨#[]⟩, .bool false, .bool false, .int .i64 0, .string ⟨#[]⟩, .bool false, .bool false, .int .i64 0, .int .i64 0]) (by kernel_rfl) rfl (by intro u hu; simp at hu; rcases hu with rfl | rfl | rfl | rfl | rfl | rfl | rfl | rfl | rfl | rfl <;> rfl) ?_)
  have BM : Hid (BxU ((w10.alloc (.cells #[.int .i64 0, .string ⟨#[]⟩, .bool false, .bool false, .int .i64 0, .string ⟨#[]⟩, .bool false, .bool false, .int .i64 0, .int .i64 0] 27)).setRow w10.heap.size #[.int .i64 x.up.r, .string x.up.b, .bool x.up.e, .bool x.up.k, .int .i64 x.dn.r, .string x.dn.b, .bool x.dn.e, .bool x.dn.k, .int .i64 x.went, .int .i64 x.came]) w10.heap.size x) := ⟨rowIs_setRow (cs' := [.int .i64 x.up.r, .string x.up.b, .bool x.up.e, .bool x.up.k, .int .i64 x.dn.r, .string x.dn.b, .bool x.dn.e, .bool x.dn.k, .int .i64 x.went, .int .i64 x.came]) (rowIs_new w10 27 [.int .i64 0, .string ⟨#[]⟩, .bool false, .bool false, .int .i64 0, .string ⟨#[]⟩, .bool false, .bool false, .int .i64 0, .int .i64 0])⟩
  have hbV : Below w10.heap.size w10 ((w10.alloc (.cells #[.int .i64 0, .string ⟨#[]⟩, .bool false, .bool false, .int .i64 0, .string ⟨#[]⟩, .bool false, .bool false, .int .i64 0, .int .i64 0] 27)).setRow w10.heap.size #[.int .i64 x.up.r, .string x.up.b, .bool x.up.e, .bool x.up.k, .int .i64 x.dn.r, .string x.dn.b, .bool x.dn.e, .bool x.dn.k, .int .i64 x.went, .int .i64 x.came]) := below_setRow ((Below.refl _ _).alloc (Nat.le_refl _) _) (Nat.le_refl _) #[.int .i64 x.up.r, .string x.up.b, .bool x.up.e, .bool x.up.k, .int .i64 x.dn.r, .string x.dn.b, .bool x.dn.e, .bool x.dn.k, .int .i64 x.went, .int .i64 x.came]
  replace BT := hide (BT.out.new hbV)
  replace BX := hide (BX.out.new hbV)
  replace BA := hide (BA.out.new hbV)
  replace BY := hide (BY.out.new hbV)
  replace BB := hide (BB.out.new hbV)
  replace BZ := hide (BZ.out.new hbV)
  replace BO := hide (BO.out.new hbV)
  replace BW := hide (BW.out.new hbV)
  replace HBW := hide (bchain HBW.out hbV)
  clear hbV
  generalize hV : (w10.alloc (.cells #[.int .i64 0, .string ⟨#[]⟩, .bool false, .bool false, .int .i64 0, .string ⟨#[]⟩, .bool false, .bool false, .int .i64 0, .int .i64 0] 27)).setRow w10.heap.size #[.int .i64 x.up.r, .string x.up.b, .bool x.up.e, .bool x.up.k, .int .i64 x.dn.r, .string x.dn.b, .bool x.dn.e, .bool x.dn.k, .int .i64 x.went, .int .i64 x.came] = v10 at *
  clear hV
  generalize w10.heap.size = gBM at *
  obtain ⟨S, HS0, HNEW, HLB⟩ : ∃ S : World → Prop, Hid (S v10) ∧ Hid (∀ u u1, S u → Below u.heap.size u u1 → S u1) ∧ Hid (∀ u, S u → Below v10.heap.size v10 u) := ⟨fun u => Below v10.heap.size v10 u, hide (Below.refl _ _), hide (fun u u1 h h1 => bchain h h1), hide (fun u h => h)⟩
  go_cut [112] (fun c wx => c = .bool false ∧ S wx)
  case first =>
    as_aux_lemma =>
      have hS : S (World.drew v10) := HNEW.out _ _ HS0.out (Below.refl _ _).drew
      go_wp2_with fail
      refine wp_region_held (S := S) (by kernel_rfl) ?_
      change wpAnyH _ _ _ _ _ _ _ _ (World.drew _)
      refine wpAnyH_take (i := 0) (v := ?_) rfl (by kernel_rfl) (by kernel_rfl) (by kernel_rfl) (fun _ _ _ h => h) (Or.inl ⟨by kernel_rfl, ?_⟩) hS ?_; rotate_left; focus (intro uu hu; clear hu; go_simp; try with_reducible rfl)
      try simp only [Act.put, List.getElem_toArray, List.getElem_cons_succ, List.getElem_cons_zero, List.setIfInBounds_toArray, List.set_cons_zero, List.set_cons_succ]
      refine wpAnyH_take (i := 1) (v := ?_) rfl (by kernel_rfl) (by kernel_rfl) (by kernel_rfl) (fun _ _ _ h => h) (Or.inl ⟨by kernel_rfl, ?_⟩) hS ?_; rotate_left; focus (intro uu hu; clear hu; go_simp; try with_reducible rfl)
      try simp only [Act.put, List.getElem_toArray, List.getElem_cons_succ, List.getElem_cons_zero, List.setIfInBounds_toArray, List.set_cons_zero, List.set_cons_succ]
      refine wpAnyH_take (i := 2) (v := .bool false) rfl (by kernel_rfl) (by kernel_rfl) (by kernel_rfl) (fun _ _ _ h => h) (Or.inl ⟨by kernel_rfl, ?ld⟩) hS ?_; case ld => (intro uu hu; clear hu; go_simp)
      try simp only [Act.put, List.getElem_toArray, List.getElem_cons_succ, List.getElem_cons_zero, List.setIfInBounds_toArray, List.set_cons_zero, List.set_cons_succ]
      refine wpAnyH_take (i := 3) (v := .bool false) rfl (by kernel_rfl) (by kernel_rfl) (by kernel_rfl) (fun _ _ _ h => h) (Or.inl ⟨by kernel_rfl, fun uu hu => (by kernel_rfl)⟩) hS ?_
      try simp only [Act.put, List.getElem_toArray, List.getElem_cons_succ, List.getElem_cons_zero, List.setIfInBounds_toArray, List.set_cons_zero, List.set_cons_succ]
      refine wpAnyH_take (i := 4) (v := (.agg #[.int .i64 x.up.r, .string x.up.b, .bool x.up.e, .bool x.up.k, .int .i64 x.dn.r, .string x.dn.b, .bool x.dn.e, .bool x.dn.k, .int .i64 x.went, .int .i64 x.came])) rfl (by kernel_rfl) (by kernel_rfl) (by kernel_rfl) (fun _ _ _ h => h) (Or.inl ⟨by kernel_rfl, ?ld⟩) hS ?_; case ld => (intro uu hu; have l0 := (BX.out.new (HLB.out _ hu)).row.cell (j := 0) rfl; have l1 := (BX.out.new (HLB.out _ hu)).row.cell (j := 1) rfl; have l2 := (BX.out.new (HLB.out _ hu)).row.cell (j := 2) rfl; have l3 := (BX.out.new (HLB.out _ hu)).row.cell (j := 3) rfl; have l4 := (BX.out.new (HLB.out _ hu)).row.cell (j := 4) rfl; have l5 := (BX.out.new (HLB.out _ hu)).row.cell (j := 5) rfl; have l6 := (BX.out.new (HLB.out _ hu)).row.cell (j := 6) rfl; have l7 := (BX.out.new (HLB.out _ hu)).row.cell (j := 7) rfl; have l8 := (BX.out.new (HLB.out _ hu)).row.cell (j := 8) rfl; have l9 := (BX.out.new (HLB.out _ hu)).row.cell (j := 9) rfl; have ll := (BX.out.new (HLB.out _ hu)).row.lt; clear hu; go_simp)
      try simp only [Act.put, List.getElem_toArray, List.getElem_cons_succ, List.getElem_cons_zero, List.setIfInBounds_toArray, List.set_cons_zero, List.set_cons_succ]
      refine wpAnyH_take (i := 5) (v := (.agg #[.int .i64 x.up.r, .string x.up.b, .bool x.up.e, .bool x.up.k, .int .i64 x.dn.r, .string x.dn.b, .bool x.dn.e, .bool x.dn.k, .int .i64 x.went, .int .i64 x.came])) rfl (by kernel_rfl) (by kernel_rfl) (by kernel_rfl) (fun _ _ _ h => h) (Or.inl ⟨by kernel_rfl, ?ld⟩) hS ?_; case ld => (intro uu hu; have l0 := (BM.out.new (HLB.out _ hu)).row.cell (j := 0) rfl; have l1 := (BM.out.new (HLB.out _ hu)).row.cell (j := 1) rfl; have l2 := (BM.out.new (HLB.out _ hu)).row.cell (j := 2) rfl; have l3 := (BM.out.new (HLB.out _ hu)).row.cell (j := 3) rfl; have l4 := (BM.out.new (HLB.out _ hu)).row.cell (j := 4) rfl; have l5 := (BM.out.new (HLB.out _ hu)).row.cell (j := 5) rfl; have l6 := (BM.out.new (HLB.out _ hu)).row.cell (j := 6) rfl; have l7 := (BM.out.new (HLB.out _ hu)).row.cell (j := 7) rfl; have l8 := (BM.out.new (HLB.out _ hu)).row.cell (j := 8) rfl; have l9 := (BM.out.new (HLB.out _ hu)).row.cell (j := 9) rfl; have ll := (BM.out.new (HLB.out _ hu)).row.lt; clear hu; go_simp)
      try simp only [Act.put, List.getElem_toArray, List.getElem_cons_succ, List.getElem_cons_zero, List.setIfInBounds_toArray, List.set_cons_zero, List.set_cons_succ]
      refine wpAnyH_take (i := 6) (v := .bool false) rfl (by kernel_rfl) (by kernel_rfl) (by kernel_rfl) (fun _ _ _ h => h) (Or.inl ⟨by kernel_rfl, ?ld⟩) hS ?_; case ld => (intro uu hu; clear hu; have hq := tu_neq x.up.r x.up.b x.up.e x.up.k x.dn.r x.dn.b x.dn.e x.dn.k x.went x.came; have hgd := tu_guard; go_simp)
      try simp only [Act.put, List.getElem_toArray, List.getElem_cons_succ, List.getElem_cons_zero, List.setIfInBounds_toArray, List.set_cons_zero, List.set_cons_succ]
      refine wpAnyH_take (i := 7) (v := .bool false) rfl (by kernel_rfl) (by kernel_rfl) (by kernel_rfl) (fun _ _ _ h => h) (Or.inl ⟨by kernel_rfl, fun uu hu => (by kernel_rfl)⟩) hS ?_
      try simp only [Act.put, List.getElem_toArray, List.getElem_cons_succ, List.getElem_cons_zero, List.setIfInBounds_toArray, List.set_cons_zero, List.set_cons_succ]
      refine wpAnyH_take (i := 8) (v := .bool false) rfl (by kernel_rfl) (by kernel_rfl) (by kernel_rfl) (fun _ _ _ h => h) (Or.inl ⟨by kernel_rfl, fun uu hu => (by kernel_rfl)⟩) hS ?_
      try simp only [Act.put, List.getElem_toArray, List.getElem_cons_succ, List.getElem_cons_zero, List.setIfInBounds_toArray, List.set_cons_zero, List.set_cons_succ]
      refine wpAnyH_take (i := 9) (v := (.agg #[.int .i64 t.up.r, .string t.up.b, .bool t.up.e, .bool t.up.k, .int .i64 t.dn.r, .string t.dn.b, .bool t.dn.e, .bool t.dn.k, .int .i64 t.went, .int .i64 t.came])) rfl (by kernel_rfl) (by kernel_rfl) (by kernel_rfl) (fun _ _ _ h => h) (Or.inl ⟨by kernel_rfl, ?ld⟩) hS ?_; case ld => (intro uu hu; have l0 := (BT.out.new (HLB.out _ hu)).row.cell (j := 0) rfl; have l1 := (BT.out.new (HLB.out _ hu)).row.cell (j := 1) rfl; have l2 := (BT.out.new (HLB.out _ hu)).row.cell (j := 2) rfl; have l3 := (BT.out.new (HLB.out _ hu)).row.cell (j := 3) rfl; have l4 := (BT.out.new (HLB.out _ hu)).row.cell (j := 4) rfl; have l5 := (BT.out.new (HLB.out _ hu)).row.cell (j := 5) rfl; have l6 := (BT.out.new (HLB.out _ hu)).row.cell (j := 6) rfl; have l7 := (BT.out.new (HLB.out _ hu)).row.cell (j := 7) rfl; have l8 := (BT.out.new (HLB.out _ hu)).row.cell (j := 8) rfl; have l9 := (BT.out.new (HLB.out _ hu)).row.cell (j := 9) rfl; have ll := (BT.out.new (HLB.out _ hu)).row.lt; clear hu; go_simp)
      try simp only [Act.put, List.getElem_toArray, List.getElem_cons_succ, List.getElem_cons_zero, List.setIfInBounds_toArray, List.set_cons_zero, List.set_cons_succ]
      refine wpAnyH_take (i := 11) (v := (.agg #[.int .i64 t.up.r, .string t.up.b, .bool t.up.e, .bool t.up.k, .int .i64 t.dn.r, .string t.dn.b, .bool t.dn.e, .bool t.dn.k, .int .i64 t.went, .int .i64 t.came])) rfl (by kernel_rfl) (by kernel_rfl) (by kernel_rfl) (fun _ _ _ h => h) (Or.inl ⟨by kernel_rfl, ?ld⟩) hS ?_; case ld => (intro uu hu; have l0 := (BT.out.new (HLB.out _ hu)).row.cell (j := 0) rfl; have l1 := (BT.out.new (HLB.out _ hu)).row.cell (j := 1) rfl; have l2 := (BT.out.new (HLB.out _ hu)).row.cell (j := 2) rfl; have l3 := (BT.out.new (HLB.out _ hu)).row.cell (j := 3) rfl; have l4 := (BT.out.new (HLB.out _ hu)).row.cell (j := 4) rfl; have l5 := (BT.out.new (HLB.out _ hu)).row.cell (j := 5) rfl; have l6 := (BT.out.new (HLB.out _ hu)).row.cell (j := 6) rfl; have l7 := (BT.out.new (HLB.out _ hu)).row.cell (j := 7) rfl; have l8 := (BT.out.new (HLB.out _ hu)).row.cell (j := 8) rfl; have l9 := (BT.out.new (HLB.out _ hu)).row.cell (j := 9) rfl; have ll := (BT.out.new (HLB.out _ hu)).row.lt; clear hu; go_simp)
      try simp only [Act.put, List.getElem_toArray, List.getElem_cons_succ, List.getElem_cons_zero, List.setIfInBounds_toArray, List.set_cons_zero, List.set_cons_succ]
      refine wpAnyH_ready (rs := [10]) (by kernel_rfl) (by simp) ?_; refine AllReadyH.cons rfl (fun K hK => ?_) AllReadyH.nil; rw [if_pos (by kernel_rfl)]; go_simp
      skip
      refine (implTunnelOk t _ ts ts2).mono ?_; rintro e x1 ⟨rfl, hx1⟩
      refine hK.out _ _ (HNEW.out _ _ hS hx1) (fun hS => ?_)
      clear hK K
      try simp only [Act.put, List.getElem_toArray, List.getElem_cons_succ, List.getElem_cons_zero, List.setIfInBounds_toArray, List.set_cons_zero, List.set_cons_succ]
      refine wpAnyH_ready (rs := [12]) (by kernel_rfl) (by simp) ?_; refine AllReadyH.cons rfl (fun K hK => ?_) AllReadyH.nil; rw [if_pos (by kernel_rfl)]; go_simp
      skip
      refine (specTunnelOk t _ ts ts2).mono ?_; rintro e x2 ⟨rfl, hx2⟩
      refine hK.out _ _ (HNEW.out _ _ hS hx2) (fun hS => ?_)
      clear hK K
      try simp only [Act.put, List.getElem_toArray, List.getElem_cons_succ, List.getElem_cons_zero, List.setIfInBounds_toArray, List.set_cons_zero, List.set_cons_succ]
      refine wpAnyH_take (i := 13) (v := .bool false) rfl (by kernel_rfl) (by kernel_rfl) (by kernel_rfl) (fun _ _ _ h => h) (Or.inl ⟨by kernel_rfl, ?ld⟩) hS ?_; case ld => (intro uu hu; clear hu; cases okTu t <;> go_simp)
      try simp only [Act.put, List.getElem_toArray, List.getElem_cons_succ, List.getElem_cons_zero, List.setIfInBounds_toArray, List.set_cons_zero, List.set_cons_succ]
      refine wpAnyH_take (i := 14) (v := .bool false) rfl (by kernel_rfl) (by kernel_rfl) (by kernel_rfl) (fun _ _ _ h => h) (Or.inl ⟨by kernel_rfl, fun uu hu => (by kernel_rfl)⟩) hS ?_
      try simp only [Act.put, List.getElem_toArray, List.getElem_cons_succ, List.getElem_cons_zero, List.setIfInBounds_toArray, List.set_cons_zero, List.set_cons_succ]
      refine wpAnyH_take (i := 15) (v := .bool false) rfl (by kernel_rfl) (by kernel_rfl) (by kernel_rfl) (fun _ _ _ h => h) (Or.inl ⟨by kernel_rfl, fun uu hu => (by kernel_rfl)⟩) hS ?_
      try simp only [Act.put, List.getElem_toArray, List.getElem_cons_succ, List.getElem_cons_zero, List.setIfInBounds_toArray, List.set_cons_zero, List.set_cons_succ]
      refine wpAnyH_take (i := 16) (v := (.agg #[.int .i64 o.up.r, .string o.up.b, .bool o.up.e, .bool o.up.k, .int .i64 o.dn.r, .string o.dn.b, .bool o.dn.e, .bool o.dn.k, .int .i64 o.went, .int .i64 o.came])) rfl (by kernel_rfl) (by kernel_rfl) (by kernel_rfl) (fun _ _ _ h => h) (Or.inl ⟨by kernel_rfl, ?ld⟩) hS ?_; case ld => (intro uu hu; have l0 := (BO.out.new (HLB.out _ hu)).row.cell (j := 0) rfl; have l1 := (BO.out.new (HLB.out _ hu)).row.cell (j := 1) rfl; have l2 := (BO.out.new (HLB.out _ hu)).row.cell (j := 2) rfl; have l3 := (BO.out.new (HLB.out _ hu)).row.cell (j := 3) rfl; have l4 := (BO.out.new (HLB.out _ hu)).row.cell (j := 4) rfl; have l5 := (BO.out.new (HLB.out _ hu)).row.cell (j := 5) rfl; have l6 := (BO.out.new (HLB.out _ hu)).row.cell (j := 6) rfl; have l7 := (BO.out.new (HLB.out _ hu)).row.cell (j := 7) rfl; have l8 := (BO.out.new (HLB.out _ hu)).row.cell (j := 8) rfl; have l9 := (BO.out.new (HLB.out _ hu)).row.cell (j := 9) rfl; have ll := (BO.out.new (HLB.out _ hu)).row.lt; clear hu; go_simp)
      try simp only [Act.put, List.getElem_toArray, List.getElem_cons_succ, List.getElem_cons_zero, List.setIfInBounds_toArray, List.set_cons_zero, List.set_cons_succ]
      refine wpAnyH_take (i := 18) (v := (.agg #[.int .i64 o.up.r, .string o.up.b, .bool o.up.e, .bool o.up.k, .int .i64 o.dn.r, .string o.dn.b, .bool o.dn.e, .bool o.dn.k, .int .i64 o.went, .int .i64 o.came])) rfl (by kernel_rfl) (by kernel_rfl) (by kernel_rfl) (fun _ _ _ h => h) (Or.inl ⟨by kernel_rfl, ?ld⟩) hS ?_; case ld => (intro uu hu; have l0 := (BO.out.new (HLB.out _ hu)).row.cell (j := 0) rfl; have l1 := (BO.out.new (HLB.out _ hu)).row.cell (j := 1) rfl; have l2 := (BO.out.new (HLB.out _ hu)).row.cell (j := 2) rfl; have l3 := (BO.out.new (HLB.out _ hu)).row.cell (j := 3) rfl; have l4 := (BO.out.new (HLB.out _ hu)).row.cell (j := 4) rfl; have l5 := (BO.out.new (HLB.out _ hu)).row.cell (j := 5) rfl; have l6 := (BO.out.new (HLB.out _ hu)).row.cell (j := 6) rfl; have l7 := (BO.out.new (HLB.out _ hu)).row.cell (j := 7) rfl; have l8 := (BO.out.new (HLB.out _ hu)).row.cell (j := 8) rfl; have l9 := (BO.out.new (HLB.out _ hu)).row.cell (j := 9) rfl; have ll := (BO.out.new (HLB.out _ hu)).row.lt; clear hu; go_simp)
      try simp only [Act.put, List.getElem_toArray, List.getElem_cons_succ, List.getElem_cons_zero, List.setIfInBounds_toArray, List.set_cons_zero, List.set_cons_succ]
      refine wpAnyH_ready (rs := [17]) (by kernel_rfl) (by simp) ?_; refine AllReadyH.cons rfl (fun K hK => ?_) AllReadyH.nil; rw [if_pos (by kernel_rfl)]; go_simp
      skip
      refine (iTo _).mono ?_; rintro e x3 ⟨rfl, hx3⟩
      refine hK.out _ _ (HNEW.out _ _ hS hx3) (fun hS => ?_)
      clear hK K
      try simp only [Act.put, List.getElem_toArray, List.getElem_cons_succ, List.getElem_cons_zero, List.setIfInBounds_toArray, List.set_cons_zero, List.set_cons_succ]
      refine wpAnyH_ready (rs := [19]) (by kernel_rfl) (by simp) ?_; refine AllReadyH.cons rfl (fun K hK => ?_) AllReadyH.nil; rw [if_pos (by kernel_rfl)]; go_simp
      skip
      refine (sTo _).mono ?_; rintro e x4 ⟨rfl, hx4⟩
      refine hK.out _ _ (HNEW.out _ _ hS hx4) (fun hS => ?_)
      clear hK K
      try simp only [Act.put, List.getElem_toArray, List.getElem_cons_succ, List.getElem_cons_zero, List.setIfInBounds_toArray, List.set_cons_zero, List.set_cons_succ]
      refine wpAnyH_take (i := 20) (v := .bool false) rfl (by kernel_rfl) (by kernel_rfl) (by kernel_rfl) (fun _ _ _ h => h) (Or.inl ⟨by kernel_rfl, ?ld⟩) hS ?_; case ld => (intro uu hu; clear hu; have hq := tu_neq q.up.r q.up.b q.up.e q.up.k q.dn.r q.dn.b q.dn.e q.dn.k q.went q.came; have hgd := tu_guard; go_simp)
      try simp only [Act.put, List.getElem_toArray, List.getElem_cons_succ, List.getElem_cons_zero, List.setIfInBounds_toArray, List.set_cons_zero, List.set_cons_succ]
      refine wpAnyH_take (i := 21) (v := .bool false) rfl (by kernel_rfl) (by kernel_rfl) (by kernel_rfl) (fun _ _ _ h => h) (Or.inl ⟨by kernel_rfl, fun uu hu => (by kernel_rfl)⟩) hS ?_
      try simp only [Act.put, List.getElem_toArray, List.getElem_cons_succ, List.getElem_cons_zero, List.setIfInBounds_toArray, List.set_cons_zero, List.set_cons_succ]
      refine wpAnyH_take (i := 22) (v := .bool false) rfl (by kernel_rfl) (by kernel_rfl) (by kernel_rfl) (fun _ _ _ h => h) (Or.inl ⟨by kernel_rfl, fun uu hu => (by kernel_rfl)⟩) hS ?_
      try simp only [Act.put, List.getElem_toArray, List.getElem_cons_succ, List.getElem_cons_zero, List.setIfInBounds_toArray, List.set_cons_zero, List.set_cons_succ]
      refine wpAnyH_take (i := 23) (v := (.agg #[.int .i64 o.up.r, .string o.up.b, .bool o.up.e, .bool o.up.k, .int .i64 o.dn.r, .string o.dn.b, .bool o.dn.e, .bool o.dn.k, .int .i64 o.went, .int .i64 o.came])) rfl (by kernel_rfl) (by kernel_rfl) (by kernel_rfl) (fun _ _ _ h => h) (Or.inl ⟨by kernel_rfl, ?ld⟩) hS ?_; case ld => (intro uu hu; have l0 := (BO.out.new (HLB.out _ hu)).row.cell (j := 0) rfl; have l1 := (BO.out.new (HLB.out _ hu)).row.cell (j := 1) rfl; have l2 := (BO.out.new (HLB.out _ hu)).row.cell (j := 2) rfl; have l3 := (BO.out.new (HLB.out _ hu)).row.cell (j := 3) rfl; have l4 := (BO.out.new (HLB.out _ hu)).row.cell (j := 4) rfl; have l5 := (BO.out.new (HLB.out _ hu)).row.cell (j := 5) rfl; have l6 := (BO.out.new (HLB.out _ hu)).row.cell (j := 6) rfl; have l7 := (BO.out.new (HLB.out _ hu)).row.cell (j := 7) rfl; have l8 := (BO.out.new (HLB.out _ hu)).row.cell (j := 8) rfl; have l9 := (BO.out.new (HLB.out _ hu)).row.cell (j := 9) rfl; have ll := (BO.out.new (HLB.out _ hu)).row.lt; clear hu; go_simp)
      try simp only [Act.put, List.getElem_toArray, List.getElem_cons_succ, List.getElem_cons_zero, List.setIfInBounds_toArray, List.set_cons_zero, List.set_cons_succ]
      refine wpAnyH_take (i := 25) (v := (.agg #[.int .i64 o.up.r, .string o.up.b, .bool o.up.e, .bool o.up.k, .int .i64 o.dn.r, .string o.dn.b, .bool o.dn.e, .bool o.dn.k, .int .i64 o.went, .int .i64 o.came])) rfl (by kernel_rfl) (by kernel_rfl) (by kernel_rfl) (fun _ _ _ h => h) (Or.inl ⟨by kernel_rfl, ?ld⟩) hS ?_; case ld => (intro uu hu; have l0 := (BO.out.new (HLB.out _ hu)).row.cell (j := 0) rfl; have l1 := (BO.out.new (HLB.out _ hu)).row.cell (j := 1) rfl; have l2 := (BO.out.new (HLB.out _ hu)).row.cell (j := 2) rfl; have l3 := (BO.out.new (HLB.out _ hu)).row.cell (j := 3) rfl; have l4 := (BO.out.new (HLB.out _ hu)).row.cell (j := 4) rfl; have l5 := (BO.out.new (HLB.out _ hu)).row.cell (j := 5) rfl; have l6 := (BO.out.new (HLB.out _ hu)).row.cell (j := 6) rfl; have l7 := (BO.out.new (HLB.out _ hu)).row.cell (j := 7) rfl; have l8 := (BO.out.new (HLB.out _ hu)).row.cell (j := 8) rfl; have l9 := (BO.out.new (HLB.out _ hu)).row.cell (j := 9) rfl; have ll := (BO.out.new (HLB.out _ hu)).row.lt; clear hu; go_simp)
      try simp only [Act.put, List.getElem_toArray, List.getElem_cons_succ, List.getElem_cons_zero, List.setIfInBounds_toArray, List.set_cons_zero, List.set_cons_succ]
      refine wpAnyH_ready (rs := [24]) (by kernel_rfl) (by simp) ?_; refine AllReadyH.cons rfl (fun K hK => ?_) AllReadyH.nil; rw [if_pos (by kernel_rfl)]; go_simp
      skip
      refine (iOv _).mono ?_; rintro e x5 ⟨rfl, hx5⟩
      refine hK.out _ _ (HNEW.out _ _ hS hx5) (fun hS => ?_)
      clear hK K
      try simp only [Act.put, List.getElem_toArray, List.getElem_cons_succ, List.getElem_cons_zero, List.setIfInBounds_toArray, List.set_cons_zero, List.set_cons_succ]
      refine wpAnyH_ready (rs := [26]) (by kernel_rfl) (by simp) ?_; refine AllReadyH.cons rfl (fun K hK => ?_) AllReadyH.nil; rw [if_pos (by kernel_rfl)]; go_simp
      skip
      refine (sOv _).mono ?_; rintro e x6 ⟨rfl, hx6⟩
      refine hK.out _ _ (HNEW.out _ _ hS hx6) (fun hS => ?_)
      clear hK K
      try simp only [Act.put, List.getElem_toArray, List.getElem_cons_succ, List.getElem_cons_zero, List.setIfInBounds_toArray, List.set_cons_zero, List.set_cons_succ]
      refine wpAnyH_take (i := 27) (v := .bool false) rfl (by kernel_rfl) (by kernel_rfl) (by kernel_rfl) (fun _ _ _ h => h) (Or.inl ⟨by kernel_rfl, ?ld⟩) hS ?_; case ld => (intro uu hu; clear hu; go_simp)
      try simp only [Act.put, List.getElem_toArray, List.getElem_cons_succ, List.getElem_cons_zero, List.setIfInBounds_toArray, List.set_cons_zero, List.set_cons_succ]
      refine wpAnyH_take (i := 28) (v := .bool false) rfl (by kernel_rfl) (by kernel_rfl) (by kernel_rfl) (fun _ _ _ h => h) (Or.inl ⟨by kernel_rfl, fun uu hu => (by kernel_rfl)⟩) hS ?_
      try simp only [Act.put, List.getElem_toArray, List.getElem_cons_succ, List.getElem_cons_zero, List.setIfInBounds_toArray, List.set_cons_zero, List.set_cons_succ]
      refine wpAnyH_done (by kernel_rfl) ?_ _
      go_wp2_with fail
      go_meet
      exact ⟨rfl, hS⟩
  case rest =>
    obtain ⟨rfl, hS⟩ := hcut
    obtain ⟨v11, rfl⟩ : ∃ v : World, v = wc := ⟨_, rfl⟩
    have hbS := HLB.out _ hS
    clear hS HS0 HNEW HLB S
    replace BT := hide (BT.out.new hbS)
    replace BX := hide (BX.out.new hbS)
    replace BA := hide (BA.out.new hbS)
    replace BY := hide (BY.out.new hbS)
    replace BB := hide (BB.out.new hbS)
    replace BZ := hide (BZ.out.new hbS)
    replace BO := hide (BO.out.new hbS)
    replace BW := hide (BW.out.new hbS)
    replace BM := hide (BM.out.new hbS)
    replace HBW := hide (bchain HBW.out hbS)
    clear hbS
    clear sTo iOv sOv hvv hii
    clear BM
    go_wp2_with (first | (refine wpList_load_row (by rfl) 27 _ (by rfl) gBA (by rfl) [.int .i64 ad.up.r, .string ad.up.b, .bool ad.up.e, .bool ad.up.k, .int .i64 ad.dn.r, .string ad.dn.b, .bool ad.dn.e, .bool ad.dn.k, .int .i64 ad.went, .int .i64 ad.came] _ 27 BA.out.row Try.underlying27 rfl (by kernel_rfl) ?_))
    refine (sOu _).mono ?_; clear sOu; rintro x9 w12 ⟨rfl, hb⟩
    replace BT := hide (BT.out.new hb)
    replace BX := hide (BX.out.new hb)
    replace BA := hide (BA.out.new hb)
    replace BY := hide (BY.out.new hb)
    replace BB := hide (BB.out.new hb)
    replace BZ := hide (BZ.out.new hb)
    replace BO := hide (BO.out.new hb)
    replace BW := hide (BW.out.new hb)
    replace HBW := hide (bchain HBW.out hb)
    clear hb
    go_upto_region 16 with (refine wpList_store_row (by rfl) 27 _ _ (by rfl) w12.heap.size [.int .i64 y.up.r, .string y.up.b, .bool y.up.e, .bool y.up.k, .int .i64 y.dn.r, .string y.dn.b, .bool y.dn.e, .bool y.dn.k, .int .i64 y.went, .int .i64 y.came] (by rfl) (by rfl) 27 [.int .i64 0, .string ⟨#[]⟩, .bool false, .bool false, .int .i64 0, .string ⟨#[]⟩, .bool false, .bool false, .int .i64 0, .int .i64 0] (rowIs_new w12 27 [.int .i64 0, .string ⟨#[]⟩, .bool false, .bool false, .int .i64 0, .string ⟨#[]⟩, .bool false, .bool false, .int .i64 0, .int .i64 0]) (by kernel_rfl) rfl (by intro u hu; simp at hu; rcases hu with rfl | rfl | rfl | rfl | rfl | rfl | rfl | rfl | rfl | rfl <;> rfl) ?_)
    have BM2 : Hid (BxU ((w12.alloc (.cells #[.int .i64 0, .string ⟨#[]⟩, .bool false, .bool false, .int .i64 0, .string ⟨#[]⟩, .bool false, .bool false, .int .i64 0, .int .i64 0] 27)).setRow w12.heap.size #[.int .i64 y.up.r, .string y.up.b, .bool y.up.e, .bool y.up.k, .int .i64 y.dn.r, .string y.dn.b, .bool y.dn.e, .bool y.dn.k, .int .i64 y.went, .int .i64 y.came]) w12.heap.size y) := ⟨rowIs_setRow (cs' := [.int .i64 y.up.r, .string y.up.b, .bool y.up.e, .bool y.up.k, .int .i64 y.dn.r, .string y.dn.b, .bool y.dn.e, .bool y.dn.k, .int .i64 y.went, .int .i64 y.came]) (rowIs_new w12 27 [.int .i64 0, .string ⟨#[]⟩, .bool false, .bool false, .int .i64 0, .string ⟨#[]⟩, .bool false, .bool false, .int .i64 0, .int .i64 0])⟩
    have hbV : Below w12.heap.size w12 ((w12.alloc (.cells #[.int .i64 0, .string ⟨#[]⟩, .bool false, .bool false, .int .i64 0, .string ⟨#[]⟩, .bool false, .bool false, .int .i64 0, .int .i64 0] 27)).setRow w12.heap.size #[.int .i64 y.up.r, .string y.up.b, .bool y.up.e, .bool y.up.k, .int .i64 y.dn.r, .string y.dn.b, .bool y.dn.e, .bool y.dn.k, .int .i64 y.went, .int .i64 y.came]) := below_setRow ((Below.refl _ _).alloc (Nat.le_refl _) _) (Nat.le_refl _) #[.int .i64 y.up.r, .string y.up.b, .bool y.up.e, .bool y.up.k, .int .i64 y.dn.r, .string y.dn.b, .bool y.dn.e, .bool y.dn.k, .int .i64 y.went, .int .i64 y.came]
    replace BT := hide (BT.out.new hbV)
    replace BX := hide (BX.out.new hbV)
    replace BA := hide (BA.out.new hbV)
    replace BY := hide (BY.out.new hbV)
    replace BB := hide (BB.out.new hbV)
    replace BZ := hide (BZ.out.new hbV)
    replace BO := hide (BO.out.new hbV)
    replace BW := hide (BW.out.new hbV)
    replace HBW := hide (bchain HBW.out hbV)
    clear hbV
    generalize hV : (w12.alloc (.cells #[.int .i64 0, .string ⟨#[]⟩, .bool false, .bool false, .int .i64 0, .string ⟨#[]⟩, .bool false, .bool false, .int .i64 0, .int .i64 0] 27)).setRow w12.heap.size #[.int .i64 y.up.r, .string y.up.b, .bool y.up.e, .bool y.up.k, .int .i64 y.dn.r, .string y.dn.b, .bool y.dn.e, .bool y.dn.k, .int .i64 y.went, .int .i64 y.came] = v12 at *
    clear hV
    generalize w12.heap.size = gBM2 at *
    have hq := tu_neq y.up.r y.up.b y.up.e y.up.k y.dn.r y.dn.b y.dn.e y.dn.k y.went y.came
    have hgd := tu_guard
    have x0 := BY.out.row.cell (j := 0) rfl
    have x1 := BY.out.row.cell (j := 1) rfl
    have x2 := BY.out.row.cell (j := 2) rfl
    have x3 := BY.out.row.cell (j := 3) rfl
    have x4 := BY.out.row.cell (j := 4) rfl
    have x5 := BY.out.row.cell (j := 5) rfl
    have x6 := BY.out.row.cell (j := 6) rfl
    have x7 := BY.out.row.cell (j := 7) rfl
    have x8 := BY.out.row.cell (j := 8) rfl
    have x9 := BY.out.row.cell (j := 9) rfl
    have xl := BY.out.row.lt
    have y0 := BM2.out.row.cell (j := 0) rfl
    have y1 := BM2.out.row.cell (j := 1) rfl
    have y2 := BM2.out.row.cell (j := 2) rfl
    have y3 := BM2.out.row.cell (j := 3) rfl
    have y4 := BM2.out.row.cell (j := 4) rfl
    have y5 := BM2.out.row.cell (j := 5) rfl
    have y6 := BM2.out.row.cell (j := 6) rfl
    have y7 := BM2.out.row.cell (j := 7) rfl
    have y8 := BM2.out.row.cell (j := 8) rfl
    have y9 := BM2.out.row.cell (j := 9) rfl
    have yl := BM2.out.row.lt
    go_wp2_with (first | (refine wpList_load_row (by rfl) 27 _ (by rfl) gBB (by rfl) [.int .i64 bd.up.r, .string bd.up.b, .bool bd.up.e, .bool bd.up.k, .int .i64 bd.dn.r, .string bd.dn.b, .bool bd.dn.e, .bool bd.dn.k, .int .i64 bd.went, .int .i64 bd.came] _ 27 BB.out.row Try.underlying27 rfl (by kernel_rfl) ?_))
    clear x0 x1 x2 x3 x4 x5 x6 x7 x8 x9 xl
    clear y0 y1 y2 y3 y4 y5 y6 y7 y8 y9 yl
    clear hq hgd
    refine (sBa _).mono ?_; clear sBa; rintro x9 w13 ⟨rfl, hb⟩
    replace BT := hide (BT.out.new hb)
    replace BX := hide (BX.out.new hb)
    replace BA := hide (BA.out.new hb)
    replace BY := hide (BY.out.new hb)
    replace BB := hide (BB.out.new hb)
    replace BZ := hide (BZ.out.new hb)
    replace BO := hide (BO.out.new hb)
    replace BW := hide (BW.out.new hb)
    replace BM2 := hide (BM2.out.new hb)
    replace HBW := hide (bchain HBW.out hb)
    clear hb
    clear BM2
    go_upto_region 19 with (refine wpList_store_row (by rfl) 27 _ _ (by rfl) w13.heap.size [.int .i64 z.up.r, .string z.up.b, .bool z.up.e, .bool z.up.k, .int .i64 z.dn.r, .string z.dn.b, .bool z.dn.e, .bool z.dn.k, .int .i64 z.went, .int .i64 z.came] (by rfl) (by rfl) 27 [.int .i64 0, .string ⟨#[]⟩, .bool false, .bool false, .int .i64 0, .string ⟨#[]⟩, .bool false, .bool false, .int .i64 0, .int .i64 0] (rowIs_new w13 27 [.int .i64 0, .string ⟨#[]⟩, .bool false, .bool false, .int .i64 0, .string ⟨#[]⟩, .bool false, .bool false, .int .i64 0, .int .i64 0]) (by kernel_rfl) rfl (by intro u hu; simp at hu; rcases hu with rfl | rfl | rfl | rfl | rfl | rfl | rfl | rfl | rfl | rfl <;> rfl) ?_)
    have BM3 : Hid (BxU ((w13.alloc (.cells #[.int .i64 0, .string ⟨#[]⟩, .bool false, .bool false, .int .i64 0, .string ⟨#[]⟩, .bool false, .bool false, .int .i64 0, .int .i64 0] 27)).setRow w13.heap.size #[.int .i64 z.up.r, .string z.up.b, .bool z.up.e, .bool z.up.k, .int .i64 z.dn.r, .string z.dn.b, .bool z.dn.e, .bool z.dn.k, .int .i64 z.went, .int .i64 z.came]) w13.heap.size z) := ⟨rowIs_setRow (cs' := [.int .i64 z.up.r, .string z.up.b, .bool z.up.e, .bool z.up.k, .int .i64 z.dn.r, .string z.dn.b, .bool z.dn.e, .bool z.dn.k, .int .i64 z.went, .int .i64 z.came]) (rowIs_new w13 27 [.int .i64 0, .string ⟨#[]⟩, .bool false, .bool false, .int .i64 0, .string ⟨#[]⟩, .bool false, .bool false, .int .i64 0, .int .i64 0])⟩
    have hbV : Below w13.heap.size w13 ((w13.alloc (.cells #[.int .i64 0, .string ⟨#[]⟩, .bool false, .bool false, .int .i64 0, .string ⟨#[]⟩, .bool false, .bool false, .int .i64 0, .int .i64 0] 27)).setRow w13.heap.size #[.int .i64 z.up.r, .string z.up.b, .bool z.up.e, .bool z.up.k, .int .i64 z.dn.r, .string z.dn.b, .bool z.dn.e, .bool z.dn.k, .int .i64 z.went, .int .i64 z.came]) := below_setRow ((Below.refl _ _).alloc (Nat.le_refl _) _) (Nat.le_refl _) #[.int .i64 z.up.r, .string z.up.b, .bool z.up.e, .bool z.up.k, .int .i64 z.dn.r, .string z.dn.b, .bool z.dn.e, .bool z.dn.k, .int .i64 z.went, .int .i64 z.came]
    replace BT := hide (BT.out.new hbV)
    replace BX := hide (BX.out.new hbV)
    replace BA := hide (BA.out.new hbV)
    replace BY := hide (BY.out.new hbV)
    replace BB := hide (BB.out.new hbV)
    replace BZ := hide (BZ.out.new hbV)
    replace BO := hide (BO.out.new hbV)
    replace BW := hide (BW.out.new hbV)
    replace HBW := hide (bchain HBW.out hbV)
    clear hbV
    generalize hV : (w13.alloc (.cells #[.int .i64 0, .string ⟨#[]⟩, .bool false, .bool false, .int .i64 0, .string ⟨#[]⟩, .bool false, .bool false, .int .i64 0, .int .i64 0] 27)).setRow w13.heap.size #[.int .i64 z.up.r, .string z.up.b, .bool z.up.e, .bool z.up.k, .int .i64 z.dn.r, .string z.dn.b, .bool z.dn.e, .bool z.dn.k, .int .i64 z.went, .int .i64 z.came] = v13 at *
    clear hV
    generalize w13.heap.size = gBM3 at *
    have hq := tu_neq z.up.r z.up.b z.up.e z.up.k z.dn.r z.dn.b z.dn.e z.dn.k z.went z.came
    have hgd := tu_guard
    have x0 := BZ.out.row.cell (j := 0) rfl
    have x1 := BZ.out.row.cell (j := 1) rfl
    have x2 := BZ.out.row.cell (j := 2) rfl
    have x3 := BZ.out.row.cell (j := 3) rfl
    have x4 := BZ.out.row.cell (j := 4) rfl
    have x5 := BZ.out.row.cell (j := 5) rfl
    have x6 := BZ.out.row.cell (j := 6) rfl
    have x7 := BZ.out.row.cell (j := 7) rfl
    have x8 := BZ.out.row.cell (j := 8) rfl
    have x9 := BZ.out.row.cell (j := 9) rfl
    have xl := BZ.out.row.lt
    have y0 := BM3.out.row.cell (j := 0) rfl
    have y1 := BM3.out.row.cell (j := 1) rfl
    have y2 := BM3.out.row.cell (j := 2) rfl
    have y3 := BM3.out.row.cell (j := 3) rfl
    have y4 := BM3.out.row.cell (j := 4) rfl
    have y5 := BM3.out.row.cell (j := 5) rfl
    have y6 := BM3.out.row.cell (j := 6) rfl
    have y7 := BM3.out.row.cell (j := 7) rfl
    have y8 := BM3.out.row.cell (j := 8) rfl
    have y9 := BM3.out.row.cell (j := 9) rfl
    have yl := BM3.out.row.lt
    go_wp2_with fail
    clear x0 x1 x2 x3 x4 x5 x6 x7 x8 x9 xl
    clear y0 y1 y2 y3 y4 y5 y6 y7 y8 y9 yl
    clear hq hgd
    refine (sNe _).mono ?_; clear sNe; rintro x9 w14 ⟨rfl, hb⟩
    replace BT := hide (BT.out.new hb)
    replace BX := hide (BX.out.new hb)
    replace BA := hide (BA.out.new hb)
    replace BY := hide (BY.out.new hb)
    replace BB := hide (BB.out.new hb)
    replace BZ := hide (BZ.out.new hb)
    replace BO := hide (BO.out.new hb)
    replace BW := hide (BW.out.new hb)
    replace BM3 := hide (BM3.out.new hb)
    replace HBW := hide (bchain HBW.out hb)
    clear hb
    clear BM3
    go_upto_region 22 with (refine wpList_store_row (by rfl) 27 _ _ (by rfl) w14.heap.size [.int .i64 nw.up.r, .string nw.up.b, .bool nw.up.e, .bool nw.up.k, .int .i64 nw.dn.r, .string nw.dn.b, .bool nw.dn.e, .bool nw.dn.k, .int .i64 nw.went, .int .i64 nw.came] (by rfl) (by rfl) 27 [.int .i64 0, .string ⟨#[]⟩, .bool false, .bool false, .int .i64 0, .string ⟨#[]⟩, .bool false, .bool false, .int .i64 0, .int .i64 0] (rowIs_new w14 27 [.int .i64 0, .string ⟨#[]⟩, .bool false, .bool false, .int .i64 0, .string ⟨#[]⟩, .bool false, .bool false, .int .i64 0, .int .i64 0]) (by kernel_rfl) rfl (by intro u hu; simp at hu; rcases hu with rfl | rfl | rfl | rfl | rfl | rfl | rfl | rfl | rfl | rfl <;> rfl) ?_)
    have BM4 : Hid (BxU ((w14.alloc (.cells #[.int .i64 0, .string ⟨#[]⟩, .bool false, .bool false, .int .i64 0, .string ⟨#[]⟩, .bool false, .bool false, .int .i64 0, .int .i64 0] 27)).setRow w14.heap.size #[.int .i64 nw.up.r, .string nw.up.b, .bool nw.up.e, .bool nw.up.k, .int .i64 nw.dn.r, .string nw.dn.b, .bool nw.dn.e, .bool nw.dn.k, .int .i64 nw.went, .int .i64 nw.came]) w14.heap.size nw) := ⟨rowIs_setRow (cs' := [.int .i64 nw.up.r, .string nw.up.b, .bool nw.up.e, .bool nw.up.k, .int .i64 nw.dn.r, .string nw.dn.b, .bool nw.dn.e, .bool nw.dn.k, .int .i64 nw.went, .int .i64 nw.came]) (rowIs_new w14 27 [.int .i64 0, .string ⟨#[]⟩, .bool false, .bool false, .int .i64 0, .string ⟨#[]⟩, .bool false, .bool false, .int .i64 0, .int .i64 0])⟩
    have hbV : Below w14.heap.size w14 ((w14.alloc (.cells #[.int .i64 0, .string ⟨#[]⟩, .bool false, .bool false, .int .i64 0, .string ⟨#[]⟩, .bool false, .bool false, .int .i64 0, .int .i64 0] 27)).setRow w14.heap.size #[.int .i64 nw.up.r, .string nw.up.b, .bool nw.up.e, .bool nw.up.k, .int .i64 nw.dn.r, .string nw.dn.b, .bool nw.dn.e, .bool nw.dn.k, .int .i64 nw.went, .int .i64 nw.came]) := below_setRow ((Below.refl _ _).alloc (Nat.le_refl _) _) (Nat.le_refl _) #[.int .i64 nw.up.r, .string nw.up.b, .bool nw.up.e, .bool nw.up.k, .int .i64 nw.dn.r, .string nw.dn.b, .bool nw.dn.e, .bool nw.dn.k, .int .i64 nw.went, .int .i64 nw.came]
    replace BT := hide (BT.out.new hbV)
    replace BX := hide (BX.out.new hbV)
    replace BA := hide (BA.out.new hbV)
    replace BY := hide (BY.out.new hbV)
    replace BB := hide (BB.out.new hbV)
    replace BZ := hide (BZ.out.new hbV)
    replace BO := hide (BO.out.new hbV)
    replace BW := hide (BW.out.new hbV)
    replace HBW := hide (bchain HBW.out hbV)
    clear hbV
    generalize hV : (w14.alloc (.cells #[.int .i64 0, .string ⟨#[]⟩, .bool false, .bool false, .int .i64 0, .string ⟨#[]⟩, .bool false, .bool false, .int .i64 0, .int .i64 0] 27)).setRow w14.heap.size #[.int .i64 nw.up.r, .string nw.up.b, .bool nw.up.e, .bool nw.up.k, .int .i64 nw.dn.r, .string nw.dn.b, .bool nw.dn.e, .bool nw.dn.k, .int .i64 nw.went, .int .i64 nw.came] = v14 at *
    clear hV
    generalize w14.heap.size = gBM4 at *
    have hq := tu_neq nw.up.r nw.up.b nw.up.e nw.up.k nw.dn.r nw.dn.b nw.dn.e nw.dn.k nw.went nw.came
    have hgd := tu_guard
    have x0 := BW.out.row.cell (j := 0) rfl
    have x1 := BW.out.row.cell (j := 1) rfl
    have x2 := BW.out.row.cell (j := 2) rfl
    have x3 := BW.out.row.cell (j := 3) rfl
    have x4 := BW.out.row.cell (j := 4) rfl
    have x5 := BW.out.row.cell (j := 5) rfl
    have x6 := BW.out.row.cell (j := 6) rfl
    have x7 := BW.out.row.cell (j := 7) rfl
    have x8 := BW.out.row.cell (j := 8) rfl
    have x9 := BW.out.row.cell (j := 9) rfl
    have xl := BW.out.row.lt
    have y0 := BM4.out.row.cell (j := 0) rfl
    have y1 := BM4.out.row.cell (j := 1) rfl
    have y2 := BM4.out.row.cell (j := 2) rfl
    have y3 := BM4.out.row.cell (j := 3) rfl
    have y4 := BM4.out.row.cell (j := 4) rfl
    have y5 := BM4.out.row.cell (j := 5) rfl
    have y6 := BM4.out.row.cell (j := 6) rfl
    have y7 := BM4.out.row.cell (j := 7) rfl
    have y8 := BM4.out.row.cell (j := 8) rfl
    have y9 := BM4.out.row.cell (j := 9) rfl
    have yl := BM4.out.row.lt
    go_upto_region 24 with fail
    clear x0 x1 x2 x3 x4 x5 x6 x7 x8 x9 xl
    clear y0 y1 y2 y3 y4 y5 y6 y7 y8 y9 yl
    clear hq hgd hmm hkk huu
    clear BM4
    clear BW
    go_cut [189] (fun c wx => c = .bool false ∧ Hid (Below v14.heap.size v14 wx))
    case first =>
      as_aux_lemma =>
        have HB0 : Hid (Below v14.heap.size v14 v14) := Below.refl _ _
        clear HBW
        go_wp2_with (first | (refine wpList_load_row (by rfl) 27 _ (by rfl) gBA (by rfl) [.int .i64 ad.up.r, .string ad.up.b, .bool ad.up.e, .bool ad.up.k, .int .i64 ad.dn.r, .string ad.dn.b, .bool ad.dn.e, .bool ad.dn.k, .int .i64 ad.went, .int .i64 ad.came] _ 27 BA.out.row Try.underlying27 rfl (by kernel_rfl) ?_))
        refine (specTunnelOk ad _ as1 as2).mono ?_; rintro x9 y1 ⟨rfl, hb⟩
        replace BT := hide (BT.out.new hb)
        replace BX := hide (BX.out.new hb)
        replace BA := hide (BA.out.new hb)
        replace BY := hide (BY.out.new hb)
        replace BB := hide (BB.out.new hb)
        replace BZ := hide (BZ.out.new hb)
        replace BO := hide (BO.out.new hb)
        replace HB0 := hide (bchain HB0.out hb)
        clear hb
        cases hka : okTu ad
        · go_wp2_with fail
          go_meet
          exact ⟨rfl, HB0⟩
        obtain ⟨hcat, hwent, hoky, hdn, l1, l2, l3, l4⟩ := out_law HY.out hka
        have HDN := hide hdn
        clear hdn
        have e1 : IntKind.i64.wrap (y.went - ad.went) = (u.size : Int) := by rw [← hwent, IntKind.wrap_i64]; omega
        have hne1 : ((u.size : Int) != (u.size : Int)) = false := by simp
        have hne2 : (ad.up.b.toList != ad.up.b.toList) = false := by simp
        have hoy := fun w => implTunnelOk y w ys1 ys2
        rw [hoky] at hoy
        have hq := pp_neq ad.dn.r ad.dn.b ad.dn.e ad.dn.k
        have hgd := pp_guard
        have hsum : u.size + y.up.b.size ≤ 100 := by have := congrArg ByteArray.size hcat; rw [ByteArray.size_append] at this; omega
        have hsz1 : u.size ≤ 100 := by omega
        have hsz2 : y.up.b.size ≤ 100 := by omega
        have hszI : (u.size : Int) + (y.up.b.size : Int) ≤ 100 := by omega
        have x0 := BA.out.row.cell (j := 0) rfl
        have x1 := BA.out.row.cell (j := 1) rfl
        have x2 := BA.out.row.cell (j := 2) rfl
        have x3 := BA.out.row.cell (j := 3) rfl
        have x4 := BA.out.row.cell (j := 4) rfl
        have x5 := BA.out.row.cell (j := 5) rfl
        have x6 := BA.out.row.cell (j := 6) rfl
        have x7 := BA.out.row.cell (j := 7) rfl
        have x8 := BA.out.row.cell (j := 8) rfl
        have x9 := BA.out.row.cell (j := 9) rfl
        have xl := BA.out.row.lt
        have y0 := BY.out.row.cell (j := 0) rfl
        have y1 := BY.out.row.cell (j := 1) rfl
        have y2 := BY.out.row.cell (j := 2) rfl
        have y3 := BY.out.row.cell (j := 3) rfl
        have y4 := BY.out.row.cell (j := 4) rfl
        have y5 := BY.out.row.cell (j := 5) rfl
        have y6 := BY.out.row.cell (j := 6) rfl
        have y7 := BY.out.row.cell (j := 7) rfl
        have y8 := BY.out.row.cell (j := 8) rfl
        have y9 := BY.out.row.cell (j := 9) rfl
        have yl := BY.out.row.lt
        go_wp2_with (first | (refine wpList_load_row (by rfl) 27 _ (by rfl) gBY (by rfl) [.int .i64 y.up.r, .string y.up.b, .bool y.up.e, .bool y.up.k, .int .i64 y.dn.r, .string y.dn.b, .bool y.dn.e, .bool y.dn.k, .int .i64 y.went, .int .i64 y.came] _ 27 BY.out.row Try.underlying27 rfl (by kernel_rfl) ?_))
        clear x0 x1 x2 x3 x4 x5 x6 x7 x8 x9 xl
        clear y0 y1 y2 y3 y4 y5 y6 y7 y8 y9 yl
        refine (hoy _).mono ?_; clear hoy; rintro x9 y2 ⟨rfl, hb⟩
        replace BT := hide (BT.out.new hb)
        replace BX := hide (BX.out.new hb)
        replace BA := hide (BA.out.new hb)
        replace BY := hide (BY.out.new hb)
        replace BB := hide (BB.out.new hb)
        replace BZ := hide (BZ.out.new hb)
        replace BO := hide (BO.out.new hb)
        replace HB0 := hide (bchain HB0.out hb)
        clear hb
        have x0 := BA.out.row.cell (j := 0) rfl
        have x1 := BA.out.row.cell (j := 1) rfl
        have x2 := BA.out.row.cell (j := 2) rfl
        have x3 := BA.out.row.cell (j := 3) rfl
        have x4 := BA.out.row.cell (j := 4) rfl
        have x5 := BA.out.row.cell (j := 5) rfl
        have x6 := BA.out.row.cell (j := 6) rfl
        have x7 := BA.out.row.cell (j := 7) rfl
        have x8 := BA.out.row.cell (j := 8) rfl
        have x9 := BA.out.row.cell (j := 9) rfl
        have xl := BA.out.row.lt
        have y0 := BY.out.row.cell (j := 0) rfl
        have y1 := BY.out.row.cell (j := 1) rfl
        have y2 := BY.out.row.cell (j := 2) rfl
        have y3 := BY.out.row.cell (j := 3) rfl
        have y4 := BY.out.row.cell (j := 4) rfl
        have y5 := BY.out.row.cell (j := 5) rfl
        have y6 := BY.out.row.cell (j := 6) rfl
        have y7 := BY.out.row.cell (j := 7) rfl
        have y8 := BY.out.row.cell (j := 8) rfl
        have y9 := BY.out.row.cell (j := 9) rfl
        have yl := BY.out.row.lt
        rw [HDN.out] at y4 y5 y6 y7
        go_wp2_with fail
        go_meet
        exact ⟨rfl, HB0⟩
    case rest =>
      obtain ⟨rfl, hS⟩ := hcut
      obtain ⟨v14r, rfl⟩ : ∃ v : World, v = wc := ⟨_, rfl⟩
      have hbS := hS.out
      clear hS
      replace BT := hide (BT.out.new hbS)
      replace BX := hide (BX.out.new hbS)
      replace BA := hide (BA.out.new hbS)
      replace BY := hide (BY.out.new hbS)
      replace BB := hide (BB.out.new hbS)
      replace BZ := hide (BZ.out.new hbS)
      replace BO := hide (BO.out.new hbS)
      replace HBW := hide (bchain HBW.out hbS)
      clear hbS
      clear BA
      clear BY
      clear HY as1 as2 ys1 ys2
      go_upto_region 26 with fail
      go_cut [216] (fun c wx => c = .bool false ∧ Hid (Below v14r.heap.size v14r wx))
      case first =>
        as_aux_lemma =>
          clear HBW
          have x0 := BB.out.row.cell (j := 0) rfl
          have x1 := BB.out.row.cell (j := 1) rfl
          have x2 := BB.out.row.cell (j := 2) rfl
          have x3 := BB.out.row.cell (j := 3) rfl
          have x4 := BB.out.row.cell (j := 4) rfl
          have x5 := BB.out.row.cell (j := 5) rfl
          have x6 := BB.out.row.cell (j := 6) rfl
          have x7 := BB.out.row.cell (j := 7) rfl
          have x8 := BB.out.row.cell (j := 8) rfl
          have x9 := BB.out.row.cell (j := 9) rfl
          have xl := BB.out.row.lt
          have rx0 : ∀ y : Later v14r, y.w.cell? ⟨gBB, 0, none⟩ = some (.int .i64 bd.up.r) := fun y => (y.b.cell (p := ⟨gBB, 0, none⟩) xl).trans x0
          have rx1 : ∀ y : Later v14r, y.w.cell? ⟨gBB, 1, none⟩ = some (.string bd.up.b) := fun y => (y.b.cell (p := ⟨gBB, 1, none⟩) xl).trans x1
          have rx2 : ∀ y : Later v14r, y.w.cell? ⟨gBB, 2, none⟩ = some (.bool bd.up.e) := fun y => (y.b.cell (p := ⟨gBB, 2, none⟩) xl).trans x2
          have rx3 : ∀ y : Later v14r, y.w.cell? ⟨gBB, 3, none⟩ = some (.bool bd.up.k) := fun y => (y.b.cell (p := ⟨gBB, 3, none⟩) xl).trans x3
          have rx4 : ∀ y : Later v14r, y.w.cell? ⟨gBB, 4, none⟩ = some (.int .i64 bd.dn.r) := fun y => (y.b.cell (p := ⟨gBB, 4, none⟩) xl).trans x4
          have rx5 : ∀ y : Later v14r, y.w.cell? ⟨gBB, 5, none⟩ = some (.string bd.dn.b) := fun y => (y.b.cell (p := ⟨gBB, 5, none⟩) xl).trans x5
          have rx6 : ∀ y : Later v14r, y.w.cell? ⟨gBB, 6, none⟩ = some (.bool bd.dn.e) := fun y => (y.b.cell (p := ⟨gBB, 6, none⟩) xl).trans x6
          have rx7 : ∀ y : Later v14r, y.w.cell? ⟨gBB, 7, none⟩ = some (.bool bd.dn.k) := fun y => (y.b.cell (p := ⟨gBB, 7, none⟩) xl).trans x7
          have rx8 : ∀ y : Later v14r, y.w.cell? ⟨gBB, 8, none⟩ = some (.int .i64 bd.went) := fun y => (y.b.cell (p := ⟨gBB, 8, none⟩) xl).trans x8
          have rx9 : ∀ y : Later v14r, y.w.cell? ⟨gBB, 9, none⟩ = some (.int .i64 bd.came) := fun y => (y.b.cell (p := ⟨gBB, 9, none⟩) xl).trans x9
          clear x0 x1 x2 x3 x4 x5 x6 x7 x8 x9 xl
          cases hkb : okTu bd
          · skip
            have hcO := fun w => specTunnelOk bd w bs1 bs2
            rw [hkb] at hcO
            clear HZ HTL iTo
            have hne : Nonempty (Later v14r) := ⟨⟨v14r, Below.refl _ _⟩⟩; refine region_later (by kernel_rfl) (by kernel_rfl) ?_
            go_big_quiet_step (fail)
            go_big_quiet_want; go_big_quiet_op
            refine ⟨.bool false, fun y => later_calls (x := y) (hcO y.w), ?_⟩
            go_big_quiet_on
            go_big_quiet_step (fail)
            iterate 24 (go_big_quiet_step (fail))
            refine wpQuiet_nil ?_; intro _ hw'; obtain ⟨y, hw''⟩ := hw'; subst hw''; have hby := y.b
            go_wp2_with fail
            go_meet
            exact ⟨rfl, hby⟩
          obtain ⟨m, hm, hmv, hdb, hokz, hup⟩ := bck_law HZ.out hkb
          subst hm
          clear HZ HTL iTo
          obtain ⟨zu, ⟨zr, zb, ze, zk⟩, zw, zc⟩ := z
          have hdb' : zb = bd.dn.b ++ v.extract 0 m := hdb
          have hup' : zu = bd.up := hup
          clear hdb hup
          subst hdb' hup'
          have hsx : (v.extract 0 m).size ≤ 6 := by rw [ByteArray.size_extract]; omega
          have hs3 : bd.dn.b.size + (v.extract 0 m).size ≤ 1000 := by omega
          have hmI : (0 : Int) ≤ m ∧ (m : Int) ≤ v.size := by omega
          have hcI : ∀ w, Calls Try.prog 16 #[.agg #[.int .i64 bd.up.r, .string bd.up.b, .bool bd.up.e, .bool bd.up.k, .int .i64 zr, .string (bd.dn.b ++ v.extract 0 m), .bool ze, .bool zk, .int .i64 zw, .int .i64 zc]] w fun x w' => x = .returned (.bool true) ∧ Below w.heap.size w w' := fun w => by
            have h := implTunnelOk ⟨bd.up, ⟨zr, bd.dn.b ++ v.extract 0 m, ze, zk⟩, zw, zc⟩ w zs1 zs2
            rw [hokz] at h
            exact h
          have hcO := fun w => specTunnelOk bd w bs1 bs2
          rw [hkb] at hcO
          have y0 := BZ.out.row.cell (j := 0) rfl
          have y1 := BZ.out.row.cell (j := 1) rfl
          have y2 := BZ.out.row.cell (j := 2) rfl
          have y3 := BZ.out.row.cell (j := 3) rfl
          have y4 := BZ.out.row.cell (j := 4) rfl
          have y5 := BZ.out.row.cell (j := 5) rfl
          have y6 := BZ.out.row.cell (j := 6) rfl
          have y7 := BZ.out.row.cell (j := 7) rfl
          have y8 := BZ.out.row.cell (j := 8) rfl
          have y9 := BZ.out.row.cell (j := 9) rfl
          have yl := BZ.out.row.lt
          have ry0 : ∀ y : Later v14r, y.w.cell? ⟨gBZ, 0, none⟩ = some (.int .i64 bd.up.r) := fun y => (y.b.cell (p := ⟨gBZ, 0, none⟩) yl).trans y0
          have ry1 : ∀ y : Later v14r, y.w.cell? ⟨gBZ, 1, none⟩ = some (.string bd.up.b) := fun y => (y.b.cell (p := ⟨gBZ, 1, none⟩) yl).trans y1
          have ry2 : ∀ y : Later v14r, y.w.cell? ⟨gBZ, 2, none⟩ = some (.bool bd.up.e) := fun y => (y.b.cell (p := ⟨gBZ, 2, none⟩) yl).trans y2
          have ry3 : ∀ y : Later v14r, y.w.cell? ⟨gBZ, 3, none⟩ = some (.bool bd.up.k) := fun y => (y.b.cell (p := ⟨gBZ, 3, none⟩) yl).trans y3
          have ry4 : ∀ y : Later v14r, y.w.cell? ⟨gBZ, 4, none⟩ = some (.int .i64 zr) := fun y => (y.b.cell (p := ⟨gBZ, 4, none⟩) yl).trans y4
          have ry5 : ∀ y : Later v14r, y.w.cell? ⟨gBZ, 5, none⟩ = some (.string (bd.dn.b ++ v.extract 0 m)) := fun y => (y.b.cell (p := ⟨gBZ, 5, none⟩) yl).trans y5
          have ry6 : ∀ y : Later v14r, y.w.cell? ⟨gBZ, 6, none⟩ = some (.bool ze) := fun y => (y.b.cell (p := ⟨gBZ, 6, none⟩) yl).trans y6
          have ry7 : ∀ y : Later v14r, y.w.cell? ⟨gBZ, 7, none⟩ = some (.bool zk) := fun y => (y.b.cell (p := ⟨gBZ, 7, none⟩) yl).trans y7
          have ry8 : ∀ y : Later v14r, y.w.cell? ⟨gBZ, 8, none⟩ = some (.int .i64 zw) := fun y => (y.b.cell (p := ⟨gBZ, 8, none⟩) yl).trans y8
          have ry9 : ∀ y : Later v14r, y.w.cell? ⟨gBZ, 9, none⟩ = some (.int .i64 zc) := fun y => (y.b.cell (p := ⟨gBZ, 9, none⟩) yl).trans y9
          clear y0 y1 y2 y3 y4 y5 y6 y7 y8 y9 yl
          clear hokz zs1 zs2 hkb
          have hq := pp_neq bd.up.r bd.up.b bd.up.e bd.up.k
          have hgd := pp_guard
          have hne : Nonempty (Later v14r) := ⟨⟨v14r, Below.refl _ _⟩⟩; refine region_later (by kernel_rfl) (by kernel_rfl) ?_
          go_big_quiet_step (fail)
          go_big_quiet_want; go_big_quiet_op
          refine ⟨.bool true, fun y => later_calls (x := y) (hcO y.w), ?_⟩
          go_big_quiet_on
          iterate 14 (go_big_quiet_step (fail))
          go_big_quiet_want; go_big_quiet_op
          refine ⟨.bool true, fun y => later_calls (x := y) (hcI y.w), ?_⟩
          go_big_quiet_on
          iterate 7 (go_big_quiet_step (fail))
          go_big_quiet_step (fail)
          iterate 2 (go_big_quiet_step (fail))
          refine wpQuiet_nil ?_; intro _ hw'; obtain ⟨y, hw''⟩ := hw'; subst hw''; have hby := y.b
          go_wp2_with fail
          go_meet
          exact ⟨rfl, hby⟩
      case rest =>
        obtain ⟨rfl, hS⟩ := hcut
        obtain ⟨v14rr, rfl⟩ : ∃ v : World, v = wc := ⟨_, rfl⟩
        have hbS := hS.out
        clear hS
        replace BT := hide (BT.out.new hbS)
        replace BX := hide (BX.out.new hbS)
        replace BB := hide (BB.out.new hbS)
        replace BZ := hide (BZ.out.new hbS)
        replace BO := hide (BO.out.new hbS)
        replace HBW := hide (bchain HBW.out hbS)
        clear hbS
        clear BB
        clear BZ
        clear HZ bs1 bs2 zs1 zs2
        go_upto_region 28 with fail
        go_cut [224] (fun c wx => c = .bool false ∧ Hid (Below v14rr.heap.size v14rr wx))
        case first =>
          as_aux_lemma =>
            have HB0 : Hid (Below v14rr.heap.size v14rr v14rr) := Below.refl _ _
            clear HBW
            go_wp2_with (first | (refine wpList_load_row (by rfl) 27 _ (by rfl) gBO (by rfl) [.int .i64 o.up.r, .string o.up.b, .bool o.up.e, .bool o.up.k, .int .i64 o.dn.r, .string o.dn.b, .bool o.dn.e, .bool o.dn.k, .int .i64 o.went, .int .i64 o.came] _ 27 BO.out.row Try.underlying27 rfl (by kernel_rfl) ?_))
            refine (specTunnelOk o _ os1 os2).mono ?_; rintro x9 y1 ⟨rfl, hb⟩
            replace BT := hide (BT.out.new hb)
            replace BX := hide (BX.out.new hb)
            replace BO := hide (BO.out.new hb)
            replace HB0 := hide (bchain HB0.out hb)
            clear hb
            cases hko : okTu o
            · go_wp2_with fail
              go_meet
              exact ⟨rfl, HB0⟩
            have hov := fun w => implOver q w qs1 qs2
            rw [HTL.out hko] at hov
            have x0 := BO.out.row.cell (j := 0) rfl
            have x1 := BO.out.row.cell (j := 1) rfl
            have x2 := BO.out.row.cell (j := 2) rfl
            have x3 := BO.out.row.cell (j := 3) rfl
            have x4 := BO.out.row.cell (j := 4) rfl
            have x5 := BO.out.row.cell (j := 5) rfl
            have x6 := BO.out.row.cell (j := 6) rfl
            have x7 := BO.out.row.cell (j := 7) rfl
            have x8 := BO.out.row.cell (j := 8) rfl
            have x9 := BO.out.row.cell (j := 9) rfl
            have xl := BO.out.row.lt
            go_wp2_with fail
            clear x0 x1 x2 x3 x4 x5 x6 x7 x8 x9 xl
            refine (iTo _).mono ?_; rintro x9 y2 ⟨rfl, hb⟩
            replace BT := hide (BT.out.new hb)
            replace BX := hide (BX.out.new hb)
            replace BO := hide (BO.out.new hb)
            replace HB0 := hide (bchain HB0.out hb)
            clear hb
            dsimp only [tuv]
            go_wp2_with fail
            refine (hov _).mono ?_; rintro x9 y3 ⟨rfl, hb⟩
            replace BT := hide (BT.out.new hb)
            replace BX := hide (BX.out.new hb)
            replace BO := hide (BO.out.new hb)
            replace HB0 := hide (bchain HB0.out hb)
            clear hb
            go_wp2_with fail
            go_meet
            exact ⟨rfl, HB0⟩
        case rest =>
          obtain ⟨rfl, hS⟩ := hcut
          obtain ⟨v14rrr, rfl⟩ : ∃ v : World, v = wc := ⟨_, rfl⟩
          have hbS := hS.out
          clear hS
          replace BT := hide (BT.out.new hbS)
          replace BX := hide (BX.out.new hbS)
          replace BO := hide (BO.out.new hbS)
          replace HBW := hide (bchain HBW.out hbS)
          clear hbS
          clear BO
          clear iTo HTL os1 os2 qs1 qs2
          go_wp2_with (first | (refine wpList_load_row (by rfl) 27 _ (by rfl) gBT (by rfl) [.int .i64 t.up.r, .string t.up.b, .bool t.up.e, .bool t.up.k, .int .i64 t.dn.r, .string t.dn.b, .bool t.dn.e, .bool t.dn.k, .int .i64 t.went, .int .i64 t.came] _ 27 BT.out.row Try.underlying27 rfl (by kernel_rfl) ?_))
          refine (specTunnelOk t _ ts ts2).mono ?_; rintro x9 y1 ⟨rfl, hb⟩
          replace BT := hide (BT.out.new hb)
          replace BX := hide (BX.out.new hb)
          replace HBW := hide (bchain HBW.out hb)
          clear hb
          cases hkt : okTu t
          · skip
            obtain ⟨rfl, rfl⟩ := in_no HX.out hkt
            have hq := tu_eql 0 ⟨#[]⟩ false false 0 ⟨#[]⟩ false false 0 0
            have hgd := tu_guard
            have x0 := BX.out.row.cell (j := 0) rfl
            have x1 := BX.out.row.cell (j := 1) rfl
            have x2 := BX.out.row.cell (j := 2) rfl
            have x3 := BX.out.row.cell (j := 3) rfl
            have x4 := BX.out.row.cell (j := 4) rfl
            have x5 := BX.out.row.cell (j := 5) rfl
            have x6 := BX.out.row.cell (j := 6) rfl
            have x7 := BX.out.row.cell (j := 7) rfl
            have x8 := BX.out.row.cell (j := 8) rfl
            have x9 := BX.out.row.cell (j := 9) rfl
            have xl := BX.out.row.lt
            dsimp only [zTu, zPp] at x0 x1 x2 x3 x4 x5 x6 x7 x8 x9
            go_wp2_with fail
            go_ret
            exact ⟨rfl, HBW.out⟩
          rcases in_law HX.out hkt with ⟨rfl, rfl⟩ | ⟨rfl, hokx, hxb, hxe, hxd⟩
          · skip
            have hq := tu_eql x.up.r x.up.b x.up.e x.up.k x.dn.r x.dn.b x.dn.e x.dn.k x.went x.came
            have hgd := tu_guard
            have x0 := BX.out.row.cell (j := 0) rfl
            have x1 := BX.out.row.cell (j := 1) rfl
            have x2 := BX.out.row.cell (j := 2) rfl
            have x3 := BX.out.row.cell (j := 3) rfl
            have x4 := BX.out.row.cell (j := 4) rfl
            have x5 := BX.out.row.cell (j := 5) rfl
            have x6 := BX.out.row.cell (j := 6) rfl
            have x7 := BX.out.row.cell (j := 7) rfl
            have x8 := BX.out.row.cell (j := 8) rfl
            have x9 := BX.out.row.cell (j := 9) rfl
            have xl := BX.out.row.lt
            have y0 := BT.out.row.cell (j := 0) rfl
            have y1 := BT.out.row.cell (j := 1) rfl
            have y2 := BT.out.row.cell (j := 2) rfl
            have y3 := BT.out.row.cell (j := 3) rfl
            have y4 := BT.out.row.cell (j := 4) rfl
            have y5 := BT.out.row.cell (j := 5) rfl
            have y6 := BT.out.row.cell (j := 6) rfl
            have y7 := BT.out.row.cell (j := 7) rfl
            have y8 := BT.out.row.cell (j := 8) rfl
            have y9 := BT.out.row.cell (j := 9) rfl
            have yl := BT.out.row.lt
            go_wp2_with fail
            go_ret
            exact ⟨rfl, HBW.out⟩
          have HXB := hide hxb
          have HXE := hide hxe
          have HXD := hide hxd
          clear hxb hxe hxd
          have hox := fun w => implTunnelOk x w xs1 xs2
          rw [hokx] at hox
          have hq := pp_eql t.dn.r t.dn.b t.dn.e t.dn.k
          have hgd := pp_guard
          have hsum : t.up.b.size + s.size ≤ 1000 := by omega
          have hee : ((t.up.b ++ s).toList == (t.up.b ++ s).toList) = true := by simp
          have hff : (fin == fin) = true := by simp
          go_wp2_with (first | (refine wpList_load_row (by rfl) 27 _ (by rfl) gBX (by rfl) [.int .i64 x.up.r, .string x.up.b, .bool x.up.e, .bool x.up.k, .int .i64 x.dn.r, .string x.dn.b, .bool x.dn.e, .bool x.dn.k, .int .i64 x.went, .int .i64 x.came] _ 27 BX.out.row Try.underlying27 rfl (by kernel_rfl) ?_))
          refine (hox _).mono ?_; clear hox; rintro x9 y2 ⟨rfl, hb⟩
          replace BT := hide (BT.out.new hb)
          replace BX := hide (BX.out.new hb)
          replace HBW := hide (bchain HBW.out hb)
          clear hb
          have x0 := BX.out.row.cell (j := 0) rfl
          have x1 := BX.out.row.cell (j := 1) rfl
          have x2 := BX.out.row.cell (j := 2) rfl
          have x3 := BX.out.row.cell (j := 3) rfl
          have x4 := BX.out.row.cell (j := 4) rfl
          have x5 := BX.out.row.cell (j := 5) rfl
          have x6 := BX.out.row.cell (j := 6) rfl
          have x7 := BX.out.row.cell (j := 7) rfl
          have x8 := BX.out.row.cell (j := 8) rfl
          have x9 := BX.out.row.cell (j := 9) rfl
          have xl := BX.out.row.lt
          have y0 := BT.out.row.cell (j := 0) rfl
          have y1 := BT.out.row.cell (j := 1) rfl
          have y2 := BT.out.row.cell (j := 2) rfl
          have y3 := BT.out.row.cell (j := 3) rfl
          have y4 := BT.out.row.cell (j := 4) rfl
          have y5 := BT.out.row.cell (j := 5) rfl
          have y6 := BT.out.row.cell (j := 6) rfl
          have y7 := BT.out.row.cell (j := 7) rfl
          have y8 := BT.out.row.cell (j := 8) rfl
          have y9 := BT.out.row.cell (j := 9) rfl
          have yl := BT.out.row.lt
          rw [HXB.out] at x1
          rw [HXE.out] at x2
          rw [HXD.out] at x4 x5 x6 x7
          go_wp2_with fail
          go_ret
          exact ⟨rfl, HBW.out⟩

open Go.ChangeShapes Go.WideShapes Go.ChangeAt Go.Joins
open Go.ChangeMaps (open_string shut_string)


theorem own : ownKnob Try.prog.godebug = none := by kernel_rfl
theorem laidOut : laidOutB Try.prog = true := by kernel_rfl

set_option maxRecDepth 100000 in
theorem lifted (os : Os) (started : os.Started) (H : Type) (enc : TypeId × Value → H) :
    ReturnsInHanded {} Try.checked os 3 .any (Rows.fnTunnelsSpec.pre6 enc Try.prog Try.f3 Rows.fnTunnelsRow.domain false) (Rows.fnTunnelsSpec.post enc Try.prog Try.f3 false true false false) := by
  refine returnsInHanded_of_change (C := Try.checked) own started (by kernel_rfl) Try.func3
    (ChangeSpec.witness6 (enc := enc) (C := Try.checked) false ⟨#[], #[.slice none 0 0], []⟩ 8 (by kernel_rfl) (by kernel_rfl) (by kernel_rfl) (by kernel_rfl)) ?_
  intro W base args ds gs before hval0 hW hcnd _
  have hval : ∀ (j : Nat) t v, Try.f3.params[j]? = some t → args[j]? = some v → Value.okWide Try.prog W .any base t v := hval0
  have hW' := hW
  obtain ⟨p, q, hA0, hV, rfl, hfz, hnd⟩ := hW
  have hA : DataW.TrodAll enc Try.prog W 0 (fun _ => true) true Try.f3.params.toList args.toList ds p := hA0
  rw [Try.params3] at hA hval
  obtain ⟨v0, vs0, d0, ds0, p0, q0, hargs, rfl, rfl, h0, r0⟩ := trodAll_cons hA
  obtain ⟨rfl, rfl, rfl⟩ := trodAll_nil r0
  obtain rfl : args = #[v0] := by cases args; simp_all
  obtain ⟨rfl, rfl⟩ := trodVars_none hV
  have k0 := h0
  have lt0 : ∀ x ∈ p0, x.block < W.heap.size := by obtain ⟨m, hm⟩ := k0; exact DataW.trod_lt m _ _ _ hm
  obtain ⟨a0, len0, cap0, rfl⟩ := okWide_slice Try.underlying22 (hval 0 22 v0 rfl rfl); obtain ⟨hl0, hc0⟩ := open_code h0
  clear hA0 hval0
  refine (walk a0 len0 cap0 W hl0 hc0).mono fun e W' ⟨he, bel⟩ => ?_
  subst he
  exact ⟨_, rfl, _, _, _, [], _, [], hW', trodAll_mk1 (shut_bool Try.underlying4 _), (trodAll_cons_mk (Below.trod laidOut (by kernel_rfl) (of_decide_eq_true (by kernel_rfl)) k0 bel lt0) trodAll_mk0), rfl, bel.frame _, fun h => by cases h⟩

theorem over : Rows.fnTunnelsRow.holds Try.pinned (OpenSpec.ofChange Rows.fnTunnelsSpec) :=
  OpenClaim.holds_of_wide 3 Try.f3 rfl rfl rfl rfl rfl rfl rfl ⟨rfl, rfl, rfl, rfl, rfl⟩ rfl rfl rfl rfl rfl (by kernel_rfl) Try.func3 (by kernel_rfl)
    (of_decide_eq_true (by kernel_rfl)) (by unfold Func.isWrapper; first | (rw [if_pos (by decide +kernel)]; kernel_rfl) | (rw [if_neg (by decide +kernel)]; exact ⟨rfl, rfl⟩))
    (fun os started H enc _ => lifted os started H enc)

end lawTunnels

theorem lawTunnels_proved : Rows.FnTunnelsSaid := lawTunnels.over
#print axioms lawTunnels_proved
end Go.Proofs.Ythkjjnnmnacgcaa
