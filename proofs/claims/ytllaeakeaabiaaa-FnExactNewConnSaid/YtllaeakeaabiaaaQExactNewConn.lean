/- The law FnExactNewConn returns true at every argument and leaves it as it was: impl.NewConn answers as its model, and its answer owns its memory. No condition. -/
import Derived.Test.YtllaeakeaabiaaaQConnSpec1
import Derived.Test.YtllaeakeaabiaaaQConnImpl1
import Derived.Test.YtllaeakeaabiaaaQG26
import Derived.WalkKit
import Derived.ProofKit
import Derived.OpenShut
import Derived.ShutString
import Derived.ChangeOld
import Derived.Below
import Derived.Lib.SmallJoins
import Derived.Deep.Cut
import Derived.Deep.DeepCutAuto
import Derived.Deep.RegionHeld3
namespace Go.Proofs.Ytllaeakeaabiaaa
open Go.RowKit
set_option maxRecDepth 100000
namespace exactNewConn
open Go.ChangeShapes Go.WideShapes Go.ChangeAt Go.RowKit Go.Joins
open Go.ChangeMaps (open_string shut_string)
set_option linter.unusedVariables false
set_option linter.unusedSimpArgs false

theorem newCn_nil (limit : Int) : (newCn limit).1.reg.es = [] ∧ (newCn limit).1.inT = [] ∧ (newCn limit).1.outT = [] ∧ (newCn limit).1.flows = [] := by
  unfold newCn; split <;> exact ⟨rfl, rfl, rfl, rfl⟩
theorem owr_nil {D : Type} (E : Shp D) (u : World) : OwR E u (.slice none 0 0) [] [] := ⟨[], rfl, World.ownsRow_nil u 0 E.ty E.size, fun t ht => (by cases ht), rfl⟩
theorem cnow_nil {d : CnD} (h1 : d.reg.es = []) (h2 : d.inT = []) (h3 : d.outT = []) (h4 : d.flows = []) (u : World) : CnOw u [] d (.slice none 0 0) (.slice none 0 0) (.slice none 0 0) (.slice none 0 0) :=
  ⟨⟨[], [], [], [], by rw [h1]; exact owr_nil _ u, by rw [h2]; exact owr_nil _ u, by rw [h3]; exact owr_nil _ u, by rw [h4]; exact owr_nil _ u, rfl⟩, List.nodup_nil⟩
theorem cn_nil {d : CnD} (h1 : d.reg.es = []) (h2 : d.inT = []) (h3 : d.outT = []) (h4 : d.flows = []) (u : World) : CnRd u d (.slice none 0 0) (.slice none 0 0) (.slice none 0 0) (.slice none 0 0) := (cnow_nil h1 h2 h3 h4 u).rd
set_option maxHeartbeats 8000000 in
theorem walk (limit : Int) (w : World) :
    Calls Try.prog 4 #[.int .i64 limit] w fun x w' => x = .returned (.bool true) ∧ Below w.heap.size w w' := by
  have hsp := fun u => specNewConn limit u
  have him := fun u => implNewConn limit u
  have hnil := newCn_nil limit
  obtain ⟨⟨d, z⟩, hv⟩ : ∃ v, newCn limit = v := ⟨_, rfl⟩
  rw [hv] at hsp him hnil
  clear hv
  dsimp only [cnv] at hsp him hnil
  obtain ⟨n1, n2, n3, n4⟩ := hnil
  have HR : Hid (∀ u, CnRd u d (.slice none 0 0) (.slice none 0 0) (.slice none 0 0) (.slice none 0 0)) := fun u => cn_nil n1 n2 n3 n4 u
  have HO : Hid (∀ u, CnOw u [] d (.slice none 0 0) (.slice none 0 0) (.slice none 0 0) (.slice none 0 0)) := fun u => cnow_nil n1 n2 n3 n4 u
  have hc0 : cntConn d = 0 := by unfold cntConn; rw [n1, n2, n3, n4]; rfl
  have HM : Hid (∀ u, CnRd u (mkConn d 1) (.slice none 0 0) (.slice none 0 0) (.slice none 0 0) (.slice none 0 0)) := fun u => cn_nil (by unfold mkConn; rw [n1]; rfl) (by unfold mkConn; rw [n2]; rfl) (by unfold mkConn; rw [n3]; rfl) (by unfold mkConn; rw [n4]; rfl) u
  clear n1 n2 n3 n4
  have hmk := fun u => markConn1 d (.slice none 0 0) (.slice none 0 0) (.slice none 0 0) (.slice none 0 0) 1 [] u (HO.out u) (by rw [hc0]; omega)
  have hhd := fun u => heldConn1 d d (.slice none 0 0) (.slice none 0 0) (.slice none 0 0) (.slice none 0 0) 1 u (HM.out u) (by rw [hc0]; omega)
  rw [hc0] at hmk hhd
  clear hc0
  dsimp only [cnv] at hmk hhd
  have hzz : (z != z) = false := by simp
  have HB : Below w.heap.size w w := Below.refl _ _
  go_enter Try.func4, Try.ntmps4
  go_wp2_with fail
  refine (hsp _).mono ?_; rintro x w1 ⟨rfl, hb⟩
  replace HB := bchain HB hb
  clear hb
  go_upto_region 2 with (refine wpList_store_row (by rfl) 41 _ _ (by rfl) w1.heap.size [.int .i64 d.reg.lim, .int .i64 d.reg.top, .slice none 0 0, .int .i64 d.inr, .slice none 0 0, .int .i64 d.outr, .slice none 0 0, .int .i64 d.get, .int .i64 d.give, .int .i64 d.first, .slice none 0 0, .bool d.away, .bool d.dead] (by rfl) (by rfl) 41 [.int .i64 0, .int .i64 0, .slice none 0 0, .int .i64 0, .slice none 0 0, .int .i64 0, .slice none 0 0, .int .i64 0, .int .i64 0, .int .i64 0, .slice none 0 0, .bool false, .bool false] (rowIs_new w1 41 [.int .i64 0, .int .i64 0, .slice none 0 0, .int .i64 0, .slice none 0 0, .int .i64 0, .slice none 0 0, .int .i64 0, .int .i64 0, .int .i64 0, .slice none 0 0, .bool false, .bool false]) (by kernel_rfl) rfl (by intro u hu; simp at hu; rcases hu with rfl | rfl | rfl | rfl | rfl | rfl | rfl | rfl | rfl | rfl | rfl | rfl | rfl <;> rfl) ?_)
  have RS : RowIs ((w1.alloc (.cells #[.int .i64 0, .int .i64 0, .slice none 0 0, .int .i64 0, .slice none 0 0, .int .i64 0, .slice none 0 0, .int .i64 0, .int .i64 0, .int .i64 0, .slice none 0 0, .bool false, .bool false] 41)).setRow w1.heap.size #[.int .i64 d.reg.lim, .int .i64 d.reg.top, .slice none 0 0, .int .i64 d.inr, .slice none 0 0, .int .i64 d.outr, .slice none 0 0, .int .i64 d.get, .int .i64 d.give, .int .i64 d.first, .slice none 0 0, .bool d.away, .bool d.dead]) w1.heap.size 41 [.int .i64 d.reg.lim, .int .i64 d.reg.top, .slice none 0 0, .int .i64 d.inr, .slice none 0 0, .int .i64 d.outr, .slice none 0 0, .int .i64 d.get, .int .i64 d.give, .int .i64 d.first, .slice none 0 0, .bool d.away, .bool d.dead] := rowIs_setRow (cs' := [.int .i64 d.reg.lim, .int .i64 d.reg.top, .slice none 0 0, .int .i64 d.inr, .slice none 0 0, .int .i64 d.outr, .slice none 0 0, .int .i64 d.get, .int .i64 d.give, .int .i64 d.first, .slice none 0 0, .bool d.away, .bool d.dead]) (rowIs_new w1 41 [.int .i64 0, .int .i64 0, .slice none 0 0, .int .i64 0, .slice none 0 0, .int .i64 0, .slice none 0 0, .int .i64 0, .int .i64 0, .int .i64 0, .slice none 0 0, .bool false, .bool false])
  have hbV : Below w1.heap.size w1 ((w1.alloc (.cells #[.int .i64 0, .int .i64 0, .slice none 0 0, .int .i64 0, .slice none 0 0, .int .i64 0, .slice none 0 0, .int .i64 0, .int .i64 0, .int .i64 0, .slice none 0 0, .bool false, .bool false] 41)).setRow w1.heap.size #[.int .i64 d.reg.lim, .int .i64 d.reg.top, .slice none 0 0, .int .i64 d.inr, .slice none 0 0, .int .i64 d.outr, .slice none 0 0, .int .i64 d.get, .int .i64 d.give, .int .i64 d.first, .slice none 0 0, .bool d.away, .bool d.dead]) := below_setRow ((Below.refl _ _).alloc (Nat.le_refl _) _) (Nat.le_refl _) #[.int .i64 d.reg.lim, .int .i64 d.reg.top, .slice none 0 0, .int .i64 d.inr, .slice none 0 0, .int .i64 d.outr, .slice none 0 0, .int .i64 d.get, .int .i64 d.give, .int .i64 d.first, .slice none 0 0, .bool d.away, .bool d.dead]
  replace HB := bchain HB hbV
  clear hbV
  generalize hV : (w1.alloc (.cells #[.int .i64 0, .int .i64 0, .slice none 0 0, .int .i64 0, .slice none 0 0, .int .i64 0, .slice none 0 0, .int .i64 0, .int .i64 0, .int .i64 0, .slice none 0 0, .bool false, .bool false] 41)).setRow w1.heap.size #[.int .i64 d.reg.lim, .int .i64 d.reg.top, .slice none 0 0, .int .i64 d.inr, .slice none 0 0, .int .i64 d.outr, .slice none 0 0, .int .i64 d.get, .int .i64 d.give, .int .i64 d.first, .slice none 0 0, .bool d.away, .bool d.dead] = V1 at *
  clear hV
  generalize w1.heap.size = gRS at *
  go_wp2_with fail
  refine (him _).mono ?_; rintro x w2 ⟨rfl, hb⟩
  replace RS := RS.new hb
  replace HB := bchain HB hb
  clear hb
  go_upto_region 3 with (refine wpList_store_row (by rfl) 41 _ _ (by rfl) w2.heap.size [.int .i64 d.reg.lim, .int .i64 d.reg.top, .slice none 0 0, .int .i64 d.inr, .slice none 0 0, .int .i64 d.outr, .slice none 0 0, .int .i64 d.get, .int .i64 d.give, .int .i64 d.first, .slice none 0 0, .bool d.away, .bool d.dead] (by rfl) (by rfl) 41 [.int .i64 0, .int .i64 0, .slice none 0 0, .int .i64 0, .slice none 0 0, .int .i64 0, .slice none 0 0, .int .i64 0, .int .i64 0, .int .i64 0, .slice none 0 0, .bool false, .bool false] (rowIs_new w2 41 [.int .i64 0, .int .i64 0, .slice none 0 0, .int .i64 0, .slice none 0 0, .int .i64 0, .slice none 0 0, .int .i64 0, .int .i64 0, .int .i64 0, .slice none 0 0, .bool false, .bool false]) (by kernel_rfl) rfl (by intro u hu; simp at hu; rcases hu with rfl | rfl | rfl | rfl | rfl | rfl | rfl | rfl | rfl | rfl | rfl | rfl | rfl <;> rfl) ?_)
  have RI : RowIs ((w2.alloc (.cells #[.int .i64 0, .int .i64 0, .slice none 0 0, .int .i64 0, .slice none 0 0, .int .i64 0, .slice none 0 0, .int .i64 0, .int .i64 0, .int .i64 0, .slice none 0 0, .bool false, .bool false] 41)).setRow w2.heap.size #[.int .i64 d.reg.lim, .int .i64 d.reg.top, .slice none 0 0, .int .i64 d.inr, .slice none 0 0, .int .i64 d.outr, .slice none 0 0, .int .i64 d.get, .int .i64 d.give, .int .i64 d.first, .slice none 0 0, .bool d.away, .bool d.dead]) w2.heap.size 41 [.int .i64 d.reg.lim, .int .i64 d.reg.top, .slice none 0 0, .int .i64 d.inr, .slice none 0 0, .int .i64 d.outr, .slice none 0 0, .int .i64 d.get, .int .i64 d.give, .int .i64 d.first, .slice none 0 0, .bool d.away, .bool d.dead] := rowIs_setRow (cs' := [.int .i64 d.reg.lim, .int .i64 d.reg.top, .slice none 0 0, .int .i64 d.inr, .slice none 0 0, .int .i64 d.outr, .slice none 0 0, .int .i64 d.get, .int .i64 d.give, .int .i64 d.first, .slice none 0 0, .bool d.away, .bool d.dead]) (rowIs_new w2 41 [.int .i64 0, .int .i64 0, .slice none 0 0, .int .i64 0, .slice none 0 0, .int .i64 0, .slice none 0 0, .int .i64 0, .int .i64 0, .int .i64 0, .slice none 0 0, .bool false, .bool false])
  have hbV : Below w2.heap.size w2 ((w2.alloc (.cells #[.int .i64 0, .int .i64 0, .slice none 0 0, .int .i64 0, .slice none 0 0, .int .i64 0, .slice none 0 0, .int .i64 0, .int .i64 0, .int .i64 0, .slice none 0 0, .bool false, .bool false] 41)).setRow w2.heap.size #[.int .i64 d.reg.lim, .int .i64 d.reg.top, .slice none 0 0, .int .i64 d.inr, .slice none 0 0, .int .i64 d.outr, .slice none 0 0, .int .i64 d.get, .int .i64 d.give, .int .i64 d.first, .slice none 0 0, .bool d.away, .bool d.dead]) := below_setRow ((Below.refl _ _).alloc (Nat.le_refl _) _) (Nat.le_refl _) #[.int .i64 d.reg.lim, .int .i64 d.reg.top, .slice none 0 0, .int .i64 d.inr, .slice none 0 0, .int .i64 d.outr, .slice none 0 0, .int .i64 d.get, .int .i64 d.give, .int .i64 d.first, .slice none 0 0, .bool d.away, .bool d.dead]
  replace RS := RS.new hbV
  replace HB := bchain HB hbV
  clear hbV
  generalize hV : (w2.alloc (.cells #[.int .i64 0, .int .i64 0, .slice none 0 0, .int .i64 0, .slice none 0 0, .int .i64 0, .slice none 0 0, .int .i64 0, .int .i64 0, .int .i64 0, .slice none 0 0, .bool false, .bool false] 41)).setRow w2.heap.size #[.int .i64 d.reg.lim, .int .i64 d.reg.top, .slice none 0 0, .int .i64 d.inr, .slice none 0 0, .int .i64 d.outr, .slice none 0 0, .int .i64 d.get, .int .i64 d.give, .int .i64 d.first, .slice none 0 0, .bool d.away, .bool d.dead] = V2 at *
  clear hV
  generalize w2.heap.size = gRI at *
  go_wp2_with (first | (refine wpList_load_row (by rfl) 41 _ (by rfl) gRI (by rfl) [.int .i64 d.reg.lim, .int .i64 d.reg.top, .slice none 0 0, .int .i64 d.inr, .slice none 0 0, .int .i64 d.outr, .slice none 0 0, .int .i64 d.get, .int .i64 d.give, .int .i64 d.first, .slice none 0 0, .bool d.away, .bool d.dead] _ 41 RI Try.underlying41 rfl (by kernel_rfl) ?_) | (refine wpList_load_row (by rfl) 41 _ (by rfl) gRS (by rfl) [.int .i64 d.reg.lim, .int .i64 d.reg.top, .slice none 0 0, .int .i64 d.inr, .slice none 0 0, .int .i64 d.outr, .slice none 0 0, .int .i64 d.get, .int .i64 d.give, .int .i64 d.first, .slice none 0 0, .bool d.away, .bool d.dead] _ 41 RS Try.underlying41 rfl (by kernel_rfl) ?_))
  refine (show Calls _ _ #[cnv d _ _ _ _, cnv d _ _ _ _] _ _ from eqConn1 d _ _ _ _ _ _ _ _ _ (HR.out _) (HR.out _)).mono ?_; rintro x w3 ⟨rfl, hb⟩
  replace RS := RS.new hb
  replace RI := RI.new hb
  replace HB := bchain HB hb
  clear hb
  go_wp2_with (refine wpList_load_row (by rfl) 41 _ (by rfl) gRI (by rfl) [.int .i64 d.reg.lim, .int .i64 d.reg.top, .slice none 0 0, .int .i64 d.inr, .slice none 0 0, .int .i64 d.outr, .slice none 0 0, .int .i64 d.get, .int .i64 d.give, .int .i64 d.first, .slice none 0 0, .bool d.away, .bool d.dead] _ 41 RI Try.underlying41 rfl (by kernel_rfl) ?_)
  refine (hmk _).mono ?_; rintro x w4 ⟨rfl, _, ht⟩
  have hb : Below w3.heap.size w3 w4 := ⟨ht.os, ht.tape, ht.output, ht.size, fun k hk => ht.block k hk (by simp)⟩
  clear ht
  replace RS := RS.new hb
  replace RI := RI.new hb
  replace HB := bchain HB hb
  clear hb
  go_wp2_with (refine wpList_load_row (by rfl) 41 _ (by rfl) gRI (by rfl) [.int .i64 d.reg.lim, .int .i64 d.reg.top, .slice none 0 0, .int .i64 d.inr, .slice none 0 0, .int .i64 d.outr, .slice none 0 0, .int .i64 d.get, .int .i64 d.give, .int .i64 d.first, .slice none 0 0, .bool d.away, .bool d.dead] _ 41 RI Try.underlying41 rfl (by kernel_rfl) ?_)
  refine (hhd _).mono ?_; rintro x w5 ⟨rfl, hb⟩
  replace RS := RS.new hb
  replace RI := RI.new hb
  replace HB := bchain HB hb
  clear hb
  go_wp2_with fail
  refine (him _).mono ?_; rintro x w6 ⟨rfl, hb⟩
  replace RS := RS.new hb
  replace RI := RI.new hb
  replace HB := bchain HB hb
  clear hb
  go_upto_region 14 with (refine wpList_store_row (by rfl) 41 _ _ (by rfl) w6.heap.size [.int .i64 d.reg.lim, .int .i64 d.reg.top, .slice none 0 0, .int .i64 d.inr, .slice none 0 0, .int .i64 d.outr, .slice none 0 0, .int .i64 d.get, .int .i64 d.give, .int .i64 d.first, .slice none 0 0, .bool d.away, .bool d.dead] (by rfl) (by rfl) 41 [.int .i64 0, .int .i64 0, .slice none 0 0, .int .i64 0, .slice none 0 0, .int .i64 0, .slice none 0 0, .int .i64 0, .int .i64 0, .int .i64 0, .slice none 0 0, .bool false, .bool false] (rowIs_new w6 41 [.int .i64 0, .int .i64 0, .slice none 0 0, .int .i64 0, .slice none 0 0, .int .i64 0, .slice none 0 0, .int .i64 0, .int .i64 0, .int .i64 0, .slice none 0 0, .bool false, .bool false]) (by kernel_rfl) rfl (by intro u hu; simp at hu; rcases hu with rfl | rfl | rfl | rfl | rfl | rfl | rfl | rfl | rfl | rfl | rfl | rfl | rfl <;> rfl) ?_)
  have RH : RowIs ((w6.alloc (.cells #[.int .i64 0, .int .i64 0, .slice none 0 0, .int .i64 0, .slice none 0 0, .int .i64 0, .slice none 0 0, .int .i64 0, .int .i64 0, .int .i64 0, .slice none 0 0, .bool false, .bool false] 41)).setRow w6.heap.size #[.int .i64 d.reg.lim, .int .i64 d.reg.top, .slice none 0 0, .int .i64 d.inr, .slice none 0 0, .int .i64 d.outr, .slice none 0 0, .int .i64 d.get, .int .i64 d.give, .int .i64 d.first, .slice none 0 0, .bool d.away, .bool d.dead]) w6.heap.size 41 [.int .i64 d.reg.lim, .int .i64 d.reg.top, .slice none 0 0, .int .i64 d.inr, .slice none 0 0, .int .i64 d.outr, .slice none 0 0, .int .i64 d.get, .int .i64 d.give, .int .i64 d.first, .slice none 0 0, .bool d.away, .bool d.dead] := rowIs_setRow (cs' := [.int .i64 d.reg.lim, .int .i64 d.reg.top, .slice none 0 0, .int .i64 d.inr, .slice none 0 0, .int .i64 d.outr, .slice none 0 0, .int .i64 d.get, .int .i64 d.give, .int .i64 d.first, .slice none 0 0, .bool d.away, .bool d.dead]) (rowIs_new w6 41 [.int .i64 0, .int .i64 0, .slice none 0 0, .int .i64 0, .slice none 0 0, .int .i64 0, .slice none 0 0, .int .i64 0, .int .i64 0, .int .i64 0, .slice none 0 0, .bool false, .bool false])
  have hbV : Below w6.heap.size w6 ((w6.alloc (.cells #[.int .i64 0, .int .i64 0, .slice none 0 0, .int .i64 0, .slice none 0 0, .int .i64 0, .slice none 0 0, .int .i64 0, .int .i64 0, .int .i64 0, .slice none 0 0, .bool false, .bool false] 41)).setRow w6.heap.size #[.int .i64 d.reg.lim, .int .i64 d.reg.top, .slice none 0 0, .int .i64 d.inr, .slice none 0 0, .int .i64 d.outr, .slice none 0 0, .int .i64 d.get, .int .i64 d.give, .int .i64 d.first, .slice none 0 0, .bool d.away, .bool d.dead]) := below_setRow ((Below.refl _ _).alloc (Nat.le_refl _) _) (Nat.le_refl _) #[.int .i64 d.reg.lim, .int .i64 d.reg.top, .slice none 0 0, .int .i64 d.inr, .slice none 0 0, .int .i64 d.outr, .slice none 0 0, .int .i64 d.get, .int .i64 d.give, .int .i64 d.first, .slice none 0 0, .bool d.away, .bool d.dead]
  replace RS := RS.new hbV
  replace RI := RI.new hbV
  replace HB := bchain HB hbV
  clear hbV
  generalize hV : (w6.alloc (.cells #[.int .i64 0, .int .i64 0, .slice none 0 0, .int .i64 0, .slice none 0 0, .int .i64 0, .slice none 0 0, .int .i64 0, .int .i64 0, .int .i64 0, .slice none 0 0, .bool false, .bool false] 41)).setRow w6.heap.size #[.int .i64 d.reg.lim, .int .i64 d.reg.top, .slice none 0 0, .int .i64 d.inr, .slice none 0 0, .int .i64 d.outr, .slice none 0 0, .int .i64 d.get, .int .i64 d.give, .int .i64 d.first, .slice none 0 0, .bool d.away, .bool d.dead] = V6 at *
  clear hV
  generalize w6.heap.size = gRH at *
  go_wp2_with (first | (refine wpList_load_row (by rfl) 41 _ (by rfl) gRH (by rfl) [.int .i64 d.reg.lim, .int .i64 d.reg.top, .slice none 0 0, .int .i64 d.inr, .slice none 0 0, .int .i64 d.outr, .slice none 0 0, .int .i64 d.get, .int .i64 d.give, .int .i64 d.first, .slice none 0 0, .bool d.away, .bool d.dead] _ 41 RH Try.underlying41 rfl (by kernel_rfl) ?_) | (refine wpList_load_row (by rfl) 41 _ (by rfl) gRS (by rfl) [.int .i64 d.reg.lim, .int .i64 d.reg.top, .slice none 0 0, .int .i64 d.inr, .slice none 0 0, .int .i64 d.outr, .slice none 0 0, .int .i64 d.get, .int .i64 d.give, .int .i64 d.first, .slice none 0 0, .bool d.away, .bool d.dead] _ 41 RS Try.underlying41 rfl (by kernel_rfl) ?_))
  refine (show Calls _ _ #[cnv d _ _ _ _, cnv d _ _ _ _] _ _ from eqConn1 d _ _ _ _ _ _ _ _ _ (HR.out _) (HR.out _)).mono ?_; rintro x w7 ⟨rfl, hb⟩
  replace RS := RS.new hb
  replace RI := RI.new hb
  replace RH := RH.new hb
  replace HB := bchain HB hb
  clear hb
  go_wp2_with (refine wpList_load_row (by rfl) 41 _ (by rfl) gRI (by rfl) [.int .i64 d.reg.lim, .int .i64 d.reg.top, .slice none 0 0, .int .i64 d.inr, .slice none 0 0, .int .i64 d.outr, .slice none 0 0, .int .i64 d.get, .int .i64 d.give, .int .i64 d.first, .slice none 0 0, .bool d.away, .bool d.dead] _ 41 RI Try.underlying41 rfl (by kernel_rfl) ?_)
  refine (hhd _).mono ?_; rintro x w8 ⟨rfl, hb⟩
  replace RS := RS.new hb
  replace RI := RI.new hb
  replace RH := RH.new hb
  replace HB := bchain HB hb
  clear hb
  go_wp2_with fail
  go_ret
  exact ⟨rfl, HB⟩


theorem own : ownKnob Try.prog.godebug = none := by kernel_rfl
theorem laidOut : laidOutB Try.prog = true := by kernel_rfl

set_option maxRecDepth 100000 in
theorem lifted (os : Os) (started : os.Started) (H : Type) (enc : TypeId × Value → H) :
    ReturnsInHanded {} Try.checked os 4 .any (Rows.fnExactNewConnSpec.pre6 enc Try.prog Try.f4 Rows.fnExactNewConnRow.domain false) (Rows.fnExactNewConnSpec.post enc Try.prog Try.f4 false true false false) := by
  refine returnsInHanded_of_change (C := Try.checked) own started (by kernel_rfl) Try.func4
    (ChangeSpec.witness6 (enc := enc) (C := Try.checked) false ⟨#[], #[.int .i64 0], []⟩ 8 (by kernel_rfl) (by kernel_rfl) (by kernel_rfl) (by kernel_rfl)) ?_
  intro W base args ds gs before hval0 hW hcnd _
  have hval : ∀ (j : Nat) t v, Try.f4.params[j]? = some t → args[j]? = some v → Value.okWide Try.prog W .any base t v := hval0
  have hW' := hW
  obtain ⟨p, q, hA0, hV, rfl, hfz, hnd⟩ := hW
  have hA : DataW.TrodAll enc Try.prog W 0 (fun _ => true) true Try.f4.params.toList args.toList ds p := hA0
  rw [Try.params4] at hA hval
  obtain ⟨v0, vs0, d0, ds0, p0, q0, hargs, rfl, rfl, h0, r0⟩ := trodAll_cons hA
  obtain ⟨rfl, rfl, rfl⟩ := trodAll_nil r0
  obtain rfl : args = #[v0] := by cases args; simp_all
  obtain ⟨rfl, rfl⟩ := trodVars_none hV
  have k0 := h0
  have lt0 : ∀ x ∈ p0, x.block < W.heap.size := by obtain ⟨m, hm⟩ := k0; exact DataW.trod_lt m _ _ _ hm
  obtain ⟨n, rfl, rfl, rfl, wn⟩ := open_int Try.underlying2 (hval 0 2 v0 rfl rfl) h0
  clear hA0 hval0
  refine (walk n W).mono fun e W' ⟨he, bel⟩ => ?_
  subst he
  exact ⟨_, rfl, _, _, _, [], _, [], hW', trodAll_mk1 (shut_bool Try.underlying4 _), (trodAll_cons_mk (Below.trod laidOut (by kernel_rfl) (of_decide_eq_true (by kernel_rfl)) k0 bel lt0) trodAll_mk0), rfl, bel.frame _, fun h => by cases h⟩

theorem over : Rows.fnExactNewConnRow.holds Try.pinned (OpenSpec.ofChange Rows.fnExactNewConnSpec) :=
  OpenClaim.holds_of_wide 4 Try.f4 rfl rfl rfl rfl rfl rfl rfl ⟨rfl, rfl, rfl, rfl, rfl⟩ rfl rfl rfl rfl rfl (by kernel_rfl) Try.func4 (by kernel_rfl)
    (of_decide_eq_true (by kernel_rfl)) (by unfold Func.isWrapper; first | (rw [if_pos (by decide +kernel)]; kernel_rfl) | (rw [if_neg (by decide +kernel)]; exact ⟨rfl, rfl⟩))
    (fun os started H enc _ => lifted os started H enc)

end exactNewConn

theorem exactNewConn_proved : Rows.FnExactNewConnSaid := exactNewConn.over
#print axioms exactNewConn_proved
end Go.Proofs.Ytllaeakeaabiaaa
