/- The law FnExactTook returns true at every argument and leaves it as it was: impl.Took answers as its model, and its answer owns its memory. No condition. -/
import Derived.Test.YtfmeinkhdgbgjaaGreatQTkG28
import Derived.Test.YtfmeinkhdgbgjaaGreatQTkG4
import Derived.Test.YtfmeinkhdgbgjaaGreatQTkG5
import Derived.Test.YtfmeinkhdgbgjaaGreatQTkG6
import Derived.Deep.DeepMust
import Derived.Test.YtfmeinkhdgbgjaaGreatQTkG19
import Derived.Test.YtfmeinkhdgbgjaaGreatQTkG25
import Derived.Test.YtfmeinkhdgbgjaaGreatQTkG24
import Derived.Test.YtfmeinkhdgbgjaaGreatQTkLinkGot
import Derived.Test.YtfmeinkhdgbgjaaGreatQTkLinkTook
import Derived.Test.YtfmeinkhdgbgjaaGreatQTkG2
import Derived.OpenShut
import Derived.ChangeOld
import Derived.WalkKit
import Derived.ProofKit
import Derived.ShutString
import Derived.Below
import Derived.Lib.SmallJoins
import Derived.Deep.Cut
import Derived.Deep.DeepCutAuto
import Derived.Deep.RegionHeld3
namespace Go.Proofs.YtfmeinkhdgbgjaaGreat
open Go.RowKit
set_option maxRecDepth 100000
namespace exactTook
open Go.ChangeShapes Go.WideShapes Go.ChangeAt Go.RowKit Go.Joins
open Go.ChangeMaps (open_string shut_string)
set_option linter.unusedVariables false
set_option linter.unusedSimpArgs false

set_option maxHeartbeats 16000000 in
theorem walk (d : CnD) (ve vi vo vf : Value) (id n : Int) (w : World) (hv : CnRd w d ve vi vo vf) :
    Calls Tryz.prog 5 #[cnv d ve vi vo vf, .int .i64 id, .int .i64 n] w fun x w' => x = .returned (.bool true) ∧ Below w.heap.size w w' := by
  dsimp only [cnv] at *
  have HV := hide hv
  clear hv
  obtain ⟨ea, ep, he0, _, _⟩ := HV.out.e.form
  subst he0
  obtain ⟨ia, ip, hi0, _, _⟩ := HV.out.i.form
  subst hi0
  obtain ⟨oa, op, ho0, _, _⟩ := HV.out.o.form
  subst ho0
  obtain ⟨fa, fp, hf0, _, _⟩ := HV.out.f.form
  subst hf0
  obtain ⟨⟨D, L, t9⟩, hans⟩ : ∃ y, tookD d id n = y := ⟨_, rfl⟩
  have Hspec : Hid (∀ (ve vi vo vf : Value) (u : World), CnRd u d ve vi vo vf → Calls Tryz.prog 26 #[cnv d ve vi vo vf, .int .i64 id, .int .i64 n] u fun x w' => ∃ v vfr, x = .returned (.tuple #[v, vfr, .string t9]) ∧ FaceF u.heap.size (D, L) v vfr w' ∧ Below u.heap.size u w') := fun ve vi vo vf u hu => by have h := specTook d ve vi vo vf id n u hu; rw [hans] at h; exact h
  have Himpl : Hid (∀ (ve vi vo vf : Value) (u : World), CnRd u d ve vi vo vf → Calls Tryz.prog 28 #[cnv d ve vi vo vf, .int .i64 id, .int .i64 n] u fun x w' => ∃ v vfr, x = .returned (.tuple #[v, vfr, .string t9]) ∧ FaceF u.heap.size (D, L) v vfr w' ∧ Below u.heap.size u w') := fun ve vi vo vf u hu => by have h := implTook d ve vi vo vf id n u hu; rw [hans] at h; exact h
  have hcn : 1 + cntConn D ≤ 1000000 := by have h := cnt_took d id n; rw [hans] at h; dsimp only at h; omega
  have hfw : L.length ≤ 125000 := by have h := took_few d id n; rw [hans] at h; dsimp only at h; omega
  clear hans
  have hz9 : (t9.toList != t9.toList) = false := by simp
  obtain ⟨K1, hK1⟩ : ∃ K, 1 + cntConn D = K := ⟨_, rfl⟩
  obtain ⟨K2, hK2⟩ : ∃ K, K1 + L.length * 4 = K := ⟨_, rfl⟩
  have HK1 := hide hK1
  have HK2 := hide hK2
  have hk1 : K1 ≤ 1000000 := by omega
  have hk2 : K1 + L.length * 4 ≤ 1000000000 := by omega
  clear hcn hK1 hfw hK2
  obtain ⟨W, hW⟩ : ∃ W, w.alloc (.cells #[.int .i64 d.reg.lim, .int .i64 d.reg.top, .slice ea d.reg.es.length ep, .int .i64 d.inr, .slice ia d.inT.length ip, .int .i64 d.outr, .slice oa d.outT.length op, .int .i64 d.get, .int .i64 d.give, .int .i64 d.first, .slice fa d.flows.length fp, .bool d.away, .bool d.dead] 66) = W := ⟨_, rfl⟩
  have RX0 : RowIs W w.heap.size 66 [.int .i64 d.reg.lim, .int .i64 d.reg.top, .slice ea d.reg.es.length ep, .int .i64 d.inr, .slice ia d.inT.length ip, .int .i64 d.outr, .slice oa d.outT.length op, .int .i64 d.get, .int .i64 d.give, .int .i64 d.first, .slice fa d.flows.length fp, .bool d.away, .bool d.dead] := by rw [← hW]; exact rowIs_new w 66 [.int .i64 d.reg.lim, .int .i64 d.reg.top, .slice ea d.reg.es.length ep, .int .i64 d.inr, .slice ia d.inT.length ip, .int .i64 d.outr, .slice oa d.outT.length op, .int .i64 d.get, .int .i64 d.give, .int .i64 d.first, .slice fa d.flows.length fp, .bool d.away, .bool d.dead]
  have HB0 : Below w.heap.size w W := by rw [← hW]; exact (Below.refl _ _).alloc (Nat.le_refl _) _
  have RX := hide RX0
  have HB := hide HB0
  clear RX0 HB0
  have hsn := szConn_nn d
  obtain ⟨left, hleft⟩ : ∃ left, (1048576 : Int) - szConn d = left := ⟨_, rfl⟩
  have hcall := fun w h => szConn1 d (.slice ea d.reg.es.length ep) (.slice ia d.inT.length ip) (.slice oa d.outT.length op) (.slice fa d.flows.length fp) 1048576 w h (by omega) (by omega)
  rw [hleft] at hcall
  go_enter Tryz.func5, Tryz.ntmps5
  go_wp2_with (refine wpList_load_row (by rfl) 66 _ (by rfl) w.heap.size (by rfl) [.int .i64 d.reg.lim, .int .i64 d.reg.top, .slice ea d.reg.es.length ep, .int .i64 d.inr, .slice ia d.inT.length ip, .int .i64 d.outr, .slice oa d.outT.length op, .int .i64 d.get, .int .i64 d.give, .int .i64 d.first, .slice fa d.flows.length fp, .bool d.away, .bool d.dead] _ 66 RX.out Tryz.underlying66 rfl (by kernel_rfl) ?_)
  clear hW
  refine (show Calls _ _ #[cnv d _ _ _ _, _] _ _ from hcall _ (HV.out.new HB.out)).mono ?_; clear hcall
  rintro x w1 ⟨rfl | ⟨rfl, hp⟩, hb⟩
  · go_wp2_with fail
    go_ret
    exact ⟨rfl, bchain HB.out hb⟩
  have hs : szConn d ≤ 1048576 := by unfold szConn; unfold szConn at hleft; omega
  have hl0 : ¬ left < 0 := by omega
  have hl1 : left ≤ 1048576 := by unfold szConn at hleft; omega
  have HS9 := hide hs
  clear hleft hsn hs
  replace RX := hide (RX.out.new hb)
  replace HB := hide (bchain HB.out hb)
  clear hb
  go_wp2_with (refine wpList_load_row (by rfl) 66 _ (by rfl) w.heap.size (by rfl) [.int .i64 d.reg.lim, .int .i64 d.reg.top, .slice ea d.reg.es.length ep, .int .i64 d.inr, .slice ia d.inT.length ip, .int .i64 d.outr, .slice oa d.outT.length op, .int .i64 d.get, .int .i64 d.give, .int .i64 d.first, .slice fa d.flows.length fp, .bool d.away, .bool d.dead] _ 66 RX.out Tryz.underlying66 rfl (by kernel_rfl) ?_)
  refine (show Calls _ _ #[cnv d _ _ _ _] _ _ from toConn1 d _ _ _ _ _ (HV.out.new HB.out) HS9.out).mono ?_
  rintro x w2 ⟨ue, ui, uo, uf, bs1, rfl, ho, hlo, hb⟩
  have O1 := hide ho
  have LO1 := hide hlo
  clear ho hlo
  replace RX := hide (RX.out.new hb)
  replace HB := hide (bchain HB.out hb)
  clear hb
  obtain ⟨ea1, ep1, he1, _, _⟩ := O1.out.rd.e.form
  subst he1
  obtain ⟨ia1, ip1, hi1, _, _⟩ := O1.out.rd.i.form
  subst hi1
  obtain ⟨oa1, op1, ho1, _, _⟩ := O1.out.rd.o.form
  subst ho1
  obtain ⟨fa1, fp1, hf1, _, _⟩ := O1.out.rd.f.form
  subst hf1
  dsimp only [cnv]
  go_wp2_with fail
  refine (show Calls _ _ #[cnv d _ _ _ _, .int .i64 id, .int .i64 n] _ _ from Hspec.out _ _ _ _ _ O1.out.rd).mono ?_
  rintro x w3 ⟨v, vfr, rfl, ⟨ue, ui, uo, uf, bsS, hveq, ho, hlo, hfo, hfa⟩, hb⟩
  subst hveq
  obtain ⟨fraS, frpS, hfe, _, _⟩ := owns_form hfo
  subst hfe
  have FS := hide hfo
  have FAS := hide hfa
  clear hfo hfa
  have OS := hide ho
  have LOS := hide hlo
  have zS := hb.size
  clear ho hlo
  replace RX := hide (RX.out.new hb)
  replace HB := hide (bchain HB.out hb)
  replace O1 := hide (O1.out.new hb)
  clear hb
  obtain ⟨eaS, epS, heS, _, _⟩ := OS.out.rd.e.form
  subst heS
  obtain ⟨iaS, ipS, hiS, _, _⟩ := OS.out.rd.i.form
  subst hiS
  obtain ⟨oaS, opS, hoS, _, _⟩ := OS.out.rd.o.form
  subst hoS
  obtain ⟨faS, fpS, hfS, _, _⟩ := OS.out.rd.f.form
  subst hfS
  dsimp only [cnv]
  clear O1
  clear LO1
  go_upto_region 6 with (refine wpList_store_row (by rfl) 32 _ _ (by rfl) w3.heap.size [.int .i64 D.reg.lim, .int .i64 D.reg.top, .slice eaS D.reg.es.length epS, .int .i64 D.inr, .slice iaS D.inT.length ipS, .int .i64 D.outr, .slice oaS D.outT.length opS, .int .i64 D.get, .int .i64 D.give, .int .i64 D.first, .slice faS D.flows.length fpS, .bool D.away, .bool D.dead] (by rfl) (by rfl) 32 [.int .i64 0, .int .i64 0, .slice none 0 0, .int .i64 0, .slice none 0 0, .int .i64 0, .slice none 0 0, .int .i64 0, .int .i64 0, .int .i64 0, .slice none 0 0, .bool false, .bool false] (rowIs_new w3 32 [.int .i64 0, .int .i64 0, .slice none 0 0, .int .i64 0, .slice none 0 0, .int .i64 0, .slice none 0 0, .int .i64 0, .int .i64 0, .int .i64 0, .slice none 0 0, .bool false, .bool false]) (by kernel_rfl) rfl (by intro u hu; simp at hu; rcases hu with rfl | rfl | rfl | rfl | rfl | rfl | rfl | rfl | rfl | rfl | rfl | rfl | rfl <;> rfl) ?_)
  have BS0 : RowIs ((w3.alloc (.cells #[.int .i64 0, .int .i64 0, .slice none 0 0, .int .i64 0, .slice none 0 0, .int .i64 0, .slice none 0 0, .int .i64 0, .int .i64 0, .int .i64 0, .slice none 0 0, .bool false, .bool false] 32)).setRow w3.heap.size #[.int .i64 D.reg.lim, .int .i64 D.reg.top, .slice eaS D.reg.es.length epS, .int .i64 D.inr, .slice iaS D.inT.length ipS, .int .i64 D.outr, .slice oaS D.outT.length opS, .int .i64 D.get, .int .i64 D.give, .int .i64 D.first, .slice faS D.flows.length fpS, .bool D.away, .bool D.dead]) w3.heap.size 32 [.int .i64 D.reg.lim, .int .i64 D.reg.top, .slice eaS D.reg.es.length epS, .int .i64 D.inr, .slice iaS D.inT.length ipS, .int .i64 D.outr, .slice oaS D.outT.length opS, .int .i64 D.get, .int .i64 D.give, .int .i64 D.first, .slice faS D.flows.length fpS, .bool D.away, .bool D.dead] := rowIs_setRow (cs' := [.int .i64 D.reg.lim, .int .i64 D.reg.top, .slice eaS D.reg.es.length epS, .int .i64 D.inr, .slice iaS D.inT.length ipS, .int .i64 D.outr, .slice oaS D.outT.length opS, .int .i64 D.get, .int .i64 D.give, .int .i64 D.first, .slice faS D.flows.length fpS, .bool D.away, .bool D.dead]) (rowIs_new w3 32 [.int .i64 0, .int .i64 0, .slice none 0 0, .int .i64 0, .slice none 0 0, .int .i64 0, .slice none 0 0, .int .i64 0, .int .i64 0, .int .i64 0, .slice none 0 0, .bool false, .bool false])
  have hbV : Below w3.heap.size w3 ((w3.alloc (.cells #[.int .i64 0, .int .i64 0, .slice none 0 0, .int .i64 0, .slice none 0 0, .int .i64 0, .slice none 0 0, .int .i64 0, .int .i64 0, .int .i64 0, .slice none 0 0, .bool false, .bool false] 32)).setRow w3.heap.size #[.int .i64 D.reg.lim, .int .i64 D.reg.top, .slice eaS D.reg.es.length epS, .int .i64 D.inr, .slice iaS D.inT.length ipS, .int .i64 D.outr, .slice oaS D.outT.length opS, .int .i64 D.get, .int .i64 D.give, .int .i64 D.first, .slice faS D.flows.length fpS, .bool D.away, .bool D.dead]) := below_setRow ((Below.refl _ _).alloc (Nat.le_refl _) _) (Nat.le_refl _) #[.int .i64 D.reg.lim, .int .i64 D.reg.top, .slice eaS D.reg.es.length epS, .int .i64 D.inr, .slice iaS D.inT.length ipS, .int .i64 D.outr, .slice oaS D.outT.length opS, .int .i64 D.get, .int .i64 D.give, .int .i64 D.first, .slice faS D.flows.length fpS, .bool D.away, .bool D.dead]
  replace RX := hide (RX.out.new hbV)
  replace HB := hide (bchain HB.out hbV)
  replace OS := hide (OS.out.new hbV)
  replace FS := hide (owns_new FS.out hbV)
  clear hbV
  have BS := hide BS0
  clear BS0
  generalize hV : (w3.alloc (.cells #[.int .i64 0, .int .i64 0, .slice none 0 0, .int .i64 0, .slice none 0 0, .int .i64 0, .slice none 0 0, .int .i64 0, .int .i64 0, .int .i64 0, .slice none 0 0, .bool false, .bool false] 32)).setRow w3.heap.size #[.int .i64 D.reg.lim, .int .i64 D.reg.top, .slice eaS D.reg.es.length epS, .int .i64 D.inr, .slice iaS D.inT.length ipS, .int .i64 D.outr, .slice oaS D.outT.length opS, .int .i64 D.get, .int .i64 D.give, .int .i64 D.first, .slice faS D.flows.length fpS, .bool D.away, .bool D.dead] = w4 at *
  clear hV
  generalize w3.heap.size = gS at *
  have CS := hide OS.out.rd
  clear OS LOS
  have RS := hide (reads_of_owns FS.out)
  clear FS FAS
  have HBS : Hid (Below w4.heap.size w4 w4) := Below.refl _ _
  have HBo := HB
  have RXo := RX
  have BSo := BS
  have CSo := CS
  have RSo := RS
  clear HB RX BS CS RS
  have HB := hide (bchain HBo.out HBS.out)
  have RX := hide (RXo.out.new HBS.out)
  have BS := hide (BSo.out.new HBS.out)
  have CS := hide (CSo.out.new HBS.out)
  have RS := hide (RSo.out.new HBS.out)
  go_wp2_with (refine wpList_load_row (by rfl) 66 _ (by rfl) w.heap.size (by rfl) [.int .i64 d.reg.lim, .int .i64 d.reg.top, .slice ea d.reg.es.length ep, .int .i64 d.inr, .slice ia d.inT.length ip, .int .i64 d.outr, .slice oa d.outT.length op, .int .i64 d.get, .int .i64 d.give, .int .i64 d.first, .slice fa d.flows.length fp, .bool d.away, .bool d.dead] _ 66 RX.out Tryz.underlying66 rfl (by kernel_rfl) ?_)
  refine (show Calls _ _ #[cnv d _ _ _ _] _ _ from toConn1 d _ _ _ _ _ (HV.out.new HB.out) HS9.out).mono ?_
  rintro x w5 ⟨ue, ui, uo, uf, bs8, rfl, ho, hlo, hb⟩
  have O8 := hide ho
  have hz8 := HBS.out.size
  have LO8 : Hid (∀ b ∈ bs8, w4.heap.size ≤ b) := fun b hb => Nat.le_trans hz8 (hlo b hb)
  clear ho hlo hz8
  clear HB RX BS CS RS
  replace HBS := hide (bchain HBS.out hb)
  clear hb
  obtain ⟨ea8, ep8, he8, _, _⟩ := O8.out.rd.e.form
  subst he8
  obtain ⟨ia8, ip8, hi8, _, _⟩ := O8.out.rd.i.form
  subst hi8
  obtain ⟨oa8, op8, ho8, _, _⟩ := O8.out.rd.o.form
  subst ho8
  obtain ⟨fa8, fp8, hf8, _, _⟩ := O8.out.rd.f.form
  subst hf8
  dsimp only [cnv]
  have HT8 := hide O8.out.lt
  go_upto_region 7 with (refine wpList_store_row (by rfl) 32 _ _ (by rfl) w5.heap.size [.int .i64 d.reg.lim, .int .i64 d.reg.top, .slice ea8 d.reg.es.length ep8, .int .i64 d.inr, .slice ia8 d.inT.length ip8, .int .i64 d.outr, .slice oa8 d.outT.length op8, .int .i64 d.get, .int .i64 d.give, .int .i64 d.first, .slice fa8 d.flows.length fp8, .bool d.away, .bool d.dead] (by rfl) (by rfl) 32 [.int .i64 0, .int .i64 0, .slice none 0 0, .int .i64 0, .slice none 0 0, .int .i64 0, .slice none 0 0, .int .i64 0, .int .i64 0, .int .i64 0, .slice none 0 0, .bool false, .bool false] (rowIs_new w5 32 [.int .i64 0, .int .i64 0, .slice none 0 0, .int .i64 0, .slice none 0 0, .int .i64 0, .slice none 0 0, .int .i64 0, .int .i64 0, .int .i64 0, .slice none 0 0, .bool false, .bool false]) (by kernel_rfl) rfl (by intro u hu; simp at hu; rcases hu with rfl | rfl | rfl | rfl | rfl | rfl | rfl | rfl | rfl | rfl | rfl | rfl | rfl <;> rfl) ?_)
  have B80 : RowIs ((w5.alloc (.cells #[.int .i64 0, .int .i64 0, .slice none 0 0, .int .i64 0, .slice none 0 0, .int .i64 0, .slice none 0 0, .int .i64 0, .int .i64 0, .int .i64 0, .slice none 0 0, .bool false, .bool false] 32)).setRow w5.heap.size #[.int .i64 d.reg.lim, .int .i64 d.reg.top, .slice ea8 d.reg.es.length ep8, .int .i64 d.inr, .slice ia8 d.inT.length ip8, .int .i64 d.outr, .slice oa8 d.outT.length op8, .int .i64 d.get, .int .i64 d.give, .int .i64 d.first, .slice fa8 d.flows.length fp8, .bool d.away, .bool d.dead]) w5.heap.size 32 [.int .i64 d.reg.lim, .int .i64 d.reg.top, .slice ea8 d.reg.es.length ep8, .int .i64 d.inr, .slice ia8 d.inT.length ip8, .int .i64 d.outr, .slice oa8 d.outT.length op8, .int .i64 d.get, .int .i64 d.give, .int .i64 d.first, .slice fa8 d.flows.length fp8, .bool d.away, .bool d.dead] := rowIs_setRow (cs' := [.int .i64 d.reg.lim, .int .i64 d.reg.top, .slice ea8 d.reg.es.length ep8, .int .i64 d.inr, .slice ia8 d.inT.length ip8, .int .i64 d.outr, .slice oa8 d.outT.length op8, .int .i64 d.get, .int .i64 d.give, .int .i64 d.first, .slice fa8 d.flows.length fp8, .bool d.away, .bool d.dead]) (rowIs_new w5 32 [.int .i64 0, .int .i64 0, .slice none 0 0, .int .i64 0, .slice none 0 0, .int .i64 0, .slice none 0 0, .int .i64 0, .int .i64 0, .int .i64 0, .slice none 0 0, .bool false, .bool false])
  have hbV : Below w5.heap.size w5 ((w5.alloc (.cells #[.int .i64 0, .int .i64 0, .slice none 0 0, .int .i64 0, .slice none 0 0, .int .i64 0, .slice none 0 0, .int .i64 0, .int .i64 0, .int .i64 0, .slice none 0 0, .bool false, .bool false] 32)).setRow w5.heap.size #[.int .i64 d.reg.lim, .int .i64 d.reg.top, .slice ea8 d.reg.es.length ep8, .int .i64 d.inr, .slice ia8 d.inT.length ip8, .int .i64 d.outr, .slice oa8 d.outT.length op8, .int .i64 d.get, .int .i64 d.give, .int .i64 d.first, .slice fa8 d.flows.length fp8, .bool d.away, .bool d.dead]) := below_setRow ((Below.refl _ _).alloc (Nat.le_refl _) _) (Nat.le_refl _) #[.int .i64 d.reg.lim, .int .i64 d.reg.top, .slice ea8 d.reg.es.length ep8, .int .i64 d.inr, .slice ia8 d.inT.length ip8, .int .i64 d.outr, .slice oa8 d.outT.length op8, .int .i64 d.get, .int .i64 d.give, .int .i64 d.first, .slice fa8 d.flows.length fp8, .bool d.away, .bool d.dead]
  replace HBS := hide (bchain HBS.out hbV)
  replace O8 := hide (O8.out.new hbV)
  clear hbV
  have B8 := hide B80
  clear B80
  generalize hV : (w5.alloc (.cells #[.int .i64 0, .int .i64 0, .slice none 0 0, .int .i64 0, .slice none 0 0, .int .i64 0, .slice none 0 0, .int .i64 0, .int .i64 0, .int .i64 0, .slice none 0 0, .bool false, .bool false] 32)).setRow w5.heap.size #[.int .i64 d.reg.lim, .int .i64 d.reg.top, .slice ea8 d.reg.es.length ep8, .int .i64 d.inr, .slice ia8 d.inT.length ip8, .int .i64 d.outr, .slice oa8 d.outT.length op8, .int .i64 d.get, .int .i64 d.give, .int .i64 d.first, .slice fa8 d.flows.length fp8, .bool d.away, .bool d.dead] = w6 at *
  clear hV
  generalize w5.heap.size = g8 at *
  have N8 : Hid (∀ b ∈ bs8, b < g8) := HT8.out
  have HG8 := hide B8.out.lt
  have HGW := hide HBS.out.size
  clear HT8
  go_wp2_with (refine wpList_load_row (by rfl) 32 _ (by rfl) g8 (by rfl) [.int .i64 d.reg.lim, .int .i64 d.reg.top, .slice ea8 d.reg.es.length ep8, .int .i64 d.inr, .slice ia8 d.inT.length ip8, .int .i64 d.outr, .slice oa8 d.outT.length op8, .int .i64 d.get, .int .i64 d.give, .int .i64 d.first, .slice fa8 d.flows.length fp8, .bool d.away, .bool d.dead] _ 32 B8.out Tryz.underlying32 rfl (by kernel_rfl) ?_)
  refine (show Calls _ _ #[cnv d _ _ _ _, .int .i64 id, .int .i64 n] _ _ from Himpl.out _ _ _ _ _ O8.out.rd).mono ?_
  rintro x w7 ⟨v, vfr, rfl, ⟨ue, ui, uo, uf, bsI, hveq, ho, hlo, hfo, hfa⟩, hb⟩
  subst hveq
  obtain ⟨fraI, frpI, hfe, _, _⟩ := owns_form hfo
  subst hfe
  have FI := hide hfo
  have FAI := hide hfa
  clear hfo hfa
  have OI := hide ho
  have LOI := hide hlo
  have zI := hb.size
  clear ho hlo
  replace HBS := hide (bchain HBS.out hb)
  replace O8 := hide (O8.out.new hb)
  replace B8 := hide (B8.out.new hb)
  clear hb
  obtain ⟨eaI, epI, heI, _, _⟩ := OI.out.rd.e.form
  subst heI
  obtain ⟨iaI, ipI, hiI, _, _⟩ := OI.out.rd.i.form
  subst hiI
  obtain ⟨oaI, opI, hoI, _, _⟩ := OI.out.rd.o.form
  subst hoI
  obtain ⟨faI, fpI, hfI, _, _⟩ := OI.out.rd.f.form
  subst hfI
  dsimp only [cnv]
  have HTI := hide OI.out.lt
  have HFI := hide FI.out.lt
  go_upto_region 8 with (refine wpList_store_row (by rfl) 32 _ _ (by rfl) w7.heap.size [.int .i64 D.reg.lim, .int .i64 D.reg.top, .slice eaI D.reg.es.length epI, .int .i64 D.inr, .slice iaI D.inT.length ipI, .int .i64 D.outr, .slice oaI D.outT.length opI, .int .i64 D.get, .int .i64 D.give, .int .i64 D.first, .slice faI D.flows.length fpI, .bool D.away, .bool D.dead] (by rfl) (by rfl) 32 [.int .i64 0, .int .i64 0, .slice none 0 0, .int .i64 0, .slice none 0 0, .int .i64 0, .slice none 0 0, .int .i64 0, .int .i64 0, .int .i64 0, .slice none 0 0, .bool false, .bool false] (rowIs_new w7 32 [.int .i64 0, .int .i64 0, .slice none 0 0, .int .i64 0, .slice none 0 0, .int .i64 0, .slice none 0 0, .int .i64 0, .int .i64 0, .int .i64 0, .slice none 0 0, .bool false, .bool false]) (by kernel_rfl) rfl (by intro u hu; simp at hu; rcases hu with rfl | rfl | rfl | rfl | rfl | rfl | rfl | rfl | rfl | rfl | rfl | rfl | rfl <;> rfl) ?_)
  have BI0 : RowIs ((w7.alloc (.cells #[.int .i64 0, .int .i64 0, .slice none 0 0, .int .i64 0, .slice none 0 0, .int .i64 0, .slice none 0 0, .int .i64 0, .int .i64 0, .int .i64 0, .slice none 0 0, .bool false, .bool false] 32)).setRow w7.heap.size #[.int .i64 D.reg.lim, .int .i64 D.reg.top, .slice eaI D.reg.es.length epI, .int .i64 D.inr, .slice iaI D.inT.length ipI, .int .i64 D.outr, .slice oaI D.outT.length opI, .int .i64 D.get, .int .i64 D.give, .int .i64 D.first, .slice faI D.flows.length fpI, .bool D.away, .bool D.dead]) w7.heap.size 32 [.int .i64 D.reg.lim, .int .i64 D.reg.top, .slice eaI D.reg.es.length epI, .int .i64 D.inr, .slice iaI D.inT.length ipI, .int .i64 D.outr, .slice oaI D.outT.length opI, .int .i64 D.get, .int .i64 D.give, .int .i64 D.first, .slice faI D.flows.length fpI, .bool D.away, .bool D.dead] := rowIs_setRow (cs' := [.int .i64 D.reg.lim, .int .i64 D.reg.top, .slice eaI D.reg.es.length epI, .int .i64 D.inr, .slice iaI D.inT.length ipI, .int .i64 D.outr, .slice oaI D.outT.length opI, .int .i64 D.get, .int .i64 D.give, .int .i64 D.first, .slice faI D.flows.length fpI, .bool D.away, .bool D.dead]) (rowIs_new w7 32 [.int .i64 0, .int .i64 0, .slice none 0 0, .int .i64 0, .slice none 0 0, .int .i64 0, .slice none 0 0, .int .i64 0, .int .i64 0, .int .i64 0, .slice none 0 0, .bool false, .bool false])
  have hbV : Below w7.heap.size w7 ((w7.alloc (.cells #[.int .i64 0, .int .i64 0, .slice none 0 0, .int .i64 0, .slice none 0 0, .int .i64 0, .slice none 0 0, .int .i64 0, .int .i64 0, .int .i64 0, .slice none 0 0, .bool false, .bool false] 32)).setRow w7.heap.size #[.int .i64 D.reg.lim, .int .i64 D.reg.top, .slice eaI D.reg.es.length epI, .int .i64 D.inr, .slice iaI D.inT.length ipI, .int .i64 D.outr, .slice oaI D.outT.length opI, .int .i64 D.get, .int .i64 D.give, .int .i64 D.first, .slice faI D.flows.length fpI, .bool D.away, .bool D.dead]) := below_setRow ((Below.refl _ _).alloc (Nat.le_refl _) _) (Nat.le_refl _) #[.int .i64 D.reg.lim, .int .i64 D.reg.top, .slice eaI D.reg.es.length epI, .int .i64 D.inr, .slice iaI D.inT.length ipI, .int .i64 D.outr, .slice oaI D.outT.length opI, .int .i64 D.get, .int .i64 D.give, .int .i64 D.first, .slice faI D.flows.length fpI, .bool D.away, .bool D.dead]
  replace HBS := hide (bchain HBS.out hbV)
  replace O8 := hide (O8.out.new hbV)
  replace B8 := hide (B8.out.new hbV)
  replace OI := hide (OI.out.new hbV)
  replace FI := hide (owns_new FI.out hbV)
  clear hbV
  have BI := hide BI0
  clear BI0
  generalize hV : (w7.alloc (.cells #[.int .i64 0, .int .i64 0, .slice none 0 0, .int .i64 0, .slice none 0 0, .int .i64 0, .slice none 0 0, .int .i64 0, .int .i64 0, .int .i64 0, .slice none 0 0, .bool false, .bool false] 32)).setRow w7.heap.size #[.int .i64 D.reg.lim, .int .i64 D.reg.top, .slice eaI D.reg.es.length epI, .int .i64 D.inr, .slice iaI D.inT.length ipI, .int .i64 D.outr, .slice oaI D.outT.length opI, .int .i64 D.get, .int .i64 D.give, .int .i64 D.first, .slice faI D.flows.length fpI, .bool D.away, .bool D.dead] = w8 at *
  clear hV
  generalize w7.heap.size = gI at *
  have NI : Hid (gI ∉ bsI) := fun hx => Nat.lt_irrefl _ (HTI.out gI hx)
  have MI : Hid (∀ b ∈ bsI, b ∉ bs8) := fun b hb hx => by have h1 := LOI.out b hb; have h2 := N8.out b hx; have h4 := HG8.out; omega
  have PI : Hid (gI ∉ bs8) := fun hx => by have h2 := N8.out gI hx; have h4 := HG8.out; omega
  have QI : Hid (∀ q, (Value.slice fraI L.length frpI).ownBlock = some q → q ∉ bs8 ∧ q ∉ bsI ∧ q ≠ gI) := fun q hq => ⟨fun hx => by have h1 := (HFI.out q hq).1; have h2 := N8.out q hx; have h4 := HG8.out; omega, FAI.out q hq, fun e => Nat.lt_irrefl _ (e ▸ (HFI.out q hq).2)⟩
  clear HTI HFI
  have HB := hide (bchain HBo.out HBS.out)
  have RX := hide (RXo.out.new HBS.out)
  have BS := hide (BSo.out.new HBS.out)
  have CS := hide (CSo.out.new HBS.out)
  have RS := hide (RSo.out.new HBS.out)
  have t0 := RowIs.cell (j := 0) BI.out rfl
  have t1 := RowIs.cell (j := 1) BI.out rfl
  have t2 := RowIs.cell (j := 2) BI.out rfl
  have t3 := RowIs.cell (j := 3) BI.out rfl
  have t4 := RowIs.cell (j := 4) BI.out rfl
  have t5 := RowIs.cell (j := 5) BI.out rfl
  have t6 := RowIs.cell (j := 6) BI.out rfl
  have t7 := RowIs.cell (j := 7) BI.out rfl
  have t8 := RowIs.cell (j := 8) BI.out rfl
  have t9 := RowIs.cell (j := 9) BI.out rfl
  have t10 := RowIs.cell (j := 10) BI.out rfl
  have t11 := RowIs.cell (j := 11) BI.out rfl
  have t12 := RowIs.cell (j := 12) BI.out rfl
  have tl := BI.out.lt
  have s0 := RowIs.cell (j := 0) BS.out rfl
  have s1 := RowIs.cell (j := 1) BS.out rfl
  have s2 := RowIs.cell (j := 2) BS.out rfl
  have s3 := RowIs.cell (j := 3) BS.out rfl
  have s4 := RowIs.cell (j := 4) BS.out rfl
  have s5 := RowIs.cell (j := 5) BS.out rfl
  have s6 := RowIs.cell (j := 6) BS.out rfl
  have s7 := RowIs.cell (j := 7) BS.out rfl
  have s8 := RowIs.cell (j := 8) BS.out rfl
  have s9 := RowIs.cell (j := 9) BS.out rfl
  have s10 := RowIs.cell (j := 10) BS.out rfl
  have s11 := RowIs.cell (j := 11) BS.out rfl
  have s12 := RowIs.cell (j := 12) BS.out rfl
  have sl := BS.out.lt
  go_wp2_with fail
  refine (show Calls _ _ #[cnv D _ _ _ _, cnv D _ _ _ _] _ _ from eqConn1 D _ _ _ _ _ _ _ _ _ OI.out.rd CS.out).mono ?_; rintro x w9 ⟨rfl, hb⟩
  clear t0 t1 t2 t3 t4 t5 t6 t7 t8 t9 t10 t11 t12 tl
  clear s0 s1 s2 s3 s4 s5 s6 s7 s8 s9 s10 s11 s12 sl
  clear HB RX BS CS RS
  replace HBS := hide (bchain HBS.out hb)
  replace O8 := hide (O8.out.new hb)
  replace B8 := hide (B8.out.new hb)
  replace OI := hide (OI.out.new hb)
  replace FI := hide (owns_new FI.out hb)
  replace BI := hide (BI.out.new hb)
  clear hb
  have RS := hide (RSo.out.new HBS.out)
  go_wp2_with fail
  refine (eqFrames L _ _ _ (reads_of_owns FI.out) RS.out).mono ?_; rintro x w10 ⟨rfl, hb⟩
  clear RS
  replace HBS := hide (bchain HBS.out hb)
  replace O8 := hide (O8.out.new hb)
  replace B8 := hide (B8.out.new hb)
  replace OI := hide (OI.out.new hb)
  replace FI := hide (owns_new FI.out hb)
  replace BI := hide (BI.out.new hb)
  clear hb
  have HB := hide (bchain HBo.out HBS.out)
  have RX := hide (RXo.out.new HBS.out)
  have BS := hide (BSo.out.new HBS.out)
  have CS := hide (CSo.out.new HBS.out)
  have RS := hide (RSo.out.new HBS.out)
  go_upto_region 10 with fail
  obtain ⟨S, HS0, HNEW, HLB⟩ : ∃ S : World → Prop, Hid (S w10) ∧ Hid (∀ u u1, S u → Below u.heap.size u u1 → S u1) ∧ Hid (∀ u, S u → Below w10.heap.size w10 u) := ⟨fun u => Below w10.heap.size w10 u, hide (Below.refl _ _), hide (fun u u1 h h1 => bchain h h1), hide (fun u h => h)⟩
  have hS : S (World.drew w10) := HNEW.out _ _ HS0.out (Below.refl _ _).drew
  go_wp2_with fail
  refine wp_region_held (S := S) (by kernel_rfl) ?_
  change wpAnyH _ _ _ _ _ _ _ _ (World.drew _)
  refine wpAnyH_take (i := 0) (v := .agg #[.int .i64 d.reg.lim, .int .i64 d.reg.top, .slice ea8 d.reg.es.length ep8, .int .i64 d.inr, .slice ia8 d.inT.length ip8, .int .i64 d.outr, .slice oa8 d.outT.length op8, .int .i64 d.get, .int .i64 d.give, .int .i64 d.first, .slice fa8 d.flows.length fp8, .bool d.away, .bool d.dead]) rfl (by kernel_rfl) (by kernel_rfl) (by kernel_rfl) (fun _ _ _ h => h) (Or.inl ⟨by kernel_rfl, ?ld⟩) hS ?_; case ld => (intro uu hu; have l0 := (B8.out.new (HLB.out _ hu)).cell (j := 0) rfl; have l1 := (B8.out.new (HLB.out _ hu)).cell (j := 1) rfl; have l2 := (B8.out.new (HLB.out _ hu)).cell (j := 2) rfl; have l3 := (B8.out.new (HLB.out _ hu)).cell (j := 3) rfl; have l4 := (B8.out.new (HLB.out _ hu)).cell (j := 4) rfl; have l5 := (B8.out.new (HLB.out _ hu)).cell (j := 5) rfl; have l6 := (B8.out.new (HLB.out _ hu)).cell (j := 6) rfl; have l7 := (B8.out.new (HLB.out _ hu)).cell (j := 7) rfl; have l8 := (B8.out.new (HLB.out _ hu)).cell (j := 8) rfl; have l9 := (B8.out.new (HLB.out _ hu)).cell (j := 9) rfl; have l10 := (B8.out.new (HLB.out _ hu)).cell (j := 10) rfl; have l11 := (B8.out.new (HLB.out _ hu)).cell (j := 11) rfl; have l12 := (B8.out.new (HLB.out _ hu)).cell (j := 12) rfl; have ll := (B8.out.new (HLB.out _ hu)).lt; clear hu; go_simp)
  try simp only [Act.put, List.getElem_toArray, List.getElem_cons_succ, List.getElem_cons_zero, List.setIfInBounds_toArray, List.set_cons_zero, List.set_cons_succ]
  refine wpAnyH_take (i := 1) (v := .agg #[.int .i64 d.reg.lim, .int .i64 d.reg.top, .slice ea d.reg.es.length ep, .int .i64 d.inr, .slice ia d.inT.length ip, .int .i64 d.outr, .slice oa d.outT.length op, .int .i64 d.get, .int .i64 d.give, .int .i64 d.first, .slice fa d.flows.length fp, .bool d.away, .bool d.dead]) rfl (by kernel_rfl) (by kernel_rfl) (by kernel_rfl) (fun _ _ _ h => h) (Or.inl ⟨by kernel_rfl, ?ld⟩) hS ?_; case ld => (intro uu hu; have l0 := (RX.out.new (HLB.out _ hu)).cell (j := 0) rfl; have l1 := (RX.out.new (HLB.out _ hu)).cell (j := 1) rfl; have l2 := (RX.out.new (HLB.out _ hu)).cell (j := 2) rfl; have l3 := (RX.out.new (HLB.out _ hu)).cell (j := 3) rfl; have l4 := (RX.out.new (HLB.out _ hu)).cell (j := 4) rfl; have l5 := (RX.out.new (HLB.out _ hu)).cell (j := 5) rfl; have l6 := (RX.out.new (HLB.out _ hu)).cell (j := 6) rfl; have l7 := (RX.out.new (HLB.out _ hu)).cell (j := 7) rfl; have l8 := (RX.out.new (HLB.out _ hu)).cell (j := 8) rfl; have l9 := (RX.out.new (HLB.out _ hu)).cell (j := 9) rfl; have l10 := (RX.out.new (HLB.out _ hu)).cell (j := 10) rfl; have l11 := (RX.out.new (HLB.out _ hu)).cell (j := 11) rfl; have l12 := (RX.out.new (HLB.out _ hu)).cell (j := 12) rfl; have ll := (RX.out.new (HLB.out _ hu)).lt; clear hu; go_simp)
  try simp only [Act.put, List.getElem_toArray, List.getElem_cons_succ, List.getElem_cons_zero, List.setIfInBounds_toArray, List.set_cons_zero, List.set_cons_succ]
  refine wpAnyH_ready (rs := [2]) (by kernel_rfl) (by simp) ?_; refine AllReadyH.cons rfl (fun K hK => ?_) AllReadyH.nil; rw [if_pos (by kernel_rfl)]; go_simp
  refine (show Calls _ _ #[cnv d _ _ _ _] _ _ from toConn1 d _ _ _ _ _ (HV.out.new (bchain HB.out (HLB.out _ hS))) HS9.out).mono ?_
  rintro x x1 ⟨ue, ui, uo, uf, bs3, rfl, ho, hlo, hx1⟩
  have O3 := hide ho
  clear ho hlo
  obtain ⟨ea3, ep3, he3, _, _⟩ := O3.out.rd.e.form
  subst he3
  obtain ⟨ia3, ip3, hi3, _, _⟩ := O3.out.rd.i.form
  subst hi3
  obtain ⟨oa3, op3, ho3, _, _⟩ := O3.out.rd.o.form
  subst ho3
  obtain ⟨fa3, fp3, hf3, _, _⟩ := O3.out.rd.f.form
  subst hf3
  refine hK.out _ _ (HNEW.out _ _ hS hx1) (fun hS => ?_)
  clear hK K hx1
  dsimp only [cnv]
  try simp only [Act.put, List.getElem_toArray, List.getElem_cons_succ, List.getElem_cons_zero, List.setIfInBounds_toArray, List.set_cons_zero, List.set_cons_succ]
  refine wpAnyH_ready (rs := [3]) (by kernel_rfl) (by simp) ?_; refine AllReadyH.cons rfl (fun K hK => ?_) AllReadyH.nil; rw [if_pos (by kernel_rfl)]; go_simp
  refine (show Calls _ _ #[cnv d _ _ _ _, cnv d _ _ _ _] _ _ from eqConn1 d _ _ _ _ _ _ _ _ _ (O8.out.rd.new (HLB.out _ hS)) O3.out.rd).mono ?_
  rintro x x2 ⟨rfl, hx2⟩
  refine hK.out _ _ (HNEW.out _ _ hS hx2) (fun hS => ?_)
  clear hK K hx2 O3
  try simp only [Act.put, List.getElem_toArray, List.getElem_cons_succ, List.getElem_cons_zero, List.setIfInBounds_toArray, List.set_cons_zero, List.set_cons_succ]
  refine wpAnyH_take (i := 4) (v := .bool false) rfl (by kernel_rfl) (by kernel_rfl) (by kernel_rfl) (fun _ _ _ h => h) (Or.inl ⟨by kernel_rfl, fun uu hu => (by kernel_rfl)⟩) hS ?_
  try simp only [Act.put, List.getElem_toArray, List.getElem_cons_succ, List.getElem_cons_zero, List.setIfInBounds_toArray, List.set_cons_zero, List.set_cons_succ]
  refine wpAnyH_done (by kernel_rfl) ?_ _
  have hb := HLB.out _ hS
  clear hS HNEW HLB HS0
  clear HB RX BS CS RS
  generalize x2 = w11 at *
  replace HBS := hide (bchain HBS.out hb)
  replace O8 := hide (O8.out.new hb)
  replace B8 := hide (B8.out.new hb)
  replace OI := hide (OI.out.new hb)
  replace FI := hide (owns_new FI.out hb)
  replace BI := hide (BI.out.new hb)
  clear hb
  have t0 := RowIs.cell (j := 0) B8.out rfl
  have t1 := RowIs.cell (j := 1) B8.out rfl
  have t2 := RowIs.cell (j := 2) B8.out rfl
  have t3 := RowIs.cell (j := 3) B8.out rfl
  have t4 := RowIs.cell (j := 4) B8.out rfl
  have t5 := RowIs.cell (j := 5) B8.out rfl
  have t6 := RowIs.cell (j := 6) B8.out rfl
  have t7 := RowIs.cell (j := 7) B8.out rfl
  have t8 := RowIs.cell (j := 8) B8.out rfl
  have t9 := RowIs.cell (j := 9) B8.out rfl
  have t10 := RowIs.cell (j := 10) B8.out rfl
  have t11 := RowIs.cell (j := 11) B8.out rfl
  have t12 := RowIs.cell (j := 12) B8.out rfl
  have tl := B8.out.lt
  go_wp2_with fail
  obtain ⟨K8, hK8⟩ : ∃ K, 1 + cntConn d = K := ⟨_, rfl⟩
  have hmk := markConn1 d (.slice ea8 d.reg.es.length ep8) (.slice ia8 d.inT.length ip8) (.slice oa8 d.outT.length op8) (.slice fa8 d.flows.length fp8) 1 bs8 w11 O8.out (cnt_conn d HS9.out)
  rw [hK8] at hmk
  have hk80 : ¬ ((K8 : Nat) : Int) < 0 := by omega
  clear hK8
  refine (show Calls _ _ #[cnv d _ _ _ _, _] _ _ from hmk).mono ?_; clear hmk; rintro x w12 ⟨rfl, _, ht⟩
  clear t0 t1 t2 t3 t4 t5 t6 t7 t8 t9 t10 t11 t12 tl
  replace HBS := hide (HBS.out.trans (⟨ht.os, ht.tape, ht.output, ht.size, fun k hk => ht.block k (by have := HBS.out.size; omega) (fun hx => by have := LO8.out k hx; omega)⟩ : Below w4.heap.size _ _))
  replace OI := hide (OI.out.turn ht MI.out)
  replace BI := hide (BI.out.kept (ht.block _ BI.out.lt PI.out))
  replace FI := hide (owns_kept FI.out (fun k hk hl => ht.block k hl (QI.out k hk).1))
  clear ht B8 O8
  have HB := hide (bchain HBo.out HBS.out)
  have RX := hide (RXo.out.new HBS.out)
  have BS := hide (BSo.out.new HBS.out)
  have CS := hide (CSo.out.new HBS.out)
  have RS := hide (RSo.out.new HBS.out)
  have t0 := RowIs.cell (j := 0) BI.out rfl
  have t1 := RowIs.cell (j := 1) BI.out rfl
  have t2 := RowIs.cell (j := 2) BI.out rfl
  have t3 := RowIs.cell (j := 3) BI.out rfl
  have t4 := RowIs.cell (j := 4) BI.out rfl
  have t5 := RowIs.cell (j := 5) BI.out rfl
  have t6 := RowIs.cell (j := 6) BI.out rfl
  have t7 := RowIs.cell (j := 7) BI.out rfl
  have t8 := RowIs.cell (j := 8) BI.out rfl
  have t9 := RowIs.cell (j := 9) BI.out rfl
  have t10 := RowIs.cell (j := 10) BI.out rfl
  have t11 := RowIs.cell (j := 11) BI.out rfl
  have t12 := RowIs.cell (j := 12) BI.out rfl
  have tl := BI.out.lt
  have s0 := RowIs.cell (j := 0) BS.out rfl
  have s1 := RowIs.cell (j := 1) BS.out rfl
  have s2 := RowIs.cell (j := 2) BS.out rfl
  have s3 := RowIs.cell (j := 3) BS.out rfl
  have s4 := RowIs.cell (j := 4) BS.out rfl
  have s5 := RowIs.cell (j := 5) BS.out rfl
  have s6 := RowIs.cell (j := 6) BS.out rfl
  have s7 := RowIs.cell (j := 7) BS.out rfl
  have s8 := RowIs.cell (j := 8) BS.out rfl
  have s9 := RowIs.cell (j := 9) BS.out rfl
  have s10 := RowIs.cell (j := 10) BS.out rfl
  have s11 := RowIs.cell (j := 11) BS.out rfl
  have s12 := RowIs.cell (j := 12) BS.out rfl
  have sl := BS.out.lt
  go_wp2_with fail
  refine (show Calls _ _ #[cnv D _ _ _ _, cnv D _ _ _ _] _ _ from eqConn1 D _ _ _ _ _ _ _ _ _ OI.out.rd CS.out).mono ?_; rintro x w13 ⟨rfl, hb⟩
  clear t0 t1 t2 t3 t4 t5 t6 t7 t8 t9 t10 t11 t12 tl
  clear s0 s1 s2 s3 s4 s5 s6 s7 s8 s9 s10 s11 s12 sl
  clear HB RX BS CS RS
  replace HBS := hide (bchain HBS.out hb)
  replace OI := hide (OI.out.new hb)
  replace FI := hide (owns_new FI.out hb)
  replace BI := hide (BI.out.new hb)
  clear hb
  have RS := hide (RSo.out.new HBS.out)
  go_wp2_with fail
  refine (eqFrames L _ _ _ (reads_of_owns FI.out) RS.out).mono ?_; rintro x w14 ⟨rfl, hb⟩
  clear RS
  replace HBS := hide (bchain HBS.out hb)
  replace OI := hide (OI.out.new hb)
  replace FI := hide (owns_new FI.out hb)
  replace BI := hide (BI.out.new hb)
  clear hb
  have t0 := RowIs.cell (j := 0) BI.out rfl
  have t1 := RowIs.cell (j := 1) BI.out rfl
  have t2 := RowIs.cell (j := 2) BI.out rfl
  have t3 := RowIs.cell (j := 3) BI.out rfl
  have t4 := RowIs.cell (j := 4) BI.out rfl
  have t5 := RowIs.cell (j := 5) BI.out rfl
  have t6 := RowIs.cell (j := 6) BI.out rfl
  have t7 := RowIs.cell (j := 7) BI.out rfl
  have t8 := RowIs.cell (j := 8) BI.out rfl
  have t9 := RowIs.cell (j := 9) BI.out rfl
  have t10 := RowIs.cell (j := 10) BI.out rfl
  have t11 := RowIs.cell (j := 11) BI.out rfl
  have t12 := RowIs.cell (j := 12) BI.out rfl
  have tl := BI.out.lt
  go_wp2_with fail
  have hmk := markConn1 D (.slice eaI D.reg.es.length epI) (.slice iaI D.inT.length ipI) (.slice oaI D.outT.length opI) (.slice faI D.flows.length fpI) 1 bsI w14 OI.out (by rw [HK1.out]; omega)
  rw [HK1.out] at hmk
  refine (show Calls _ _ #[cnv D _ _ _ _, _] _ _ from hmk).mono ?_; clear hmk; rintro x w15 ⟨rfl, hom, ht⟩
  clear t0 t1 t2 t3 t4 t5 t6 t7 t8 t9 t10 t11 t12 tl
  replace HBS := hide (HBS.out.trans (⟨ht.os, ht.tape, ht.output, ht.size, fun k hk => ht.block k (by have := HBS.out.size; omega) (fun hx => by have := LOI.out k hx; have := HG8.out; have := HGW.out; omega)⟩ : Below w4.heap.size _ _))
  replace BI := hide (BI.out.kept (ht.block _ BI.out.lt NI.out))
  have OM := hide hom
  replace FI := hide (owns_kept FI.out (fun k hk hl => ht.block k hl (QI.out k hk).2.1))
  clear ht OI hom
  go_wp2_with fail
  have hmk := markFrames L.length K1 (.slice fraI L.length frpI) (fr L) _ w15 FI.out hk2
  rw [HK2.out] at hmk
  refine hmk.mono ?_; clear hmk; rintro x w16 ⟨rfl, hom, hg⟩
  replace HBS := hide (HBS.out.trans (⟨hg.os, hg.tape, hg.output, hg.size, fun k hk => hg.block k (by have := HBS.out.size; omega) (fun e => by have := (FI.out.lt k e.symm).1; have := HG8.out; have := HGW.out; omega)⟩ : Below w4.heap.size _ _))
  replace BI := hide (BI.out.kept (hg.block _ BI.out.lt (fun e => (QI.out _ e.symm).2.2 rfl)))
  replace OM := hide (OM.out.keep hg.size (fun b hb => hg.block b (OM.out.lt b hb) (fun e => (QI.out b e.symm).2.1 hb)))
  have FM := hide (reads_of_owns hom)
  clear hg hom FI
  have t0 := RowIs.cell (j := 0) BI.out rfl
  have t1 := RowIs.cell (j := 1) BI.out rfl
  have t2 := RowIs.cell (j := 2) BI.out rfl
  have t3 := RowIs.cell (j := 3) BI.out rfl
  have t4 := RowIs.cell (j := 4) BI.out rfl
  have t5 := RowIs.cell (j := 5) BI.out rfl
  have t6 := RowIs.cell (j := 6) BI.out rfl
  have t7 := RowIs.cell (j := 7) BI.out rfl
  have t8 := RowIs.cell (j := 8) BI.out rfl
  have t9 := RowIs.cell (j := 9) BI.out rfl
  have t10 := RowIs.cell (j := 10) BI.out rfl
  have t11 := RowIs.cell (j := 11) BI.out rfl
  have t12 := RowIs.cell (j := 12) BI.out rfl
  have tl := BI.out.lt
  go_wp2_with fail
  have hhd := heldConn1 D D (.slice eaI D.reg.es.length epI) (.slice iaI D.inT.length ipI) (.slice oaI D.outT.length opI) (.slice faI D.flows.length fpI) 1 w16 OM.out.rd (by rw [HK1.out]; omega)
  rw [HK1.out] at hhd
  refine (show Calls _ _ #[cnv D _ _ _ _, _] _ _ from hhd).mono ?_; clear hhd; rintro x w17 ⟨rfl, hb⟩
  have hk10 : ¬ ((K1 : Nat) : Int) < 0 := by omega
  clear t0 t1 t2 t3 t4 t5 t6 t7 t8 t9 t10 t11 t12 tl
  replace HBS := hide (bchain HBS.out hb)
  replace BI := hide (BI.out.new hb)
  replace OM := hide (OM.out.new hb)
  replace FM := hide (FM.out.new hb)
  clear hb
  go_wp2_with fail
  have hhd := heldFrames L.length K1 (.slice fraI L.length frpI) w17 FM.out hk2
  rw [HK2.out] at hhd
  refine hhd.mono ?_; clear hhd; rintro x w18 ⟨rfl, hb⟩
  have hk20 : ¬ ((K2 : Nat) : Int) < 0 := by omega
  replace HBS := hide (bchain HBS.out hb)
  replace BI := hide (BI.out.new hb)
  replace OM := hide (OM.out.new hb)
  replace FM := hide (FM.out.new hb)
  clear hb
  have HB := hide (bchain HBo.out HBS.out)
  have RX := hide (RXo.out.new HBS.out)
  have BS := hide (BSo.out.new HBS.out)
  have CS := hide (CSo.out.new HBS.out)
  have RS := hide (RSo.out.new HBS.out)
  go_wp2_with (refine wpList_load_row (by rfl) 66 _ (by rfl) w.heap.size (by rfl) [.int .i64 d.reg.lim, .int .i64 d.reg.top, .slice ea d.reg.es.length ep, .int .i64 d.inr, .slice ia d.inT.length ip, .int .i64 d.outr, .slice oa d.outT.length op, .int .i64 d.get, .int .i64 d.give, .int .i64 d.first, .slice fa d.flows.length fp, .bool d.away, .bool d.dead] _ 66 RX.out Tryz.underlying66 rfl (by kernel_rfl) ?_)
  refine (show Calls _ _ #[cnv d _ _ _ _] _ _ from toConn1 d _ _ _ _ _ (HV.out.new HB.out) HS9.out).mono ?_
  rintro x w19 ⟨ue, ui, uo, uf, bs9, rfl, ho, hlo, hb⟩
  have O9 := hide ho
  clear ho hlo
  clear HB RX BS CS RS
  replace HBS := hide (bchain HBS.out hb)
  replace BI := hide (BI.out.new hb)
  replace OM := hide (OM.out.new hb)
  replace FM := hide (FM.out.new hb)
  clear hb
  obtain ⟨ea9, ep9, he9, _, _⟩ := O9.out.rd.e.form
  subst he9
  obtain ⟨ia9, ip9, hi9, _, _⟩ := O9.out.rd.i.form
  subst hi9
  obtain ⟨oa9, op9, ho9, _, _⟩ := O9.out.rd.o.form
  subst ho9
  obtain ⟨fa9, fp9, hf9, _, _⟩ := O9.out.rd.f.form
  subst hf9
  dsimp only [cnv]
  go_wp2_with fail
  refine (show Calls _ _ #[cnv d _ _ _ _, .int .i64 id, .int .i64 n] _ _ from Himpl.out _ _ _ _ _ O9.out.rd).mono ?_
  rintro x w20 ⟨v, vfr, rfl, ⟨ue, ui, uo, uf, bsJ, hveq, ho, hlo, hfo, hfa⟩, hb⟩
  subst hveq
  obtain ⟨fraJ, frpJ, hfe, _, _⟩ := owns_form hfo
  subst hfe
  have FJ := hide hfo
  have FAJ := hide hfa
  clear hfo hfa
  have OJ := hide ho
  have LOJ := hide hlo
  have zJ := hb.size
  clear ho hlo
  replace HBS := hide (bchain HBS.out hb)
  replace BI := hide (BI.out.new hb)
  replace OM := hide (OM.out.new hb)
  replace FM := hide (FM.out.new hb)
  replace O9 := hide (O9.out.new hb)
  clear hb
  obtain ⟨eaJ, epJ, heJ, _, _⟩ := OJ.out.rd.e.form
  subst heJ
  obtain ⟨iaJ, ipJ, hiJ, _, _⟩ := OJ.out.rd.i.form
  subst hiJ
  obtain ⟨oaJ, opJ, hoJ, _, _⟩ := OJ.out.rd.o.form
  subst hoJ
  obtain ⟨faJ, fpJ, hfJ, _, _⟩ := OJ.out.rd.f.form
  subst hfJ
  dsimp only [cnv]
  go_upto_region 29 with (refine wpList_store_row (by rfl) 32 _ _ (by rfl) w20.heap.size [.int .i64 D.reg.lim, .int .i64 D.reg.top, .slice eaJ D.reg.es.length epJ, .int .i64 D.inr, .slice iaJ D.inT.length ipJ, .int .i64 D.outr, .slice oaJ D.outT.length opJ, .int .i64 D.get, .int .i64 D.give, .int .i64 D.first, .slice faJ D.flows.length fpJ, .bool D.away, .bool D.dead] (by rfl) (by rfl) 32 [.int .i64 0, .int .i64 0, .slice none 0 0, .int .i64 0, .slice none 0 0, .int .i64 0, .slice none 0 0, .int .i64 0, .int .i64 0, .int .i64 0, .slice none 0 0, .bool false, .bool false] (rowIs_new w20 32 [.int .i64 0, .int .i64 0, .slice none 0 0, .int .i64 0, .slice none 0 0, .int .i64 0, .slice none 0 0, .int .i64 0, .int .i64 0, .int .i64 0, .slice none 0 0, .bool false, .bool false]) (by kernel_rfl) rfl (by intro u hu; simp at hu; rcases hu with rfl | rfl | rfl | rfl | rfl | rfl | rfl | rfl | rfl | rfl | rfl | rfl | rfl <;> rfl) ?_)
  have BJ0 : RowIs ((w20.alloc (.cells #[.int .i64 0, .int .i64 0, .slice none 0 0, .int .i64 0, .slice none 0 0, .int .i64 0, .slice none 0 0, .int .i64 0, .int .i64 0, .int .i64 0, .slice none 0 0, .bool false, .bool false] 32)).setRow w20.heap.size #[.int .i64 D.reg.lim, .int .i64 D.reg.top, .slice eaJ D.reg.es.length epJ, .int .i64 D.inr, .slice iaJ D.inT.length ipJ, .int .i64 D.outr, .slice oaJ D.outT.length opJ, .int .i64 D.get, .int .i64 D.give, .int .i64 D.first, .slice faJ D.flows.length fpJ, .bool D.away, .bool D.dead]) w20.heap.size 32 [.int .i64 D.reg.lim, .int .i64 D.reg.top, .slice eaJ D.reg.es.length epJ, .int .i64 D.inr, .slice iaJ D.inT.length ipJ, .int .i64 D.outr, .slice oaJ D.outT.length opJ, .int .i64 D.get, .int .i64 D.give, .int .i64 D.first, .slice faJ D.flows.length fpJ, .bool D.away, .bool D.dead] := rowIs_setRow (cs' := [.int .i64 D.reg.lim, .int .i64 D.reg.top, .slice eaJ D.reg.es.length epJ, .int .i64 D.inr, .slice iaJ D.inT.length ipJ, .int .i64 D.outr, .slice oaJ D.outT.length opJ, .int .i64 D.get, .int .i64 D.give, .int .i64 D.first, .slice faJ D.flows.length fpJ, .bool D.away, .bool D.dead]) (rowIs_new w20 32 [.int .i64 0, .int .i64 0, .slice none 0 0, .int .i64 0, .slice none 0 0, .int .i64 0, .slice none 0 0, .int .i64 0, .int .i64 0, .int .i64 0, .slice none 0 0, .bool false, .bool false])
  have hbV : Below w20.heap.size w20 ((w20.alloc (.cells #[.int .i64 0, .int .i64 0, .slice none 0 0, .int .i64 0, .slice none 0 0, .int .i64 0, .slice none 0 0, .int .i64 0, .int .i64 0, .int .i64 0, .slice none 0 0, .bool false, .bool false] 32)).setRow w20.heap.size #[.int .i64 D.reg.lim, .int .i64 D.reg.top, .slice eaJ D.reg.es.length epJ, .int .i64 D.inr, .slice iaJ D.inT.length ipJ, .int .i64 D.outr, .slice oaJ D.outT.length opJ, .int .i64 D.get, .int .i64 D.give, .int .i64 D.first, .slice faJ D.flows.length fpJ, .bool D.away, .bool D.dead]) := below_setRow ((Below.refl _ _).alloc (Nat.le_refl _) _) (Nat.le_refl _) #[.int .i64 D.reg.lim, .int .i64 D.reg.top, .slice eaJ D.reg.es.length epJ, .int .i64 D.inr, .slice iaJ D.inT.length ipJ, .int .i64 D.outr, .slice oaJ D.outT.length opJ, .int .i64 D.get, .int .i64 D.give, .int .i64 D.first, .slice faJ D.flows.length fpJ, .bool D.away, .bool D.dead]
  replace HBS := hide (bchain HBS.out hbV)
  replace BI := hide (BI.out.new hbV)
  replace OM := hide (OM.out.new hbV)
  replace FM := hide (FM.out.new hbV)
  replace O9 := hide (O9.out.new hbV)
  replace OJ := hide (OJ.out.new hbV)
  replace FJ := hide (owns_new FJ.out hbV)
  clear hbV
  have BJ := hide BJ0
  clear BJ0
  generalize hV : (w20.alloc (.cells #[.int .i64 0, .int .i64 0, .slice none 0 0, .int .i64 0, .slice none 0 0, .int .i64 0, .slice none 0 0, .int .i64 0, .int .i64 0, .int .i64 0, .slice none 0 0, .bool false, .bool false] 32)).setRow w20.heap.size #[.int .i64 D.reg.lim, .int .i64 D.reg.top, .slice eaJ D.reg.es.length epJ, .int .i64 D.inr, .slice iaJ D.inT.length ipJ, .int .i64 D.outr, .slice oaJ D.outT.length opJ, .int .i64 D.get, .int .i64 D.give, .int .i64 D.first, .slice faJ D.flows.length fpJ, .bool D.away, .bool D.dead] = w21 at *
  clear hV
  generalize w20.heap.size = gJ at *
  have HB := hide (bchain HBo.out HBS.out)
  have RX := hide (RXo.out.new HBS.out)
  have BS := hide (BSo.out.new HBS.out)
  have CS := hide (CSo.out.new HBS.out)
  have RS := hide (RSo.out.new HBS.out)
  have t0 := RowIs.cell (j := 0) BJ.out rfl
  have t1 := RowIs.cell (j := 1) BJ.out rfl
  have t2 := RowIs.cell (j := 2) BJ.out rfl
  have t3 := RowIs.cell (j := 3) BJ.out rfl
  have t4 := RowIs.cell (j := 4) BJ.out rfl
  have t5 := RowIs.cell (j := 5) BJ.out rfl
  have t6 := RowIs.cell (j := 6) BJ.out rfl
  have t7 := RowIs.cell (j := 7) BJ.out rfl
  have t8 := RowIs.cell (j := 8) BJ.out rfl
  have t9 := RowIs.cell (j := 9) BJ.out rfl
  have t10 := RowIs.cell (j := 10) BJ.out rfl
  have t11 := RowIs.cell (j := 11) BJ.out rfl
  have t12 := RowIs.cell (j := 12) BJ.out rfl
  have tl := BJ.out.lt
  have s0 := RowIs.cell (j := 0) BS.out rfl
  have s1 := RowIs.cell (j := 1) BS.out rfl
  have s2 := RowIs.cell (j := 2) BS.out rfl
  have s3 := RowIs.cell (j := 3) BS.out rfl
  have s4 := RowIs.cell (j := 4) BS.out rfl
  have s5 := RowIs.cell (j := 5) BS.out rfl
  have s6 := RowIs.cell (j := 6) BS.out rfl
  have s7 := RowIs.cell (j := 7) BS.out rfl
  have s8 := RowIs.cell (j := 8) BS.out rfl
  have s9 := RowIs.cell (j := 9) BS.out rfl
  have s10 := RowIs.cell (j := 10) BS.out rfl
  have s11 := RowIs.cell (j := 11) BS.out rfl
  have s12 := RowIs.cell (j := 12) BS.out rfl
  have sl := BS.out.lt
  go_wp2_with fail
  refine (show Calls _ _ #[cnv D _ _ _ _, cnv D _ _ _ _] _ _ from eqConn1 D _ _ _ _ _ _ _ _ _ OJ.out.rd CS.out).mono ?_; rintro x w22 ⟨rfl, hb⟩
  clear t0 t1 t2 t3 t4 t5 t6 t7 t8 t9 t10 t11 t12 tl
  clear s0 s1 s2 s3 s4 s5 s6 s7 s8 s9 s10 s11 s12 sl
  clear HB RX BS CS RS
  replace HBS := hide (bchain HBS.out hb)
  replace BI := hide (BI.out.new hb)
  replace OM := hide (OM.out.new hb)
  replace FM := hide (FM.out.new hb)
  replace O9 := hide (O9.out.new hb)
  replace OJ := hide (OJ.out.new hb)
  replace FJ := hide (owns_new FJ.out hb)
  replace BJ := hide (BJ.out.new hb)
  clear hb
  have RS := hide (RSo.out.new HBS.out)
  go_wp2_with fail
  refine (eqFrames L _ _ _ (reads_of_owns FJ.out) RS.out).mono ?_; rintro x w23 ⟨rfl, hb⟩
  clear RS
  replace HBS := hide (bchain HBS.out hb)
  replace BI := hide (BI.out.new hb)
  replace OM := hide (OM.out.new hb)
  replace FM := hide (FM.out.new hb)
  replace O9 := hide (O9.out.new hb)
  replace OJ := hide (OJ.out.new hb)
  replace FJ := hide (owns_new FJ.out hb)
  replace BJ := hide (BJ.out.new hb)
  clear hb
  have t0 := RowIs.cell (j := 0) BI.out rfl
  have t1 := RowIs.cell (j := 1) BI.out rfl
  have t2 := RowIs.cell (j := 2) BI.out rfl
  have t3 := RowIs.cell (j := 3) BI.out rfl
  have t4 := RowIs.cell (j := 4) BI.out rfl
  have t5 := RowIs.cell (j := 5) BI.out rfl
  have t6 := RowIs.cell (j := 6) BI.out rfl
  have t7 := RowIs.cell (j := 7) BI.out rfl
  have t8 := RowIs.cell (j := 8) BI.out rfl
  have t9 := RowIs.cell (j := 9) BI.out rfl
  have t10 := RowIs.cell (j := 10) BI.out rfl
  have t11 := RowIs.cell (j := 11) BI.out rfl
  have t12 := RowIs.cell (j := 12) BI.out rfl
  have tl := BI.out.lt
  go_wp2_with fail
  have hhd := heldConn1 D D (.slice eaI D.reg.es.length epI) (.slice iaI D.inT.length ipI) (.slice oaI D.outT.length opI) (.slice faI D.flows.length fpI) 1 w23 OM.out.rd (by rw [HK1.out]; omega)
  rw [HK1.out] at hhd
  refine (show Calls _ _ #[cnv D _ _ _ _, _] _ _ from hhd).mono ?_; clear hhd; rintro x w24 ⟨rfl, hb⟩
  have hk10 : ¬ ((K1 : Nat) : Int) < 0 := by omega
  clear t0 t1 t2 t3 t4 t5 t6 t7 t8 t9 t10 t11 t12 tl
  replace HBS := hide (bchain HBS.out hb)
  replace BI := hide (BI.out.new hb)
  replace OM := hide (OM.out.new hb)
  replace FM := hide (FM.out.new hb)
  replace O9 := hide (O9.out.new hb)
  replace OJ := hide (OJ.out.new hb)
  replace FJ := hide (owns_new FJ.out hb)
  replace BJ := hide (BJ.out.new hb)
  clear hb
  go_wp2_with fail
  have hhd := heldFrames L.length K1 (.slice fraI L.length frpI) w24 FM.out hk2
  rw [HK2.out] at hhd
  refine hhd.mono ?_; clear hhd; rintro x w25 ⟨rfl, hb⟩
  have hk20 : ¬ ((K2 : Nat) : Int) < 0 := by omega
  replace HBS := hide (bchain HBS.out hb)
  replace BI := hide (BI.out.new hb)
  replace OM := hide (OM.out.new hb)
  replace FM := hide (FM.out.new hb)
  replace O9 := hide (O9.out.new hb)
  replace OJ := hide (OJ.out.new hb)
  replace FJ := hide (owns_new FJ.out hb)
  replace BJ := hide (BJ.out.new hb)
  clear hb
  have HB := bchain HBo.out HBS.out
  go_wp2_with fail
  go_ret
  exact ⟨rfl, HB⟩


theorem own : ownKnob Tryz.prog.godebug = none := by kernel_rfl
theorem laidOut : laidOutB Tryz.prog = true := by kernel_rfl

set_option maxRecDepth 100000 in
theorem lifted (os : Os) (started : os.Started) (H : Type) (enc : TypeId × Value → H) :
    ReturnsInHanded {} Tryz.checked os 5 .any (Rows.fnExactTookSpec.pre6 enc Tryz.prog Tryz.f5 Rows.fnExactTookRow.domain false) (Rows.fnExactTookSpec.post enc Tryz.prog Tryz.f5 false true false false) := by
  refine returnsInHanded_of_change (C := Tryz.checked) own started (by kernel_rfl) Tryz.func5
    (ChangeSpec.witness6 (enc := enc) (C := Tryz.checked) false ⟨#[], #[.agg #[.int .i64 0, .int .i64 0, .slice none 0 0, .int .i64 0, .slice none 0 0, .int .i64 0, .slice none 0 0, .int .i64 0, .int .i64 0, .int .i64 0, .slice none 0 0, .bool false, .bool false], .int .i64 0, .int .i64 0], []⟩ 8 (by kernel_rfl) (by kernel_rfl) (by kernel_rfl) (by kernel_rfl)) ?_
  intro W base args ds gs before hval0 hW hcnd _
  have hval : ∀ (j : Nat) t v, Tryz.f5.params[j]? = some t → args[j]? = some v → Value.okWide Tryz.prog W .any base t v := hval0
  have hW' := hW
  obtain ⟨p, q, hA0, hV, rfl, hfz, hnd⟩ := hW
  have hA : DataW.TrodAll enc Tryz.prog W 0 (fun _ => true) true Tryz.f5.params.toList args.toList ds p := hA0
  rw [Tryz.params5] at hA hval
  obtain ⟨v0, vs0, d0, ds0, p0, q0, hargs, rfl, rfl, h0, r0⟩ := trodAll_cons hA
  obtain ⟨v1, vs1, d1, ds1, p1, q1, rfl, rfl, rfl, h1, r1⟩ := trodAll_cons r0
  obtain ⟨v2, vs2, d2, ds2, p2, q2, rfl, rfl, rfl, h2, r2⟩ := trodAll_cons r1
  obtain ⟨rfl, rfl, rfl⟩ := trodAll_nil r2
  obtain rfl : args = #[v0, v1, v2] := by cases args; simp_all
  obtain ⟨rfl, rfl⟩ := trodVars_none hV
  have k0 := h0
  have lt0 : ∀ x ∈ p0, x.block < W.heap.size := by obtain ⟨m, hm⟩ := k0; exact DataW.trod_lt m _ _ _ hm
  have k1 := h1
  have lt1 : ∀ x ∈ p1, x.block < W.heap.size := by obtain ⟨m, hm⟩ := k1; exact DataW.trod_lt m _ _ _ hm
  have k2 := h2
  have lt2 : ∀ x ∈ p2, x.block < W.heap.size := by obtain ⟨m, hm⟩ := k2; exact DataW.trod_lt m _ _ _ hm
  obtain ⟨d, ve, vi, vo, vf, rfl, hrd⟩ := open_Conn (hval 0 66 v0 rfl rfl) h0
  obtain ⟨id, rfl, rfl, rfl, wid⟩ := open_int Tryz.underlying2 (hval 1 2 v1 rfl rfl) h1
  obtain ⟨n, rfl, rfl, rfl, wn⟩ := open_int Tryz.underlying2 (hval 2 2 v2 rfl rfl) h2
  clear hA0 hval0
  refine (walk d ve vi vo vf id n W hrd).mono fun e W' ⟨he, bel⟩ => ?_
  subst he
  exact ⟨_, rfl, _, _, _, [], _, [], hW', trodAll_mk1 (shut_bool Tryz.underlying4 _), (trodAll_cons_mk (Below.trod laidOut (by kernel_rfl) (of_decide_eq_true (by kernel_rfl)) k0 bel lt0) (trodAll_cons_mk (Below.trod laidOut (by kernel_rfl) (of_decide_eq_true (by kernel_rfl)) k1 bel lt1) (trodAll_cons_mk (Below.trod laidOut (by kernel_rfl) (of_decide_eq_true (by kernel_rfl)) k2 bel lt2) trodAll_mk0))), rfl, bel.frame _, fun h => by cases h⟩

theorem over : Rows.fnExactTookRow.holds Tryz.pinned (OpenSpec.ofChange Rows.fnExactTookSpec) :=
  OpenClaim.holds_of_wide 5 Tryz.f5 rfl rfl rfl rfl rfl rfl rfl ⟨rfl, rfl, rfl, rfl, rfl⟩ rfl rfl rfl rfl rfl (by kernel_rfl) Tryz.func5 (by kernel_rfl)
    (of_decide_eq_true (by kernel_rfl)) (by unfold Func.isWrapper; first | (rw [if_pos (by decide +kernel)]; kernel_rfl) | (rw [if_neg (by decide +kernel)]; exact ⟨rfl, rfl⟩))
    (fun os started H enc _ => lifted os started H enc)

end exactTook

theorem exactTook_proved : Rows.FnExactTookSaid := exactTook.over
#print axioms exactTook_proved
end Go.Proofs.YtfmeinkhdgbgjaaGreat
