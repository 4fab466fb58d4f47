/- The law FnExactReplied returns true at every argument and leaves it as it was: impl.Replied answers as its model, and its answer owns its memory. No condition. -/
import Derived.Test.YtlpbnkideaojeaaGreatDoorQRpLinkReplied
import Derived.Test.YtlpbnkideaojeaaGreatDoorTie
import Derived.Test.YtlpbnkideaojeaaGreatDoorCards
import Derived.Deep.DeepWitnessRowRef
namespace Go.Proofs.YtlpbnkideaojeaaGreatDoor
open Go.RowKit
open List renaming getElem_toArray → aI, getElem_cons_succ → aJ, getElem_cons_zero → aK, setIfInBounds_toArray → aL, set_cons_zero → aM, set_cons_succ → aN
set_option maxRecDepth 100000
namespace Ki
open Go.ChangeShapes Go.WideShapes Go.ChangeAt Go.RowKit Go.Joins
open Go.ChangeMaps (open_string shut_string)
set_option linter.unusedVariables false
set_option linter.unusedSimpArgs false
set_option maxHeartbeats 16000000 in
theorem walk (d : aH) (ve vi vo vf : Value) (id code : Int) (w : World) (hv : je w d ve vi vo vf) (iT : qU w) :
  Calls Tryz.prog 3 #[bH d ve vi vo vf, .int .i64 id, .int .i64 code] w fun x w' => x = .returned (.bool true) ∧ Below w.heap.size w w' := by
 dsimp only [bH] at *
 have HV := hide hv
 have kU := hide iT
 clear hv iT
 obtain ⟨ea, ep, he0, _, _⟩ := HV.out.e.form
 subst he0
 obtain ⟨ia, ip, hi0, _, _⟩ := HV.out.i.form
 subst hi0
 obtain ⟨oa, op, ho0, _, _⟩ := HV.out.o.form
 subst ho0
 obtain ⟨fa, fp, hf0, _, _⟩ := HV.out.f.form
 subst hf0
 obtain ⟨⟨D, L⟩, ze⟩ : ∃ y, iU d id code = y := ⟨_, rfl⟩
 have QT : Hid (∀ (ve vi vo vf : Value) (u : World), je u d ve vi vo vf → Calls Tryz.prog 5 #[bH d ve vi vo vf, .int .i64 id, .int .i64 code] u fun x w' => ∃ v kG, x = .returned (.tuple #[v, kG]) ∧ Cc u.heap.size (D, L) v kG w' ∧ Below u.heap.size u w') := fun ve vi vo vf u hu => by have h := QU d ve vi vo vf id code u hu; rw [ze] at h; exact h
 have Kj : Hid (∀ (ve vi vo vf : Value) (u : World), je u d ve vi vo vf → Below w.heap.size w u → Calls Tryz.prog 7 #[bH d ve vi vo vf, .int .i64 id, .int .i64 code] u fun x w' => ∃ v kG, x = .returned (.tuple #[v, kG]) ∧ Cc u.heap.size (D, L) v kG w' ∧ Below u.heap.size u w') := fun ve vi vo vf u hu bV => by have h := QV d ve vi vo vf id code u hu (kU.out.new bV); rw [ze] at h; exact h
 have hcn : 1 + lG D ≤ 1000000 := by have h := QW d id code; rw [ze] at h; dsimp only at h; omega
 have hfw : L.length ≤ 125000 := by have h := QX d id code; rw [ze] at h; dsimp only at h; omega
 clear ze
 obtain ⟨K1, hK1⟩ : ∃ K, 1 + lG D = K := ⟨_, rfl⟩
 obtain ⟨K2, hK2⟩ : ∃ K, K1 + L.length * 4 = K := ⟨_, rfl⟩
 have nk := hide hK1
 have xE := hide hK2
 have hk1 : K1 ≤ 1000000 := by omega
 have hk2 : K1 + L.length * 4 ≤ 1000000000 := by omega
 clear hcn hK1 hfw hK2
 obtain ⟨W, hW⟩ : ∃ W, w.alloc (.cells #[.int .i64 d.reg.lim, .int .i64 d.reg.top, .slice ea d.reg.es.length ep, .int .i64 d.inr, .slice ia d.inT.length ip, .int .i64 d.au, .slice oa d.outT.length op, .int .i64 d.get, .int .i64 d.give, .int .i64 d.first, .slice fa d.flows.length fp, .bool d.away, .bool d.dead] 30) = W := ⟨_, rfl⟩
 have Kk : aj W w.heap.size 30 [.int .i64 d.reg.lim, .int .i64 d.reg.top, .slice ea d.reg.es.length ep, .int .i64 d.inr, .slice ia d.inT.length ip, .int .i64 d.au, .slice oa d.outT.length op, .int .i64 d.get, .int .i64 d.give, .int .i64 d.first, .slice fa d.flows.length fp, .bool d.away, .bool d.dead] := by rw [← hW]; exact aB w 30 [.int .i64 d.reg.lim, .int .i64 d.reg.top, .slice ea d.reg.es.length ep, .int .i64 d.inr, .slice ia d.inT.length ip, .int .i64 d.au, .slice oa d.outT.length op, .int .i64 d.get, .int .i64 d.give, .int .i64 d.first, .slice fa d.flows.length fp, .bool d.away, .bool d.dead]
 have HB0 : Below w.heap.size w W := by rw [← hW]; exact (Below.refl _ _).alloc (Nat.le_refl _) _
 have RX := hide Kk
 have HB := hide HB0
 clear Kk HB0
 have hsn := Fw d
 obtain ⟨left, hleft⟩ : ∃ left, (1048576 : Int) - nN d = left := ⟨_, rfl⟩
 have hcall := fun w h => QY d (.slice ea d.reg.es.length ep) (.slice ia d.inT.length ip) (.slice oa d.outT.length op) (.slice fa d.flows.length fp) 1048576 w h (by omega) (by omega)
 rw [hleft] at hcall
 go_enter Tryz.func3, Tryz.ntmps3
 go_wp2_with (refine wpList_load_row (by rfl) 30 _ (by rfl) w.heap.size (by rfl) [.int .i64 d.reg.lim, .int .i64 d.reg.top, .slice ea d.reg.es.length ep, .int .i64 d.inr, .slice ia d.inT.length ip, .int .i64 d.au, .slice oa d.outT.length op, .int .i64 d.get, .int .i64 d.give, .int .i64 d.first, .slice fa d.flows.length fp, .bool d.away, .bool d.dead] _ 30 RX.out Tryz.underlying30 rfl (by kernel_rfl) ?_)
 clear hW
 refine (show Calls _ _ #[bH d _ _ _ _, _] _ _ from hcall _ (HV.out.new HB.out)).mono ?_; clear hcall
 rintro x w1 ⟨rfl | ⟨rfl, hp⟩, hb⟩
 ·go_wp2_with fail
  go_ret
  exact ⟨rfl, ah HB.out hb⟩
 have hs : nN d ≤ 1048576 := by unfold nN; unfold nN at hleft; omega
 have hl0 : ¬ left < 0 := by omega
 have hl1 : left ≤ 1048576 := by unfold nN at hleft; omega
 have zh := hide hs
 clear hleft hsn hs
 replace RX := hide (RX.out.new hb)
 replace HB := hide (ah HB.out hb)
 clear hb
 go_wp2_with (refine wpList_load_row (by rfl) 30 _ (by rfl) w.heap.size (by rfl) [.int .i64 d.reg.lim, .int .i64 d.reg.top, .slice ea d.reg.es.length ep, .int .i64 d.inr, .slice ia d.inT.length ip, .int .i64 d.au, .slice oa d.outT.length op, .int .i64 d.get, .int .i64 d.give, .int .i64 d.first, .slice fa d.flows.length fp, .bool d.away, .bool d.dead] _ 30 RX.out Tryz.underlying30 rfl (by kernel_rfl) ?_)
 refine (show Calls _ _ #[bH d _ _ _ _] _ _ from Ce d _ _ _ _ _ (HV.out.new HB.out) zh.out).mono ?_
 rintro x w2 ⟨ue, ui, uo, uf, xG, rfl, ho, hlo, hb⟩
 have O1 := hide ho
 have QZ := hide hlo
 clear ho hlo
 replace RX := hide (RX.out.new hb)
 replace HB := hide (ah HB.out hb)
 clear hb
 obtain ⟨ea1, ep1, he1, _, _⟩ := O1.out.rd.e.form
 subst he1
 obtain ⟨ia1, ip1, hi1, _, _⟩ := O1.out.rd.i.form
 subst hi1
 obtain ⟨oa1, op1, ho1, _, _⟩ := O1.out.rd.o.form
 subst ho1
 obtain ⟨fa1, fp1, hf1, _, _⟩ := O1.out.rd.f.form
 subst hf1
 dsimp only [bH]
 go_wp2_with fail
 refine (show Calls _ _ #[bH d _ _ _ _, .int .i64 id, .int .i64 code] _ _ from QT.out _ _ _ _ _ O1.out.rd).mono ?_
 rintro x w3 ⟨v, kG, rfl, ⟨ue, ui, uo, uf, bsS, uY, ho, hlo, hfo, hfa⟩, hb⟩
 subst uY
 obtain ⟨fraS, frpS, hfe, _, _⟩ := bW hfo
 subst hfe
 have FS := hide hfo
 have Q0 := hide hfa
 clear hfo hfa
 have OS := hide ho
 have Q5 := hide hlo
 have zS := hb.size
 clear ho hlo
 replace RX := hide (RX.out.new hb)
 replace HB := hide (ah HB.out hb)
 replace O1 := hide (O1.out.new hb)
 clear hb
 obtain ⟨uZ, vg, Q6, _, _⟩ := OS.out.rd.e.form
 subst Q6
 obtain ⟨vk, vv, Q7, _, _⟩ := OS.out.rd.i.form
 subst Q7
 obtain ⟨vw, vB, Q8, _, _⟩ := OS.out.rd.o.form
 subst Q8
 obtain ⟨vC, vD, Q9, _, _⟩ := OS.out.rd.f.form
 subst Q9
 dsimp only [bH]
 clear O1
 clear QZ
 go_upto_region 6 with (refine wpList_store_row (by rfl) 40 _ _ (by rfl) w3.heap.size [.int .i64 D.reg.lim, .int .i64 D.reg.top, .slice uZ D.reg.es.length vg, .int .i64 D.inr, .slice vk D.inT.length vv, .int .i64 D.au, .slice vw D.outT.length vB, .int .i64 D.get, .int .i64 D.give, .int .i64 D.first, .slice vC D.flows.length vD, .bool D.away, .bool D.dead] (by rfl) (by rfl) 40 [.int .i64 0, .int .i64 0, .slice none 0 0, .int .i64 0, .slice none 0 0, .int .i64 0, .slice none 0 0, .int .i64 0, .int .i64 0, .int .i64 0, .slice none 0 0, .bool false, .bool false] (aB w3 40 [.int .i64 0, .int .i64 0, .slice none 0 0, .int .i64 0, .slice none 0 0, .int .i64 0, .slice none 0 0, .int .i64 0, .int .i64 0, .int .i64 0, .slice none 0 0, .bool false, .bool false]) (by kernel_rfl) rfl (by intro u hu; simp at hu; rcases hu with rfl | rfl | rfl | rfl | rfl | rfl | rfl | rfl | rfl | rfl | rfl | rfl | rfl <;> rfl) ?_)
 have Kl : aj ((w3.alloc (.cells #[.int .i64 0, .int .i64 0, .slice none 0 0, .int .i64 0, .slice none 0 0, .int .i64 0, .slice none 0 0, .int .i64 0, .int .i64 0, .int .i64 0, .slice none 0 0, .bool false, .bool false] 40)).setRow w3.heap.size #[.int .i64 D.reg.lim, .int .i64 D.reg.top, .slice uZ D.reg.es.length vg, .int .i64 D.inr, .slice vk D.inT.length vv, .int .i64 D.au, .slice vw D.outT.length vB, .int .i64 D.get, .int .i64 D.give, .int .i64 D.first, .slice vC D.flows.length vD, .bool D.away, .bool D.dead]) w3.heap.size 40 [.int .i64 D.reg.lim, .int .i64 D.reg.top, .slice uZ D.reg.es.length vg, .int .i64 D.inr, .slice vk D.inT.length vv, .int .i64 D.au, .slice vw D.outT.length vB, .int .i64 D.get, .int .i64 D.give, .int .i64 D.first, .slice vC D.flows.length vD, .bool D.away, .bool D.dead] := dW (cs' := [.int .i64 D.reg.lim, .int .i64 D.reg.top, .slice uZ D.reg.es.length vg, .int .i64 D.inr, .slice vk D.inT.length vv, .int .i64 D.au, .slice vw D.outT.length vB, .int .i64 D.get, .int .i64 D.give, .int .i64 D.first, .slice vC D.flows.length vD, .bool D.away, .bool D.dead]) (aB w3 40 [.int .i64 0, .int .i64 0, .slice none 0 0, .int .i64 0, .slice none 0 0, .int .i64 0, .slice none 0 0, .int .i64 0, .int .i64 0, .int .i64 0, .slice none 0 0, .bool false, .bool false])
 have aO : Below w3.heap.size w3 ((w3.alloc (.cells #[.int .i64 0, .int .i64 0, .slice none 0 0, .int .i64 0, .slice none 0 0, .int .i64 0, .slice none 0 0, .int .i64 0, .int .i64 0, .int .i64 0, .slice none 0 0, .bool false, .bool false] 40)).setRow w3.heap.size #[.int .i64 D.reg.lim, .int .i64 D.reg.top, .slice uZ D.reg.es.length vg, .int .i64 D.inr, .slice vk D.inT.length vv, .int .i64 D.au, .slice vw D.outT.length vB, .int .i64 D.get, .int .i64 D.give, .int .i64 D.first, .slice vC D.flows.length vD, .bool D.away, .bool D.dead]) := below_setRow ((Below.refl _ _).alloc (Nat.le_refl _) _) (Nat.le_refl _) #[.int .i64 D.reg.lim, .int .i64 D.reg.top, .slice uZ D.reg.es.length vg, .int .i64 D.inr, .slice vk D.inT.length vv, .int .i64 D.au, .slice vw D.outT.length vB, .int .i64 D.get, .int .i64 D.give, .int .i64 D.first, .slice vC D.flows.length vD, .bool D.away, .bool D.dead]
 replace RX := hide (RX.out.new aO)
 replace HB := hide (ah HB.out aO)
 replace OS := hide (OS.out.new aO)
 replace FS := hide (aX FS.out aO)
 clear aO
 have BS := hide Kl
 clear Kl
 generalize hV : (w3.alloc (.cells #[.int .i64 0, .int .i64 0, .slice none 0 0, .int .i64 0, .slice none 0 0, .int .i64 0, .slice none 0 0, .int .i64 0, .int .i64 0, .int .i64 0, .slice none 0 0, .bool false, .bool false] 40)).setRow w3.heap.size #[.int .i64 D.reg.lim, .int .i64 D.reg.top, .slice uZ D.reg.es.length vg, .int .i64 D.inr, .slice vk D.inT.length vv, .int .i64 D.au, .slice vw D.outT.length vB, .int .i64 D.get, .int .i64 D.give, .int .i64 D.first, .slice vC D.flows.length vD, .bool D.away, .bool D.dead] = w4 at *
 clear hV
 generalize w3.heap.size = gS at *
 have CS := hide OS.out.rd
 clear OS Q5
 have RS := hide (eP FS.out)
 clear FS Q0
 have aR : Hid (Below w4.heap.size w4 w4) := Below.refl _ _
 have qV := HB
 have xH := RX
 have xI := BS
 have xJ := CS
 have qW := RS
 clear HB RX BS CS RS
 have HB := hide (ah qV.out aR.out)
 have RX := hide (xH.out.new aR.out)
 have BS := hide (xI.out.new aR.out)
 have CS := hide (xJ.out.new aR.out)
 have RS := hide (qW.out.new aR.out)
 go_wp2_with (refine wpList_load_row (by rfl) 30 _ (by rfl) w.heap.size (by rfl) [.int .i64 d.reg.lim, .int .i64 d.reg.top, .slice ea d.reg.es.length ep, .int .i64 d.inr, .slice ia d.inT.length ip, .int .i64 d.au, .slice oa d.outT.length op, .int .i64 d.get, .int .i64 d.give, .int .i64 d.first, .slice fa d.flows.length fp, .bool d.away, .bool d.dead] _ 30 RX.out Tryz.underlying30 rfl (by kernel_rfl) ?_)
 refine (show Calls _ _ #[bH d _ _ _ _] _ _ from Ce d _ _ _ _ _ (HV.out.new HB.out) zh.out).mono ?_
 rintro x w5 ⟨ue, ui, uo, uf, xK, rfl, ho, hlo, hb⟩
 have O8 := hide ho
 have Km := aR.out.size
 have Ra : Hid (∀ b ∈ xK, w4.heap.size ≤ b) := fun b hb => Nat.le_trans Km (hlo b hb)
 clear ho hlo Km
 clear HB RX BS CS RS
 replace aR := hide (ah aR.out hb)
 clear hb
 obtain ⟨pI, pJ, Rb, _, _⟩ := O8.out.rd.e.form
 subst Rb
 obtain ⟨pK, pO, Rc, _, _⟩ := O8.out.rd.i.form
 subst Rc
 obtain ⟨pQ, pR, Rf, _, _⟩ := O8.out.rd.o.form
 subst Rf
 obtain ⟨pU, pV, Cg, _, _⟩ := O8.out.rd.f.form
 subst Cg
 dsimp only [bH]
 have Kn := hide O8.out.lt
 go_upto_region 7 with (refine wpList_store_row (by rfl) 40 _ _ (by rfl) w5.heap.size [.int .i64 d.reg.lim, .int .i64 d.reg.top, .slice pI d.reg.es.length pJ, .int .i64 d.inr, .slice pK d.inT.length pO, .int .i64 d.au, .slice pQ d.outT.length pR, .int .i64 d.get, .int .i64 d.give, .int .i64 d.first, .slice pU d.flows.length pV, .bool d.away, .bool d.dead] (by rfl) (by rfl) 40 [.int .i64 0, .int .i64 0, .slice none 0 0, .int .i64 0, .slice none 0 0, .int .i64 0, .slice none 0 0, .int .i64 0, .int .i64 0, .int .i64 0, .slice none 0 0, .bool false, .bool false] (aB w5 40 [.int .i64 0, .int .i64 0, .slice none 0 0, .int .i64 0, .slice none 0 0, .int .i64 0, .slice none 0 0, .int .i64 0, .int .i64 0, .int .i64 0, .slice none 0 0, .bool false, .bool false]) (by kernel_rfl) rfl (by intro u hu; simp at hu; rcases hu with rfl | rfl | rfl | rfl | rfl | rfl | rfl | rfl | rfl | rfl | rfl | rfl | rfl <;> rfl) ?_)
 have Ko : aj ((w5.alloc (.cells #[.int .i64 0, .int .i64 0, .slice none 0 0, .int .i64 0, .slice none 0 0, .int .i64 0, .slice none 0 0, .int .i64 0, .int .i64 0, .int .i64 0, .slice none 0 0, .bool false, .bool false] 40)).setRow w5.heap.size #[.int .i64 d.reg.lim, .int .i64 d.reg.top, .slice pI d.reg.es.length pJ, .int .i64 d.inr, .slice pK d.inT.length pO, .int .i64 d.au, .slice pQ d.outT.length pR, .int .i64 d.get, .int .i64 d.give, .int .i64 d.first, .slice pU d.flows.length pV, .bool d.away, .bool d.dead]) w5.heap.size 40 [.int .i64 d.reg.lim, .int .i64 d.reg.top, .slice pI d.reg.es.length pJ, .int .i64 d.inr, .slice pK d.inT.length pO, .int .i64 d.au, .slice pQ d.outT.length pR, .int .i64 d.get, .int .i64 d.give, .int .i64 d.first, .slice pU d.flows.length pV, .bool d.away, .bool d.dead] := dW (cs' := [.int .i64 d.reg.lim, .int .i64 d.reg.top, .slice pI d.reg.es.length pJ, .int .i64 d.inr, .slice pK d.inT.length pO, .int .i64 d.au, .slice pQ d.outT.length pR, .int .i64 d.get, .int .i64 d.give, .int .i64 d.first, .slice pU d.flows.length pV, .bool d.away, .bool d.dead]) (aB w5 40 [.int .i64 0, .int .i64 0, .slice none 0 0, .int .i64 0, .slice none 0 0, .int .i64 0, .slice none 0 0, .int .i64 0, .int .i64 0, .int .i64 0, .slice none 0 0, .bool false, .bool false])
 have aO : Below w5.heap.size w5 ((w5.alloc (.cells #[.int .i64 0, .int .i64 0, .slice none 0 0, .int .i64 0, .slice none 0 0, .int .i64 0, .slice none 0 0, .int .i64 0, .int .i64 0, .int .i64 0, .slice none 0 0, .bool false, .bool false] 40)).setRow w5.heap.size #[.int .i64 d.reg.lim, .int .i64 d.reg.top, .slice pI d.reg.es.length pJ, .int .i64 d.inr, .slice pK d.inT.length pO, .int .i64 d.au, .slice pQ d.outT.length pR, .int .i64 d.get, .int .i64 d.give, .int .i64 d.first, .slice pU d.flows.length pV, .bool d.away, .bool d.dead]) := below_setRow ((Below.refl _ _).alloc (Nat.le_refl _) _) (Nat.le_refl _) #[.int .i64 d.reg.lim, .int .i64 d.reg.top, .slice pI d.reg.es.length pJ, .int .i64 d.inr, .slice pK d.inT.length pO, .int .i64 d.au, .slice pQ d.outT.length pR, .int .i64 d.get, .int .i64 d.give, .int .i64 d.first, .slice pU d.flows.length pV, .bool d.away, .bool d.dead]
 replace aR := hide (ah aR.out aO)
 replace O8 := hide (O8.out.new aO)
 clear aO
 have B8 := hide Ko
 clear Ko
 generalize hV : (w5.alloc (.cells #[.int .i64 0, .int .i64 0, .slice none 0 0, .int .i64 0, .slice none 0 0, .int .i64 0, .slice none 0 0, .int .i64 0, .int .i64 0, .int .i64 0, .slice none 0 0, .bool false, .bool false] 40)).setRow w5.heap.size #[.int .i64 d.reg.lim, .int .i64 d.reg.top, .slice pI d.reg.es.length pJ, .int .i64 d.inr, .slice pK d.inT.length pO, .int .i64 d.au, .slice pQ d.outT.length pR, .int .i64 d.get, .int .i64 d.give, .int .i64 d.first, .slice pU d.flows.length pV, .bool d.away, .bool d.dead] = w6 at *
 clear hV
 generalize w5.heap.size = g8 at *
 have N8 : Hid (∀ b ∈ xK, b < g8) := Kn.out
 have zi := hide B8.out.lt
 have kV := hide aR.out.size
 clear Kn
 go_wp2_with (refine wpList_load_row (by rfl) 40 _ (by rfl) g8 (by rfl) [.int .i64 d.reg.lim, .int .i64 d.reg.top, .slice pI d.reg.es.length pJ, .int .i64 d.inr, .slice pK d.inT.length pO, .int .i64 d.au, .slice pQ d.outT.length pR, .int .i64 d.get, .int .i64 d.give, .int .i64 d.first, .slice pU d.flows.length pV, .bool d.away, .bool d.dead] _ 40 B8.out Tryz.underlying40 rfl (by kernel_rfl) ?_)
 refine (show Calls _ _ #[bH d _ _ _ _, .int .i64 id, .int .i64 code] _ _ from Kj.out _ _ _ _ _ O8.out.rd (ah qV.out aR.out)).mono ?_
 rintro x w7 ⟨v, kG, rfl, ⟨ue, ui, uo, uf, Ch, uY, ho, hlo, hfo, hfa⟩, hb⟩
 subst uY
 obtain ⟨Ci, Cj, hfe, _, _⟩ := bW hfo
 subst hfe
 have FI := hide hfo
 have Rh := hide hfa
 clear hfo hfa
 have OI := hide ho
 have Kq := hide hlo
 have zI := hb.size
 clear ho hlo
 replace aR := hide (ah aR.out hb)
 replace O8 := hide (O8.out.new hb)
 replace B8 := hide (B8.out.new hb)
 clear hb
 obtain ⟨pW, pX, Ri, _, _⟩ := OI.out.rd.e.form
 subst Ri
 obtain ⟨pY, p8, Rj, _, _⟩ := OI.out.rd.i.form
 subst Rj
 obtain ⟨qb, qc, Rk, _, _⟩ := OI.out.rd.o.form
 subst Rk
 obtain ⟨qd, qg, Rl, _, _⟩ := OI.out.rd.f.form
 subst Rl
 dsimp only [bH]
 have Ck := hide OI.out.lt
 have nu := hide FI.out.lt
 go_upto_region 8 with (refine wpList_store_row (by rfl) 40 _ _ (by rfl) w7.heap.size [.int .i64 D.reg.lim, .int .i64 D.reg.top, .slice pW D.reg.es.length pX, .int .i64 D.inr, .slice pY D.inT.length p8, .int .i64 D.au, .slice qb D.outT.length qc, .int .i64 D.get, .int .i64 D.give, .int .i64 D.first, .slice qd D.flows.length qg, .bool D.away, .bool D.dead] (by rfl) (by rfl) 40 [.int .i64 0, .int .i64 0, .slice none 0 0, .int .i64 0, .slice none 0 0, .int .i64 0, .slice none 0 0, .int .i64 0, .int .i64 0, .int .i64 0, .slice none 0 0, .bool false, .bool false] (aB w7 40 [.int .i64 0, .int .i64 0, .slice none 0 0, .int .i64 0, .slice none 0 0, .int .i64 0, .slice none 0 0, .int .i64 0, .int .i64 0, .int .i64 0, .slice none 0 0, .bool false, .bool false]) (by kernel_rfl) rfl (by intro u hu; simp at hu; rcases hu with rfl | rfl | rfl | rfl | rfl | rfl | rfl | rfl | rfl | rfl | rfl | rfl | rfl <;> rfl) ?_)
 have Kr : aj ((w7.alloc (.cells #[.int .i64 0, .int .i64 0, .slice none 0 0, .int .i64 0, .slice none 0 0, .int .i64 0, .slice none 0 0, .int .i64 0, .int .i64 0, .int .i64 0, .slice none 0 0, .bool false, .bool false] 40)).setRow w7.heap.size #[.int .i64 D.reg.lim, .int .i64 D.reg.top, .slice pW D.reg.es.length pX, .int .i64 D.inr, .slice pY D.inT.length p8, .int .i64 D.au, .slice qb D.outT.length qc, .int .i64 D.get, .int .i64 D.give, .int .i64 D.first, .slice qd D.flows.length qg, .bool D.away, .bool D.dead]) w7.heap.size 40 [.int .i64 D.reg.lim, .int .i64 D.reg.top, .slice pW D.reg.es.length pX, .int .i64 D.inr, .slice pY D.inT.length p8, .int .i64 D.au, .slice qb D.outT.length qc, .int .i64 D.get, .int .i64 D.give, .int .i64 D.first, .slice qd D.flows.length qg, .bool D.away, .bool D.dead] := dW (cs' := [.int .i64 D.reg.lim, .int .i64 D.reg.top, .slice pW D.reg.es.length pX, .int .i64 D.inr, .slice pY D.inT.length p8, .int .i64 D.au, .slice qb D.outT.length qc, .int .i64 D.get, .int .i64 D.give, .int .i64 D.first, .slice qd D.flows.length qg, .bool D.away, .bool D.dead]) (aB w7 40 [.int .i64 0, .int .i64 0, .slice none 0 0, .int .i64 0, .slice none 0 0, .int .i64 0, .slice none 0 0, .int .i64 0, .int .i64 0, .int .i64 0, .slice none 0 0, .bool false, .bool false])
 have aO : Below w7.heap.size w7 ((w7.alloc (.cells #[.int .i64 0, .int .i64 0, .slice none 0 0, .int .i64 0, .slice none 0 0, .int .i64 0, .slice none 0 0, .int .i64 0, .int .i64 0, .int .i64 0, .slice none 0 0, .bool false, .bool false] 40)).setRow w7.heap.size #[.int .i64 D.reg.lim, .int .i64 D.reg.top, .slice pW D.reg.es.length pX, .int .i64 D.inr, .slice pY D.inT.length p8, .int .i64 D.au, .slice qb D.outT.length qc, .int .i64 D.get, .int .i64 D.give, .int .i64 D.first, .slice qd D.flows.length qg, .bool D.away, .bool D.dead]) := below_setRow ((Below.refl _ _).alloc (Nat.le_refl _) _) (Nat.le_refl _) #[.int .i64 D.reg.lim, .int .i64 D.reg.top, .slice pW D.reg.es.length pX, .int .i64 D.inr, .slice pY D.inT.length p8, .int .i64 D.au, .slice qb D.outT.length qc, .int .i64 D.get, .int .i64 D.give, .int .i64 D.first, .slice qd D.flows.length qg, .bool D.away, .bool D.dead]
 replace aR := hide (ah aR.out aO)
 replace O8 := hide (O8.out.new aO)
 replace B8 := hide (B8.out.new aO)
 replace OI := hide (OI.out.new aO)
 replace FI := hide (aX FI.out aO)
 clear aO
 have BI := hide Kr
 clear Kr
 generalize hV : (w7.alloc (.cells #[.int .i64 0, .int .i64 0, .slice none 0 0, .int .i64 0, .slice none 0 0, .int .i64 0, .slice none 0 0, .int .i64 0, .int .i64 0, .int .i64 0, .slice none 0 0, .bool false, .bool false] 40)).setRow w7.heap.size #[.int .i64 D.reg.lim, .int .i64 D.reg.top, .slice pW D.reg.es.length pX, .int .i64 D.inr, .slice pY D.inT.length p8, .int .i64 D.au, .slice qb D.outT.length qc, .int .i64 D.get, .int .i64 D.give, .int .i64 D.first, .slice qd D.flows.length qg, .bool D.away, .bool D.dead] = w8 at *
 clear hV
 generalize w7.heap.size = gI at *
 have NI : Hid (gI ∉ Ch) := fun hx => Nat.lt_irrefl _ (Ck.out gI hx)
 have MI : Hid (∀ b ∈ Ch, b ∉ xK) := fun b hb hx => by have h1 := Kq.out b hb; have h2 := N8.out b hx; have h4 := zi.out; omega
 have PI : Hid (gI ∉ xK) := fun hx => by have h2 := N8.out gI hx; have h4 := zi.out; omega
 have QI : Hid (∀ q, (Value.slice Ci L.length Cj).ownBlock = some q → q ∉ xK ∧ q ∉ Ch ∧ q ≠ gI) := fun q hq => ⟨fun hx => by have h1 := (nu.out q hq).1; have h2 := N8.out q hx; have h4 := zi.out; omega, Rh.out q hq, fun e => Nat.lt_irrefl _ (e ▸ (nu.out q hq).2)⟩
 clear Ck nu
 have HB := hide (ah qV.out aR.out)
 have RX := hide (xH.out.new aR.out)
 have BS := hide (xI.out.new aR.out)
 have CS := hide (xJ.out.new aR.out)
 have RS := hide (qW.out.new aR.out)
 obtain ⟨t0, t1, t2, t3, t4, t5, t6, t7, t8, t9, t10, t11, t12⟩ := dw BI.out
 have tl := BI.out.lt
 obtain ⟨s0, s1, s2, s3, s4, s5, s6, s7, s8, s9, s10, s11, s12⟩ := dw BS.out
 have sl := BS.out.lt
 go_wp2_with fail
 refine (show Calls _ _ #[bH D _ _ _ _, bH D _ _ _ _] _ _ from Cm D _ _ _ _ _ _ _ _ _ OI.out.rd CS.out).mono ?_; rintro x w9 ⟨rfl, hb⟩
 clear t0 t1 t2 t3 t4 t5 t6 t7 t8 t9 t10 t11 t12 tl
 clear s0 s1 s2 s3 s4 s5 s6 s7 s8 s9 s10 s11 s12 sl
 clear HB RX BS CS RS
 replace aR := hide (ah aR.out hb)
 replace O8 := hide (O8.out.new hb)
 replace B8 := hide (B8.out.new hb)
 replace OI := hide (OI.out.new hb)
 replace FI := hide (aX FI.out hb)
 replace BI := hide (BI.out.new hb)
 clear hb
 have RS := hide (qW.out.new aR.out)
 go_wp2_with fail
 refine (Fx L _ _ _ (eP FI.out) RS.out).mono ?_; rintro x tY ⟨rfl, hb⟩
 clear RS
 replace aR := hide (ah aR.out hb)
 replace O8 := hide (O8.out.new hb)
 replace B8 := hide (B8.out.new hb)
 replace OI := hide (OI.out.new hb)
 replace FI := hide (aX FI.out hb)
 replace BI := hide (BI.out.new hb)
 clear hb
 have HB := hide (ah qV.out aR.out)
 have RX := hide (xH.out.new aR.out)
 have BS := hide (xI.out.new aR.out)
 have CS := hide (xJ.out.new aR.out)
 have RS := hide (qW.out.new aR.out)
 go_upto_region 10 with fail
 obtain ⟨S, Kt, Cn, fB⟩ : ∃ S : World → Prop, Hid (S tY) ∧ Hid (∀ u u1, S u → Below u.heap.size u u1 → S u1) ∧ Hid (∀ u, S u → Below tY.heap.size tY u) := ⟨fun u => Below tY.heap.size tY u, hide (Below.refl _ _), hide (fun u u1 h h1 => ah h h1), hide (fun u h => h)⟩
 have hS : S (World.drew tY) := Cn.out _ _ Kt.out (Below.refl _ _).drew
 go_wp2_with fail
 refine wp_region_held (S := S) (by kernel_rfl) ?_
 change wpAnyH _ _ _ _ _ _ _ _ (World.drew _)
 refine wpAnyH_take (i := 0) (v := .agg #[.int .i64 d.reg.lim, .int .i64 d.reg.top, .slice pI d.reg.es.length pJ, .int .i64 d.inr, .slice pK d.inT.length pO, .int .i64 d.au, .slice pQ d.outT.length pR, .int .i64 d.get, .int .i64 d.give, .int .i64 d.first, .slice pU d.flows.length pV, .bool d.away, .bool d.dead]) rfl (by kernel_rfl) (by kernel_rfl) (by kernel_rfl) (fun _ _ _ h => h) (Or.inl ⟨by kernel_rfl, ?ld⟩) hS ?_; case ld => (intro uu hu; have l0 := (B8.out.new (fB.out _ hu)).cell (j := 0) rfl; have l1 := (B8.out.new (fB.out _ hu)).cell (j := 1) rfl; have l2 := (B8.out.new (fB.out _ hu)).cell (j := 2) rfl; have l3 := (B8.out.new (fB.out _ hu)).cell (j := 3) rfl; have l4 := (B8.out.new (fB.out _ hu)).cell (j := 4) rfl; have l5 := (B8.out.new (fB.out _ hu)).cell (j := 5) rfl; have l6 := (B8.out.new (fB.out _ hu)).cell (j := 6) rfl; have l7 := (B8.out.new (fB.out _ hu)).cell (j := 7) rfl; have l8 := (B8.out.new (fB.out _ hu)).cell (j := 8) rfl; have l9 := (B8.out.new (fB.out _ hu)).cell (j := 9) rfl; have l10 := (B8.out.new (fB.out _ hu)).cell (j := 10) rfl; have Rm := (B8.out.new (fB.out _ hu)).cell (j := 11) rfl; have Rn := (B8.out.new (fB.out _ hu)).cell (j := 12) rfl; have ll := (B8.out.new (fB.out _ hu)).lt; clear hu; go_simp)
 try simp only [Act.put, aI, aJ, aK, aL, aM, aN]
 refine wpAnyH_take (i := 1) (v := .agg #[.int .i64 d.reg.lim, .int .i64 d.reg.top, .slice ea d.reg.es.length ep, .int .i64 d.inr, .slice ia d.inT.length ip, .int .i64 d.au, .slice oa d.outT.length op, .int .i64 d.get, .int .i64 d.give, .int .i64 d.first, .slice fa d.flows.length fp, .bool d.away, .bool d.dead]) rfl (by kernel_rfl) (by kernel_rfl) (by kernel_rfl) (fun _ _ _ h => h) (Or.inl ⟨by kernel_rfl, ?ld⟩) hS ?_; case ld => (intro uu hu; have l0 := (RX.out.new (fB.out _ hu)).cell (j := 0) rfl; have l1 := (RX.out.new (fB.out _ hu)).cell (j := 1) rfl; have l2 := (RX.out.new (fB.out _ hu)).cell (j := 2) rfl; have l3 := (RX.out.new (fB.out _ hu)).cell (j := 3) rfl; have l4 := (RX.out.new (fB.out _ hu)).cell (j := 4) rfl; have l5 := (RX.out.new (fB.out _ hu)).cell (j := 5) rfl; have l6 := (RX.out.new (fB.out _ hu)).cell (j := 6) rfl; have l7 := (RX.out.new (fB.out _ hu)).cell (j := 7) rfl; have l8 := (RX.out.new (fB.out _ hu)).cell (j := 8) rfl; have l9 := (RX.out.new (fB.out _ hu)).cell (j := 9) rfl; have l10 := (RX.out.new (fB.out _ hu)).cell (j := 10) rfl; have Rm := (RX.out.new (fB.out _ hu)).cell (j := 11) rfl; have Rn := (RX.out.new (fB.out _ hu)).cell (j := 12) rfl; have ll := (RX.out.new (fB.out _ hu)).lt; clear hu; go_simp)
 try simp only [Act.put, aI, aJ, aK, aL, aM, aN]
 refine wpAnyH_ready (rs := [2]) (by kernel_rfl) (by simp) ?_; refine AllReadyH.cons rfl (fun K hK => ?_) AllReadyH.nil; rw [if_pos (by kernel_rfl)]; go_simp
 refine (show Calls _ _ #[bH d _ _ _ _] _ _ from Ce d _ _ _ _ _ (HV.out.new (ah HB.out (fB.out _ hS))) zh.out).mono ?_
 rintro x x1 ⟨ue, ui, uo, uf, bs3, rfl, ho, hlo, hx1⟩
 have O3 := hide ho
 clear ho hlo
 obtain ⟨ea3, ep3, Ro, _, _⟩ := O3.out.rd.e.form
 subst Ro
 obtain ⟨ia3, ip3, hi3, _, _⟩ := O3.out.rd.i.form
 subst hi3
 obtain ⟨oa3, op3, ho3, _, _⟩ := O3.out.rd.o.form
 subst ho3
 obtain ⟨fa3, fp3, hf3, _, _⟩ := O3.out.rd.f.form
 subst hf3
 refine hK.out _ _ (Cn.out _ _ hS hx1) (fun hS => ?_)
 clear hK K hx1
 dsimp only [bH]
 try simp only [Act.put, aI, aJ, aK, aL, aM, aN]
 refine wpAnyH_ready (rs := [3]) (by kernel_rfl) (by simp) ?_; refine AllReadyH.cons rfl (fun K hK => ?_) AllReadyH.nil; rw [if_pos (by kernel_rfl)]; go_simp
 refine (show Calls _ _ #[bH d _ _ _ _, bH d _ _ _ _] _ _ from Cm d _ _ _ _ _ _ _ _ _ (O8.out.rd.new (fB.out _ hS)) O3.out.rd).mono ?_
 rintro x x2 ⟨rfl, hx2⟩
 refine hK.out _ _ (Cn.out _ _ hS hx2) (fun hS => ?_)
 clear hK K hx2 O3
 try simp only [Act.put, aI, aJ, aK, aL, aM, aN]
 refine wpAnyH_take (i := 4) (v := .bool false) rfl (by kernel_rfl) (by kernel_rfl) (by kernel_rfl) (fun _ _ _ h => h) (Or.inl ⟨by kernel_rfl, fun uu hu => (by kernel_rfl)⟩) hS ?_
 try simp only [Act.put, aI, aJ, aK, aL, aM, aN]
 refine wpAnyH_done (by kernel_rfl) ?_ _
 have hb := fB.out _ hS
 clear hS Cn fB Kt
 clear HB RX BS CS RS
 generalize x2 = Fy at *
 replace aR := hide (ah aR.out hb)
 replace O8 := hide (O8.out.new hb)
 replace B8 := hide (B8.out.new hb)
 replace OI := hide (OI.out.new hb)
 replace FI := hide (aX FI.out hb)
 replace BI := hide (BI.out.new hb)
 clear hb
 obtain ⟨t0, t1, t2, t3, t4, t5, t6, t7, t8, t9, t10, t11, t12⟩ := dw B8.out
 have tl := B8.out.lt
 go_wp2_with fail
 obtain ⟨K8, Ku⟩ : ∃ K, 1 + lG d = K := ⟨_, rfl⟩
 have hmk := Kv d (.slice pI d.reg.es.length pJ) (.slice pK d.inT.length pO) (.slice pQ d.outT.length pR) (.slice pU d.flows.length pV) 1 xK Fy O8.out (Rp d zh.out)
 rw [Ku] at hmk
 have hk80 : ¬ ((K8 : Nat) : Int) < 0 := by omega
 clear Ku
 refine (show Calls _ _ #[bH d _ _ _ _, _] _ _ from hmk).mono ?_; clear hmk; rintro x Co ⟨rfl, _, ht⟩
 clear t0 t1 t2 t3 t4 t5 t6 t7 t8 t9 t10 t11 t12 tl
 replace aR := hide (aR.out.trans (⟨ht.os, ht.tape, ht.output, ht.size, fun k hk => ht.block k (by have := aR.out.size; omega) (fun hx => by have := Ra.out k hx; omega)⟩ : Below w4.heap.size _ _))
 replace OI := hide (OI.out.turn ht MI.out)
 replace BI := hide (BI.out.kept (ht.block _ BI.out.lt PI.out))
 replace FI := hide (gK FI.out (fun k hk hl => ht.block k hl (QI.out k hk).1))
 clear ht B8 O8
 have HB := hide (ah qV.out aR.out)
 have RX := hide (xH.out.new aR.out)
 have BS := hide (xI.out.new aR.out)
 have CS := hide (xJ.out.new aR.out)
 have RS := hide (qW.out.new aR.out)
 obtain ⟨t0, t1, t2, t3, t4, t5, t6, t7, t8, t9, t10, t11, t12⟩ := dw BI.out
 have tl := BI.out.lt
 obtain ⟨s0, s1, s2, s3, s4, s5, s6, s7, s8, s9, s10, s11, s12⟩ := dw BS.out
 have sl := BS.out.lt
 go_wp2_with fail
 refine (show Calls _ _ #[bH D _ _ _ _, bH D _ _ _ _] _ _ from Cm D _ _ _ _ _ _ _ _ _ OI.out.rd CS.out).mono ?_; rintro x w13 ⟨rfl, hb⟩
 clear t0 t1 t2 t3 t4 t5 t6 t7 t8 t9 t10 t11 t12 tl
 clear s0 s1 s2 s3 s4 s5 s6 s7 s8 s9 s10 s11 s12 sl
 clear HB RX BS CS RS
 replace aR := hide (ah aR.out hb)
 replace OI := hide (OI.out.new hb)
 replace FI := hide (aX FI.out hb)
 replace BI := hide (BI.out.new hb)
 clear hb
 have RS := hide (qW.out.new aR.out)
 go_wp2_with fail
 refine (Fx L _ _ _ (eP FI.out) RS.out).mono ?_; rintro x Rq ⟨rfl, hb⟩
 clear RS
 replace aR := hide (ah aR.out hb)
 replace OI := hide (OI.out.new hb)
 replace FI := hide (aX FI.out hb)
 replace BI := hide (BI.out.new hb)
 clear hb
 obtain ⟨t0, t1, t2, t3, t4, t5, t6, t7, t8, t9, t10, t11, t12⟩ := dw BI.out
 have tl := BI.out.lt
 go_wp2_with fail
 have hmk := Kv D (.slice pW D.reg.es.length pX) (.slice pY D.inT.length p8) (.slice qb D.outT.length qc) (.slice qd D.flows.length qg) 1 Ch Rq OI.out (by rw [nk.out]; omega)
 rw [nk.out] at hmk
 refine (show Calls _ _ #[bH D _ _ _ _, _] _ _ from hmk).mono ?_; clear hmk; rintro x Rs ⟨rfl, zk, ht⟩
 clear t0 t1 t2 t3 t4 t5 t6 t7 t8 t9 t10 t11 t12 tl
 replace aR := hide (aR.out.trans (⟨ht.os, ht.tape, ht.output, ht.size, fun k hk => ht.block k (by have := aR.out.size; omega) (fun hx => by have := Kq.out k hx; have := zi.out; have := kV.out; omega)⟩ : Below w4.heap.size _ _))
 replace BI := hide (BI.out.kept (ht.block _ BI.out.lt NI.out))
 have OM := hide zk
 replace FI := hide (gK FI.out (fun k hk hl => ht.block k hl (QI.out k hk).2.1))
 clear ht OI zk
 go_wp2_with fail
 have hmk := Rt L.length K1 (.slice Ci L.length Cj) (fr L) _ Rs FI.out hk2
 rw [xE.out] at hmk
 refine hmk.mono ?_; clear hmk; rintro x w16 ⟨rfl, zk, hg⟩
 replace aR := hide (aR.out.trans (⟨hg.os, hg.tape, hg.output, hg.size, fun k hk => hg.block k (by have := aR.out.size; omega) (fun e => by have := (FI.out.lt k e.symm).1; have := zi.out; have := kV.out; omega)⟩ : Below w4.heap.size _ _))
 replace BI := hide (BI.out.kept (hg.block _ BI.out.lt (fun e => (QI.out _ e.symm).2.2 rfl)))
 replace OM := hide (OM.out.keep hg.size (fun b hb => hg.block b (OM.out.lt b hb) (fun e => (QI.out b e.symm).2.1 hb)))
 have FM := hide (eP zk)
 clear hg zk FI
 obtain ⟨t0, t1, t2, t3, t4, t5, t6, t7, t8, t9, t10, t11, t12⟩ := dw BI.out
 have tl := BI.out.lt
 go_wp2_with fail
 have hhd := Kw D D (.slice pW D.reg.es.length pX) (.slice pY D.inT.length p8) (.slice qb D.outT.length qc) (.slice qd D.flows.length qg) 1 w16 OM.out.rd (by rw [nk.out]; omega)
 rw [nk.out] at hhd
 refine (show Calls _ _ #[bH D _ _ _ _, _] _ _ from hhd).mono ?_; clear hhd; rintro x Ru ⟨rfl, hb⟩
 have hk10 : ¬ ((K1 : Nat) : Int) < 0 := by omega
 clear t0 t1 t2 t3 t4 t5 t6 t7 t8 t9 t10 t11 t12 tl
 replace aR := hide (ah aR.out hb)
 replace BI := hide (BI.out.new hb)
 replace OM := hide (OM.out.new hb)
 replace FM := hide (FM.out.new hb)
 clear hb
 go_wp2_with fail
 have hhd := Ky L.length K1 (.slice Ci L.length Cj) Ru FM.out hk2
 rw [xE.out] at hhd
 refine hhd.mono ?_; clear hhd; rintro x w18 ⟨rfl, hb⟩
 have Rv : ¬ ((K2 : Nat) : Int) < 0 := by omega
 replace aR := hide (ah aR.out hb)
 replace BI := hide (BI.out.new hb)
 replace OM := hide (OM.out.new hb)
 replace FM := hide (FM.out.new hb)
 clear hb
 have HB := hide (ah qV.out aR.out)
 have RX := hide (xH.out.new aR.out)
 have BS := hide (xI.out.new aR.out)
 have CS := hide (xJ.out.new aR.out)
 have RS := hide (qW.out.new aR.out)
 go_wp2_with (refine wpList_load_row (by rfl) 30 _ (by rfl) w.heap.size (by rfl) [.int .i64 d.reg.lim, .int .i64 d.reg.top, .slice ea d.reg.es.length ep, .int .i64 d.inr, .slice ia d.inT.length ip, .int .i64 d.au, .slice oa d.outT.length op, .int .i64 d.get, .int .i64 d.give, .int .i64 d.first, .slice fa d.flows.length fp, .bool d.away, .bool d.dead] _ 30 RX.out Tryz.underlying30 rfl (by kernel_rfl) ?_)
 refine (show Calls _ _ #[bH d _ _ _ _] _ _ from Ce d _ _ _ _ _ (HV.out.new HB.out) zh.out).mono ?_
 rintro x w19 ⟨ue, ui, uo, uf, bs9, rfl, ho, hlo, hb⟩
 have O9 := hide ho
 clear ho hlo
 clear HB RX BS CS RS
 replace aR := hide (ah aR.out hb)
 replace BI := hide (BI.out.new hb)
 replace OM := hide (OM.out.new hb)
 replace FM := hide (FM.out.new hb)
 clear hb
 obtain ⟨ea9, ep9, tZ, _, _⟩ := O9.out.rd.e.form
 subst tZ
 obtain ⟨ia9, ip9, hi9, _, _⟩ := O9.out.rd.i.form
 subst hi9
 obtain ⟨oa9, op9, eF, _, _⟩ := O9.out.rd.o.form
 subst eF
 obtain ⟨fa9, fp9, Rw, _, _⟩ := O9.out.rd.f.form
 subst Rw
 dsimp only [bH]
 go_wp2_with fail
 refine (show Calls _ _ #[bH d _ _ _ _, .int .i64 id, .int .i64 code] _ _ from Kj.out _ _ _ _ _ O9.out.rd (ah qV.out aR.out)).mono ?_
 rintro x ny ⟨v, kG, rfl, ⟨ue, ui, uo, uf, bsJ, uY, ho, hlo, hfo, hfa⟩, hb⟩
 subst uY
 obtain ⟨fraJ, frpJ, hfe, _, _⟩ := bW hfo
 subst hfe
 have FJ := hide hfo
 have FAJ := hide hfa
 clear hfo hfa
 have OJ := hide ho
 have LOJ := hide hlo
 have zJ := hb.size
 clear ho hlo
 replace aR := hide (ah aR.out hb)
 replace BI := hide (BI.out.new hb)
 replace OM := hide (OM.out.new hb)
 replace FM := hide (FM.out.new hb)
 replace O9 := hide (O9.out.new hb)
 clear hb
 obtain ⟨vG, vH, Rx, _, _⟩ := OJ.out.rd.e.form
 subst Rx
 obtain ⟨vJ, vK, Ry, _, _⟩ := OJ.out.rd.i.form
 subst Ry
 obtain ⟨vL, vM, Rz, _, _⟩ := OJ.out.rd.o.form
 subst Rz
 obtain ⟨vN, vO, RD, _, _⟩ := OJ.out.rd.f.form
 subst RD
 dsimp only [bH]
 go_upto_region 29 with (refine wpList_store_row (by rfl) 40 _ _ (by rfl) ny.heap.size [.int .i64 D.reg.lim, .int .i64 D.reg.top, .slice vG D.reg.es.length vH, .int .i64 D.inr, .slice vJ D.inT.length vK, .int .i64 D.au, .slice vL D.outT.length vM, .int .i64 D.get, .int .i64 D.give, .int .i64 D.first, .slice vN D.flows.length vO, .bool D.away, .bool D.dead] (by rfl) (by rfl) 40 [.int .i64 0, .int .i64 0, .slice none 0 0, .int .i64 0, .slice none 0 0, .int .i64 0, .slice none 0 0, .int .i64 0, .int .i64 0, .int .i64 0, .slice none 0 0, .bool false, .bool false] (aB ny 40 [.int .i64 0, .int .i64 0, .slice none 0 0, .int .i64 0, .slice none 0 0, .int .i64 0, .slice none 0 0, .int .i64 0, .int .i64 0, .int .i64 0, .slice none 0 0, .bool false, .bool false]) (by kernel_rfl) rfl (by intro u hu; simp at hu; rcases hu with rfl | rfl | rfl | rfl | rfl | rfl | rfl | rfl | rfl | rfl | rfl | rfl | rfl <;> rfl) ?_)
 have Kz : aj ((ny.alloc (.cells #[.int .i64 0, .int .i64 0, .slice none 0 0, .int .i64 0, .slice none 0 0, .int .i64 0, .slice none 0 0, .int .i64 0, .int .i64 0, .int .i64 0, .slice none 0 0, .bool false, .bool false] 40)).setRow ny.heap.size #[.int .i64 D.reg.lim, .int .i64 D.reg.top, .slice vG D.reg.es.length vH, .int .i64 D.inr, .slice vJ D.inT.length vK, .int .i64 D.au, .slice vL D.outT.length vM, .int .i64 D.get, .int .i64 D.give, .int .i64 D.first, .slice vN D.flows.length vO, .bool D.away, .bool D.dead]) ny.heap.size 40 [.int .i64 D.reg.lim, .int .i64 D.reg.top, .slice vG D.reg.es.length vH, .int .i64 D.inr, .slice vJ D.inT.length vK, .int .i64 D.au, .slice vL D.outT.length vM, .int .i64 D.get, .int .i64 D.give, .int .i64 D.first, .slice vN D.flows.length vO, .bool D.away, .bool D.dead] := dW (cs' := [.int .i64 D.reg.lim, .int .i64 D.reg.top, .slice vG D.reg.es.length vH, .int .i64 D.inr, .slice vJ D.inT.length vK, .int .i64 D.au, .slice vL D.outT.length vM, .int .i64 D.get, .int .i64 D.give, .int .i64 D.first, .slice vN D.flows.length vO, .bool D.away, .bool D.dead]) (aB ny 40 [.int .i64 0, .int .i64 0, .slice none 0 0, .int .i64 0, .slice none 0 0, .int .i64 0, .slice none 0 0, .int .i64 0, .int .i64 0, .int .i64 0, .slice none 0 0, .bool false, .bool false])
 have aO : Below ny.heap.size ny ((ny.alloc (.cells #[.int .i64 0, .int .i64 0, .slice none 0 0, .int .i64 0, .slice none 0 0, .int .i64 0, .slice none 0 0, .int .i64 0, .int .i64 0, .int .i64 0, .slice none 0 0, .bool false, .bool false] 40)).setRow ny.heap.size #[.int .i64 D.reg.lim, .int .i64 D.reg.top, .slice vG D.reg.es.length vH, .int .i64 D.inr, .slice vJ D.inT.length vK, .int .i64 D.au, .slice vL D.outT.length vM, .int .i64 D.get, .int .i64 D.give, .int .i64 D.first, .slice vN D.flows.length vO, .bool D.away, .bool D.dead]) := below_setRow ((Below.refl _ _).alloc (Nat.le_refl _) _) (Nat.le_refl _) #[.int .i64 D.reg.lim, .int .i64 D.reg.top, .slice vG D.reg.es.length vH, .int .i64 D.inr, .slice vJ D.inT.length vK, .int .i64 D.au, .slice vL D.outT.length vM, .int .i64 D.get, .int .i64 D.give, .int .i64 D.first, .slice vN D.flows.length vO, .bool D.away, .bool D.dead]
 replace aR := hide (ah aR.out aO)
 replace BI := hide (BI.out.new aO)
 replace OM := hide (OM.out.new aO)
 replace FM := hide (FM.out.new aO)
 replace O9 := hide (O9.out.new aO)
 replace OJ := hide (OJ.out.new aO)
 replace FJ := hide (aX FJ.out aO)
 clear aO
 have BJ := hide Kz
 clear Kz
 generalize hV : (ny.alloc (.cells #[.int .i64 0, .int .i64 0, .slice none 0 0, .int .i64 0, .slice none 0 0, .int .i64 0, .slice none 0 0, .int .i64 0, .int .i64 0, .int .i64 0, .slice none 0 0, .bool false, .bool false] 40)).setRow ny.heap.size #[.int .i64 D.reg.lim, .int .i64 D.reg.top, .slice vG D.reg.es.length vH, .int .i64 D.inr, .slice vJ D.inT.length vK, .int .i64 D.au, .slice vL D.outT.length vM, .int .i64 D.get, .int .i64 D.give, .int .i64 D.first, .slice vN D.flows.length vO, .bool D.away, .bool D.dead] = w21 at *
 clear hV
 generalize ny.heap.size = gJ at *
 have HB := hide (ah qV.out aR.out)
 have RX := hide (xH.out.new aR.out)
 have BS := hide (xI.out.new aR.out)
 have CS := hide (xJ.out.new aR.out)
 have RS := hide (qW.out.new aR.out)
 obtain ⟨t0, t1, t2, t3, t4, t5, t6, t7, t8, t9, t10, t11, t12⟩ := dw BJ.out
 have tl := BJ.out.lt
 obtain ⟨s0, s1, s2, s3, s4, s5, s6, s7, s8, s9, s10, s11, s12⟩ := dw BS.out
 have sl := BS.out.lt
 go_wp2_with fail
 refine (show Calls _ _ #[bH D _ _ _ _, bH D _ _ _ _] _ _ from Cm D _ _ _ _ _ _ _ _ _ OJ.out.rd CS.out).mono ?_; rintro x w22 ⟨rfl, hb⟩
 clear t0 t1 t2 t3 t4 t5 t6 t7 t8 t9 t10 t11 t12 tl
 clear s0 s1 s2 s3 s4 s5 s6 s7 s8 s9 s10 s11 s12 sl
 clear HB RX BS CS RS
 replace aR := hide (ah aR.out hb)
 replace BI := hide (BI.out.new hb)
 replace OM := hide (OM.out.new hb)
 replace FM := hide (FM.out.new hb)
 replace O9 := hide (O9.out.new hb)
 replace OJ := hide (OJ.out.new hb)
 replace FJ := hide (aX FJ.out hb)
 replace BJ := hide (BJ.out.new hb)
 clear hb
 have RS := hide (qW.out.new aR.out)
 go_wp2_with fail
 refine (Fx L _ _ _ (eP FJ.out) RS.out).mono ?_; rintro x RF ⟨rfl, hb⟩
 clear RS
 replace aR := hide (ah aR.out hb)
 replace BI := hide (BI.out.new hb)
 replace OM := hide (OM.out.new hb)
 replace FM := hide (FM.out.new hb)
 replace O9 := hide (O9.out.new hb)
 replace OJ := hide (OJ.out.new hb)
 replace FJ := hide (aX FJ.out hb)
 replace BJ := hide (BJ.out.new hb)
 clear hb
 obtain ⟨t0, t1, t2, t3, t4, t5, t6, t7, t8, t9, t10, t11, t12⟩ := dw BI.out
 have tl := BI.out.lt
 go_wp2_with fail
 have hhd := Kw D D (.slice pW D.reg.es.length pX) (.slice pY D.inT.length p8) (.slice qb D.outT.length qc) (.slice qd D.flows.length qg) 1 RF OM.out.rd (by rw [nk.out]; omega)
 rw [nk.out] at hhd
 refine (show Calls _ _ #[bH D _ _ _ _, _] _ _ from hhd).mono ?_; clear hhd; rintro x RG ⟨rfl, hb⟩
 have hk10 : ¬ ((K1 : Nat) : Int) < 0 := by omega
 clear t0 t1 t2 t3 t4 t5 t6 t7 t8 t9 t10 t11 t12 tl
 replace aR := hide (ah aR.out hb)
 replace BI := hide (BI.out.new hb)
 replace OM := hide (OM.out.new hb)
 replace FM := hide (FM.out.new hb)
 replace O9 := hide (O9.out.new hb)
 replace OJ := hide (OJ.out.new hb)
 replace FJ := hide (aX FJ.out hb)
 replace BJ := hide (BJ.out.new hb)
 clear hb
 go_wp2_with fail
 have hhd := Ky L.length K1 (.slice Ci L.length Cj) RG FM.out hk2
 rw [xE.out] at hhd
 refine hhd.mono ?_; clear hhd; rintro x w25 ⟨rfl, hb⟩
 have Rv : ¬ ((K2 : Nat) : Int) < 0 := by omega
 replace aR := hide (ah aR.out hb)
 replace BI := hide (BI.out.new hb)
 replace OM := hide (OM.out.new hb)
 replace FM := hide (FM.out.new hb)
 replace O9 := hide (O9.out.new hb)
 replace OJ := hide (OJ.out.new hb)
 replace FJ := hide (aX FJ.out hb)
 replace BJ := hide (BJ.out.new hb)
 clear hb
 have HB := ah qV.out aR.out
 go_wp2_with fail
 go_ret
 exact ⟨rfl, HB⟩
theorem own : ownKnob Tryz.prog.godebug = none := by kernel_rfl
theorem laidOut : laidOutB Tryz.prog = true := by kernel_rfl
theorem RH (os : Os) {H : Type} (enc : TypeId × Value → H) :
  (OpenSpec.ofChange Rows.fnExactRepliedSpec).preRow enc Tryz.prog Tryz.f3 Rows.fnExactRepliedRow.domain false Rows.fnExactRepliedRow.laid ((({ World.holding Tryz.prog os ⟨#[], #[], []⟩ with heap := Cq (World.holding Tryz.prog os ⟨#[], #[], []⟩).heap } : World)).forCall (fun _ _ => 0) ⟨#[], #[.agg #[.int .i64 0, .int .i64 0, .slice none 0 0, .int .i64 0, .slice none 0 0, .int .i64 0, .slice none 0 0, .int .i64 0, .int .i64 0, .int .i64 0, .slice none 0 0, .bool false, .bool false], .int .i64 0, .int .i64 0], []⟩).memory #[.agg #[.int .i64 0, .int .i64 0, .slice none 0 0, .int .i64 0, .slice none 0 0, .int .i64 0, .slice none 0 0, .int .i64 0, .int .i64 0, .int .i64 0, .slice none 0 0, .bool false, .bool false], .int .i64 0, .int .i64 0] := by
 have hw : (DataW.whole enc Tryz.prog ((({ World.holding Tryz.prog os ⟨#[], #[], []⟩ with heap := Cq (World.holding Tryz.prog os ⟨#[], #[], []⟩).heap } : World)).forCall (fun _ _ => 0) ⟨#[], #[.agg #[.int .i64 0, .int .i64 0, .slice none 0 0, .int .i64 0, .slice none 0 0, .int .i64 0, .slice none 0 0, .int .i64 0, .int .i64 0, .int .i64 0, .slice none 0 0, .bool false, .bool false], .int .i64 0, .int .i64 0], []⟩).memory Tryz.f3.params.toList (OpenSpec.ofChange Rows.fnExactRepliedSpec).vars false (#[.agg #[.int .i64 0, .int .i64 0, .slice none 0 0, .int .i64 0, .slice none 0 0, .int .i64 0, .slice none 0 0, .int .i64 0, .int .i64 0, .int .i64 0, .slice none 0 0, .bool false, .bool false], .int .i64 0, .int .i64 0] : Array Value).toList 8).isSome = true := by kernel_rfl
 obtain ⟨x, hx⟩ := Option.isSome_iff_exists.1 hw
 exact OpenSpec.preRow_of_cond 8 hx rfl (fun k hk => by cases hk) (by kernel_rfl) (RI os _)
set_option maxRecDepth 100000 in
theorem lifted (os : Os) (started : os.Started) (H : Type) (enc : TypeId × Value → H) (F : Stop.Interp) :
  ReturnsInHanded {} Tryz.checked os 3 .any ((OpenSpec.ofChange Rows.fnExactRepliedSpec).preRow enc Tryz.prog Tryz.f3 Rows.fnExactRepliedRow.domain false Rows.fnExactRepliedRow.laid) (((OpenSpec.ofChange Rows.fnExactRepliedSpec).at F).post enc Tryz.prog Tryz.f3 false true false false) := by
 refine returnsInHanded_of_row (C := Tryz.checked) (s := OpenSpec.ofChange Rows.fnExactRepliedSpec) own started (by kernel_rfl) Tryz.func3
  (witness_row_atRef (enc := enc) (C := Tryz.checked) false (({ World.holding Tryz.prog os ⟨#[], #[], []⟩ with heap := Cq (World.holding Tryz.prog os ⟨#[], #[], []⟩).heap } : World)) #[.agg #[.int .i64 0, .int .i64 0, .slice none 0 0, .int .i64 0, .slice none 0 0, .int .i64 0, .slice none 0 0, .int .i64 0, .int .i64 0, .int .i64 0, .slice none 0 0, .bool false, .bool false], .int .i64 0, .int .i64 0] rfl (by kernel_rfl) (by kernel_rfl) (by kernel_rfl) (RH os enc)) ?_
 intro W base args ds gs before hval0 hW hcnd _ _ hL hSO _
 have hval : ∀ (j : Nat) t v, Tryz.f3.params[j]? = some t → args[j]? = some v → Value.okWide Tryz.prog W .any base t v := hval0
 have hW' := hW
 obtain ⟨p, q, KA, hV, rfl, hfz, hnd⟩ := hW
 have hA : DataW.TrodAll enc Tryz.prog W 0 (fun _ => true) true Tryz.f3.params.toList args.toList ds p := KA
 rw [Tryz.params3] at hA hval
 obtain ⟨v0, vs0, d0, ds0, p0, q0, hargs, rfl, rfl, h0, r0⟩ := trodAll_cons hA
 obtain ⟨v1, vs1, d1, ds1, p1, q1, rfl, rfl, rfl, h1, r1⟩ := trodAll_cons r0
 obtain ⟨v2, vs2, d2, ds2, p2, q2, rfl, rfl, rfl, h2, r2⟩ := trodAll_cons r1
 obtain ⟨rfl, rfl, rfl⟩ := trodAll_nil r2
 obtain rfl : args = #[v0, v1, v2] := by cases args; simp_all
 obtain ⟨rfl, rfl⟩ := trodVars_none hV
 have RJ := RL hL
 have k0 := h0
 have RP : ∀ x ∈ p0, x.block < W.heap.size := by obtain ⟨m, hm⟩ := k0; exact DataW.trod_lt m _ _ _ hm
 have k1 := h1
 have RQ : ∀ x ∈ p1, x.block < W.heap.size := by obtain ⟨m, hm⟩ := k1; exact DataW.trod_lt m _ _ _ hm
 have k2 := h2
 have RU : ∀ x ∈ p2, x.block < W.heap.size := by obtain ⟨m, hm⟩ := k2; exact DataW.trod_lt m _ _ _ hm
 obtain ⟨d, ve, vi, vo, vf, rfl, hrd⟩ := RV (hval 0 30 v0 rfl rfl) h0
 obtain ⟨id, rfl, rfl, rfl, wid⟩ := open_int Tryz.underlying2 (hval 1 2 v1 rfl rfl) h1
 obtain ⟨code, rfl, rfl, rfl, abf⟩ := open_int Tryz.underlying2 (hval 2 2 v2 rfl rfl) h2
 clear KA hval0
 refine (walk d ve vi vo vf id code W hrd RJ).mono fun e W' ⟨he, Cr⟩ => ?_
 subst he
 exact ⟨_, rfl, _, _, _, [], _, [], hW', trodAll_mk1 (shut_bool Tryz.underlying4 _), (trodAll_cons_mk (Below.trod laidOut (by kernel_rfl) (of_decide_eq_true (by kernel_rfl)) k0 Cr RP) (trodAll_cons_mk (Below.trod laidOut (by kernel_rfl) (of_decide_eq_true (by kernel_rfl)) k1 Cr RQ) (trodAll_cons_mk (Below.trod laidOut (by kernel_rfl) (of_decide_eq_true (by kernel_rfl)) k2 Cr RU) trodAll_mk0))), rfl, Cr.frame _, fun h => by cases h⟩
theorem over : Rows.fnExactRepliedRow.holds Tryz.pinned (OpenSpec.ofChange Rows.fnExactRepliedSpec) :=
 OpenClaim.holds_of_cond 3 Tryz.f3 rfl rfl rfl rfl rfl rfl rfl ⟨rfl, rfl, rfl, rfl, rfl⟩ rfl rfl rfl rfl rfl (by kernel_rfl) Tryz.func3 (by kernel_rfl)
  (of_decide_eq_true (by kernel_rfl)) (by unfold Func.isWrapper; first | (rw [if_pos (by decide +kernel)]; kernel_rfl) | (rw [if_neg (by decide +kernel)]; exact ⟨rfl, rfl⟩))
  (fun os started H enc _ F => by rw [OpenClaim.pre_eq_preRow]; exact lifted os started H enc F)
theorem card : Rows.FnExactRepliedCardSaid :=
 Claim7.holds_tied_plain_at .later [] [.data, .data, .data] true (true, "d9bf27807177e48798bc029bc4f8c5c491a9e48ad4e3cd264048f6713e10d8bc") true
  over (fun _ h => by cases h) (by kernel_rfl) (fun _ h => by cases h) fnExactReplied_row_tie rfl ⟨rfl, rfl⟩ (by kernel_rfl) rfl
  (fun f fn hf hfn => by
   obtain rfl : f = 3 := Option.some.inj ((show Tryz.prog.funcNamed "loop.example/g00296/laws.FnExactReplied" = some 3 by kernel_rfl).symm.trans hf) |>.symm
   obtain rfl : fn = Tryz.f3 := (Option.some.inj (Tryz.func3.symm.trans hfn)).symm
   exact ⟨by kernel_rfl, fun j t ht => by
    rw [Tryz.params3] at ht
    have hm : t ∈ [30, 2, 2] := by simpa using Array.mem_of_getElem? ht
    have hall : ([30, 2, 2].all fun u => !Tryz.prog.wantsStandIn u) = true := by kernel_rfl
    exact (show Tryz.prog.wantsStandIn t = false by simpa using List.all_eq_true.1 hall t hm)⟩)
  (by kernel_rfl)
end Ki
theorem exactReplied_proved : Rows.FnExactRepliedCardSaid := Ki.card
#print axioms exactReplied_proved
end Go.Proofs.YtlpbnkideaojeaaGreatDoor
