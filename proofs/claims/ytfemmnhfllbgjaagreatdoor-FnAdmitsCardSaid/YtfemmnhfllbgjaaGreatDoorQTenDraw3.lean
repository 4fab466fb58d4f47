/- What the laws of tenants draw; texts and tenants held against each other. -/
import Derived.Test.YtfemmnhfllbgjaaGreatDoorQG14
import Derived.Test.YtfemmnhfllbgjaaGreatDoorQG4
import Derived.Test.YtfemmnhfllbgjaaGreatDoorQG3
namespace Go.Proofs.YtfemmnhfllbgjaaGreatDoor
open Go.RowKit
set_option maxRecDepth 100000
set_option linter.unusedSimpArgs false
set_option linter.unusedVariables false
theorem strd_form {u : World} {v : Value} {L : List TenantD} (h : RdR tenantS u v L) : ∃ ad cap, v = .slice ad L.length cap := by
  obtain ⟨ad, cap, e, _⟩ := h.form
  exact ⟨ad, cap, e⟩
set_option maxHeartbeats 1000000 in
theorem drawTenantOf (a : Option Addr) (len cap : Nat) (w : World) (hl : len ≤ 4096) (hcode : CodeAt w a len w.heap.size) :
    Calls Tryz.prog 8 #[.slice a len cap] w fun e w' => ∃ (v : Value) (L : List TenantD) (t : ByteArray), e = .returned (.tuple #[v, .string t]) ∧ RdR tenantS w' v L ∧ L.length ≤ 9 ∧ (∀ x ∈ L, smT x) ∧ t.size ≤ 100 ∧ Below w.heap.size w w' := by
  go_enter Tryz.func8, Tryz.ntmps8
  go_wp2_with fail
  refine (new1 a len cap _ hl hcode).mono ?_; rintro x w1 ⟨g, rfl, hg, hc1, hb1⟩
  go_wp2_with fail
  refine (draw15 g _ _ hc1).mono ?_; rintro x w2 ⟨v, L, rfl, hst, hLl, hsm, hc2, hm2⟩
  obtain ⟨ad, p, rfl⟩ := strd_form hst.rd
  have HST := hide hst
  have HM2 := hide hm2
  have HB1 := hide hb1
  have HSM := hide hsm
  have hs1 := hb1.size
  clear hst hm2 hc1 hb1 hsm
  go_wp2_with fail
  refine (drawName14 g _ _ hc2).mono ?_; rintro x w3 ⟨t, ht, rfl, hc3, hm3⟩
  have HL3 := hide (HST.out.moves hm3)
  have HM3 := hide (HM2.out.trans hm3)
  clear HST HM2 hc2 hc3 hm3
  go_wp2_with fail
  go_ret2
  exact ⟨_, L, t, rfl, HL3.out.rd, hLl, HSM.out, ht, HB1.out.trans (HM3.out.below (by omega) hs1)⟩
set_option maxHeartbeats 1000000 in
theorem drawReaches (a : Option Addr) (len cap : Nat) (w : World) (hl : len ≤ 4096) (hcode : CodeAt w a len w.heap.size) :
    Calls Tryz.prog 10 #[.slice a len cap] w fun e w' => ∃ (v : Value) (L : List TenantD) (t : ByteArray), e = .returned (.tuple #[v, .string t]) ∧ RdR tenantS w' v L ∧ L.length ≤ 9 ∧ (∀ x ∈ L, smT x) ∧ t.size ≤ 61 ∧ Below w.heap.size w w' := by
  go_enter Tryz.func10, Tryz.ntmps10
  go_wp2_with fail
  refine (new1 a len cap _ hl hcode).mono ?_; rintro x w1 ⟨g, rfl, hg, hc1, hb1⟩
  go_wp2_with fail
  refine (draw15 g _ _ hc1).mono ?_; rintro x w2 ⟨v, L, rfl, hst, hLl, hsm, hc2, hm2⟩
  obtain ⟨ad, p, rfl⟩ := strd_form hst.rd
  have HST := hide hst
  have HM2 := hide hm2
  have HB1 := hide hb1
  have HSM := hide hsm
  have hs1 := hb1.size
  clear hst hm2 hc1 hb1 hsm
  go_wp2_with fail
  refine (drawTarget14 g _ _ hc2).mono ?_; rintro x w3 ⟨t, ht, rfl, hc3, hm3⟩
  have HL3 := hide (HST.out.moves hm3)
  have HM3 := hide (HM2.out.trans hm3)
  clear HST HM2 hc2 hc3 hm3
  go_wp2_with fail
  go_ret2
  exact ⟨_, L, t, rfl, HL3.out.rd, hLl, HSM.out, ht, HB1.out.trans (HM3.out.below (by omega) hs1)⟩
set_option maxHeartbeats 1000000 in
theorem drawAdmitted (a : Option Addr) (len cap : Nat) (w : World) (hl : len ≤ 4096) (hcode : CodeAt w a len w.heap.size) :
    Calls Tryz.prog 6 #[.slice a len cap] w fun e w' => ∃ (v : Value) (L : List TenantD) (t x : ByteArray) (now op : Int), e = .returned (.tuple #[v, .string t, .string x, .int .i64 now, .int .i64 op]) ∧ RdR tenantS w' v L ∧ L.length ≤ 9 ∧ (∀ x ∈ L, smT x) ∧ t.size ≤ 100 ∧ x.size ≤ 61 ∧ Below w.heap.size w w' := by
  go_enter Tryz.func6, Tryz.ntmps6
  go_wp2_with fail
  refine (new1 a len cap _ hl hcode).mono ?_; rintro x w1 ⟨g, rfl, hg, hc1, hb1⟩
  go_wp2_with fail
  refine (draw15 g _ _ hc1).mono ?_; rintro x w2 ⟨v, L, rfl, hst, hLl, hsm, hc2, hm2⟩
  obtain ⟨ad, p, rfl⟩ := strd_form hst.rd
  have HST := hide hst
  have HM2 := hide hm2
  have HB1 := hide hb1
  have HSM := hide hsm
  have hs1 := hb1.size
  clear hst hm2 hc1 hb1 hsm
  go_wp2_with fail
  refine (drawToken14 g _ _ hc2).mono ?_; rintro x w3 ⟨t, ht, rfl, hc3, hm3⟩
  have HL3 := hide (HST.out.moves hm3)
  have HM3 := hide (HM2.out.trans hm3)
  clear HST HM2 hc2 hm3
  go_wp2_with fail
  refine (drawTarget14 g _ _ hc3).mono ?_; rintro x w4 ⟨x, hx, rfl, hc4, hm4⟩
  have HL4 := hide (HL3.out.moves hm4)
  have HM4 := hide (HM3.out.trans hm4)
  clear HL3 HM3 hc3 hm4
  go_wp2_with fail
  refine (from1 g _ (-1) 50 _ hc4 (by omega) (by omega) (by omega)).mono ?_; rintro e w5 ⟨now, n0, n1, rfl, hc5, hm5⟩
  have HL5 := hide (HL4.out.moves hm5)
  have HM5 := hide (HM4.out.trans hm5)
  clear HL4 HM4 hc4 hm5
  go_wp2_with fail
  refine (from1 g _ (-1) 5 _ hc5 (by omega) (by omega) (by omega)).mono ?_; rintro e w6 ⟨op, o0, o1, rfl, hc6, hm6⟩
  have HL6 := hide (HL5.out.moves hm6)
  have HM6 := hide (HM5.out.trans hm6)
  clear HL5 HM5 hc5 hm6
  go_wp2_with fail
  go_returns
  exact ⟨_, L, t, x, now, op, rfl, HL6.out.rd, hLl, HSM.out, ht, hx, HB1.out.trans (HM6.out.below (by omega) hs1)⟩
set_option maxHeartbeats 1000000 in
theorem likeTexts1 (L : List ByteArray) (v v' : Value) (w : World) (hr : RdR strS w v L) (hr' : RdR strS w v' L) (hL : L.length ≤ 1048576) :
    Calls Tryz.prog 17 #[v, v'] w fun x w' => x = .returned (.bool true) ∧ Below w.heap.size w w' := by
  obtain ⟨ad, cap, rfl, h1, h2⟩ := hr.form
  obtain ⟨ad', cap', rfl, h1', h2'⟩ := hr'.form
  have HR := hide hr
  have HR' := hide hr'
  clear hr hr'
  have hne : ((L.length : Int) != L.length) = false := by simp
  go_enter Tryz.func17, Tryz.ntmps17
  go_wp2_with fail
  go_loopw [5] (fun i wr => ∃ k : Nat, i = .int .i64 (k : Int) ∧ k ≤ L.length ∧ Hid (Below w.heap.size w wr)) (fun i _ => L.length - (intOf i).toNat)
  case atStart => exact ⟨0, rfl, Nat.zero_le _, Below.refl _ _⟩
  case round =>
    obtain ⟨k, rfl, hk, HB⟩ := hrel
    by_cases hlt : k < L.length
    · have hltI : (k : Int) < L.length := by omega
      obtain ⟨b, o, rfl, hbw, cx, hsx⟩ := strs_at (HR.out.new HB.out) hlt
      obtain ⟨b', o', rfl, hbw', cx', _⟩ := strs_at (HR'.out.new HB.out) hlt
      obtain ⟨x, hx⟩ : ∃ x, L[k] = x := ⟨_, rfl⟩
      rw [hx] at cx cx' hsx
      have hxx : (x.toList == x.toList) = true := by simp
      go_wp2_with fail
      go_quiet (fail)
      go_wp2_with fail
      go_roundw
      case rel => exact ⟨k + 1, by go_num, by omega, hide (bo_drewN _ HB.out)⟩
      case measure => simp [intOf]; omega
    · have hltI : ¬ (k : Int) < L.length := by omega
      go_wp2_with fail
      go_ret
      exact ⟨rfl, HB.out⟩
set_option maxHeartbeats 1000000 in
theorem likeTenant1 (d : TenantD) (v v' : Value) (w : World) (hr : RdR strS w v d.list) (hr' : RdR strS w v' d.list) (hL : d.list.length ≤ 1048576) :
    Calls Tryz.prog 13 #[.agg #[.string d.nm, .string d.key, v, .int .i64 d.quota], .agg #[.string d.nm, .string d.key, v', .int .i64 d.quota]] w fun x w' => x = .returned (.bool true) ∧ Below w.heap.size w w' := by
  obtain ⟨ad, cap, rfl, h1, h2⟩ := hr.form
  obtain ⟨ad', cap', rfl, h1', h2'⟩ := hr'.form
  have HR := hide hr
  have HR' := hide hr'
  clear hr hr'
  obtain ⟨n, k, l, q⟩ := d
  dsimp only at *
  go_enter Tryz.func13, Tryz.ntmps13
  go_wp2_with fail
  refine (likeTexts1 l _ _ _ (HR.out.new (by repeat' (first | (with_reducible exact Below.refl _ _) | (with_reducible refine Below.drew ?_) | (with_reducible refine bo_drewN _ ?_) | (with_reducible refine bo_alloc ?_ _) | (refine bchain ?_ (by with_reducible assumption)) | (with_reducible refine Below.setCell ?_ ?_ _) | go_size))) (HR'.out.new (by repeat' (first | (with_reducible exact Below.refl _ _) | (with_reducible refine Below.drew ?_) | (with_reducible refine bo_drewN _ ?_) | (with_reducible refine bo_alloc ?_ _) | (refine bchain ?_ (by with_reducible assumption)) | (with_reducible refine Below.setCell ?_ ?_ _) | go_size))) hL).mono ?_; rintro x w1 ⟨rfl, hb1⟩
  have hz1 := hb1.size; (try simp at hz1); have hc1 := fun o => hb1.cell (p := ⟨w.heap.size, o, none⟩) (by first | (simp; done) | (simp; omega) | omega); have hf1 := fun o => hb1.frozen (p := ⟨w.heap.size, o, none⟩) (by first | (simp; done) | (simp; omega) | omega); have hcn1 := fun o => hb1.cell (p := ⟨w.heap.size + 1, o, none⟩) (by first | (simp; done) | (simp; omega) | omega); have hfn1 := fun o => hb1.frozen (p := ⟨w.heap.size + 1, o, none⟩) (by first | (simp; done) | (simp; omega) | omega)
  go_wp2_with fail
  go_ret
  exact ⟨rfl, (by repeat' (first | (with_reducible exact Below.refl _ _) | (with_reducible refine Below.drew ?_) | (with_reducible refine bo_drewN _ ?_) | (with_reducible refine bo_alloc ?_ _) | (refine bchain ?_ (by with_reducible assumption)) | (with_reducible refine Below.setCell ?_ ?_ _) | go_size))⟩
end Go.Proofs.YtfemmnhfllbgjaaGreatDoor
