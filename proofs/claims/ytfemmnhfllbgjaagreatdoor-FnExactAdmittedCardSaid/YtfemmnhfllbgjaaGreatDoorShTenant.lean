/- Tenant in memory: its datum, its make; counted, copied, held against each other, marked, read again (by gen_shape.py). -/
import Derived.Test.YtfemmnhfllbgjaaGreatDoorShape2
import Derived.Test.YtfemmnhfllbgjaaGreatDoorLater
import Derived.Test.YtfemmnhfllbgjaaGreatDoorShOpen
import Derived.Test.YtfemmnhfllbgjaaGreatDoorShStr
import Derived.Test.YtfemmnhfllbgjaaGreatDoorMarkText

namespace Go.Proofs.YtfemmnhfllbgjaaGreatDoor
open Go.RowKit
set_option maxRecDepth 100000
set_option linter.unusedSimpArgs false
set_option linter.unusedVariables false

/-- What a Tenant holds. -/
structure TenantD where
  nm : ByteArray
  key : ByteArray
  list : List ByteArray
  quota : Int
def tenantS : Shp TenantD where
  size := 4
  ty := 32
  rd := fun w cs d => ∃ vlist : Value, cs = [.string d.nm, .string d.key, vlist, .int .i64 d.quota] ∧ d.nm.size ≤ 9223372036854775807 ∧ d.key.size ≤ 9223372036854775807 ∧ RdR strS w vlist d.list
  own := fun w cs d bs => ∃ (vlist : Value) (b0 : List Nat), cs = [.string d.nm, .string d.key, vlist, .int .i64 d.quota] ∧ d.nm.size ≤ 9223372036854775807 ∧ d.key.size ≤ 9223372036854775807 ∧ OwR strS w vlist d.list b0 ∧ bs = b0
  pos := by decide
  rd_len := fun h => by obtain ⟨vlist, rfl, _⟩ := h; rfl
  rd_one := fun h u hu => by
    obtain ⟨vlist, rfl, f0, f1, h0⟩ := h
    obtain ⟨_, _, rfl, _⟩ := h0.form
    simp only [List.mem_cons, List.not_mem_nil, or_false] at hu
    rcases hu with rfl | rfl | rfl | rfl <;> rfl
  rd_new := fun h hb => by obtain ⟨vlist, rfl, f0, f1, h0⟩ := h; exact ⟨vlist, rfl, f0, f1, h0.new hb⟩
  own_rd := fun h => by obtain ⟨vlist, b0, rfl, f0, f1, h0, rfl⟩ := h; exact ⟨vlist, rfl, f0, f1, h0.rd⟩
  own_keep := fun h hs hk => by obtain ⟨vlist, b0, rfl, f0, f1, h0, rfl⟩ := h; exact ⟨vlist, _, rfl, f0, f1, h0.keep hs (fun b hb => hk b (by simp [hb])), rfl⟩
  own_lt := fun h b hb => by obtain ⟨vlist, b0, rfl, f0, f1, h0, rfl⟩ := h; exact h0.lt b hb
/-- How much it holds, as the laws count. -/
def szTenant (d : TenantD) : Int := (d.nm.size : Int) + (d.key.size : Int) + szStringS d.list
theorem szTenant_nn (d : TenantD) : 0 ≤ szTenant d := by unfold szTenant; have := szStringS_nn d.list; omega
def szTenantS (L : List TenantD) : Int := L.length + sumLs szTenant L
theorem szTenantS_nn (L : List TenantD) : 0 ≤ szTenantS L := by unfold szTenantS; have := sum_nn szTenant szTenant_nn L; omega
theorem szTenantS_mem {L : List TenantD} {d : TenantD} (h : d ∈ L) : szTenant d ≤ szTenantS L := by unfold szTenantS; have := sum_mem szTenant szTenant_nn L d h; omega
theorem szTenantS_len (L : List TenantD) : (L.length : Int) ≤ szTenantS L := by unfold szTenantS; have := sum_nn szTenant szTenant_nn L; omega
set_option maxHeartbeats 1000000 in
theorem toTenant1 (d : TenantD) (vlist : Value) (w : World) (hvlist : RdR strS w vlist d.list) (hf0 : d.nm.size ≤ 9223372036854775807) (hf1 : d.key.size ≤ 9223372036854775807) (hs : szTenant d ≤ 1048576) :
    Calls Tryz.prog 55 #[.agg #[.string d.nm, .string d.key, vlist, .int .i64 d.quota]] w fun x w' => ∃ vlist' : Value, x = .returned (.agg #[.string d.nm, .string d.key, vlist', .int .i64 d.quota]) ∧ OwX strS w' w.heap.size w'.heap.size vlist' d.list ∧ Below w.heap.size w w' := by
  have Hvlist := hide hvlist
  obtain ⟨avlist, pvlist, rfl, _⟩ := hvlist.form
  clear hvlist
  have hz : szStringS d.list ≤ 1048576 := by unfold szTenant at hs; omega
  go_enter Tryz.func55, Tryz.ntmps55
  go_wp2_with fail
  refine (toStringS d.list _ _ ?c1 hz).mono ?_
  case c1 => exact Hvlist.out.new (by repeat' (first | (with_reducible exact Below.refl _ _) | (with_reducible refine Below.drew ?_) | (with_reducible refine bo_drewN _ ?_) | (with_reducible refine bo_alloc ?_ _) | (refine bchain ?_ (by with_reducible assumption)) | (with_reducible refine Below.setCell ?_ ?_ _) | go_size))
  rintro x w1 ⟨v1, rfl, ho, hb1⟩; have hz1 := hb1.size; (try simp at hz1); have hc1 := fun o => hb1.cell (p := ⟨w.heap.size, o, none⟩) (by first | (simp; done) | (simp; omega) | omega); have hf1 := fun o => hb1.frozen (p := ⟨w.heap.size, o, none⟩) (by first | (simp; done) | (simp; omega) | omega); have hcn1 := fun o => hb1.cell (p := ⟨w.heap.size + 1, o, none⟩) (by first | (simp; done) | (simp; omega) | omega); have hfn1 := fun o => hb1.frozen (p := ⟨w.heap.size + 1, o, none⟩) (by first | (simp; done) | (simp; omega) | omega); have hcm1 := fun o => hb1.cell (p := ⟨w.heap.size + 2, o, none⟩) (by first | (simp; done) | (simp; omega) | omega); have hfm1 := fun o => hb1.frozen (p := ⟨w.heap.size + 2, o, none⟩) (by first | (simp; done) | (simp; omega) | omega)
  have hbw : Below w.heap.size w w1 := (by repeat' (first | (with_reducible exact Below.refl _ _) | (with_reducible refine Below.drew ?_) | (with_reducible refine bo_drewN _ ?_) | (with_reducible refine bo_alloc ?_ _) | (refine bchain ?_ (by with_reducible assumption)) | (with_reducible refine Below.setCell ?_ ?_ _) | go_size))
  obtain ⟨ad1, cap1, rfl, _⟩ := ho.form
  have HO := hide ho
  clear ho
  go_wp2_with fail
  refine bodyPost_ret (v := .agg #[.string d.nm, .string d.key, .slice ad1 d.list.length cap1, .int .i64 d.quota]) (by simp [results, Tryz.results55, go_sem, *]) rfl ?_
  refine ⟨_, rfl, ?_, (by repeat' (first | (with_reducible exact Below.refl _ _) | (with_reducible refine Below.drew ?_) | (with_reducible refine bo_drewN _ ?_) | (with_reducible refine bo_alloc ?_ _) | (refine bchain ?_ (by with_reducible assumption)) | (with_reducible refine Below.setCell ?_ ?_ _) | go_size))⟩
  refine (OwX.wide (lo' := w.heap.size) ?_ (Nat.le_refl _) (Nat.le_refl _))
  have ho := HO.out.wide (lo' := w.heap.size + 3) (by simp) (Nat.le_refl _)
  have hz1 := HO.out
  refine OwX.top (hi := w1.heap.size) ?_
  refine OwX.wide (lo := w.heap.size + 3) ?_ (by omega) (Nat.le_refl _)
  (repeat' (first | (with_reducible exact ho) | (with_reducible refine OwX.far ?_ _ _ ?_) | (simp; done) | (simp; omega)))
set_option maxHeartbeats 1000000 in
theorem eqTenant1 (d : TenantD) (vlist : Value) (uvlist : Value) (w : World) (hvlist : RdR strS w vlist d.list) (hf0 : d.nm.size ≤ 9223372036854775807) (hf1 : d.key.size ≤ 9223372036854775807) (huvlist : RdR strS w uvlist d.list) :
    Calls Tryz.prog 56 #[.agg #[.string d.nm, .string d.key, vlist, .int .i64 d.quota], .agg #[.string d.nm, .string d.key, uvlist, .int .i64 d.quota]] w fun x w' => x = .returned (.bool true) ∧ Below w.heap.size w w' := by
  have Hvlist := hide hvlist
  obtain ⟨avlist, pvlist, rfl, _⟩ := hvlist.form
  clear hvlist
  have Huvlist := hide huvlist
  obtain ⟨auvlist, puvlist, rfl, _⟩ := huvlist.form
  clear huvlist
  go_enter Tryz.func56, Tryz.ntmps56
  go_wp2_with fail
  refine (eqStringS d.list _ _ _ ?c1 ?c2).mono ?_
  case c1 => exact Hvlist.out.new (by repeat' (first | (with_reducible exact Below.refl _ _) | (with_reducible refine Below.drew ?_) | (with_reducible refine bo_drewN _ ?_) | (with_reducible refine bo_alloc ?_ _) | (refine bchain ?_ (by with_reducible assumption)) | (with_reducible refine Below.setCell ?_ ?_ _) | go_size))
  case c2 => exact Huvlist.out.new (by repeat' (first | (with_reducible exact Below.refl _ _) | (with_reducible refine Below.drew ?_) | (with_reducible refine bo_drewN _ ?_) | (with_reducible refine bo_alloc ?_ _) | (refine bchain ?_ (by with_reducible assumption)) | (with_reducible refine Below.setCell ?_ ?_ _) | go_size))
  rintro x w1 ⟨rfl, hb1⟩; have hz1 := hb1.size; (try simp at hz1); have hc1 := fun o => hb1.cell (p := ⟨w.heap.size, o, none⟩) (by first | (simp; done) | (simp; omega) | omega); have hf1 := fun o => hb1.frozen (p := ⟨w.heap.size, o, none⟩) (by first | (simp; done) | (simp; omega) | omega); have hcn1 := fun o => hb1.cell (p := ⟨w.heap.size + 1, o, none⟩) (by first | (simp; done) | (simp; omega) | omega); have hfn1 := fun o => hb1.frozen (p := ⟨w.heap.size + 1, o, none⟩) (by first | (simp; done) | (simp; omega) | omega)
  go_wp2_with fail
  go_ret
  exact ⟨rfl, (by repeat' (first | (with_reducible exact Below.refl _ _) | (with_reducible refine Below.drew ?_) | (with_reducible refine bo_drewN _ ?_) | (with_reducible refine bo_alloc ?_ _) | (refine bchain ?_ (by with_reducible assumption)) | (with_reducible refine Below.setCell ?_ ?_ _) | go_size))⟩
set_option maxHeartbeats 1000000 in
theorem szTenant1 (d : TenantD) (vlist : Value) (left : Int) (w : World) (hvlist : RdR strS w vlist d.list) (hf0 : d.nm.size ≤ 9223372036854775807) (hf1 : d.key.size ≤ 9223372036854775807) (h0 : 0 ≤ left) (h1 : left ≤ 1048576) :
    Calls Tryz.prog 54 #[.agg #[.string d.nm, .string d.key, vlist, .int .i64 d.quota], .int .i64 left] w fun x w' => (x = .returned (.int .i64 (-1)) ∨ (x = .returned (.int .i64 (left - szTenant d)) ∧ 0 ≤ left - szTenant d)) ∧ Below w.heap.size w w' := by
  have Hvlist := hide hvlist
  obtain ⟨avlist, pvlist, rfl, _⟩ := hvlist.form
  clear hvlist
  unfold szTenant
  by_cases g0 : left - d.nm.size < 0
  · go_enter Tryz.func54, Tryz.ntmps54
    go_wp2_with fail
    go_ret
    exact ⟨.inl rfl, (by repeat' (first | (with_reducible exact Below.refl _ _) | (with_reducible refine Below.drew ?_) | (with_reducible refine bo_drewN _ ?_) | (with_reducible refine bo_alloc ?_ _) | (refine bchain ?_ (by with_reducible assumption)) | (with_reducible refine Below.setCell ?_ ?_ _) | go_size))⟩
  by_cases g1 : left - d.nm.size - d.key.size < 0
  · go_enter Tryz.func54, Tryz.ntmps54
    go_wp2_with fail
    go_ret
    exact ⟨.inl rfl, (by repeat' (first | (with_reducible exact Below.refl _ _) | (with_reducible refine Below.drew ?_) | (with_reducible refine bo_drewN _ ?_) | (with_reducible refine bo_alloc ?_ _) | (refine bchain ?_ (by with_reducible assumption)) | (with_reducible refine Below.setCell ?_ ?_ _) | go_size))⟩
  obtain ⟨R, hR⟩ : ∃ R, left - d.nm.size - d.key.size - szStringS d.list = R := ⟨_, rfl⟩
  have hR2 : left - ((d.nm.size : Int) + (d.key.size : Int) + szStringS d.list) = R := by omega
  rw [hR2]
  have hcall := fun v w h => szStringS1 d.list v (left - d.nm.size - d.key.size) w h (by omega) (by omega)
  rw [hR] at hcall
  clear hR hR2
  go_enter Tryz.func54, Tryz.ntmps54
  go_wp2_with fail
  refine (hcall _ _ ?c1).mono ?_
  case c1 => exact Hvlist.out.new (by repeat' (first | (with_reducible exact Below.refl _ _) | (with_reducible refine Below.drew ?_) | (with_reducible refine bo_drewN _ ?_) | (with_reducible refine bo_alloc ?_ _) | (refine bchain ?_ (by with_reducible assumption)) | (with_reducible refine Below.setCell ?_ ?_ _) | go_size))
  rintro x w1 ⟨rfl | ⟨rfl, hp⟩, hb1⟩
  · go_wp2_with fail
    go_ret
    exact ⟨.inl rfl, (by repeat' (first | (with_reducible exact Below.refl _ _) | (with_reducible refine Below.drew ?_) | (with_reducible refine bo_drewN _ ?_) | (with_reducible refine bo_alloc ?_ _) | (refine bchain ?_ (by with_reducible assumption)) | (with_reducible refine Below.setCell ?_ ?_ _) | go_size))⟩
  · have hp' : ¬ R < 0 := by omega
    go_wp2_with fail
    go_ret
    exact ⟨.inr ⟨rfl, hp⟩, (by repeat' (first | (with_reducible exact Below.refl _ _) | (with_reducible refine Below.drew ?_) | (with_reducible refine bo_drewN _ ?_) | (with_reducible refine bo_alloc ?_ _) | (refine bchain ?_ (by with_reducible assumption)) | (with_reducible refine Below.setCell ?_ ?_ _) | go_size))⟩
set_option maxHeartbeats 2000000 in
theorem toTenantS (L : List TenantD) (v : Value) (w : World) (hr : RdR tenantS w v L) (hz : szTenantS L ≤ 1048576) :
    Calls Tryz.prog 23 #[v] w fun x w' => ∃ v', x = .returned v' ∧ OwX tenantS w' w.heap.size w'.heap.size v' L ∧ Below w.heap.size w w' := by
  have hL : L.length ≤ 1048576 := by have := szTenantS_len L; omega
  obtain ⟨M, hM, hmk⟩ := make_row 24 32 (.agg #[.string ⟨#[]⟩, .string ⟨#[]⟩, .slice none 0 0, .int .i64 0]) 4 64 Tryz.underlying24 (by kernel_rfl) rfl (by decide) (by decide) L.length hL
  have hst := filling_start (E := tenantS) (owns_made w M 32 4 L.length hM hL)
  obtain ⟨ad, cap, rfl, h1, h2⟩ := hr.form
  have HR := hide hr
  clear hr
  have HZ := hide hz
  clear hz
  go_enter Tryz.func23, Tryz.ntmps23
  go_wp2_with fail
  go_loopw [4] (fun i wr => ∃ (k : Nat), i = .int .i64 k ∧ k ≤ L.length ∧ Hid (Filling tenantS w wr L k)) (fun i _ => L.length - (intOf i).toNat)
  case atStart => exact ⟨0, rfl, Nat.zero_le _, hst⟩
  case round =>
    clear hst hmk
    obtain ⟨k, rfl, hk, HFI⟩ := hrel
    by_cases hlt : k < L.length
    · have hb : Below w.heap.size w wr := HFI.out.2.1
      have hrk := (HR.out.new hb).at k hlt
      have hmem : L[k] ∈ L := List.getElem_mem hlt
      obtain ⟨d, hd⟩ : ∃ d, d = L[k] := ⟨_, rfl⟩
      rw [← hd] at hrk hmem
      obtain ⟨b, o, cs, rfl, hbw, hrd, hc⟩ := hrk
      obtain ⟨vlist, rfl, hf0, hf1, hvlist⟩ := hrd
      have Hvlist := hide hvlist
      obtain ⟨avlist, pvlist, rfl, _⟩ := hvlist.form
      clear hvlist
      have hzd : szTenant d ≤ 1048576 := by have := szTenantS_mem hmem; have := HZ.out; omega
      have c0 : wr.cell? ⟨b, o + k * 4, none⟩ = some (.string d.nm) := hc 0 _ rfl
      have c1 : wr.cell? ⟨b, o + k * 4 + 1, none⟩ = some (.string d.key) := hc 1 _ rfl
      have c2 : wr.cell? ⟨b, o + k * 4 + 2, none⟩ = some ((.slice avlist d.list.length pvlist)) := hc 2 _ rfl
      have c3 : wr.cell? ⟨b, o + k * 4 + 3, none⟩ = some (.int .i64 d.quota) := hc 3 _ rfl
      clear hc
      have HD := hide hd
      clear hd hmem
      go_wp2_with fail
      refine (toTenant1 d _ _ Hvlist.out hf0 hf1 hzd).mono ?_
      rintro x w1 ⟨zvlist, rfl, qvlist, hb1⟩
      obtain ⟨ad1, cap1, rfl, _⟩ := qvlist.form
      have hoe : OwE tenantS w1 wr.heap.size w1.heap.size [.string d.nm, .string d.key, .slice ad1 d.list.length cap1, .int .i64 d.quota] d := by
        obtain ⟨bs, g1, g2, g3⟩ := qvlist
        exact ⟨bs, ⟨_, _, rfl, hf0, hf1, g1, rfl⟩, g2, g3⟩
      clear qvlist
      rw [HD.out] at hoe
      obtain ⟨hcell, hfr, hlw, hfi⟩ := filling_step HFI.out hlt hb1 hoe
      rw [← HD.out] at hfi
      obtain ⟨x0, hx0⟩ : ∃ u, w1.cell? ⟨w.heap.size, k * 4, none⟩ = some u := hcell 0 (by decide)
      obtain ⟨x1, hx1⟩ : ∃ u, w1.cell? ⟨w.heap.size, k * 4 + 1, none⟩ = some u := hcell 1 (by decide)
      obtain ⟨x2, hx2⟩ : ∃ u, w1.cell? ⟨w.heap.size, k * 4 + 2, none⟩ = some u := hcell 2 (by decide)
      obtain ⟨x3, hx3⟩ : ∃ u, w1.cell? ⟨w.heap.size, k * 4 + 3, none⟩ = some u := hcell 3 (by decide)
      have e6 := hfr
      have HF2 := hide hfi
      clear hcell hfr hfi hoe
      go_wp2_with fail
      go_roundw
      case rel => exact ⟨k + 1, by go_num, by omega, HF2.out⟩
      case measure => simp [intOf]; omega
    · obtain rfl : k = L.length := by omega
      obtain ⟨hox, hbx⟩ := filling_end HFI.out
      have HX := hide hox
      clear hox
      go_wp2_with fail
      go_ret
      exact ⟨_, rfl, HX.out, hbx⟩
set_option maxHeartbeats 1000000 in
theorem eqTenantS (L : List TenantD) (v v' : Value) (w : World) (hr0 : RdR tenantS w v L) (hr1 : RdR tenantS w v' L) :
    Calls Tryz.prog 24 #[v, v'] w fun x w' => x = .returned (.bool true) ∧ Below w.heap.size w w' := by
  obtain ⟨ad, cap, rfl, h1, h2⟩ := hr0.form
  obtain ⟨ad', cap', rfl, h1', h2'⟩ := hr1.form
  have HR := hide hr0; have HR' := hide hr1
  clear hr0 hr1
  go_enter Tryz.func24, Tryz.ntmps24
  go_wp2_with fail
  go_loopw [5] (fun i wr => ∃ (k : Nat), i = .int .i64 k ∧ k ≤ L.length ∧ Below w.heap.size w wr) (fun i _ => L.length - (intOf i).toNat)
  case atStart => exact ⟨0, rfl, Nat.zero_le _, Below.refl _ _⟩
  case round =>
    obtain ⟨k, rfl, hk, hb⟩ := hrel
    by_cases hlt : k < L.length
    · have hrk := (HR.out.new hb).at k hlt
      have hrk' := (HR'.out.new hb).at k hlt
      obtain ⟨d, hd⟩ : ∃ d, d = L[k] := ⟨_, rfl⟩
      rw [← hd] at hrk hrk'
      clear hd
      obtain ⟨b, o, cs, rfl, hb1, hrd, hc⟩ := hrk
      obtain ⟨b', o', cs', rfl, hb2, hrd', hc'⟩ := hrk'
      obtain ⟨vlist, rfl, hf0, hf1, hvlist⟩ := hrd
      have Hvlist := hide hvlist
      obtain ⟨avlist, pvlist, rfl, _⟩ := hvlist.form
      clear hvlist
      obtain ⟨uvlist, rfl, hfu0, hfu1, huvlist⟩ := hrd'
      have Huvlist := hide huvlist
      obtain ⟨auvlist, puvlist, rfl, _⟩ := huvlist.form
      clear huvlist
      have c0 : wr.cell? ⟨b, o + k * 4, none⟩ = some (.string d.nm) := hc 0 _ rfl
      have c1 : wr.cell? ⟨b, o + k * 4 + 1, none⟩ = some (.string d.key) := hc 1 _ rfl
      have c2 : wr.cell? ⟨b, o + k * 4 + 2, none⟩ = some ((.slice avlist d.list.length pvlist)) := hc 2 _ rfl
      have c3 : wr.cell? ⟨b, o + k * 4 + 3, none⟩ = some (.int .i64 d.quota) := hc 3 _ rfl
      have d0 : wr.cell? ⟨b', o' + k * 4, none⟩ = some (.string d.nm) := hc' 0 _ rfl
      have d1 : wr.cell? ⟨b', o' + k * 4 + 1, none⟩ = some (.string d.key) := hc' 1 _ rfl
      have d2 : wr.cell? ⟨b', o' + k * 4 + 2, none⟩ = some ((.slice auvlist d.list.length puvlist)) := hc' 2 _ rfl
      have d3 : wr.cell? ⟨b', o' + k * 4 + 3, none⟩ = some (.int .i64 d.quota) := hc' 3 _ rfl
      clear hc hc'
      go_wp2_with fail
      have qa0 : ∀ y : Later wr, y.w.cell? ⟨b, o + k * 4, none⟩ = some (.string d.nm) := fun y => (y.b.cell (p := ⟨b, o + k * 4, none⟩) hb1).trans c0
      have qa1 : ∀ y : Later wr, y.w.cell? ⟨b, o + k * 4 + 1, none⟩ = some (.string d.key) := fun y => (y.b.cell (p := ⟨b, o + k * 4 + 1, none⟩) hb1).trans c1
      have qa2 : ∀ y : Later wr, y.w.cell? ⟨b, o + k * 4 + 2, none⟩ = some ((.slice avlist d.list.length pvlist)) := fun y => (y.b.cell (p := ⟨b, o + k * 4 + 2, none⟩) hb1).trans c2
      have qa3 : ∀ y : Later wr, y.w.cell? ⟨b, o + k * 4 + 3, none⟩ = some (.int .i64 d.quota) := fun y => (y.b.cell (p := ⟨b, o + k * 4 + 3, none⟩) hb1).trans c3
      have qb0 : ∀ y : Later wr, y.w.cell? ⟨b', o' + k * 4, none⟩ = some (.string d.nm) := fun y => (y.b.cell (p := ⟨b', o' + k * 4, none⟩) hb2).trans d0
      have qb1 : ∀ y : Later wr, y.w.cell? ⟨b', o' + k * 4 + 1, none⟩ = some (.string d.key) := fun y => (y.b.cell (p := ⟨b', o' + k * 4 + 1, none⟩) hb2).trans d1
      have qb2 : ∀ y : Later wr, y.w.cell? ⟨b', o' + k * 4 + 2, none⟩ = some ((.slice auvlist d.list.length puvlist)) := fun y => (y.b.cell (p := ⟨b', o' + k * 4 + 2, none⟩) hb2).trans d2
      have qb3 : ∀ y : Later wr, y.w.cell? ⟨b', o' + k * 4 + 3, none⟩ = some (.int .i64 d.quota) := fun y => (y.b.cell (p := ⟨b', o' + k * 4 + 3, none⟩) hb2).trans d3
      clear c0 c1 c2 c3 d0 d1 d2 d3
      have hne : Nonempty (Later wr) := ⟨⟨wr, Below.refl _ _⟩⟩; refine region_later (by kernel_rfl) (by kernel_rfl) ?_
      repeat (go_big_quiet_step (fail))
      go_big_quiet_want; go_big_quiet_op
      refine ⟨.bool true, fun y => later_calls (x := y) (eqTenant1 d _ _ y.w (Hvlist.out.new y.b) hf0 hf1 (Huvlist.out.new y.b)), ?_⟩
      go_big_quiet_on
      repeat (go_big_quiet_step (fail))
      refine wpQuiet_nil ?_; intro _ hw'; obtain ⟨y, hw''⟩ := hw'; subst hw''; have hby := y.b
      go_wp2_with fail
      go_roundw
      case rel => exact ⟨k + 1, by go_num, by omega, bchain hb hby⟩
      case measure => simp [intOf]; omega
    · go_wp2_with fail
      go_ret
      exact ⟨rfl, hb⟩
set_option maxHeartbeats 1000000 in
theorem szTenantS1 (L : List TenantD) (v : Value) (left : Int) (w : World) (hr : RdR tenantS w v L) (h0 : 0 ≤ left) (h1 : left ≤ 1048576) :
    Calls Tryz.prog 22 #[v, .int .i64 left] w fun x w' => (x = .returned (.int .i64 (-1)) ∨ (x = .returned (.int .i64 (left - szTenantS L)) ∧ 0 ≤ left - szTenantS L)) ∧ Below w.heap.size w w' := by
  obtain ⟨ad, cap, rfl, h2, h3⟩ := hr.form
  have HR := hide hr
  clear hr
  unfold szTenantS
  by_cases h : left - L.length < 0
  · go_enter Tryz.func22, Tryz.ntmps22
    go_wp2
    go_ret
    exact ⟨.inl rfl, Below.refl _ _⟩
  · go_enter Tryz.func22, Tryz.ntmps22
    go_wp2_with fail
    go_loopw [1, 5] (fun l i wr => ∃ (k : Nat), i = .int .i64 k ∧ k ≤ L.length ∧ l = .int .i64 (left - L.length - sumLs szTenant (L.take k)) ∧ 0 ≤ left - L.length - sumLs szTenant (L.take k) ∧ Below w.heap.size w wr) (fun _ i _ => L.length - (intOf i).toNat)
    case atStart => exact ⟨0, rfl, Nat.zero_le _, by simp [sumLs], by simp [sumLs]; omega, Below.refl _ _⟩
    case round =>
      obtain ⟨k, rfl, hk, rfl, hk0, hb⟩ := hrel
      by_cases hlt : k < L.length
      · have hrk := (HR.out.new hb).at k hlt
        have hsn := sum_take szTenant L k hlt
        have hnn := sum_nn szTenant szTenant_nn (L.take k)
        obtain ⟨d, hd⟩ : ∃ d, d = L[k] := ⟨_, rfl⟩
        rw [← hd] at hrk hsn
        clear hd
        obtain ⟨b, o, cs, rfl, hb1, hrd, hc⟩ := hrk
        obtain ⟨vlist, rfl, hf0, hf1, hvlist⟩ := hrd
        have Hvlist := hide hvlist
        obtain ⟨avlist, pvlist, rfl, _⟩ := hvlist.form
        clear hvlist
        have c0 : wr.cell? ⟨b, o + k * 4, none⟩ = some (.string d.nm) := hc 0 _ rfl
        have c1 : wr.cell? ⟨b, o + k * 4 + 1, none⟩ = some (.string d.key) := hc 1 _ rfl
        have c2 : wr.cell? ⟨b, o + k * 4 + 2, none⟩ = some ((.slice avlist d.list.length pvlist)) := hc 2 _ rfl
        have c3 : wr.cell? ⟨b, o + k * 4 + 3, none⟩ = some (.int .i64 d.quota) := hc 3 _ rfl
        clear hc
        generalize hq : sumLs szTenant (List.take k L) = q at *
        generalize hq' : sumLs szTenant (List.take (k + 1) L) = q' at *
        have HQ := hide hq'
        have HSN := hide hsn
        clear hq hq' hsn
        go_wp2_with fail
        refine (szTenant1 d _ _ _ Hvlist.out hf0 hf1 (by omega) (by omega)).mono ?_
        rintro x w1 ⟨rfl | ⟨rfl, hp⟩, hb1⟩
        · go_wp2_with fail
          go_ret
          exact ⟨.inl rfl, bchain hb hb1⟩
        · have hp' : ¬ left - L.length - q - szTenant d < 0 := by omega
          generalize hX : left - L.length - q - szTenant d = X at *
          have HX := hide hX
          clear hX
          go_wp2_with fail
          go_roundw
          case rel => exact ⟨k + 1, by go_num, by omega, int_eq (by have := HX.out; have := HQ.out; have := HSN.out; omega), by have := HX.out; have := HQ.out; have := HSN.out; omega, bchain hb hb1⟩
          case measure => simp [intOf]; omega
      · obtain rfl : k = L.length := by omega
        rw [List.take_length] at *
        obtain ⟨X, hX⟩ : ∃ X, left - L.length - sumLs szTenant L = X := ⟨_, rfl⟩
        rw [hX] at hk0 ⊢
        have HX := hide hX
        clear hX
        go_wp2_with fail
        go_ret
        have e : left - (L.length + sumLs szTenant L) = X := by have := HX.out; omega
        rw [e]
        have := szTenant_nn
        exact ⟨.inr ⟨rfl, hk0⟩, hb⟩
open Go.ChangeShapes Go.WideShapes Go.ChangeAt Go.Joins in
theorem open_cellsTenant {H : Type} {enc : TypeId × Value → H} {W : World} {base : Nat} {spare : Nat → Bool} {held : Bool} {fuel : Nat} {cs : List Value} {x : DataW H × List MemPlace} (h : DataW.trod enc Tryz.prog W base spare held fuel 77 cs = some x) : ∃ d : TenantD, tenantS.rd W cs d := by
  obtain ⟨c0, c1, c2, c3, y0, y1, y2, y3, n, rfl, h0, h1, h2, h3⟩ := scells4 Tryz.underlying77 (by kernel_rfl) (by kernel_rfl) h
  obtain ⟨i0, e0, _, hs0⟩ := DataW.trod_string Tryz.underlying9 h0
  simp only [List.cons.injEq, and_true] at e0
  subst e0
  obtain ⟨i1, e1, _, hs1⟩ := DataW.trod_string Tryz.underlying9 h1
  simp only [List.cons.injEq, and_true] at e1
  subst e1
  obtain ⟨L2, hL2⟩ := open_shape (E := strS) ⟨#[]⟩ Tryz.underlying30 (by kernel_rfl) (fun cs n y hy => open_cellsStr hy) h2
  obtain ⟨i3, e3, _⟩ := DataW.trod_int Tryz.underlying2 h3
  simp only [List.cons.injEq, and_true] at e3
  subst e3
  exact ⟨⟨i0, i1, L2, i3⟩, c2, rfl, by unfold maxLen at hs0; simp only; omega, by unfold maxLen at hs1; simp only; omega, hL2⟩
end Go.Proofs.YtfemmnhfllbgjaaGreatDoor
