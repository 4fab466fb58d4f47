/- Several small texts of one level, one behind the other. -/
import Derived.Test.YtfemmnhfllbgjaaGreatDoorQG4
import Derived.Test.YtfemmnhfllbgjaaGreatDoorQG2
import Derived.Test.YtfemmnhfllbgjaaGreatDoorQG5
import Derived.Test.YtfemmnhfllbgjaaGreatDoorQG3
import Derived.Deep.QuietTactic
import Derived.BigQuiet
import Derived.Deep.Cut
import Derived.Deep.DeepCutAuto
import Derived.Tactics
import Derived.Tactics2
import Derived.Defers
import Derived.Laws.Pointers
import Derived.Laws.LoneSync
import Derived.RegionTactic
import Derived.RegionCalls
import Derived.Lib.AppendIntMem
import Derived.Shelf.Strconv.Itoa4
import Derived.Shelf.Strconv.ErrVarParseInt
import Derived.Shelf.Strings.SplitShaped
/- Tenant in memory: its datum, its make; counted, copied, held against each other, marked, read again (by gen_shape.py). -/
namespace Go.Proofs.YtfemmnhfllbgjaaGreatDoor
open Go.RowKit
set_option maxRecDepth 100000
set_option linter.unusedSimpArgs false
set_option linter.unusedVariables false

/-- What a Tenant holds. -/
structure TenantD where
  nm : ByteArray
  key : ByteArray
  list : List ByteArray
  quota : Int
def tenantS : Shp TenantD where
  size := 4
  ty := 32
  rd := fun w cs d => ∃ vlist : Value, cs = [.string d.nm, .string d.key, vlist, .int .i64 d.quota] ∧ d.nm.size ≤ 9223372036854775807 ∧ d.key.size ≤ 9223372036854775807 ∧ RdR strS w vlist d.list
  own := fun w cs d bs => ∃ (vlist : Value) (b0 : List Nat), cs = [.string d.nm, .string d.key, vlist, .int .i64 d.quota] ∧ d.nm.size ≤ 9223372036854775807 ∧ d.key.size ≤ 9223372036854775807 ∧ OwR strS w vlist d.list b0 ∧ bs = b0
  pos := by decide
  rd_len := fun h => by obtain ⟨vlist, rfl, _⟩ := h; rfl
  rd_one := fun h u hu => by
    obtain ⟨vlist, rfl, f0, f1, h0⟩ := h
    obtain ⟨_, _, rfl, _⟩ := h0.form
    simp only [List.mem_cons, List.not_mem_nil, or_false] at hu
    rcases hu with rfl | rfl | rfl | rfl <;> rfl
  rd_new := fun h hb => by obtain ⟨vlist, rfl, f0, f1, h0⟩ := h; exact ⟨vlist, rfl, f0, f1, h0.new hb⟩
  own_rd := fun h => by obtain ⟨vlist, b0, rfl, f0, f1, h0, rfl⟩ := h; exact ⟨vlist, rfl, f0, f1, h0.rd⟩
  own_keep := fun h hs hk => by obtain ⟨vlist, b0, rfl, f0, f1, h0, rfl⟩ := h; exact ⟨vlist, _, rfl, f0, f1, h0.keep hs (fun b hb => hk b (by simp [hb])), rfl⟩
  own_lt := fun h b hb => by obtain ⟨vlist, b0, rfl, f0, f1, h0, rfl⟩ := h; exact h0.lt b hb
/-- How much it holds, as the laws count. -/
def szTenant (d : TenantD) : Int := (d.nm.size : Int) + (d.key.size : Int) + szStringS d.list
theorem szTenant_nn (d : TenantD) : 0 ≤ szTenant d := by unfold szTenant; have := szStringS_nn d.list; omega
def szTenantS (L : List TenantD) : Int := L.length + sumLs szTenant L
theorem szTenantS_nn (L : List TenantD) : 0 ≤ szTenantS L := by unfold szTenantS; have := sum_nn szTenant szTenant_nn L; omega
theorem szTenantS_mem {L : List TenantD} {d : TenantD} (h : d ∈ L) : szTenant d ≤ szTenantS L := by unfold szTenantS; have := sum_mem szTenant szTenant_nn L d h; omega
theorem szTenantS_len (L : List TenantD) : (L.length : Int) ≤ szTenantS L := by unfold szTenantS; have := sum_nn szTenant szTenant_nn L; omega
set_option maxHeartbeats 1000000 in
theorem toTenant1 (d : TenantD) (vlist : Value) (w : World) (hvlist : RdR strS w vlist d.list) (hf0 : d.nm.size ≤ 9223372036854775807) (hf1 : d.key.size ≤ 9223372036854775807) (hs : szTenant d ≤ 1048576) :
    Calls Tryz.prog 55 #[.agg #[.string d.nm, .string d.key, vlist, .int .i64 d.quota]] w fun x w' => ∃ vlist' : Value, x = .returned (.agg #[.string d.nm, .string d.key, vlist', .int .i64 d.quota]) ∧ OwX strS w' w.heap.size w'.heap.size vlist' d.list ∧ Below w.heap.size w w' := by
  have Hvlist := hide hvlist
  obtain ⟨avlist, pvlist, rfl, _⟩ := hvlist.form
  clear hvlist
  have hz : szStringS d.list ≤ 1048576 := by unfold szTenant at hs; omega
  go_enter Tryz.func55, Tryz.ntmps55
  go_wp2_with fail
  refine (toStringS d.list _ _ ?c1 hz).mono ?_
  case c1 => exact Hvlist.out.new (by repeat' (first | (with_reducible exact Below.refl _ _) | (with_reducible refine Below.drew ?_) | (with_reducible refine bo_drewN _ ?_) | (with_reducible refine bo_alloc ?_ _) | (refine bchain ?_ (by with_reducible assumption)) | (with_reducible refine Below.setCell ?_ ?_ _) | go_size))
  rintro x w1 ⟨v1, rfl, ho, hb1⟩; have hz1 := hb1.size; (try simp at hz1); have hc1 := fun o => hb1.cell (p := ⟨w.heap.size, o, none⟩) (by first | (simp; done) | (simp; omega) | omega); have hf1 := fun o => hb1.frozen (p := ⟨w.heap.size, o, none⟩) (by first | (simp; done) | (simp; omega) | omega); have hcn1 := fun o => hb1.cell (p := ⟨w.heap.size + 1, o, none⟩) (by first | (simp; done) | (simp; omega) | omega); have hfn1 := fun o => hb1.frozen (p := ⟨w.heap.size + 1, o, none⟩) (by first | (simp; done) | (simp; omega) | omega); have hcm1 := fun o => hb1.cell (p := ⟨w.heap.size + 2, o, none⟩) (by first | (simp; done) | (simp; omega) | omega); have hfm1 := fun o => hb1.frozen (p := ⟨w.heap.size + 2, o, none⟩) (by first | (simp; done) | (simp; omega) | omega)
  have hbw : Below w.heap.size w w1 := (by repeat' (first | (with_reducible exact Below.refl _ _) | (with_reducible refine Below.drew ?_) | (with_reducible refine bo_drewN _ ?_) | (with_reducible refine bo_alloc ?_ _) | (refine bchain ?_ (by with_reducible assumption)) | (with_reducible refine Below.setCell ?_ ?_ _) | go_size))
  obtain ⟨ad1, cap1, rfl, _⟩ := ho.form
  have HO := hide ho
  clear ho
  go_wp2_with fail
  refine bodyPost_ret (v := .agg #[.string d.nm, .string d.key, .slice ad1 d.list.length cap1, .int .i64 d.quota]) (by simp [results, Tryz.results55, go_sem, *]) rfl ?_
  refine ⟨_, rfl, ?_, (by repeat' (first | (with_reducible exact Below.refl _ _) | (with_reducible refine Below.drew ?_) | (with_reducible refine bo_drewN _ ?_) | (with_reducible refine bo_alloc ?_ _) | (refine bchain ?_ (by with_reducible assumption)) | (with_reducible refine Below.setCell ?_ ?_ _) | go_size))⟩
  refine (OwX.wide (lo' := w.heap.size) ?_ (Nat.le_refl _) (Nat.le_refl _))
  have ho := HO.out.wide (lo' := w.heap.size + 3) (by simp) (Nat.le_refl _)
  have hz1 := HO.out
  refine OwX.top (hi := w1.heap.size) ?_
  refine OwX.wide (lo := w.heap.size + 3) ?_ (by omega) (Nat.le_refl _)
  (repeat' (first | (with_reducible exact ho) | (with_reducible refine OwX.far ?_ _ _ ?_) | (simp; done) | (simp; omega)))
set_option maxHeartbeats 1000000 in
theorem eqTenant1 (d : TenantD) (vlist : Value) (uvlist : Value) (w : World) (hvlist : RdR strS w vlist d.list) (hf0 : d.nm.size ≤ 9223372036854775807) (hf1 : d.key.size ≤ 9223372036854775807) (huvlist : RdR strS w uvlist d.list) :
    Calls Tryz.prog 56 #[.agg #[.string d.nm, .string d.key, vlist, .int .i64 d.quota], .agg #[.string d.nm, .string d.key, uvlist, .int .i64 d.quota]] w fun x w' => x = .returned (.bool true) ∧ Below w.heap.size w w' := by
  have Hvlist := hide hvlist
  obtain ⟨avlist, pvlist, rfl, _⟩ := hvlist.form
  clear hvlist
  have Huvlist := hide huvlist
  obtain ⟨auvlist, puvlist, rfl, _⟩ := huvlist.form
  clear huvlist
  go_enter Tryz.func56, Tryz.ntmps56
  go_wp2_with fail
  refine (eqStringS d.list _ _ _ ?c1 ?c2).mono ?_
  case c1 => exact Hvlist.out.new (by repeat' (first | (with_reducible exact Below.refl _ _) | (with_reducible refine Below.drew ?_) | (with_reducible refine bo_drewN _ ?_) | (with_reducible refine bo_alloc ?_ _) | (refine bchain ?_ (by with_reducible assumption)) | (with_reducible refine Below.setCell ?_ ?_ _) | go_size))
  case c2 => exact Huvlist.out.new (by repeat' (first | (with_reducible exact Below.refl _ _) | (with_reducible refine Below.drew ?_) | (with_reducible refine bo_drewN _ ?_) | (with_reducible refine bo_alloc ?_ _) | (refine bchain ?_ (by with_reducible assumption)) | (with_reducible refine Below.setCell ?_ ?_ _) | go_size))
  rintro x w1 ⟨rfl, hb1⟩; have hz1 := hb1.size; (try simp at hz1); have hc1 := fun o => hb1.cell (p := ⟨w.heap.size, o, none⟩) (by first | (simp; done) | (simp; omega) | omega); have hf1 := fun o => hb1.frozen (p := ⟨w.heap.size, o, none⟩) (by first | (simp; done) | (simp; omega) | omega); have hcn1 := fun o => hb1.cell (p := ⟨w.heap.size + 1, o, none⟩) (by first | (simp; done) | (simp; omega) | omega); have hfn1 := fun o => hb1.frozen (p := ⟨w.heap.size + 1, o, none⟩) (by first | (simp; done) | (simp; omega) | omega)
  go_wp2_with fail
  go_ret
  exact ⟨rfl, (by repeat' (first | (with_reducible exact Below.refl _ _) | (with_reducible refine Below.drew ?_) | (with_reducible refine bo_drewN _ ?_) | (with_reducible refine bo_alloc ?_ _) | (refine bchain ?_ (by with_reducible assumption)) | (with_reducible refine Below.setCell ?_ ?_ _) | go_size))⟩
set_option maxHeartbeats 1000000 in
theorem szTenant1 (d : TenantD) (vlist : Value) (left : Int) (w : World) (hvlist : RdR strS w vlist d.list) (hf0 : d.nm.size ≤ 9223372036854775807) (hf1 : d.key.size ≤ 9223372036854775807) (h0 : 0 ≤ left) (h1 : left ≤ 1048576) :
    Calls Tryz.prog 54 #[.agg #[.string d.nm, .string d.key, vlist, .int .i64 d.quota], .int .i64 left] w fun x w' => (x = .returned (.int .i64 (-1)) ∨ (x = .returned (.int .i64 (left - szTenant d)) ∧ 0 ≤ left - szTenant d)) ∧ Below w.heap.size w w' := by
  have Hvlist := hide hvlist
  obtain ⟨avlist, pvlist, rfl, _⟩ := hvlist.form
  clear hvlist
  unfold szTenant
  by_cases g0 : left - d.nm.size < 0
  · go_enter Tryz.func54, Tryz.ntmps54
    go_wp2_with fail
    go_ret
    exact ⟨.inl rfl, (by repeat' (first | (with_reducible exact Below.refl _ _) | (with_reducible refine Below.drew ?_) | (with_reducible refine bo_drewN _ ?_) | (with_reducible refine bo_alloc ?_ _) | (refine bchain ?_ (by with_reducible assumption)) | (with_reducible refine Below.setCell ?_ ?_ _) | go_size))⟩
  by_cases g1 : left - d.nm.size - d.key.size < 0
  · go_enter Tryz.func54, Tryz.ntmps54
    go_wp2_with fail
    go_ret
    exact ⟨.inl rfl, (by repeat' (first | (with_reducible exact Below.refl _ _) | (with_reducible refine Below.drew ?_) | (with_reducible refine bo_drewN _ ?_) | (with_reducible refine bo_alloc ?_ _) | (refine bchain ?_ (by with_reducible assumption)) | (with_reducible refine Below.setCell ?_ ?_ _) | go_size))⟩
  obtain ⟨R, hR⟩ : ∃ R, left - d.nm.size - d.key.size - szStringS d.list = R := ⟨_, rfl⟩
  have hR2 : left - ((d.nm.size : Int) + (d.key.size : Int) + szStringS d.list) = R := by omega
  rw [hR2]
  have hcall := fun v w h => szStringS1 d.list v (left - d.nm.size - d.key.size) w h (by omega) (by omega)
  rw [hR] at hcall
  clear hR hR2
  go_enter Tryz.func54, Tryz.ntmps54
  go_wp2_with fail
  refine (hcall _ _ ?c1).mono ?_
  case c1 => exact Hvlist.out.new (by repeat' (first | (with_reducible exact Below.refl _ _) | (with_reducible refine Below.drew ?_) | (with_reducible refine bo_drewN _ ?_) | (with_reducible refine bo_alloc ?_ _) | (refine bchain ?_ (by with_reducible assumption)) | (with_reducible refine Below.setCell ?_ ?_ _) | go_size))
  rintro x w1 ⟨rfl | ⟨rfl, hp⟩, hb1⟩
  · go_wp2_with fail
    go_ret
    exact ⟨.inl rfl, (by repeat' (first | (with_reducible exact Below.refl _ _) | (with_reducible refine Below.drew ?_) | (with_reducible refine bo_drewN _ ?_) | (with_reducible refine bo_alloc ?_ _) | (refine bchain ?_ (by with_reducible assumption)) | (with_reducible refine Below.setCell ?_ ?_ _) | go_size))⟩
  · have hp' : ¬ R < 0 := by omega
    go_wp2_with fail
    go_ret
    exact ⟨.inr ⟨rfl, hp⟩, (by repeat' (first | (with_reducible exact Below.refl _ _) | (with_reducible refine Below.drew ?_) | (with_reducible refine bo_drewN _ ?_) | (with_reducible refine bo_alloc ?_ _) | (refine bchain ?_ (by with_reducible assumption)) | (with_reducible refine Below.setCell ?_ ?_ _) | go_size))⟩
set_option maxHeartbeats 2000000 in
theorem toTenantS (L : List TenantD) (v : Value) (w : World) (hr : RdR tenantS w v L) (hz : szTenantS L ≤ 1048576) :
    Calls Tryz.prog 23 #[v] w fun x w' => ∃ v', x = .returned v' ∧ OwX tenantS w' w.heap.size w'.heap.size v' L ∧ Below w.heap.size w w' := by
  have hL : L.length ≤ 1048576 := by have := szTenantS_len L; omega
  obtain ⟨M, hM, hmk⟩ := make_row 24 32 (.agg #[.string ⟨#[]⟩, .string ⟨#[]⟩, .slice none 0 0, .int .i64 0]) 4 64 Tryz.underlying24 (by kernel_rfl) rfl (by decide) (by decide) L.length hL
  have hst := filling_start (E := tenantS) (owns_made w M 32 4 L.length hM hL)
  obtain ⟨ad, cap, rfl, h1, h2⟩ := hr.form
  have HR := hide hr
  clear hr
  have HZ := hide hz
  clear hz
  go_enter Tryz.func23, Tryz.ntmps23
  go_wp2_with fail
  go_loopw [4] (fun i wr => ∃ (k : Nat), i = .int .i64 k ∧ k ≤ L.length ∧ Hid (Filling tenantS w wr L k)) (fun i _ => L.length - (intOf i).toNat)
  case atStart => exact ⟨0, rfl, Nat.zero_le _, hst⟩
  case round =>
    clear hst hmk
    obtain ⟨k, rfl, hk, HFI⟩ := hrel
    by_cases hlt : k < L.length
    · have hb : Below w.heap.size w wr := HFI.out.2.1
      have hrk := (HR.out.new hb).at k hlt
      have hmem : L[k] ∈ L := List.getElem_mem hlt
      obtain ⟨d, hd⟩ : ∃ d, d = L[k] := ⟨_, rfl⟩
      rw [← hd] at hrk hmem
      obtain ⟨b, o, cs, rfl, hbw, hrd, hc⟩ := hrk
      obtain ⟨vlist, rfl, hf0, hf1, hvlist⟩ := hrd
      have Hvlist := hide hvlist
      obtain ⟨avlist, pvlist, rfl, _⟩ := hvlist.form
      clear hvlist
      have hzd : szTenant d ≤ 1048576 := by have := szTenantS_mem hmem; have := HZ.out; omega
      have c0 : wr.cell? ⟨b, o + k * 4, none⟩ = some (.string d.nm) := hc 0 _ rfl
      have c1 : wr.cell? ⟨b, o + k * 4 + 1, none⟩ = some (.string d.key) := hc 1 _ rfl
      have c2 : wr.cell? ⟨b, o + k * 4 + 2, none⟩ = some ((.slice avlist d.list.length pvlist)) := hc 2 _ rfl
      have c3 : wr.cell? ⟨b, o + k * 4 + 3, none⟩ = some (.int .i64 d.quota) := hc 3 _ rfl
      clear hc
      have HD := hide hd
      clear hd hmem
      go_wp2_with fail
      refine (toTenant1 d _ _ Hvlist.out hf0 hf1 hzd).mono ?_
      rintro x w1 ⟨zvlist, rfl, qvlist, hb1⟩
      obtain ⟨ad1, cap1, rfl, _⟩ := qvlist.form
      have hoe : OwE tenantS w1 wr.heap.size w1.heap.size [.string d.nm, .string d.key, .slice ad1 d.list.length cap1, .int .i64 d.quota] d := by
        obtain ⟨bs, g1, g2, g3⟩ := qvlist
        exact ⟨bs, ⟨_, _, rfl, hf0, hf1, g1, rfl⟩, g2, g3⟩
      clear qvlist
      rw [HD.out] at hoe
      obtain ⟨hcell, hfr, hlw, hfi⟩ := filling_step HFI.out hlt hb1 hoe
      rw [← HD.out] at hfi
      obtain ⟨x0, hx0⟩ : ∃ u, w1.cell? ⟨w.heap.size, k * 4, none⟩ = some u := hcell 0 (by decide)
      obtain ⟨x1, hx1⟩ : ∃ u, w1.cell? ⟨w.heap.size, k * 4 + 1, none⟩ = some u := hcell 1 (by decide)
      obtain ⟨x2, hx2⟩ : ∃ u, w1.cell? ⟨w.heap.size, k * 4 + 2, none⟩ = some u := hcell 2 (by decide)
      obtain ⟨x3, hx3⟩ : ∃ u, w1.cell? ⟨w.heap.size, k * 4 + 3, none⟩ = some u := hcell 3 (by decide)
      have e6 := hfr
      have HF2 := hide hfi
      clear hcell hfr hfi hoe
      go_wp2_with fail
      go_roundw
      case rel => exact ⟨k + 1, by go_num, by omega, HF2.out⟩
      case measure => simp [intOf]; omega
    · obtain rfl : k = L.length := by omega
      obtain ⟨hox, hbx⟩ := filling_end HFI.out
      have HX := hide hox
      clear hox
      go_wp2_with fail
      go_ret
      exact ⟨_, rfl, HX.out, hbx⟩
set_option maxHeartbeats 1000000 in
theorem eqTenantS (L : List TenantD) (v v' : Value) (w : World) (hr0 : RdR tenantS w v L) (hr1 : RdR tenantS w v' L) :
    Calls Tryz.prog 24 #[v, v'] w fun x w' => x = .returned (.bool true) ∧ Below w.heap.size w w' := by
  obtain ⟨ad, cap, rfl, h1, h2⟩ := hr0.form
  obtain ⟨ad', cap', rfl, h1', h2'⟩ := hr1.form
  have HR := hide hr0; have HR' := hide hr1
  clear hr0 hr1
  go_enter Tryz.func24, Tryz.ntmps24
  go_wp2_with fail
  go_loopw [5] (fun i wr => ∃ (k : Nat), i = .int .i64 k ∧ k ≤ L.length ∧ Below w.heap.size w wr) (fun i _ => L.length - (intOf i).toNat)
  case atStart => exact ⟨0, rfl, Nat.zero_le _, Below.refl _ _⟩
  case round =>
    obtain ⟨k, rfl, hk, hb⟩ := hrel
    by_cases hlt : k < L.length
    · have hrk := (HR.out.new hb).at k hlt
      have hrk' := (HR'.out.new hb).at k hlt
      obtain ⟨d, hd⟩ : ∃ d, d = L[k] := ⟨_, rfl⟩
      rw [← hd] at hrk hrk'
      clear hd
      obtain ⟨b, o, cs, rfl, hb1, hrd, hc⟩ := hrk
      obtain ⟨b', o', cs', rfl, hb2, hrd', hc'⟩ := hrk'
      obtain ⟨vlist, rfl, hf0, hf1, hvlist⟩ := hrd
      have Hvlist := hide hvlist
      obtain ⟨avlist, pvlist, rfl, _⟩ := hvlist.form
      clear hvlist
      obtain ⟨uvlist, rfl, hfu0, hfu1, huvlist⟩ := hrd'
      have Huvlist := hide huvlist
      obtain ⟨auvlist, puvlist, rfl, _⟩ := huvlist.form
      clear huvlist
      have c0 : wr.cell? ⟨b, o + k * 4, none⟩ = some (.string d.nm) := hc 0 _ rfl
      have c1 : wr.cell? ⟨b, o + k * 4 + 1, none⟩ = some (.string d.key) := hc 1 _ rfl
      have c2 : wr.cell? ⟨b, o + k * 4 + 2, none⟩ = some ((.slice avlist d.list.length pvlist)) := hc 2 _ rfl
      have c3 : wr.cell? ⟨b, o + k * 4 + 3, none⟩ = some (.int .i64 d.quota) := hc 3 _ rfl
      have d0 : wr.cell? ⟨b', o' + k * 4, none⟩ = some (.string d.nm) := hc' 0 _ rfl
      have d1 : wr.cell? ⟨b', o' + k * 4 + 1, none⟩ = some (.string d.key) := hc' 1 _ rfl
      have d2 : wr.cell? ⟨b', o' + k * 4 + 2, none⟩ = some ((.slice auvlist d.list.length puvlist)) := hc' 2 _ rfl
      have d3 : wr.cell? ⟨b', o' + k * 4 + 3, none⟩ = some (.int .i64 d.quota) := hc' 3 _ rfl
      clear hc hc'
      go_wp2_with fail
      have qa0 : ∀ y : Later wr, y.w.cell? ⟨b, o + k * 4, none⟩ = some (.string d.nm) := fun y => (y.b.cell (p := ⟨b, o + k * 4, none⟩) hb1).trans c0
      have qa1 : ∀ y : Later wr, y.w.cell? ⟨b, o + k * 4 + 1, none⟩ = some (.string d.key) := fun y => (y.b.cell (p := ⟨b, o + k * 4 + 1, none⟩) hb1).trans c1
      have qa2 : ∀ y : Later wr, y.w.cell? ⟨b, o + k * 4 + 2, none⟩ = some ((.slice avlist d.list.length pvlist)) := fun y => (y.b.cell (p := ⟨b, o + k * 4 + 2, none⟩) hb1).trans c2
      have qa3 : ∀ y : Later wr, y.w.cell? ⟨b, o + k * 4 + 3, none⟩ = some (.int .i64 d.quota) := fun y => (y.b.cell (p := ⟨b, o + k * 4 + 3, none⟩) hb1).trans c3
      have qb0 : ∀ y : Later wr, y.w.cell? ⟨b', o' + k * 4, none⟩ = some (.string d.nm) := fun y => (y.b.cell (p := ⟨b', o' + k * 4, none⟩) hb2).trans d0
      have qb1 : ∀ y : Later wr, y.w.cell? ⟨b', o' + k * 4 + 1, none⟩ = some (.string d.key) := fun y => (y.b.cell (p := ⟨b', o' + k * 4 + 1, none⟩) hb2).trans d1
      have qb2 : ∀ y : Later wr, y.w.cell? ⟨b', o' + k * 4 + 2, none⟩ = some ((.slice auvlist d.list.length puvlist)) := fun y => (y.b.cell (p := ⟨b', o' + k * 4 + 2, none⟩) hb2).trans d2
      have qb3 : ∀ y : Later wr, y.w.cell? ⟨b', o' + k * 4 + 3, none⟩ = some (.int .i64 d.quota) := fun y => (y.b.cell (p := ⟨b', o' + k * 4 + 3, none⟩) hb2).trans d3
      clear c0 c1 c2 c3 d0 d1 d2 d3
      have hne : Nonempty (Later wr) := ⟨⟨wr, Below.refl _ _⟩⟩; refine region_later (by kernel_rfl) (by kernel_rfl) ?_
      repeat (go_big_quiet_step (fail))
      go_big_quiet_want; go_big_quiet_op
      refine ⟨.bool true, fun y => later_calls (x := y) (eqTenant1 d _ _ y.w (Hvlist.out.new y.b) hf0 hf1 (Huvlist.out.new y.b)), ?_⟩
      go_big_quiet_on
      repeat (go_big_quiet_step (fail))
      refine wpQuiet_nil ?_; intro _ hw'; obtain ⟨y, hw''⟩ := hw'; subst hw''; have hby := y.b
      go_wp2_with fail
      go_roundw
      case rel => exact ⟨k + 1, by go_num, by omega, bchain hb hby⟩
      case measure => simp [intOf]; omega
    · go_wp2_with fail
      go_ret
      exact ⟨rfl, hb⟩
set_option maxHeartbeats 1000000 in
theorem szTenantS1 (L : List TenantD) (v : Value) (left : Int) (w : World) (hr : RdR tenantS w v L) (h0 : 0 ≤ left) (h1 : left ≤ 1048576) :
    Calls Tryz.prog 22 #[v, .int .i64 left] w fun x w' => (x = .returned (.int .i64 (-1)) ∨ (x = .returned (.int .i64 (left - szTenantS L)) ∧ 0 ≤ left - szTenantS L)) ∧ Below w.heap.size w w' := by
  obtain ⟨ad, cap, rfl, h2, h3⟩ := hr.form
  have HR := hide hr
  clear hr
  unfold szTenantS
  by_cases h : left - L.length < 0
  · go_enter Tryz.func22, Tryz.ntmps22
    go_wp2
    go_ret
    exact ⟨.inl rfl, Below.refl _ _⟩
  · go_enter Tryz.func22, Tryz.ntmps22
    go_wp2_with fail
    go_loopw [1, 5] (fun l i wr => ∃ (k : Nat), i = .int .i64 k ∧ k ≤ L.length ∧ l = .int .i64 (left - L.length - sumLs szTenant (L.take k)) ∧ 0 ≤ left - L.length - sumLs szTenant (L.take k) ∧ Below w.heap.size w wr) (fun _ i _ => L.length - (intOf i).toNat)
    case atStart => exact ⟨0, rfl, Nat.zero_le _, by simp [sumLs], by simp [sumLs]; omega, Below.refl _ _⟩
    case round =>
      obtain ⟨k, rfl, hk, rfl, hk0, hb⟩ := hrel
      by_cases hlt : k < L.length
      · have hrk := (HR.out.new hb).at k hlt
        have hsn := sum_take szTenant L k hlt
        have hnn := sum_nn szTenant szTenant_nn (L.take k)
        obtain ⟨d, hd⟩ : ∃ d, d = L[k] := ⟨_, rfl⟩
        rw [← hd] at hrk hsn
        clear hd
        obtain ⟨b, o, cs, rfl, hb1, hrd, hc⟩ := hrk
        obtain ⟨vlist, rfl, hf0, hf1, hvlist⟩ := hrd
        have Hvlist := hide hvlist
        obtain ⟨avlist, pvlist, rfl, _⟩ := hvlist.form
        clear hvlist
        have c0 : wr.cell? ⟨b, o + k * 4, none⟩ = some (.string d.nm) := hc 0 _ rfl
        have c1 : wr.cell? ⟨b, o + k * 4 + 1, none⟩ = some (.string d.key) := hc 1 _ rfl
        have c2 : wr.cell? ⟨b, o + k * 4 + 2, none⟩ = some ((.slice avlist d.list.length pvlist)) := hc 2 _ rfl
        have c3 : wr.cell? ⟨b, o + k * 4 + 3, none⟩ = some (.int .i64 d.quota) := hc 3 _ rfl
        clear hc
        generalize hq : sumLs szTenant (List.take k L) = q at *
        generalize hq' : sumLs szTenant (List.take (k + 1) L) = q' at *
        have HQ := hide hq'
        have HSN := hide hsn
        clear hq hq' hsn
        go_wp2_with fail
        refine (szTenant1 d _ _ _ Hvlist.out hf0 hf1 (by omega) (by omega)).mono ?_
        rintro x w1 ⟨rfl | ⟨rfl, hp⟩, hb1⟩
        · go_wp2_with fail
          go_ret
          exact ⟨.inl rfl, bchain hb hb1⟩
        · have hp' : ¬ left - L.length - q - szTenant d < 0 := by omega
          generalize hX : left - L.length - q - szTenant d = X at *
          have HX := hide hX
          clear hX
          go_wp2_with fail
          go_roundw
          case rel => exact ⟨k + 1, by go_num, by omega, int_eq (by have := HX.out; have := HQ.out; have := HSN.out; omega), by have := HX.out; have := HQ.out; have := HSN.out; omega, bchain hb hb1⟩
          case measure => simp [intOf]; omega
      · obtain rfl : k = L.length := by omega
        rw [List.take_length] at *
        obtain ⟨X, hX⟩ : ∃ X, left - L.length - sumLs szTenant L = X := ⟨_, rfl⟩
        rw [hX] at hk0 ⊢
        have HX := hide hX
        clear hX
        go_wp2_with fail
        go_ret
        have e : left - (L.length + sumLs szTenant L) = X := by have := HX.out; omega
        rw [e]
        have := szTenant_nn
        exact ⟨.inr ⟨rfl, hk0⟩, hb⟩
open Go.ChangeShapes Go.WideShapes Go.ChangeAt Go.Joins in
theorem open_cellsTenant {H : Type} {enc : TypeId × Value → H} {W : World} {base : Nat} {spare : Nat → Bool} {held : Bool} {fuel : Nat} {cs : List Value} {x : DataW H × List MemPlace} (h : DataW.trod enc Tryz.prog W base spare held fuel 77 cs = some x) : ∃ d : TenantD, tenantS.rd W cs d := by
  obtain ⟨c0, c1, c2, c3, y0, y1, y2, y3, n, rfl, h0, h1, h2, h3⟩ := scells4 Tryz.underlying77 (by kernel_rfl) (by kernel_rfl) h
  obtain ⟨i0, e0, _, hs0⟩ := DataW.trod_string Tryz.underlying9 h0
  simp only [List.cons.injEq, and_true] at e0
  subst e0
  obtain ⟨i1, e1, _, hs1⟩ := DataW.trod_string Tryz.underlying9 h1
  simp only [List.cons.injEq, and_true] at e1
  subst e1
  obtain ⟨L2, hL2⟩ := open_shape (E := strS) ⟨#[]⟩ Tryz.underlying30 (by kernel_rfl) (fun cs n y hy => open_cellsStr hy) h2
  obtain ⟨i3, e3, _⟩ := DataW.trod_int Tryz.underlying2 h3
  simp only [List.cons.injEq, and_true] at e3
  subst e3
  exact ⟨⟨i0, i1, L2, i3⟩, c2, rfl, by unfold maxLen at hs0; simp only; omega, by unfold maxLen at hs1; simp only; omega, hL2⟩
end Go.Proofs.YtfemmnhfllbgjaaGreatDoor
/- Chapter 14's model: whether a place is listed. -/
namespace Go.Proofs.YtfemmnhfllbgjaaGreatDoor
open Go.RowKit
set_option maxRecDepth 100000
set_option linter.unusedSimpArgs false
set_option linter.unusedVariables false
/-- Does the text x let the target t by? -/
def hitB (t x : ByteArray) : Bool := decide (x = t) || (decide (1 ≤ x.size) && decide ((bys x).head? = some 42) && decide (x.size - 1 ≤ t.size) && decide (t.extract (t.size - (x.size - 1)) t.size = x.extract 1 x.size))
def listV (L : List ByteArray) (t : ByteArray) : Bool := if L.length ≤ 20 ∧ 1 ≤ t.size ∧ t.size ≤ 60 ∧ ∀ x ∈ L, x.size ≤ 60 then L.any (hitB t) else false
theorem list_no {L : List ByteArray} {t : ByteArray} (h : ¬ (L.length ≤ 20 ∧ 1 ≤ t.size ∧ t.size ≤ 60 ∧ ∀ x ∈ L, x.size ≤ 60)) : listV L t = false := by unfold listV; rw [if_neg h]
theorem any_take {L : List ByteArray} {t : ByteArray} {k : Nat} (h : k < L.length) : (L.take (k + 1)).any (hitB t) = ((L.take k).any (hitB t) || hitB t L[k]) := by
  rw [List.take_add_one, List.getElem?_eq_getElem h, List.any_append]; simp
set_option maxRecDepth 100000 in
set_option maxHeartbeats 4000000 in
theorem specListed (L : List ByteArray) (t : ByteArray) (v : Value) (w : World) (hr : Reads w v L.length 1 (L.map Value.string)) (hLs : ∀ x ∈ L, x.size ≤ maxLen) (ht : t.size ≤ maxLen) : Calls Tryz.prog 40 #[v, .string t] w fun x w' => x = .returned (.bool (listV L t)) ∧ Below w.heap.size w w' := by
  obtain ⟨hl, ad, cap, rfl, hcap, hcm, hc⟩ := hr
  unfold maxLen at ht hcm
  have HC := hide hc; have HLS := hide hLs
  clear hc hLs hl
  obtain ⟨A, hA⟩ : ∃ A, listV L t = A := ⟨_, rfl⟩
  rw [hA]
  have HA := hide hA
  clear hA
  have hin := fun w => specIn (t.size : Int) 1 60 w
  by_cases h20 : (20 : Int) < L.length
  · have HF : Hid (A = false) := by show A = false; rw [← HA.out]; exact list_no (by omega)
    go_enter Tryz.func40, Tryz.ntmps40
    go_wp2_with fail
    go_ret
    exact ⟨by rw [HF.out]; rfl, (by repeat' (first | (with_reducible exact Below.refl _ _) | (with_reducible refine Below.drew ?_) | (with_reducible refine bo_drewN _ ?_) | (with_reducible refine bo_alloc ?_ _) | (refine bchain ?_ (by with_reducible assumption)) | (with_reducible refine Below.setCell ?_ ?_ _) | go_size))⟩
  cases h60 : inB (t.size : Int) 1 60
  · rw [h60] at hin
    have HF : Hid (A = false) := by show A = false; rw [← HA.out]; exact list_no (fun c => inB_false h60 (by omega))
    go_enter Tryz.func40, Tryz.ntmps40
    go_wp2_with fail
    refine (hin _).mono ?_; rintro e w1 ⟨rfl, hsame⟩; obtain rfl := hsame.symm; clear hsame
    go_wp2_with fail
    go_ret
    exact ⟨by rw [HF.out]; rfl, (by repeat' (first | (with_reducible exact Below.refl _ _) | (with_reducible refine Below.drew ?_) | (with_reducible refine bo_drewN _ ?_) | (with_reducible refine bo_alloc ?_ _) | (refine bchain ?_ (by with_reducible assumption)) | (with_reducible refine Below.setCell ?_ ?_ _) | go_size))⟩
  rw [h60] at hin
  obtain ⟨t1, t60⟩ := inB_true h60
  clear h60
  go_enter Tryz.func40, Tryz.ntmps40
  go_wp2_with fail
  refine (hin _).mono ?_; rintro e w1 ⟨rfl, hsame⟩; obtain rfl := hsame.symm; clear hsame
  clear hin
  go_wp2_with fail
  go_loopw [5, 6] (fun f i wr => ∃ k : Nat, i = .int .i64 k ∧ k ≤ L.length ∧ f = .bool ((L.take k).any (hitB t)) ∧ Hid (∀ x ∈ L.take k, x.size ≤ 60) ∧ Hid (Below w.heap.size w wr)) (fun _ i _ => L.length - (intOf i).toNat)
  case atStart => exact ⟨0, rfl, by omega, by simp, by show ∀ x ∈ L.take 0, _; simp, Below.refl _ _⟩
  case round =>
    obtain ⟨k, rfl, hk, rfl, HS, HB⟩ := hrel
    by_cases hlt : k < L.length
    · have hltI : (k : Int) < L.length := by omega
      obtain ⟨b, o, rfl, hbw, hcc⟩ := HC.out (by omega)
      obtain ⟨x, hx⟩ : ∃ x, L[k] = x := ⟨_, rfl⟩
      have hcx := hcc k (.string x) (by rw [List.getElem?_map, List.getElem?_eq_getElem hlt, hx]; rfl)
      have cx : wr.cell? ⟨b, o + k, none⟩ = some (.string x) := (HB.out.cell (p := ⟨b, o + k, none⟩) hbw).trans hcx
      have hbr : b < wr.heap.size := Nat.lt_of_lt_of_le hbw HB.out.size
      have hxm : x.size ≤ 9223372036854775807 := by have := HLS.out x (by rw [← hx]; exact List.getElem_mem hlt); unfold maxLen at this; exact this
      have hat := any_take (t := t) hlt
      rw [hx] at hat
      clear hcc hcx
      by_cases hx60 : (60 : Int) < x.size
      · have HF : Hid (A = false) := by show A = false; rw [← HA.out]; exact list_no (fun c => by have := c.2.2.2 x (by rw [← hx]; exact List.getElem_mem hlt); omega)
        clear hat hx
        go_wp2_with fail
        go_ret
        exact ⟨by rw [HF.out]; rfl, HB.out⟩
      have HS2 : Hid (∀ y ∈ L.take (k + 1), y.size ≤ 60) := by
        show ∀ y ∈ _, _
        intro y hy
        rw [List.take_add_one, List.getElem?_eq_getElem hlt, hx] at hy
        rcases List.mem_append.1 hy with h | h
        · exact HS.out y h
        · simp at h; subst h; omega
      have HAT := hide hat
      clear hat hx
      obtain ⟨f, hf⟩ : ∃ f, (L.take k).any (hitB t) = f := ⟨_, rfl⟩
      rw [hf] at HAT ⊢
      clear hf
      have ew : IntKind.i64.wrap ((x.size : Int) - 1) = (x.size : Int) - 1 := by rw [IntKind.wrap_i64]; omega
      cases f
      rotate_left
      · have HR : Hid ((L.take (k + 1)).any (hitB t) = true) := by show _ = true; rw [HAT.out]; rfl
        clear HAT
        go_upto_region 11 with fail
        go_quiet (fail)
        go_wp2_with fail
        go_roundw
        case rel => exact ⟨k + 1, by go_num, by omega, by first | (rw [HR.out]) | (simp [HR.out]), HS2, hide (bo_drewN _ HB.out)⟩
        case measure => simp [intOf]; omega
      have HH : Hid ((L.take (k + 1)).any (hitB t) = hitB t x) := by show _ = _; rw [HAT.out]; rfl
      clear HAT
      by_cases hxt : x = t
      · subst hxt
        have HR : Hid ((L.take (k + 1)).any (hitB x) = true) := by show _ = true; rw [HH.out]; unfold hitB; simp
        clear HH
        go_upto_region 11 with fail
        go_quiet (fail)
        go_wp2_with fail
        go_roundw
        case rel => exact ⟨k + 1, by go_num, by omega, by first | (rw [HR.out]) | (simp [HR.out]), HS2, hide (bo_drewN _ HB.out)⟩
        case measure => simp [intOf]; omega
      have hne := tl_ne hxt
      by_cases hx0 : x.size = 0
      · have HR : Hid ((L.take (k + 1)).any (hitB t) = false) := by show _ = false; rw [HH.out]; unfold hitB; simp [hxt, hx0]
        have hd1 : decide ((1 : Int) ≤ (x.size : Int)) = false := decide_eq_false (by omega)
        clear HH hx0 hxt
        go_upto_region 11 with fail
        go_quiet (fail)
        go_wp2_with fail
        go_roundw
        case rel => exact ⟨k + 1, by go_num, by omega, by first | (rw [HR.out]) | (simp [HR.out]), HS2, hide (bo_drewN _ HB.out)⟩
        case measure => simp [intOf]; omega
      have hx1 : 0 < x.size := by omega
      have hx1I : (0 : Int) < x.size := by omega
      have hd0 : (1 : Int) ≤ (x.size : Int) := by omega
      have hbx : (bys x).head? = some (x[0].toNat : Int) := by rw [bys_cons hx1]; rfl
      obtain ⟨c, hce⟩ : ∃ c, (x[0].toNat : Int) = c := ⟨_, rfl⟩
      rw [hce] at hbx
      have HCE := hide hce
      by_cases h42 : c = 42
      rotate_left
      · have HR : Hid ((L.take (k + 1)).any (hitB t) = false) := by show _ = false; rw [HH.out]; unfold hitB; rw [hbx]; simp [hxt, h42]
        have hc2 : (c == 42) = false := by simpa using h42
        clear HH hxt hbx h42 hx0
        go_upto_region 11 with fail
        go_quiet (fail)
        go_wp2_with fail
        go_roundw
        case rel => exact ⟨k + 1, by go_num, by omega, by first | (rw [HR.out]) | (simp [HR.out]), HS2, hide (bo_drewN _ HB.out)⟩
        case measure => simp [intOf]; omega
      subst h42
      by_cases hnt : (x.size : Int) - 1 ≤ t.size
      rotate_left
      · have HR : Hid ((L.take (k + 1)).any (hitB t) = false) := by show _ = false; rw [HH.out]; unfold hitB; rw [decide_eq_false (show ¬ x.size - 1 ≤ t.size by omega)]; simp [hxt]
        have hd2 : decide ((x.size : Int) ≤ (t.size : Int) + 1) = false := decide_eq_false (by omega)
        have hd3 : decide ((x.size : Int) - 1 ≤ (t.size : Int)) = false := decide_eq_false (by omega)
        clear HH hxt hbx hx0
        go_upto_region 11 with fail
        go_quiet (fail)
        go_wp2_with fail
        go_roundw
        case rel => exact ⟨k + 1, by go_num, by omega, by first | (rw [HR.out]) | (simp [HR.out]), HS2, hide (bo_drewN _ HB.out)⟩
        case measure => simp [intOf]; omega
      obtain ⟨m, hm⟩ : ∃ m : Int, (t.size : Int) - ((x.size : Int) - 1) = m := ⟨_, rfl⟩
      have hm0 : 0 ≤ m ∧ m ≤ t.size := by omega
      have hmn : m.toNat = t.size - (x.size - 1) := by omega
      have ewm : IntKind.i64.wrap ((t.size : Int) - ((x.size : Int) - 1)) = m := by rw [hm, IntKind.wrap_i64]; omega
      obtain ⟨T, hT⟩ : ∃ T, t.extract m.toNat t.size = T := ⟨_, rfl⟩
      have hsl1 : ∀ w : World, (Instr.slice 9 (.string t) (some (.int .i64 m)) none none).run Tryz.prog w = .ok (.string T) w := fun w => by
        rw [run_slice_string_from_if (P := Tryz.prog) w 9 t .i64 m Tryz.underlying9, if_pos hm0, hT]
      obtain ⟨X1, hX1⟩ : ∃ X, x.extract 1 x.size = X := ⟨_, rfl⟩
      have hsl2 : ∀ w : World, (Instr.slice 9 (.string x) (some (.int .i64 1)) none none).run Tryz.prog w = .ok (.string X1) w := fun w => by
        rw [run_slice_string_from_if (P := Tryz.prog) w 9 x .i64 1 Tryz.underlying9, if_pos ⟨by decide, by omega⟩, ← hX1]; rfl
      have hh : hitB t x = decide (T = X1) := by
        unfold hitB
        rw [hbx, ← hT, ← hX1, hmn, decide_eq_true (show x.size - 1 ≤ t.size by omega), decide_eq_true (show 1 ≤ x.size by omega), decide_eq_false hxt]; simp
      have hd2 : (x.size : Int) ≤ (t.size : Int) + 1 := by omega
      clear hbx hm hmn hT hX1 hxt hx0
      by_cases he : T = X1
      · subst he
        have HR : Hid ((L.take (k + 1)).any (hitB t) = true) := by show _ = true; rw [HH.out, hh]; simp
        clear HH hh
        go_upto_region 11 with fail
        go_quiet (fail)
        go_wp2_with fail
        go_roundw
        case rel => exact ⟨k + 1, by go_num, by omega, by first | (rw [HR.out]) | (simp [HR.out]), HS2, hide (bo_drewN _ HB.out)⟩
        case measure => simp [intOf]; omega
      · have HR : Hid ((L.take (k + 1)).any (hitB t) = false) := by show _ = false; rw [HH.out, hh]; simp [he]
        have hte := tl_ne he
        clear HH hh
        go_upto_region 11 with fail
        go_quiet (fail)
        go_wp2_with fail
        go_roundw
        case rel => exact ⟨k + 1, by go_num, by omega, by first | (rw [HR.out]) | (simp [HR.out]), HS2, hide (bo_drewN _ HB.out)⟩
        case measure => simp [intOf]; omega
    · obtain rfl : k = L.length := by omega
      have hltI : ¬ ((L.length : Nat) : Int) < L.length := by omega
      have HF : Hid (A = (L.take L.length).any (hitB t)) := by
        show A = _
        rw [← HA.out, List.take_of_length_le (Nat.le_refl _)]
        unfold listV
        have hs := HS.out
        rw [List.take_of_length_le (Nat.le_refl _)] at hs
        rw [if_pos ⟨by omega, by omega, by omega, hs⟩]
      obtain ⟨q, hq⟩ : ∃ q, (L.take L.length).any (hitB t) = q := ⟨_, rfl⟩
      rw [hq] at HF ⊢
      clear hq
      go_wp2_with fail
      go_ret
      exact ⟨by rw [HF.out]; rfl, HB.out⟩
end Go.Proofs.YtfemmnhfllbgjaaGreatDoor
/- Chapter 14's model: a number's text, and a text's number. -/
namespace Go.Proofs.YtfemmnhfllbgjaaGreatDoor
open Go.RowKit
set_option maxRecDepth 100000
set_option linter.unusedSimpArgs false
set_option linter.unusedVariables false
theorem dec_next (m : Nat) : decL m = if m / 10 = 0 then [48 + ((m % 10 : Nat) : Int)] else decL (m / 10) ++ [48 + ((m % 10 : Nat) : Int)] := by
  by_cases h : m < 10
  · rw [decL_one h, if_pos (by omega), Nat.mod_eq_of_lt h]
  · rw [decL_step h, if_neg (by omega)]
theorem strOf_cons (b : Int) (t : List Int) (hb : 0 ≤ b ∧ b ≤ 255) (ht : ∀ x ∈ t, 0 ≤ x ∧ x ≤ 255) : strOf [b] ++ strOf t = strOf (b :: t) := by
  refine bys_inj ?_
  rw [bys_append, bys_strOf (by intro x hx; simp at hx; omega), bys_strOf ht, bys_strOf (by intro x hx; rcases List.mem_cons.1 hx with rfl | h; exact hb; exact ht x h)]
  rfl
set_option maxHeartbeats 2000000 in
theorem specInt (n : Nat) (w : World) (hn : n ≤ 4611686018427387904) : Calls Tryz.prog 77 #[.int .i64 n] w fun x w' => x = .returned (.string (strOf (decL n))) ∧ Below w.heap.size w w' := by
  obtain ⟨A, hA⟩ : ∃ A, decL n = A := ⟨_, rfl⟩
  rw [hA]
  have HA := hide hA
  clear hA
  have hneg : decide ((n : Int) < 0) = false := decide_eq_false (by omega)
  go_enter Tryz.func77, Tryz.ntmps77
  go_wp2_with fail
  go_loopw [0, 3] (fun v s wr => ∃ (m : Nat) (t : List Int), v = .int .i64 m ∧ m ≤ n ∧ t.length + m ≤ n + 1 ∧ s = .string (strOf t) ∧ Hid (∀ x ∈ t, 48 ≤ x ∧ x ≤ 57) ∧ Hid ((t = [] ∧ m = n) ∨ (t ≠ [] ∧ A = (if m = 0 then t else decL m ++ t))) ∧ Hid (Below w.heap.size w wr)) (fun v s _ => (intOf v).toNat + (match s with | .string s => (if s.size = 0 then 1 else 0) | _ => 0))
  case atStart => exact ⟨n, [], rfl, Nat.le_refl _, by simp, rfl, by show ∀ x ∈ [], _; simp, .inl ⟨rfl, rfl⟩, Below.refl _ _⟩
  case round =>
    obtain ⟨m, t, rfl, hm, htm, rfl, HT, HD, HB⟩ := hrel
    have hd0 : (0 : Int) ≤ ((m % 10 : Nat) : Int) ∧ ((m % 10 : Nat) : Int) ≤ 9 := by omega
    obtain ⟨dg, hdg⟩ : ∃ z : Int, ((m % 10 : Nat) : Int) = z := ⟨_, rfl⟩
    rw [hdg] at hd0
    have e1 : (m : Int).tmod 10 = dg := by rw [← hdg, Int.tmod_eq_emod_of_nonneg (by omega)]; omega
    have e2 : (m : Int).tdiv 10 = ((m / 10 : Nat) : Int) := by rw [Int.tdiv_eq_ediv_of_nonneg (by omega)]; omega
    obtain ⟨d0, d9⟩ := hd0
    have hcv := row_string (l := [48 + dg]) (ownsRow_one wr 5 (.int .u8 (48 + dg))) (by intro x hx; simp at hx; omega)
    have hcc : strOf [48 + dg] ++ strOf t = strOf ((48 + dg) :: t) := strOf_cons _ _ (by omega) (fun x hx => by have := HT.out x hx; omega)
    obtain ⟨t1, ht1⟩ : ∃ t1, strOf [48 + dg] = t1 := ⟨_, rfl⟩
    have h1s : t1.size = 1 := by rw [← ht1, strOf_size]; rfl
    rw [ht1] at hcv hcc
    have hsum : t1.size + (strOf t).size ≤ maxLen := by rw [h1s, strOf_size]; unfold maxLen; omega
    have hsumI : (t1.size : Int) + ((strOf t).size : Int) ≤ 9223372036854775807 := by unfold maxLen at hsum; omega
    have hm10 : t.length + 1 + m / 10 ≤ n + 1 ∨ m = 0 := by omega
    have HM10 := hide hm10
    clear hm10 h1s
    have HT2 : Hid (∀ x ∈ (48 + dg) :: t, 48 ≤ x ∧ x ≤ 57) := by
      show ∀ x ∈ _, _
      intro x hx
      rcases List.mem_cons.1 hx with rfl | h
      · omega
      · exact HT.out x h
    have hst : (strOf t).size = t.length := strOf_size t
    have HD2 : t = [] ∨ m ≠ 0 → Hid ((48 + dg) :: t ≠ [] ∧ A = (if m / 10 = 0 then (48 + dg) :: t else decL (m / 10) ++ ((48 + dg) :: t))) := by
      intro hc
      refine ⟨by simp, ?_⟩
      have hnx := dec_next m
      rw [hdg] at hnx
      rcases HD.out with ⟨rfl, rfl⟩ | ⟨hne, hA2⟩
      · rw [← HA.out, hnx]
      · have hm0 : m ≠ 0 := hc.resolve_left hne
        rw [hA2, if_neg hm0, hnx]
        split <;> simp
    have hlt : ((48 + dg) :: t).length = t.length + 1 := rfl
    have hsz2 : (strOf ((48 + dg) :: t)).size ≠ 0 := by rw [strOf_size]; simp
    rcases HD.out with ⟨rfl, rfl⟩ | ⟨hne, hA2⟩
    · have HD3 := hide (HD2 (.inl rfl))
      have e0 : strOf [] = (⟨#[]⟩ : ByteArray) := rfl
      have he : t1 ++ (⟨#[]⟩ : ByteArray) = strOf [48 + dg] := by rw [← ht1]; exact ba_append_nil _
      rw [e0]
      have HSZ := hide hsz2
      clear HD HD2 hdg ht1 hcc hst hlt hsz2 e0
      go_wp2_with fail
      go_roundw
      case rel => exact ⟨m / 10, [48 + dg], by go_num, by omega, by simp; omega, by first | rfl | rw [he] | simp [he], HT2, .inr HD3.out, hide (bo_alloc HB.out _)⟩
      case measure => have h2 := HSZ.out; simp only [intOf]; rw [if_neg (by first | exact h2 | (rw [he]; exact h2)), if_pos (show (⟨#[]⟩ : ByteArray).size = 0 from rfl)]; omega
    · by_cases hm0 : m = 0
      · subst hm0
        have HF : Hid (A = t) := by show A = t; rw [hA2, if_pos rfl]
        have hpos : 0 < (strOf t).size := by rw [hst]; exact List.length_pos_iff.2 hne
        have hl1 := list_ne hpos
        have hl2 := list_isEmpty hpos
        clear HD HD2 hcv hcc HT2 e1 e2 hst hsz2 hlt hA2
        go_wp2_with fail
        go_ret
        exact ⟨by rw [HF.out]; rfl, HB.out⟩
      · have HD3 := hide (HD2 (.inr hm0))
        have hpos : 0 < (strOf t).size := by rw [hst]; exact List.length_pos_iff.2 hne
        have hl1 := list_ne hpos
        have hl2 := list_isEmpty hpos
        have hm1 : ((m : Int) != 0) = true := by simp; omega
        have HSZ := hide hsz2
        have HSP := hide hpos
        clear HD HD2 hdg ht1 hst hlt hsz2 hA2 hpos
        go_wp2_with fail
        go_roundw
        case rel => exact ⟨m / 10, (48 + dg) :: t, by go_num, by omega, by have := HM10.out; simp only [List.length_cons]; omega, rfl, HT2, .inr HD3.out, hide (bo_alloc HB.out _)⟩
        case measure => have h2 := HSP.out; simp only [intOf]; rw [if_neg HSZ.out, if_neg (by omega)]; omega
theorem val_bound {l : List Int} (h : ∀ x ∈ l, 48 ≤ x ∧ x ≤ 57) : 0 ≤ valL 0 l ∧ valL 0 l < 10 ^ l.length := by
  have key : ∀ (l : List Int) (n : Int), (∀ x ∈ l, 48 ≤ x ∧ x ≤ 57) → 0 ≤ n → 0 ≤ valL n l ∧ valL n l < (n + 1) * 10 ^ l.length := by
    intro l
    induction l with
    | nil => intro n _ hn; simp only [valL, List.length_nil]; omega
    | cons x l ih =>
      intro n hx hn
      have h1 := hx x (by simp)
      have h2 := ih (n * 10 + (x - 48)) (fun y hy => hx y (by simp [hy])) (by omega)
      refine ⟨h2.1, ?_⟩
      simp only [valL, List.length_cons]
      have h3 : (n * 10 + (x - 48) + 1) * (10 : Int) ^ l.length ≤ ((n + 1) * 10) * 10 ^ l.length := Int.mul_le_mul_of_nonneg_right (by omega) (Int.pow_nonneg (by decide))
      have h4 : (n + 1) * (10 : Int) ^ (l.length + 1) = ((n + 1) * 10) * 10 ^ l.length := by rw [Int.pow_succ, Int.mul_comm ((10 : Int) ^ l.length) 10, Int.mul_assoc]
      omega
  have := key l 0 h (by decide)
  simpa using this
theorem val_small {l : List Int} (h : ∀ x ∈ l, 48 ≤ x ∧ x ≤ 57) (hl : l.length ≤ 10) : 0 ≤ valL 0 l ∧ valL 0 l ≤ 10000000000 := by
  have := val_bound h
  have h2 : (10 : Int) ^ l.length ≤ 10 ^ 10 := by
    have h := Int.ofNat_le.2 (Nat.pow_le_pow_right (n := 10) (by decide) hl)
    rw [Int.natCast_pow, Int.natCast_pow] at h
    exact h
  have h3 : (10 : Int) ^ 10 = 10000000000 := by decide
  omega
theorem byte_at {s : ByteArray} {k : Nat} (h : k < s.size) : (bys s)[k]? = some (s[k].toNat : Int) := by
  have hl : k < (bys s).length := by rw [bys_len]; exact h
  rw [List.getElem?_eq_getElem hl]
  simp [bys]; rfl
theorem val_take {l : List Int} {k : Nat} {b : Int} (h : l[k]? = some b) : valL 0 (l.take (k + 1)) = valL 0 (l.take k) * 10 + (b - 48) := by
  rw [List.take_add_one, h, valL_app]; rfl
set_option maxHeartbeats 4000000 in
theorem digits14 (s : ByteArray) (off most : Nat) (neg : Bool) (w : World) (hs : s.size ≤ maxLen) (ho : off ≤ 1) (hoff : off ≤ s.size) (hm1 : most ≤ 10)
    (hneg : (neg = true ∧ off = 1 ∧ 0 < s.size ∧ (bys s).head? = some 45) ∨ (neg = false ∧ off = 0 ∧ (bys s).head? ≠ some 45)) :
    Calls Tryz.prog 66 #[.string s, .int .i64 most] w fun x w' => x = .returned (.tuple #[.int .i64 (digL neg ((bys s).drop off) most).1, .bool (digL neg ((bys s).drop off) most).2]) ∧ w' = w := by
  unfold maxLen at hs
  obtain ⟨l, hl⟩ : ∃ l, (bys s).drop off = l := ⟨_, rfl⟩
  have hll : l.length + off = s.size := by rw [← hl, List.length_drop, bys_len]; omega
  have hat : ∀ k (h : off + k < s.size), l[k]? = some ((s[off + k]).toNat : Int) := fun k h => by rw [← hl, List.getElem?_drop]; exact byte_at h
  obtain ⟨A, hA⟩ : ∃ A, digL neg l most = A := ⟨_, rfl⟩
  rw [hl, hA]
  have HA := hide hA; have HAT := hide hat; have HLL := hide hll
  clear hA hat hl hll
  have hd : ∀ (h : 0 < s.size), neg = true ∨ (((s[0].toNat : Int) == 45) = false) := fun h => by
    rcases hneg with h1 | h1
    · exact .inl h1.1
    · right
      have := byte_at h
      have e : (bys s).head? = some (s[0].toNat : Int) := by rw [List.head?_eq_getElem?]; exact this
      rw [e] at h1
      simpa using h1.2.2
  go_enter Tryz.func66, Tryz.ntmps66
  go_upto_region 3 with fail
  go_cut [11, 12, 13, 14, 15, 16] (fun _ _ _ _ _ b wc => b = .bool neg ∧ wc = w)
  case first =>
    by_cases h0 : 0 < s.size
    · have hl1 := list_ne h0
      have hl2 := list_isEmpty h0
      have h0I : (0 : Int) < s.size := by omega
      have hb := byte_at h0
      have e : (bys s).head? = some (s[0].toNat : Int) := by rw [List.head?_eq_getElem?]; exact hb
      rcases hneg with ⟨rfl, -, -, h45⟩ | ⟨rfl, -, h45⟩
      · have hq : (s[0].toNat : Int) = 45 := by rw [e] at h45; simpa using h45
        have hq2 : ((s[0].toNat : Int) == 45) = true := by simp [hq]
        clear hb e h45 hd
        go_wp2_with fail
        go_meet
        case rel => first | exact ⟨rfl, rfl⟩ | (simp [hq])
      · have hq2 : ((s[0].toNat : Int) == 45) = false := by rw [e] at h45; simpa using h45
        clear hb e h45 hd
        go_wp2_with fail
        go_meet
        case rel => first | exact ⟨rfl, rfl⟩ | (simp [hq2])
    · have hs0 : s = ⟨#[]⟩ := ba_empty (by omega)
      have hnf : neg = false := by
        rcases hneg with ⟨_, _, h, _⟩ | ⟨h, _⟩
        · omega
        · exact h
      subst hnf hs0
      go_wp2_with fail
      go_meet
      case rel => exact ⟨rfl, rfl⟩
  case rest =>
    obtain ⟨rfl, rfl⟩ := hcut
    clear hd
    go_upto_if 16 with fail
    go_cut [6, 7, 16] (fun a b c wx => a = .int .i64 off ∧ b = .bool neg ∧ wx = wc)
    case first =>
      rcases hneg with ⟨rfl, rfl, -, -⟩ | ⟨rfl, rfl, -⟩
      · go_wp2_with fail
        go_meet
        case rel => exact ⟨rfl, rfl, rfl⟩
      · go_wp2_with fail
        go_meet
        case rel => exact ⟨rfl, rfl, rfl⟩
    case rest =>
      obtain ⟨rfl, rfl, rfl⟩ := hcut
      have hln := HLL.out
      have elen : IntKind.i64.wrap ((s.size : Int) - off) = (l.length : Int) := by rw [IntKind.wrap_i64]; omega
      by_cases h1 : (l.length : Int) < 1
      · have HF : Hid (A = (0, false)) := by show A = _; rw [← HA.out]; unfold digL; rw [if_pos (.inl (by omega))]
        go_wp2_with fail
        go_ret2
        rw [HF.out]
        exact ⟨rfl, rfl⟩
      by_cases h2 : (most : Int) < l.length
      · have HF : Hid (A = (0, false)) := by show A = _; rw [← HA.out]; unfold digL; rw [if_pos (.inr (by omega))]
        go_wp2_with fail
        go_ret2
        rw [HF.out]
        exact ⟨rfl, rfl⟩
      have hl1 : 1 ≤ l.length := by omega
      have hl10 : l.length ≤ most := by omega
      have HD : Hid (A = (if l.all (fun b => inB b 48 57) = false then (0, false) else if l.head? = some 48 ∧ (neg = true ∨ 1 < l.length) then (0, false) else (if neg = true then - valL 0 l else valL 0 l, true))) := by show A = _; rw [← HA.out]; unfold digL; rw [if_neg (by omega)]
      clear HA
      go_wp2_with fail
      go_loop [8, 9] (fun n i => ∃ k : Nat, i = .int .i64 ((off + k : Nat) : Int) ∧ k ≤ l.length ∧ n = .int .i64 (valL 0 (l.take k)) ∧ Hid (∀ x ∈ l.take k, 48 ≤ x ∧ x ≤ 57)) (fun _ i => s.size - (intOf i).toNat)
      case atStart => exact ⟨0, by simp, by omega, by simp [valL], by show ∀ x ∈ l.take 0, _; simp⟩
      case round =>
        obtain ⟨k, rfl, hk, rfl, HN⟩ := hrel
        by_cases hlt : k < l.length
        · have hos : off + k < s.size := by omega
          have hosI : ((off + k : Nat) : Int) < s.size := by omega
          have hb := HAT.out k hos
          obtain ⟨b, hbe⟩ : ∃ b, (s[off + k].toNat : Int) = b := ⟨_, rfl⟩
          have hb0 : 0 ≤ b ∧ b ≤ 255 := by have := s[off + k].toNat_lt; omega
          rw [hbe] at hb
          have hvt := val_take hb
          have hvs := val_small HN.out (by rw [List.length_take]; omega)
          obtain ⟨v, hv⟩ : ∃ v, valL 0 (l.take k) = v := ⟨_, rfl⟩
          rw [hv] at hvt hvs ⊢
          have hbm : b ∈ l := by obtain ⟨h9, e⟩ := List.getElem?_eq_some_iff.1 hb; rw [← e]; exact List.getElem_mem h9
          have HBE := hide hbe
          by_cases g1 : b < 48
          · have HF : Hid (A = (0, false)) := by
              show A = _
              rw [HD.out, if_pos (List.all_eq_false.2 ⟨b, hbm, by rw [inB_not (by omega)]; simp⟩)]
            clear hb hvt hv hbm
            go_wp2_with fail
            go_ret2
            rw [HF.out]
            exact ⟨rfl, rfl⟩
          by_cases g2 : 57 < b
          · have HF : Hid (A = (0, false)) := by
              show A = _
              rw [HD.out, if_pos (List.all_eq_false.2 ⟨b, hbm, by rw [inB_not (by omega)]; simp⟩)]
            clear hb hvt hv hbm
            go_wp2_with fail
            go_ret2
            rw [HF.out]
            exact ⟨rfl, rfl⟩
          have HN2 : Hid (∀ x ∈ l.take (k + 1), 48 ≤ x ∧ x ≤ 57) := by
            show ∀ x ∈ _, _
            intro x hx
            rw [List.take_add_one, hb] at hx
            rcases List.mem_append.1 hx with h | h
            · exact HN.out x h
            · simp at h; omega
          have HVT := hide hvt
          have e1 : IntKind.i64.wrap (v * 10) = v * 10 := by rw [IntKind.wrap_i64]; omega
          have e2 : IntKind.u8.wrap (b - 48) = b - 48 := by unfold IntKind.wrap; simp [IntKind.signed, IntKind.bits]; omega
          have e3 : IntKind.i64.wrap (v * 10 + (b - 48)) = v * 10 + (b - 48) := by rw [IntKind.wrap_i64]; omega
          clear hb hvt hv hbm
          go_wp2_with fail
          go_round
          case rel => exact ⟨k + 1, by go_num, by omega, by rw [HVT.out], HN2⟩
          case measure => simp [intOf]; omega
        · obtain rfl : k = l.length := by omega
          have hosI : ¬ ((off + l.length : Nat) : Int) < s.size := by omega
          have htk : l.take l.length = l := List.take_of_length_le (Nat.le_refl _)
          rw [htk] at HN ⊢
          have HD2 : Hid (A = (if l.head? = some 48 ∧ (neg = true ∨ 1 < l.length) then (0, false) else (if neg = true then - valL 0 l else valL 0 l, true))) := by
            show A = _
            rw [HD.out, if_neg]
            intro c
            obtain ⟨x, hx, hq⟩ := List.all_eq_false.1 c
            have := HN.out x hx
            rw [inB_of this.1 this.2] at hq
            simp at hq
          have hvs := val_small HN.out (by omega)
          have h0s : off < s.size := by omega
          have h0I : (off : Int) < s.size := by omega
          have hb := HAT.out 0 (by omega)
          simp only [Nat.add_zero] at hb
          obtain ⟨b, hbe⟩ : ∃ b, (s[off].toNat : Int) = b := ⟨_, rfl⟩
          rw [hbe] at hb
          have hhd : l.head? = some b := by rw [List.head?_eq_getElem?]; exact hb
          rw [hhd] at HD2
          obtain ⟨v, hv⟩ : ∃ v, valL 0 l = v := ⟨_, rfl⟩
          rw [hv] at hvs HD2 ⊢
          obtain ⟨v0, v1⟩ := hvs
          have HBE := hide hbe
          have hs1 : neg = true ∨ (1 < (s.size : Int) ↔ 1 < l.length) := by
            rcases hneg with ⟨h, _⟩ | ⟨_, h, _⟩
            · exact .inl h
            · right; omega
          have wn : IntKind.i64.wrap (-v) = -v := by rw [IntKind.wrap_i64]; omega
          clear hb hhd hv htk HD
          by_cases b48 : b = 48
          · subst b48
            cases neg with
            | true =>
              have HF : Hid (A = (0, false)) := by show A = _; rw [HD2.out, if_pos ⟨rfl, .inl rfl⟩]
              go_wp2_with fail
              go_ret2
              rw [HF.out]
              exact ⟨rfl, rfl⟩
            | false =>
              have hs2 := hs1.resolve_left (by simp)
              by_cases h9 : (1 : Int) < s.size
              · have HF : Hid (A = (0, false)) := by show A = _; rw [HD2.out, if_pos ⟨rfl, .inr (hs2.1 h9)⟩]
                clear hs1 hs2
                go_wp2_with fail
                go_ret2
                rw [HF.out]
                exact ⟨rfl, rfl⟩
              · have HF : Hid (A = (v, true)) := by show A = _; rw [HD2.out, if_neg (by rintro ⟨_, h | h⟩; cases h; exact h9 (hs2.2 h)), if_neg (by simp)]
                clear hs1 hs2
                go_wp2_with fail
                go_ret2
                rw [HF.out]
                exact ⟨rfl, rfl⟩
          · have hbq : (b == 48) = false := by simpa using b48
            cases neg with
            | true =>
              have HF : Hid (A = (-v, true)) := by show A = _; rw [HD2.out, if_neg (by rintro ⟨h, _⟩; exact b48 (by simpa using h)), if_pos rfl]
              clear hs1
              go_wp2_with fail
              go_ret2
              rw [HF.out]
              exact ⟨rfl, rfl⟩
            | false =>
              have HF : Hid (A = (v, true)) := by show A = _; rw [HD2.out, if_neg (by rintro ⟨h, _⟩; exact b48 (by simpa using h)), if_neg (by simp)]
              clear hs1
              go_wp2_with fail
              go_ret2
              rw [HF.out]
              exact ⟨rfl, rfl⟩
theorem specDigits (s : ByteArray) (most : Nat) (w : World) (hs : s.size ≤ maxLen) (hm1 : most ≤ 10) : Calls Tryz.prog 66 #[.string s, .int .i64 most] w fun x w' => x = .returned (.tuple #[.int .i64 (digV s most).1, .bool (digV s most).2]) ∧ w' = w := by
  by_cases h : (bys s).head? = some 45
  · have h0 : 0 < s.size := by
      rw [← bys_len]
      cases hb : bys s with
      | nil => rw [hb] at h; simp at h
      | cons x l => simp
    have := digits14 s 1 most true w hs (by omega) (by omega) hm1 (.inl ⟨rfl, rfl, h0, h⟩)
    unfold digV
    rw [if_pos h]
    exact this
  · have := digits14 s 0 most false w hs (by omega) (by omega) hm1 (.inr ⟨rfl, rfl, h⟩)
    rw [List.drop_zero] at this
    unfold digV
    rw [if_neg h]
    exact this
theorem specReadT (s : ByteArray) (w : World) (hs : s.size ≤ maxLen) : Calls Tryz.prog 65 #[.string s] w fun x w' => x = .returned (.tuple #[.int .i64 (digV s 9).1, .bool (digV s 9).2]) ∧ w' = w := by
  go_enter Tryz.func65, Tryz.ntmps65
  go_wp2_with fail
  refine (specDigits s 9 _ hs (by decide)).mono ?_; rintro e w1 ⟨rfl, hsame⟩; obtain rfl := hsame.symm; clear hsame
  go_wp2_with fail
  go_ret2
  exact ⟨rfl, rfl⟩
end Go.Proofs.YtfemmnhfllbgjaaGreatDoor
/- The library's sync.Once in a signer that the call made, one goroutine: the first Do folds the key, a later one does nothing; the program's mac. -/
namespace Go.Proofs.YtfemmnhfllbgjaaGreatDoor
open Go.RowKit
set_option maxRecDepth 100000
set_option linter.unusedSimpArgs false
set_option linter.unusedVariables false
theorem oDisable (w : World) : (callFunc 133 #[]).run Tryz.prog w = .ok (.value (.tuple #[])) w := run_call_mark0 Tryz.func133 (by kernel_rfl) (by kernel_rfl) (by kernel_rfl) .disable (by kernel_rfl) w
theorem oEnable (w : World) : (callFunc 135 #[]).run Tryz.prog w = .ok (.value (.tuple #[])) w := run_call_mark0 Tryz.func135 (by kernel_rfl) (by kernel_rfl) (by kernel_rfl) .enable (by kernel_rfl) w
theorem oAcquire (a : Addr) (w : World) : (callFunc 136 #[.pointer (some a)]).run Tryz.prog w = .ok (.value (.tuple #[])) w := run_call_marked Tryz.func136 (by kernel_rfl) (by kernel_rfl) (by kernel_rfl) .acquire (by kernel_rfl) a w
theorem oRelease (a : Addr) (w : World) : (callFunc 138 #[.pointer (some a)]).run Tryz.prog w = .ok (.value (.tuple #[])) w := run_call_marked Tryz.func138 (by kernel_rfl) (by kernel_rfl) (by kernel_rfl) .releaseMerge (by kernel_rfl) a w
theorem oStore (a : Addr) (x : Value) (u : FrameMode) (w : World) (hc : w.cell? a = some x) (hz : w.frozen? a = false) :
    CallsD Tryz.prog 128 #[.pointer (some a), .bool true] u w fun e u' w' => u' = u ∧ (e = .returned (.tuple #[]) ∧ w' = w.drew.setCell a (.int .u32 1)) := by
  have hc' : w.drew.cell? a = some x := by go_simp
  have hz' : w.drew.frozen? a = false := by go_simp
  have hst := run_call_store (P := Tryz.prog) Tryz.func131 (by kernel_rfl) (by kernel_rfl) (by kernel_rfl) (by kernel_rfl) (k := .u32) (y := 1) hc' hz'
  go_enter_d Tryz.func128, Tryz.ntmps128
  go_wp2
  go_region_calls
  all_goals (go_end0; exact ⟨rfl, rfl⟩)
theorem oUnlock (a : Addr) (u : FrameMode) (w : World) (hc : w.cell? a = some (.int .i32 1)) (hz : w.frozen? a = false) :
    CallsD Tryz.prog 127 #[.pointer (some a)] u w fun e u' w' => u' = u ∧ (e = .returned (.tuple #[]) ∧ w' = w.setCell a (.int .i32 0)) := by
  have hd := oDisable
  have he := oEnable
  have hr := oRelease
  have hadd := run_call_add (P := Tryz.prog) Tryz.func139 (by kernel_rfl) (by kernel_rfl) (by kernel_rfl) .i32 (by kernel_rfl) (y := -1) (s := 0) hc hz (by simp [go_sem]; rfl)
  have hcv := run_convert_to_unsafe (P := Tryz.prog) (src := 173) (dst := 177) Tryz.underlying173 Tryz.underlying177 (by kernel_rfl) hc
  go_enter_d Tryz.func127, Tryz.ntmps127
  go_wp2
  go_end0
  go_wp2
  first | done | (go_end0; exact ⟨rfl, rfl⟩)
theorem oLock (a : Addr) (w : World) (hc : w.cell? a = some (.int .i32 0)) (hz : w.frozen? a = false) :
    Calls Tryz.prog 126 #[.pointer (some a)] w fun e w' => e = .returned (.tuple #[]) ∧ w' = w.setCell a (.int .i32 1) := by
  have hd := oDisable
  have he := oEnable
  have ha := oAcquire
  have hcas := run_call_cas_hit (P := Tryz.prog) Tryz.func134 (by kernel_rfl) (by kernel_rfl) (by kernel_rfl) .i32 (by kernel_rfl) (y := 1) hc hz
  have hc' : (w.setCell a (.int .i32 1)).cell? a = some (.int .i32 1) := World.cell?_setCell_same w a _ hc
  have hcv := run_convert_to_unsafe (P := Tryz.prog) (src := 173) (dst := 177) Tryz.underlying173 Tryz.underlying177 (by kernel_rfl) hc'
  go_enter Tryz.func126, Tryz.ntmps126
  go_wp2
  first | go_end0 | (simp only [Exit.inBlock, Exit.then]; refine bodyPost_ret (results_none rfl _ _ _) rfl ?_) | refine bodyPost_ret (results_none rfl _ _ _) rfl ?_
  go_wp2
  first | done | (go_end0; exact ⟨rfl, rfl⟩)
theorem implMixed (h b : Int) (w : World) (h0 : 0 ≤ h) (h1 : h ≤ 2147483646) (b0 : 0 ≤ b) (b1 : b ≤ 255) : Calls Tryz.prog 100 #[.int .i64 h, .int .u8 b] w fun x w' => x = .returned (.int .i64 (macS h b)) ∧ w' = w := by
  have e1 : IntKind.i64.wrap (h * 1000003) = h * 1000003 := by rw [IntKind.wrap_i64]; omega
  have e2 : IntKind.i64.wrap (h * 1000003 + b) = h * 1000003 + b := by rw [IntKind.wrap_i64]; omega
  have e3 : IntKind.i64.wrap (h * 1000003 + b + 1) = h * 1000003 + b + 1 := by rw [IntKind.wrap_i64]; omega
  have e4 : (h * 1000003 + b + 1).tmod 2147483647 = macS h b := by unfold macS; exact Int.tmod_eq_emod_of_nonneg (by omega)
  have hm1 := macS_range h b
  have e5 : IntKind.i64.wrap (macS h b) = macS h b := by rw [IntKind.wrap_i64]; omega
  go_enter Tryz.func100, Tryz.ntmps100
  go_wp2_with fail
  go_ret
  exact ⟨rfl, rfl⟩
end Go.Proofs.YtfemmnhfllbgjaaGreatDoor
/- Numbers as texts by the library (strconv.FormatInt, strconv.ParseInt) and texts parted (strings.SplitN): what is asked of the package-level variables that they read; the program's names and numbers. -/
namespace Go.Proofs.YtfemmnhfllbgjaaGreatDoor
open Go.RowKit
set_option maxRecDepth 100000
set_option linter.unusedSimpArgs false
set_option linter.unusedVariables false
theorem var_new {w w' : World} {n : String} {cs : Array Value} (hb : Below w.heap.size w w') (h : w.var? Tryz.prog n = some cs) : w'.var? Tryz.prog n = some cs := by
  unfold World.var? at h ⊢
  cases hg : Tryz.prog.globalNamed n with
  | none => simp [hg] at h
  | some g =>
    simp only [hg, Option.bind_some] at h ⊢
    have hlt : g < w.heap.size := by
      rcases Nat.lt_or_ge g w.heap.size with h' | h'
      · exact h'
      · simp [Array.getElem?_eq_none h'] at h
    rw [hb.block g hlt]
    exact h
/-- The table of the powers of ten lies as the library's text lays it. -/
def TabV (w : World) : Prop := Lib.TabIs Tryz.prog w "internal/strconv.uint64pow10" .u64 Lib.pow10Tab
theorem TabV.new {w w' : World} (h : TabV w) (hb : Below w.heap.size w w') : TabV w' := var_new hb h
theorem libFormat (n : Nat) (w : World) (hn : n ≤ 9223372036854775807) (ht : TabV w) : Calls Tryz.prog 71 #[.int .i64 n, .int .i64 10] w fun e w' => e = .returned (.string (strOf (decL n))) ∧ Below w.heap.size w w' := by
  refine (Any.strconv_FormatInt_10 fmtiLays (n : Int) (by omega) (by omega) w ht).mono ?_
  rintro e w' ⟨rfl, k, os, rfl⟩
  exact ⟨by rw [itoa_dec], Lib.below_grow _ w (Nat.le_refl _) k os⟩
set_option maxHeartbeats 1000000 in
theorem implName (s : ByteArray) (w : World) (hs : s.size ≤ maxLen) : Calls Tryz.prog 51 #[.string s] w fun x w' => x = .returned (.bool (nameB s)) ∧ w' = w := by
  unfold maxLen at hs
  obtain ⟨A, hA⟩ : ∃ A, nameB s = A := ⟨_, rfl⟩
  rw [hA]
  have HA := hide hA
  clear hA
  have hin := fun w => implWithin (s.size : Int) 1 20 w
  cases h20 : inB (s.size : Int) 1 20
  · rw [h20] at hin
    have HF : Hid (A = false) := by show A = false; rw [← HA.out]; unfold nameB; rw [h20]; simp
    go_enter Tryz.func51, Tryz.ntmps51
    go_wp2_with fail
    refine (hin _).mono ?_; rintro e w1 ⟨rfl, hsame⟩; obtain rfl := hsame.symm; clear hsame
    go_wp2_with fail
    go_ret
    exact ⟨by rw [HF.out]; rfl, rfl⟩
  rw [h20] at hin
  go_enter Tryz.func51, Tryz.ntmps51
  go_wp2_with fail
  refine (hin _).mono ?_; rintro e w1 ⟨rfl, hsame⟩; obtain rfl := hsame.symm; clear hsame
  clear hin
  go_wp2_with fail
  go_loop [10] (fun i => ∃ k : Nat, i = .int .i64 k ∧ k ≤ s.size ∧ Hid (∀ j (hj : j < s.size), j < k → 97 ≤ (s[j].toNat : Int) ∧ (s[j].toNat : Int) ≤ 122)) (fun i => s.size - (intOf i).toNat)
  case atStart => exact ⟨0, rfl, Nat.zero_le _, fun j _ hj => absurd hj (Nat.not_lt_zero _)⟩
  case round =>
    obtain ⟨k, rfl, hk, HN⟩ := hrel
    by_cases hlt : k < s.size
    · have hltI : (k : Int) < s.size := by omega
      obtain ⟨b, hb⟩ : ∃ b, (s[k].toNat : Int) = b := ⟨_, rfl⟩
      have hb0 : 0 ≤ b ∧ b ≤ 255 := by have := s[k].toNat_lt; omega
      have HB := hide hb
      by_cases h1 : b < 97
      · have HF : Hid (A = false) := by show A = false; rw [← HA.out]; exact nameB_no hlt (by rw [hb]; omega)
        go_wp2_with fail
        go_ret
        exact ⟨by rw [HF.out]; rfl, rfl⟩
      · by_cases h2 : 122 < b
        · have HF : Hid (A = false) := by show A = false; rw [← HA.out]; exact nameB_no hlt (by rw [hb]; omega)
          go_wp2_with fail
          go_ret
          exact ⟨by rw [HF.out]; rfl, rfl⟩
        · have HN2 : Hid (∀ j (hj : j < s.size), j < k + 1 → 97 ≤ (s[j].toNat : Int) ∧ (s[j].toNat : Int) ≤ 122) := fun j hj hjk => by
            by_cases e : j = k
            · subst e; rw [HB.out]; omega
            · exact HN.out j hj (by omega)
          go_wp2_with fail
          go_round
          case rel => exact ⟨k + 1, by go_num, by omega, HN2⟩
          case measure => simp [intOf]; omega
    · obtain rfl : k = s.size := by omega
      have HF : Hid (A = true) := by show A = true; rw [← HA.out, ← h20]; exact nameB_yes (fun j hj => HN.out j hj hj)
      go_wp2_with fail
      go_ret
      exact ⟨by rw [HF.out]; rfl, rfl⟩
/-- What strconv and strings read besides: strconv's two errors are there, and a greatest length. -/
def ErrV (w : World) : Prop := (∃ tp p, w.var? Tryz.prog "strconv.ErrSyntax" = some #[.iface tp p]) ∧ (∃ tp p, w.var? Tryz.prog "strconv.ErrRange" = some #[.iface tp p]) ∧ ∃ m, w.cell? ⟨0, 0, none⟩ = some (.int .i64 m)
theorem ErrV.new {w w' : World} (h : ErrV w) (hb : Below w.heap.size w w') : ErrV w' := by
  obtain ⟨⟨t1, p1, h1⟩, ⟨t2, p2, h2⟩, m, hm⟩ := h
  exact ⟨⟨t1, p1, var_new hb h1⟩, ⟨t2, p2, var_new hb h2⟩, m, (hb.cell (Lib.lt_of_cell hm)).trans hm⟩
theorem libParseOk (s : ByteArray) (v : Int) (w : World) (hs : s.size ≤ 281474976710656) (h : Lib.parseIntB 64 s.data.toList = .ok v) : Calls Tryz.prog 70 #[.string s, .int .i64 10, .int .i64 64] w fun e w' => e = .returned (.tuple #[.int .i64 v, .nilIface]) ∧ Below w.heap.size w w' := by
  refine (Any.strconv_ParseInt_10_at64_ok prsiLays s (by omega) v h w).mono ?_
  rintro e w' ⟨rfl, hw⟩
  refine ⟨rfl, ?_⟩
  rcases hw with rfl | ⟨t, rfl⟩
  · exact Below.refl _ _
  · exact Lib.bytesWorld_below _ _ _
theorem libParseNo (s : ByteArray) (w : World) (hs : s.size ≤ 281474976710656) (he : ErrV w) (h : ∀ v, Lib.parseIntB 64 s.data.toList ≠ .ok v) : Calls Tryz.prog 70 #[.string s, .int .i64 10, .int .i64 64] w fun e w' => ∃ x t p, e = .returned (.tuple #[.int .i64 x, .iface t p]) ∧ Below w.heap.size w w' := by
  obtain ⟨⟨t1, p1, h1⟩, ⟨t2, p2, h2⟩, _⟩ := he
  cases hp : Lib.parseIntB 64 s.data.toList with
  | ok v => exact absurd hp (h v)
  | range =>
    refine (Any.strconv_ParseInt_10_at64_range_var prsiLays s hs hp t2 p2 w h2).mono ?_
    rintro e w' ⟨N, rfl, _, _, hb⟩
    exact ⟨_, _, _, rfl, hb⟩
  | _ =>
    refine (Any.strconv_ParseInt_10_at64_syntax_var prsiLays s hs hp t1 p1 w h1).mono ?_
    rintro e w' ⟨N, rfl, _, _, hb⟩
    exact ⟨_, _, _, rfl, hb⟩
theorem libSplit (s : ByteArray) (w : World) (hs : s.size < 4294967281) (he : ErrV w) : Calls Tryz.prog 50 #[.string s, .string ⟨#[46]⟩, .int .i64 3] w fun e w' =>
    e = .returned (.slice (some ⟨w.heap.size, 0, none⟩) (Lib.splitB ⟨#[46]⟩ 0 (min 3 (s.size + 1) - 1) s).length (min 3 (s.size + 1))) ∧ w' = w.alloc (.cells (Lib.cellsOf (Lib.splitB ⟨#[46]⟩ 0 (min 3 (s.size + 1) - 1) s) (min 3 (s.size + 1))) 9) := by
  obtain ⟨_, _, m, hm⟩ := he
  exact Any.strings_SplitN splnLays (by kernel_rfl) s ⟨#[46]⟩ 3 m w hs hm (by decide) (by decide) (by decide)
set_option maxHeartbeats 1000000 in
theorem implNumT (s : ByteArray) (most : Nat) (w : World) (hs : s.size ≤ 2000000) (hm : most ≤ 1000000000000000) (ht : TabV w) (he : ErrV w) : Calls Tryz.prog 52 #[.string s, .int .i64 most] w fun x w' => x = .returned (.tuple #[.int .i64 (numT s most).1, .bool (numT s most).2]) ∧ Below w.heap.size w w' := by
  rcases num_cases s most with ⟨n, hn, e, hv⟩ | ⟨hno, hv⟩
  · rw [hv]
    dsimp only
    have hl : s.data.toList = Lib.decDigits n := by
      have h1 := congrArg ByteArray.data (e.trans (itoa_dec n).symm)
      rw [Lib.itoa, if_neg (by omega), Int.toNat_natCast] at h1
      rw [h1]
    have hp := libParseOk s n w (by omega) (by rw [hl]; exact parse_dec (by omega))
    have hf := fun w' (hb : Below w.heap.size w w') => libFormat n w' (by omega) (ht.new hb)
    rw [← e] at hf
    have hin := fun w => implWithin (n : Int) 0 (most : Int) w
    rw [inB_of (by omega) (by omega)] at hin
    clear ht he hl hv e
    go_enter Tryz.func52, Tryz.ntmps52
    go_wp2_with fail
    refine hp.mono ?_; rintro x w1 ⟨rfl, hb1⟩
    go_wp2_with fail
    refine (hin _).mono ?_; rintro e w1 ⟨rfl, hsame⟩; obtain rfl := hsame.symm; clear hsame
    go_wp2_with fail
    refine (hf _ hb1).mono ?_; rintro x w2 ⟨rfl, hb2⟩
    go_wp2_with fail
    refine bodyPost_ret (v := (.tuple #[.int .i64 n, .bool true])) (by simp [results, Tryz.results52, go_sem, *]) rfl ?_
    exact ⟨rfl, bchain hb1 hb2⟩
  · rw [hv]
    dsimp only
    by_cases hok : ∃ v, Lib.parseIntB 64 s.data.toList = .ok v
    · obtain ⟨v, hok⟩ := hok
      have hp := libParseOk s v w (by omega) hok
      have hin := fun w => implWithin v 0 (most : Int) w
      by_cases hr : 0 ≤ v ∧ v ≤ most
      · rw [inB_of hr.1 hr.2] at hin
        obtain ⟨n, rfl⟩ : ∃ n : Nat, v = n := ⟨v.toNat, by omega⟩
        have hf := fun w' (hb : Below w.heap.size w w') => libFormat n w' (by omega) (ht.new hb)
        have hne := tl_ne (hno n (by omega))
        generalize strOf (decL n) = t at hf hne
        clear ht he hno hv hok
        go_enter Tryz.func52, Tryz.ntmps52
        go_wp2_with fail
        refine hp.mono ?_; rintro x w1 ⟨rfl, hb1⟩
        go_wp2_with fail
        refine (hin _).mono ?_; rintro e w1 ⟨rfl, hsame⟩; obtain rfl := hsame.symm; clear hsame
        go_wp2_with fail
        refine (hf _ hb1).mono ?_; rintro x w2 ⟨rfl, hb2⟩
        go_wp2_with fail
        refine bodyPost_ret (v := (.tuple #[.int .i64 0, .bool false])) (by simp [results, Tryz.results52, go_sem, *]) rfl ?_
        exact ⟨rfl, bchain hb1 hb2⟩
      · rw [inB_not hr] at hin
        clear ht he hno hv hok
        go_enter Tryz.func52, Tryz.ntmps52
        go_wp2_with fail
        refine hp.mono ?_; rintro x w1 ⟨rfl, hb1⟩
        go_wp2_with fail
        refine (hin _).mono ?_; rintro e w1 ⟨rfl, hsame⟩; obtain rfl := hsame.symm; clear hsame
        go_wp2_with fail
        refine bodyPost_ret (v := (.tuple #[.int .i64 0, .bool false])) (by simp [results, Tryz.results52, go_sem, *]) rfl ?_
        exact ⟨rfl, hb1⟩
    · have hp := libParseNo s w (by omega) he (fun v h => hok ⟨v, h⟩)
      clear ht he hno hv hok
      go_enter Tryz.func52, Tryz.ntmps52
      go_wp2_with fail
      refine hp.mono ?_; rintro x w1 ⟨y, t, p, rfl, hb1⟩
      go_wp2_with fail
      refine bodyPost_ret (v := (.tuple #[.int .i64 0, .bool false])) (by simp [results, Tryz.results52, go_sem, *]) rfl ?_
      exact ⟨rfl, hb1⟩
end Go.Proofs.YtfemmnhfllbgjaaGreatDoor
