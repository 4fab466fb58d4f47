/- Several small texts of one level, one behind the other. -/
import Derived.Test.YtfemmnhfllbgjaaGreatDoorQG12
import Derived.Test.YtfemmnhfllbgjaaGreatDoorQG4
import Derived.Test.YtfemmnhfllbgjaaGreatDoorQG2
import Derived.Deep.DeepCutAuto
import Derived.OpenShut
import Derived.ChangeOld
/- Two tenants in one row, as the laws draw them; a list of tenants that reads so whatever the cursor does. -/
namespace Go.Proofs.YtfemmnhfllbgjaaGreatDoor
open Go.RowKit
set_option maxRecDepth 100000
set_option linter.unusedSimpArgs false
set_option linter.unusedVariables false
/-- It reads so, however the cursor (block g) moves on and whatever is made. -/
def StR (g : Nat) (u : World) (v : Value) (L : List TenantD) : Prop := ∀ u', Moves g u u' → RdR tenantS u' v L
theorem StR.rd {g : Nat} {u : World} {v : Value} {L : List TenantD} (h : StR g u v L) : RdR tenantS u v L := h u (Moves.refl _ _)
theorem StR.moves {g : Nat} {u u' : World} {v : Value} {L : List TenantD} (h : StR g u v L) (hm : Moves g u u') : StR g u' v L := fun x hx => h x (hm.trans hx)
def tcs (t : TenantD × Value) : List Value := [.string t.1.nm, .string t.1.key, t.2, .int .i64 t.1.quota]
def smT (d : TenantD) : Prop := d.nm.size ≤ 100 ∧ d.key.size ≤ 100 ∧ d.list.length ≤ 21
theorem ls_set {u : World} {base g b j : Nat} {v y : Value} {L : List ByteArray} {cs : List Value} (h : LsAt u base g v L) (hr : RowIs u b 32 cs) : LsAt (u.setCell ⟨b, j, none⟩ y) base g v L := by
  refine ⟨owns_apart h.own _ _ (fun e => ?_), h.lt, h.small⟩
  rcases h.own.2 with ⟨rfl, _⟩ | ⟨q, cap, cur, rfl, _, hq, _⟩
  · simp [Value.ownBlock] at e
  · simp [Value.ownBlock] at e
    subst e
    have h' : u.heap[q]? = some (.cells cs.toArray 32 (0, 0)) := hr
    rw [h'] at hq
    simp at hq
theorem ls_base {u : World} {base base' g : Nat} {v : Value} {L : List ByteArray} (h : LsAt u base g v L) (h1 : base' ≤ base) (h2 : g < base') : LsAt u base' g v L := ⟨owns_base h.own (fun k hk => by have := (h.own.lt k hk).1; omega), h2, h.small⟩
theorem ls_grown {u u' : World} {base g : Nat} {v s : Value} {L : List ByteArray} {b n : Nat} {xs : List Value} (h : LsAt u base g v L) (ho : u.ownsRow b 32 4 s n xs) (hg : u.grownBy u' s.ownBlock) : LsAt u' base g v L := by
  refine ⟨h.own.kept hg ?_, h.lt, h.small⟩
  cases hv : v.ownBlock with
  | none => exact .inl rfl
  | some q =>
    refine .inr (fun e => ?_)
    rcases h.own.2 with ⟨rfl, _⟩ | ⟨q1, cap, cur, rfl, _, hq, _⟩
    · simp [Value.ownBlock] at hv
    rcases ho.2 with ⟨rfl, _⟩ | ⟨q2, cap2, cur2, rfl, _, hq2, _⟩
    · simp [Value.ownBlock] at e
    simp [Value.ownBlock] at hv e
    subst hv e
    rw [hq] at hq2
    simp at hq2
theorem st_of {g base : Nat} {u : World} {v : Value} (T : List (TenantD × Value)) (hr : ∀ u', Moves g u u' → Reads u' v T.length 4 (T.flatMap tcs)) (hl : ∀ t ∈ T, LsAt u base g t.2 t.1.list ∧ smT t.1) : StR g u v (T.map (·.1)) := by
  intro u' hm
  refine ⟨T.map (fun t => (tcs t, t.1)), by simp, ?_, ?_⟩
  · have := hr u' hm
    simp only [List.length_map, List.flatMap_map]
    exact this
  · intro t ht
    obtain ⟨x, hx, rfl⟩ := List.mem_map.1 ht
    obtain ⟨h1, h2, h3, _⟩ := hl x hx
    exact ⟨x.2, rfl, (by show x.1.nm.size ≤ _; omega), (by show x.1.key.size ≤ _; omega), (h1.moves hm).owx.rd⟩
/-- Two tenants in the row of block b, each with a list of its own. -/
structure TwoAt (u : World) (base g b : Nat) (t0 t1 : TenantD × Value) : Prop where
  row : RowIs u b 32 (tcs t0 ++ tcs t1)
  l0 : LsAt u base g t0.2 t0.1.list
  l1 : LsAt u base g t1.2 t1.1.list
  s0 : smT t0.1
  s1 : smT t1.1
  hb : base ≤ b
theorem TwoAt.moves {u u' : World} {base g b : Nat} {t0 t1 : TenantD × Value} (h : TwoAt u base g b t0 t1) (hm : Moves g u u') : TwoAt u' base g b t0 t1 :=
  ⟨h.row.moves hm (by have := h.l0.lt; have := h.hb; omega), h.l0.moves hm, h.l1.moves hm, h.s0, h.s1, h.hb⟩
theorem TwoAt.new {u u' : World} {base g b : Nat} {t0 t1 : TenantD × Value} (h : TwoAt u base g b t0 t1) (hb : Below u.heap.size u u') : TwoAt u' base g b t0 t1 :=
  ⟨h.row.new hb, h.l0.new hb, h.l1.new hb, h.s0, h.s1, h.hb⟩
theorem TwoAt.set {u : World} {base g b : Nat} {t0 t1 : TenantD × Value} (h : TwoAt u base g b t0 t1) (j : Nat) (y : Value) (t0' t1' : TenantD × Value) (hc : (tcs t0 ++ tcs t1).set j y = tcs t0' ++ tcs t1')
    (h0 : LsAt u base g t0'.2 t0'.1.list) (h1 : LsAt u base g t1'.2 t1'.1.list) (s0 : smT t0'.1) (s1 : smT t1'.1) : TwoAt (u.setCell ⟨b, j, none⟩ y) base g b t0' t1' :=
  ⟨by have := h.row.set j y; rw [hc] at this; exact this, ls_set h0 h.row, ls_set h1 h.row, s0, s1, h.hb⟩
theorem reads_row {u : World} {b : Nat} {e : TypeId} {cs : List Value} (h : RowIs u b e cs) (o n : Nat) (xs : List Value) (hx : xs.length = n * 4) (hn : n ≤ 1000) (hc : ∀ j x, xs[j]? = some x → cs[o + j]? = some x) : Reads u (.slice (some ⟨b, o, none⟩) n n) n 4 xs :=
  ⟨hx, _, _, rfl, Nat.le_refl _, by unfold maxLen; omega, fun _ => ⟨b, o, rfl, h.lt, fun r y hy => h.cell (hc r y hy)⟩⟩
theorem TwoAt.reads0 {u : World} {base g b : Nat} {t0 t1 : TenantD × Value} (h : TwoAt u base g b t0 t1) : Reads u (.slice (some ⟨b, 0, none⟩) 2 2) 2 4 ([t0, t1].flatMap tcs) :=
  reads_row h.row 0 2 _ rfl (by omega) (fun j x hj => by simpa using hj)
theorem TwoAt.reads1 {u : World} {base g b : Nat} {t0 t1 : TenantD × Value} (h : TwoAt u base g b t0 t1) : Reads u (.slice (some ⟨b, 4, none⟩) 1 1) 1 4 ([t1].flatMap tcs) :=
  reads_row h.row 4 1 _ rfl (by omega) (fun j x hj => by
    rw [List.getElem?_append_right (by simp [tcs])]
    simp only [List.flatMap_cons, List.flatMap_nil, List.append_nil] at hj
    rw [show 4 + j - (tcs t0).length = j by simp [tcs]]; exact hj)
theorem TwoAt.st0 {u : World} {base g b : Nat} {t0 t1 : TenantD × Value} (h : TwoAt u base g b t0 t1) : StR g u (.slice (some ⟨b, 0, none⟩) 2 2) [t0.1, t1.1] :=
  st_of [t0, t1] (fun u' hm => (h.moves hm).reads0) (fun t ht => by
    simp at ht
    rcases ht with rfl | rfl
    · exact ⟨h.l0, h.s0⟩
    · exact ⟨h.l1, h.s1⟩)
theorem TwoAt.st1 {u : World} {base g b : Nat} {t0 t1 : TenantD × Value} (h : TwoAt u base g b t0 t1) : StR g u (.slice (some ⟨b, 4, none⟩) 1 1) [t1.1] :=
  st_of [t1] (fun u' hm => (h.moves hm).reads1) (fun t ht => by
    simp at ht
    subst ht
    exact ⟨h.l1, h.s1⟩)
set_option maxHeartbeats 1000000 in
theorem two15 (g : Nat) (w : World) (hg : g < w.heap.size) :
    Calls Tryz.prog 57 #[] w fun e w' => ∃ (b : Nat) (t0 t1 : TenantD × Value), e = .returned (.slice (some ⟨b, 0, none⟩) 2 2) ∧ TwoAt w' w.heap.size g b t0 t1 ∧ Below w.heap.size w w' := by
  go_enter Tryz.func57, Tryz.ntmps57
  go_wp2_with fail
  go_ret
  have h1 := owns_lit w 9 1 2 #[.string ⟨#[97, 46, 120]⟩, .string ⟨#[42, 46, 121]⟩] rfl (by omega)
  have h2 := owns_lit (w.alloc (.cells #[.string ⟨#[97, 46, 120]⟩, .string ⟨#[42, 46, 121]⟩] 9)) 9 1 1 #[.string ⟨#[42]⟩] rfl (by omega)
  have s0 : smT (⟨⟨#[97, 110, 110, 97]⟩, ⟨#[107, 49]⟩, [⟨#[97, 46, 120]⟩, ⟨#[42, 46, 121]⟩], 1⟩ : TenantD) := ⟨by decide, by decide, by decide⟩
  have s1 : smT (⟨⟨#[98, 101, 114, 116]⟩, ⟨#[107, 50]⟩, [⟨#[42]⟩], 2⟩ : TenantD) := ⟨by decide, by decide, by decide⟩
  have a0 : ∀ x ∈ (⟨⟨#[97, 110, 110, 97]⟩, ⟨#[107, 49]⟩, [⟨#[97, 46, 120]⟩, ⟨#[42, 46, 121]⟩], 1⟩ : TenantD).list, x.size ≤ 61 := by decide
  have a1 : ∀ x ∈ (⟨⟨#[98, 101, 114, 116]⟩, ⟨#[107, 50]⟩, [⟨#[42]⟩], 2⟩ : TenantD).list, x.size ≤ 61 := by decide
  refine ⟨_, ((⟨⟨#[97, 110, 110, 97]⟩, ⟨#[107, 49]⟩, [⟨#[97, 46, 120]⟩, ⟨#[42, 46, 121]⟩], 1⟩ : TenantD), .slice (some ⟨w.heap.size, 0, none⟩) 2 2), ((⟨⟨#[98, 101, 114, 116]⟩, ⟨#[107, 50]⟩, [⟨#[42]⟩], 2⟩ : TenantD), .slice (some ⟨w.heap.size + 1, 0, none⟩) 1 1), rfl, ⟨?_, ⟨?_, hg, a0⟩, ⟨?_, hg, a1⟩, s0, s1, by omega⟩, (by repeat' (first | (with_reducible exact Below.refl _ _) | (with_reducible refine Below.drew ?_) | (with_reducible refine bo_drewN _ ?_) | (with_reducible refine bo_alloc ?_ _) | (refine bchain ?_ (by with_reducible assumption)) | (with_reducible refine Below.setCell ?_ ?_ _) | go_size))⟩
  · have := rowIs_new ((w.alloc (.cells #[.string ⟨#[97, 46, 120]⟩, .string ⟨#[42, 46, 121]⟩] 9)).alloc (.cells #[.string ⟨#[42]⟩] 9)) 32 (tcs ((⟨⟨#[97, 110, 110, 97]⟩, ⟨#[107, 49]⟩, [⟨#[97, 46, 120]⟩, ⟨#[42, 46, 121]⟩], 1⟩ : TenantD), .slice (some ⟨w.heap.size, 0, none⟩) 2 2) ++ tcs ((⟨⟨#[98, 101, 114, 116]⟩, ⟨#[107, 50]⟩, [⟨#[42]⟩], 2⟩ : TenantD), .slice (some ⟨w.heap.size + 1, 0, none⟩) 1 1))
    simp at this
    exact this
  · exact (h1.alloc _).alloc _
  · have h3 := owns_base (h2.alloc (.cells #[.string ⟨#[97, 110, 110, 97]⟩, .string ⟨#[107, 49]⟩, .slice (some ⟨w.heap.size, 0, none⟩) 2 2, .int .i64 1, .string ⟨#[98, 101, 114, 116]⟩, .string ⟨#[107, 50]⟩, .slice (some ⟨w.heap.size + 1, 0, none⟩) 1 1, .int .i64 2] 32)) (base' := w.heap.size) (fun k hk => by have := (h2.lt k hk).1; simp at this; omega)
    simpa using h3
end Go.Proofs.YtfemmnhfllbgjaaGreatDoor
/- Chapter 15's program: whether tenants are right, where each name is (a map), a tenant in memory of its own. -/
namespace Go.Proofs.YtfemmnhfllbgjaaGreatDoor
open Go.RowKit
set_option maxRecDepth 100000
set_option linter.unusedSimpArgs false
set_option linter.unusedVariables false
set_option maxHeartbeats 2000000 in
theorem implTenantsOk (L : List TenantD) (v : Value) (w : World) (hr : RdR tenantS w v L) : Calls Tryz.prog 15 #[v] w fun x w' => x = .returned (.bool (okTs L)) ∧ Below w.heap.size w w' := by
  obtain ⟨ad, cap, rfl, h1, h2⟩ := hr.form
  obtain ⟨A, hA⟩ : ∃ A, okTs L = A := ⟨_, rfl⟩
  rw [hA]
  have HA : Hid (A = (decide (L.length ≤ 8) && (decide (numT15 L = L.length) && risT L))) := by show A = _; rw [← hA, okTs_way]
  have HR := hide hr
  clear hA hr
  by_cases h8 : (8 : Int) < L.length
  · have HV : Hid (A = false) := by show A = _; rw [HA.out, decide_eq_false (by omega)]; rfl
    go_enter Tryz.func15, Tryz.ntmps15
    go_wp2_with fail
    go_ret
    exact ⟨by rw [HV.out]; rfl, (by repeat' (first | (with_reducible exact Below.refl _ _) | (with_reducible refine Below.drew ?_) | (with_reducible refine bo_drewN _ ?_) | (with_reducible refine bo_alloc ?_ _) | (refine bchain ?_ (by with_reducible assumption)) | (with_reducible refine Below.setCell ?_ ?_ _) | go_size))⟩
  have hL8 : L.length ≤ 8 := by omega
  have hbF : Below w.heap.size w (w.alloc (.cells #[.func (.func 42) #[] #[]] 64)) := (Below.refl _ _).alloc (Nat.le_refl _) _
  have hF : (w.alloc (.cells #[.func (.func 42) #[] #[]] 64)).cell? ⟨w.heap.size, 0, none⟩ = some (.func (.func 42) #[] #[]) := (rowIs_new w 64 [.func (.func 42) #[] #[]]).cell (j := 0) rfl
  have hO := implOnlyT L (.slice ad L.length cap) w.heap.size _ (HR.out.new hbF) hF (by simp) hL8
  have hRs := fun w h => implRisesT L (.slice ad L.length cap) w h hL8
  have hnl := num_le L
  have HB := hide hbF
  clear hbF hF
  obtain ⟨N, hN⟩ : ∃ N, numT15 L = N := ⟨_, rfl⟩
  rw [hN] at hO HA hnl
  clear hN
  by_cases hq : N = L.length
  · subst hq
    have HV : Hid (A = risT L) := by show A = _; rw [HA.out, decide_eq_true hL8]; simp
    go_enter Tryz.func15, Tryz.ntmps15
    go_wp2_with fail
    refine hO.mono ?_; rintro e w1 ⟨a1, p1, rfl, q1, q2, hb1⟩
    replace HB := hide (bchain HB.out hb1)
    clear hb1 hO
    go_wp2_with fail
    refine (hRs _ (HR.out.new HB.out)).mono ?_; rintro e w2 ⟨rfl, hb2⟩
    replace HB := hide (bchain HB.out hb2)
    clear hb2
    go_wp2_with fail
    go_ret
    exact ⟨by rw [HV.out]; rfl, HB.out⟩
  · have HV : Hid (A = false) := by show A = _; rw [HA.out, decide_eq_false hq]; simp
    have hqI : ¬ (N : Int) = L.length := by omega
    have hqB : ((N : Int) == (L.length : Int)) = false := by simpa using hqI
    go_enter Tryz.func15, Tryz.ntmps15
    go_wp2_with fail
    refine hO.mono ?_; rintro e w1 ⟨a1, p1, rfl, q1, q2, hb1⟩
    replace HB := hide (bchain HB.out hb1)
    clear hb1 hO
    go_wp2_with fail
    go_ret
    exact ⟨by rw [HV.out]; rfl, HB.out⟩
set_option maxHeartbeats 4000000 in
theorem implPlacesBy (L : List TenantD) (v : Value) (w : World) (hr : RdR tenantS w v L) (hok : okTs L = true) : Calls Tryz.prog 32 #[v] w fun x w' => ∃ g, x = .returned (.map (some g)) ∧ MapStr w' g (fun name => if 0 ≤ atV L name then some (atV L name) else none) ∧ Below w.heap.size w w' := by
  obtain ⟨ad, cap, rfl, h1, h2⟩ := hr.form
  have HR := hide hr
  have HST := hide (fun k hk => plN_step hok (k := k) hk)
  have hl8 := (okTs_iff.1 hok).1
  clear hr hok
  have hmm := fun n w => ms_make n w
  have hbM : Below w.heap.size w (w.alloc (.map #[] 0)) := (Below.refl _ _).alloc (Nat.le_refl _) _
  have HM0 : Hid (MapStr (w.alloc (.map #[] 0)) w.heap.size (plN L 0)) := (ms_made w).ext (fun s => (plN_zero L s).symm)
  have HB0 := hide hbM
  clear hbM
  go_enter Tryz.func32, Tryz.ntmps32
  go_wp2_with fail
  go_loopw [11, 4, 5] (fun i _ _ wr => ∃ (k : Nat), i = .int .i64 k ∧ k ≤ L.length ∧ Hid (MapStr wr w.heap.size (plN L k)) ∧ Hid (Below w.heap.size w wr)) (fun i _ _ _ => L.length - (intOf i).toNat)
  case atStart => exact ⟨0, rfl, Nat.zero_le _, HM0, HB0⟩
  case round =>
    clear HM0 HB0
    obtain ⟨k, rfl, hk, HM, HB⟩ := hrel
    by_cases hlt : k < L.length
    · obtain ⟨b, o, al, pl, rfl, hbw, c0, c1, c2, c3, f0, f1, hls, q1, q2⟩ := ten_at (HR.out.new HB.out) hlt
      have HS := hide (HST.out k hlt)
      obtain ⟨x, hx⟩ : ∃ x, tn L k = x := ⟨_, rfl⟩
      rw [hx] at c0 c1 c2 c3 q1 HS
      have hltI : (k : Int) < L.length := by omega
      clear hx hls f0 f1
      have hX : Below wr.heap.size wr (wr.alloc (.cells #[.string x.nm, .string x.key, .slice al x.list.length pl, .int .i64 x.quota] 32)) := (Below.refl _ _).alloc (Nat.le_refl _) _
      have RX := rowIs_new wr 32 [.string x.nm, .string x.key, .slice al x.list.length pl, .int .i64 x.quota]
      have HMX := HM.out.new hX
      have HBX := bchain HB.out hX
      have hgl := HM.out.lt
      go_upto_region 5 with fail
      clear hX c0 c1 c2 c3 hbw HM HB
      generalize wr.heap.size = ge at *
      generalize wr.alloc (.cells #[.string x.nm, .string x.key, .slice al x.list.length pl, .int .i64 x.quota] 32) = X at *
      obtain ⟨w2, hr2, M2, g2⟩ := ms_update HMX x.nm k HS.out.1
      have x0 := RX.cell (j := 0) rfl
      have xl := RX.lt
      have HM2 := hide (M2.ext HS.out.2)
      have HB2 := hide (HBX.grown g2 HBX.size (fun q hq => by cases hq; exact Nat.le_refl _))
      clear HMX HBX RX M2 g2 HS
      go_wp2_with fail
      go_roundw
      case rel => exact ⟨k + 1, by go_num, by omega, HM2, HB2⟩
      case measure => simp [intOf]; omega
    · have hltI : ¬ (k : Int) < L.length := by omega
      go_wp2_with fail
      go_ret
      exact ⟨_, rfl, HM.out.ext (fun s => plN_end (by omega) s), HB.out⟩
set_option maxHeartbeats 4000000 in
theorem implTApart (d : TenantD) (a : Option Addr) (p : Nat) (w : World) (hl : RdR strS w (.slice a d.list.length p) d.list) (h0 : d.nm.size ≤ 1000) (h1 : d.key.size ≤ 1000) (h2 : d.list.length ≤ 20) (h3 : ∀ s ∈ d.list, s.size ≤ 60) :
    Calls Tryz.prog 33 #[.agg #[.string d.nm, .string d.key, .slice a d.list.length p, .int .i64 d.quota]] w fun x w' => ∃ a' p', x = .returned (.agg #[.string d.nm, .string d.key, .slice a' d.list.length p', .int .i64 d.quota]) ∧ OwX strS w' w.heap.size w'.heap.size (.slice a' d.list.length p') d.list ∧ Below w.heap.size w w' := by
  obtain ⟨dn, dk, dl, dq⟩ := d
  dsimp only at hl h0 h1 h2 h3 ⊢
  have H3 := hide h3
  have cN := fun w => clone dn w (by omega)
  have cK := fun w => clone dk w (by omega)
  obtain ⟨_, _, hq, q1, q2⟩ := hl.form
  simp only [Value.slice.injEq] at hq
  obtain ⟨rfl, -, rfl⟩ := hq
  have hX : Below w.heap.size w (w.alloc (.cells #[.string dn, .string dk, .slice a dl.length p, .int .i64 dq] 32)) := (Below.refl _ _).alloc (Nat.le_refl _) _
  have hY : Below (w.alloc (.cells #[.string dn, .string dk, .slice a dl.length p, .int .i64 dq] 32)).heap.size (w.alloc (.cells #[.string dn, .string dk, .slice a dl.length p, .int .i64 dq] 32)) ((w.alloc (.cells #[.string dn, .string dk, .slice a dl.length p, .int .i64 dq] 32)).alloc (.cells #[.string ⟨#[]⟩, .string ⟨#[]⟩, .slice none 0 0, .int .i64 0] 32)) := (Below.refl _ _).alloc (Nat.le_refl _) _
  have R1 := (rowIs_new w 32 [.string dn, .string dk, .slice a dl.length p, .int .i64 dq]).new hY
  have R2 := rowIs_new (w.alloc (.cells #[.string dn, .string dk, .slice a dl.length p, .int .i64 dq] 32)) 32 [.string ⟨#[]⟩, .string ⟨#[]⟩, .slice none 0 0, .int .i64 0]
  have HB1 := hide (bchain hX hY)
  have HL1 := hide (hl.new HB1.out)
  have hs1 : ((w.alloc (.cells #[.string dn, .string dk, .slice a dl.length p, .int .i64 dq] 32)).alloc (.cells #[.string ⟨#[]⟩, .string ⟨#[]⟩, .slice none 0 0, .int .i64 0] 32)).heap.size = w.heap.size + 2 := by simp
  have hs0 : (w.alloc (.cells #[.string dn, .string dk, .slice a dl.length p, .int .i64 dq] 32)).heap.size = w.heap.size + 1 := by simp
  rw [hs0] at R2
  have HLW := hide hl
  clear hX hY hl h3 hs0
  go_enter Tryz.func33, Tryz.ntmps33
  go_upto_region 1 with fail
  generalize (w.alloc (.cells #[.string dn, .string dk, .slice a dl.length p, .int .i64 dq] 32)).alloc (.cells #[.string ⟨#[]⟩, .string ⟨#[]⟩, .slice none 0 0, .int .i64 0] 32) = w1 at *
  go_cut [3] (fun x wc => ∃ g, x = .pointer (some ⟨g, 0, none⟩) ∧ w1.heap.size ≤ g ∧ RowIs wc g 32 [.string dn, .string dk, .slice none 0 0, .int .i64 dq] ∧ Below w1.heap.size w1 wc)
  case first =>
    go_wp2_with fail
    refine wp_region_held_drew (S := (fun u => Below w1.heap.size w1 u)) (by kernel_rfl) ((Below.refl _ _).drew) (fun hS => ?_)
    generalize World.drew w1 = w9 at hS ⊢
    refine wpAnyH_take (i := 0) (v := ?_) rfl (by kernel_rfl) (by kernel_rfl) (by kernel_rfl) (fun _ _ _ h => h) (Or.inl ⟨by kernel_rfl, ?_⟩) hS ?_; rotate_left; focus (intro uu hu; clear hu; go_simp; try with_reducible rfl)
    try simp only [Act.put, List.getElem_toArray, List.getElem_cons_succ, List.getElem_cons_zero, List.setIfInBounds_toArray, List.set_cons_zero, List.set_cons_succ]
    refine wpAnyH_take (i := 1) (v := .string dn) rfl (by kernel_rfl) (by kernel_rfl) (by kernel_rfl) (fun _ _ _ h => h) (Or.inl ⟨by kernel_rfl, ?ld⟩) hS ?_; case ld => (intro uu hu; have R := R1.new hu; have x0 := RowIs.cell (j := 0) R rfl; have x1 := RowIs.cell (j := 1) R rfl; have x2 := RowIs.cell (j := 2) R rfl; have x3 := RowIs.cell (j := 3) R rfl; have x9 := fun j => RowIs.frozen R j; have x8 := R.lt; clear hu; go_simp)
    try simp only [Act.put, List.getElem_toArray, List.getElem_cons_succ, List.getElem_cons_zero, List.setIfInBounds_toArray, List.set_cons_zero, List.set_cons_succ]
    refine wpAnyH_take (i := 3) (v := ?_) rfl (by kernel_rfl) (by kernel_rfl) (by kernel_rfl) (fun _ _ _ h => h) (Or.inl ⟨by kernel_rfl, ?_⟩) hS ?_; rotate_left; focus (intro uu hu; clear hu; go_simp; try with_reducible rfl)
    try simp only [Act.put, List.getElem_toArray, List.getElem_cons_succ, List.getElem_cons_zero, List.setIfInBounds_toArray, List.set_cons_zero, List.set_cons_succ]
    refine wpAnyH_take (i := 4) (v := .string dk) rfl (by kernel_rfl) (by kernel_rfl) (by kernel_rfl) (fun _ _ _ h => h) (Or.inl ⟨by kernel_rfl, ?ld⟩) hS ?_; case ld => (intro uu hu; have R := R1.new hu; have x0 := RowIs.cell (j := 0) R rfl; have x1 := RowIs.cell (j := 1) R rfl; have x2 := RowIs.cell (j := 2) R rfl; have x3 := RowIs.cell (j := 3) R rfl; have x9 := fun j => RowIs.frozen R j; have x8 := R.lt; clear hu; go_simp)
    try simp only [Act.put, List.getElem_toArray, List.getElem_cons_succ, List.getElem_cons_zero, List.setIfInBounds_toArray, List.set_cons_zero, List.set_cons_succ]
    refine wpAnyH_take (i := 6) (v := ?_) rfl (by kernel_rfl) (by kernel_rfl) (by kernel_rfl) (fun _ _ _ h => h) (Or.inl ⟨by kernel_rfl, ?_⟩) hS ?_; rotate_left; focus (intro uu hu; clear hu; go_simp; try with_reducible rfl)
    try simp only [Act.put, List.getElem_toArray, List.getElem_cons_succ, List.getElem_cons_zero, List.setIfInBounds_toArray, List.set_cons_zero, List.set_cons_succ]
    refine wpAnyH_take (i := 7) (v := .int .i64 dq) rfl (by kernel_rfl) (by kernel_rfl) (by kernel_rfl) (fun _ _ _ h => h) (Or.inl ⟨by kernel_rfl, ?ld⟩) hS ?_; case ld => (intro uu hu; have R := R1.new hu; have x0 := RowIs.cell (j := 0) R rfl; have x1 := RowIs.cell (j := 1) R rfl; have x2 := RowIs.cell (j := 2) R rfl; have x3 := RowIs.cell (j := 3) R rfl; have x9 := fun j => RowIs.frozen R j; have x8 := R.lt; clear hu; go_simp)
    try simp only [Act.put, List.getElem_toArray, List.getElem_cons_succ, List.getElem_cons_zero, List.setIfInBounds_toArray, List.set_cons_zero, List.set_cons_succ]
    refine wpAnyH_ready (rs := [2, 9]) (by kernel_rfl) (by simp) ?_
    refine (AllReadyH.cons rfl (fun K hK => ?_) (AllReadyH.cons rfl (fun K hK => ?_) AllReadyH.nil))
    · skip
      rw [if_pos (by kernel_rfl)]
      go_simp
      refine (cN _).mono ?_; rintro e u1 ⟨rfl, hbu1⟩
      refine hK.out _ _ (bchain hS hbu1) (fun hS => ?_)
      clear hK K
      try simp only [Act.put, List.getElem_toArray, List.getElem_cons_succ, List.getElem_cons_zero, List.setIfInBounds_toArray, List.set_cons_zero, List.set_cons_succ]
      refine wpAnyH_ready (rs := [5, 9]) (by kernel_rfl) (by simp) ?_
      refine (AllReadyH.cons rfl (fun K hK => ?_) (AllReadyH.cons rfl (fun K hK => ?_) AllReadyH.nil))
      · skip
        rw [if_pos (by kernel_rfl)]
        go_simp
        refine (cK _).mono ?_; rintro e u2 ⟨rfl, hbu2⟩
        refine hK.out _ _ (bchain hS hbu2) (fun hS => ?_)
        clear hK K
        try simp only [Act.put, List.getElem_toArray, List.getElem_cons_succ, List.getElem_cons_zero, List.setIfInBounds_toArray, List.set_cons_zero, List.set_cons_succ]
        refine wpAnyH_take (i := 8) (v := .agg #[.string dn, .string dk, .slice none 0 0, .int .i64 dq]) rfl (by kernel_rfl) (by kernel_rfl) (by kernel_rfl) (fun _ _ _ h => h) (Or.inl ⟨by kernel_rfl, ?ld⟩) hS ?_; case ld => (intro uu hu; clear hu; go_simp)
        try simp only [Act.put, List.getElem_toArray, List.getElem_cons_succ, List.getElem_cons_zero, List.setIfInBounds_toArray, List.set_cons_zero, List.set_cons_succ]
        refine wpAnyH_ready (rs := [9]) (by kernel_rfl) (by simp) ?_
        refine (AllReadyH.cons rfl (fun K hK => ?_) AllReadyH.nil)
        rw [if_pos (by kernel_rfl)]
        go_simp
        obtain ⟨u3, hu3⟩ : ∃ u, u2.alloc (.cells #[.string ⟨#[]⟩, .string ⟨#[]⟩, .slice none 0 0, .int .i64 0] 32) = u := ⟨_, rfl⟩
        have hbu3 : Below u2.heap.size u2 u3 := by rw [← hu3]; exact (Below.refl _ _).alloc (Nat.le_refl _) _
        obtain ⟨g, hgu3⟩ : ∃ g, g = u2.heap.size := ⟨_, rfl⟩
        have HT : Hid (RowIs u3 g 32 [.string ⟨#[]⟩, .string ⟨#[]⟩, .slice none 0 0, .int .i64 0]) := by show _; rw [← hu3, hgu3]; exact rowIs_new _ _ _
        have hgl : w1.heap.size ≤ g := by have := hS.size; omega
        rw [hu3, ← hgu3]
        clear hu3 hgu3
        refine hK.out _ _ (bchain hS hbu3) (fun hS => ?_)
        clear hK K hbu3
        try simp only [Act.put, List.getElem_toArray, List.getElem_cons_succ, List.getElem_cons_zero, List.setIfInBounds_toArray, List.set_cons_zero, List.set_cons_succ]
        refine wpAnyH_ready (rs := [10]) (by kernel_rfl) (by simp) ?_
        refine (AllReadyH.cons rfl (fun K hK => ?_) AllReadyH.nil)
        rw [if_pos (by kernel_rfl)]
        have R5 := hide (rowIs_setRow (cs' := [.string dn, .string dk, .slice none 0 0, .int .i64 dq]) HT.out)
        have hS2 := below_setRow hS hgl #[.string dn, .string dk, .slice none 0 0, .int .i64 dq]
        refine wp_store_row 32 (.tmp 3) (.tmp 14) rfl g #[.string dn, .string dk, .slice none 0 0, .int .i64 dq] rfl rfl 32 #[.string ⟨#[]⟩, .string ⟨#[]⟩, .slice none 0 0, .int .i64 0] HT.out (by kernel_rfl) rfl (by simp [Value.oneCell']) ?_
        refine hK.out _ _ hS2 (fun hS => ?_)
        clear hK K hS
        try simp only [Act.put, List.getElem_toArray, List.getElem_cons_succ, List.getElem_cons_zero, List.setIfInBounds_toArray, List.set_cons_zero, List.set_cons_succ]
        refine wpAnyH_done (by kernel_rfl) ?_ _
        go_wp2_with fail
        go_meet
        exact ⟨g, rfl, hgl, R5.out, hS2⟩
      · skip
        rw [if_pos (by kernel_rfl)]
        go_simp
        obtain ⟨u4, hu4⟩ : ∃ u, u1.alloc (.cells #[.string ⟨#[]⟩, .string ⟨#[]⟩, .slice none 0 0, .int .i64 0] 32) = u := ⟨_, rfl⟩
        have hbu4 : Below u1.heap.size u1 u4 := by rw [← hu4]; exact (Below.refl _ _).alloc (Nat.le_refl _) _
        obtain ⟨g, hgu4⟩ : ∃ g, g = u1.heap.size := ⟨_, rfl⟩
        have HT : Hid (RowIs u4 g 32 [.string ⟨#[]⟩, .string ⟨#[]⟩, .slice none 0 0, .int .i64 0]) := by show _; rw [← hu4, hgu4]; exact rowIs_new _ _ _
        have hgl : w1.heap.size ≤ g := by have := hS.size; omega
        rw [hu4, ← hgu4]
        clear hu4 hgu4
        refine hK.out _ _ (bchain hS hbu4) (fun hS => ?_)
        clear hK K hbu4
        try simp only [Act.put, List.getElem_toArray, List.getElem_cons_succ, List.getElem_cons_zero, List.setIfInBounds_toArray, List.set_cons_zero, List.set_cons_succ]
        refine wpAnyH_ready (rs := [5]) (by kernel_rfl) (by simp) ?_
        refine (AllReadyH.cons rfl (fun K hK => ?_) AllReadyH.nil)
        rw [if_pos (by kernel_rfl)]
        go_simp
        refine (cK _).mono ?_; rintro e u5 ⟨rfl, hbu5⟩
        replace HT := hide (HT.out.new hbu5)
        refine hK.out _ _ (bchain hS hbu5) (fun hS => ?_)
        clear hK K
        try simp only [Act.put, List.getElem_toArray, List.getElem_cons_succ, List.getElem_cons_zero, List.setIfInBounds_toArray, List.set_cons_zero, List.set_cons_succ]
        refine wpAnyH_take (i := 8) (v := .agg #[.string dn, .string dk, .slice none 0 0, .int .i64 dq]) rfl (by kernel_rfl) (by kernel_rfl) (by kernel_rfl) (fun _ _ _ h => h) (Or.inl ⟨by kernel_rfl, ?ld⟩) hS ?_; case ld => (intro uu hu; clear hu; go_simp)
        try simp only [Act.put, List.getElem_toArray, List.getElem_cons_succ, List.getElem_cons_zero, List.setIfInBounds_toArray, List.set_cons_zero, List.set_cons_succ]
        refine wpAnyH_ready (rs := [10]) (by kernel_rfl) (by simp) ?_
        refine (AllReadyH.cons rfl (fun K hK => ?_) AllReadyH.nil)
        rw [if_pos (by kernel_rfl)]
        have R5 := hide (rowIs_setRow (cs' := [.string dn, .string dk, .slice none 0 0, .int .i64 dq]) HT.out)
        have hS2 := below_setRow hS hgl #[.string dn, .string dk, .slice none 0 0, .int .i64 dq]
        refine wp_store_row 32 (.tmp 3) (.tmp 14) rfl g #[.string dn, .string dk, .slice none 0 0, .int .i64 dq] rfl rfl 32 #[.string ⟨#[]⟩, .string ⟨#[]⟩, .slice none 0 0, .int .i64 0] HT.out (by kernel_rfl) rfl (by simp [Value.oneCell']) ?_
        refine hK.out _ _ hS2 (fun hS => ?_)
        clear hK K hS
        try simp only [Act.put, List.getElem_toArray, List.getElem_cons_succ, List.getElem_cons_zero, List.setIfInBounds_toArray, List.set_cons_zero, List.set_cons_succ]
        refine wpAnyH_done (by kernel_rfl) ?_ _
        go_wp2_with fail
        go_meet
        exact ⟨g, rfl, hgl, R5.out, hS2⟩
    · skip
      rw [if_pos (by kernel_rfl)]
      go_simp
      obtain ⟨u6, hu6⟩ : ∃ u, w9.alloc (.cells #[.string ⟨#[]⟩, .string ⟨#[]⟩, .slice none 0 0, .int .i64 0] 32) = u := ⟨_, rfl⟩
      have hbu6 : Below w9.heap.size w9 u6 := by rw [← hu6]; exact (Below.refl _ _).alloc (Nat.le_refl _) _
      obtain ⟨g, hgu6⟩ : ∃ g, g = w9.heap.size := ⟨_, rfl⟩
      have HT : Hid (RowIs u6 g 32 [.string ⟨#[]⟩, .string ⟨#[]⟩, .slice none 0 0, .int .i64 0]) := by show _; rw [← hu6, hgu6]; exact rowIs_new _ _ _
      have hgl : w1.heap.size ≤ g := by have := hS.size; omega
      rw [hu6, ← hgu6]
      clear hu6 hgu6
      refine hK.out _ _ (bchain hS hbu6) (fun hS => ?_)
      clear hK K hbu6
      try simp only [Act.put, List.getElem_toArray, List.getElem_cons_succ, List.getElem_cons_zero, List.setIfInBounds_toArray, List.set_cons_zero, List.set_cons_succ]
      refine wpAnyH_ready (rs := [2]) (by kernel_rfl) (by simp) ?_
      refine (AllReadyH.cons rfl (fun K hK => ?_) AllReadyH.nil)
      rw [if_pos (by kernel_rfl)]
      go_simp
      refine (cN _).mono ?_; rintro e u7 ⟨rfl, hbu7⟩
      replace HT := hide (HT.out.new hbu7)
      refine hK.out _ _ (bchain hS hbu7) (fun hS => ?_)
      clear hK K
      try simp only [Act.put, List.getElem_toArray, List.getElem_cons_succ, List.getElem_cons_zero, List.setIfInBounds_toArray, List.set_cons_zero, List.set_cons_succ]
      refine wpAnyH_ready (rs := [5]) (by kernel_rfl) (by simp) ?_
      refine (AllReadyH.cons rfl (fun K hK => ?_) AllReadyH.nil)
      rw [if_pos (by kernel_rfl)]
      go_simp
      refine (cK _).mono ?_; rintro e u8 ⟨rfl, hbu8⟩
      replace HT := hide (HT.out.new hbu8)
      refine hK.out _ _ (bchain hS hbu8) (fun hS => ?_)
      clear hK K
      try simp only [Act.put, List.getElem_toArray, List.getElem_cons_succ, List.getElem_cons_zero, List.setIfInBounds_toArray, List.set_cons_zero, List.set_cons_succ]
      refine wpAnyH_take (i := 8) (v := .agg #[.string dn, .string dk, .slice none 0 0, .int .i64 dq]) rfl (by kernel_rfl) (by kernel_rfl) (by kernel_rfl) (fun _ _ _ h => h) (Or.inl ⟨by kernel_rfl, ?ld⟩) hS ?_; case ld => (intro uu hu; clear hu; go_simp)
      try simp only [Act.put, List.getElem_toArray, List.getElem_cons_succ, List.getElem_cons_zero, List.setIfInBounds_toArray, List.set_cons_zero, List.set_cons_succ]
      refine wpAnyH_ready (rs := [10]) (by kernel_rfl) (by simp) ?_
      refine (AllReadyH.cons rfl (fun K hK => ?_) AllReadyH.nil)
      rw [if_pos (by kernel_rfl)]
      have R5 := hide (rowIs_setRow (cs' := [.string dn, .string dk, .slice none 0 0, .int .i64 dq]) HT.out)
      have hS2 := below_setRow hS hgl #[.string dn, .string dk, .slice none 0 0, .int .i64 dq]
      refine wp_store_row 32 (.tmp 3) (.tmp 14) rfl g #[.string dn, .string dk, .slice none 0 0, .int .i64 dq] rfl rfl 32 #[.string ⟨#[]⟩, .string ⟨#[]⟩, .slice none 0 0, .int .i64 0] HT.out (by kernel_rfl) rfl (by simp [Value.oneCell']) ?_
      refine hK.out _ _ hS2 (fun hS => ?_)
      clear hK K hS
      try simp only [Act.put, List.getElem_toArray, List.getElem_cons_succ, List.getElem_cons_zero, List.setIfInBounds_toArray, List.set_cons_zero, List.set_cons_succ]
      refine wpAnyH_done (by kernel_rfl) ?_ _
      go_wp2_with fail
      go_meet
      exact ⟨g, rfl, hgl, R5.out, hS2⟩
  obtain ⟨g, rfl, hgl, R5, hbc⟩ := hcut
  have R3 := R1.new hbc
  have R4 := R2.new hbc
  have HLC := hide (HL1.out.new hbc)
  have HLB : Hid (∀ w' : World, Below w.heap.size w w' → RdR strS w' (.slice a dl.length p) dl) := fun w' hb => HLW.out.new hb
  have HB2 := hide (bchain HB1.out hbc)
  have hgw := R5.lt
  have hcs := hbc.size
  clear hbc HB1 HL1 R1 R2 cN cK
  rename_i wc
  have HR5 := hide R5; have HR4 := hide R4
  have k2 := R3.cell (j := 2) rfl
  have kl := R3.lt
  clear R5 R4 R3
  go_upto_region 3 with fail
  clear k2 kl
  go_loopw [18] (fun i wr => ∃ (k : Nat) (ab : Option Addr) (pb : Nat), i = .int .i64 (k : Int) ∧ k ≤ dl.length ∧ Hid (RowIs wr g 32 [.string dn, .string dk, .slice ab k pb, .int .i64 dq]) ∧ Hid (RowIs wr (w.heap.size + 1) 32 [.string ⟨#[]⟩, .string ⟨#[]⟩, .slice none 0 0, .int .i64 0]) ∧ Hid (wr.ownsRow wc.heap.size 9 1 (.slice ab k pb) k ((dl.take k).map Value.string)) ∧ Hid (RdR strS wr (.slice a dl.length p) dl) ∧ Hid (Below w.heap.size w wr) ∧ wc.heap.size ≤ wr.heap.size) (fun i _ => dl.length - (intOf i).toNat)
  case atStart => exact ⟨0, none, 0, rfl, Nat.zero_le _, HR5, HR4, World.ownsRow_nil _ _ _ _, HLC, HB2, Nat.le_refl _⟩
  case round =>
    clear HR5 HR4 HLC HB2
    obtain ⟨k, ab, pb, rfl, hk, HR5, HR4, HO, HLC, HB, hsz⟩ := hrel
    by_cases hlt : k < dl.length
    · have hltI : (k : Int) < dl.length := by omega
      obtain ⟨b, o, hae, hbw, c0, hzs⟩ := strs_at HLC.out hlt
      subst hae
      obtain ⟨s, hs⟩ : ∃ s, dl[k] = s := ⟨_, rfl⟩
      rw [hs] at c0
      have hs60 : s.size ≤ 60 := by rw [← hs]; exact H3.out _ (List.getElem_mem hlt)
      have HTK : Hid ((dl.take (k + 1)).map Value.string = (dl.take k).map Value.string ++ [.string s]) := by show _ = _; rw [← hs, List.take_succ_eq_append_getElem hlt, List.map_append]; rfl
      have cS := fun w => clone s w (by omega)
      clear hs hzs
      go_upto_region 5 with fail
      clear c0 hbw
      have hD : Below wr.heap.size wr (World.drew wr) := (Below.refl _ _).drew
      replace HR5 := hide (HR5.out.new hD)
      replace HR4 := hide (HR4.out.new hD)
      replace HO := hide (owns_new HO.out hD)
      replace HLC := hide (HLC.out.new hD)
      replace HB := hide (bchain HB.out hD)
      have HSZ := hide (Nat.le_trans hsz hD.size)
      clear hD hsz
      refine wp_region_any (by kernel_rfl) ?_; change wpAny _ _ _ _ _ _ _ (World.drew _)
      generalize World.drew wr = w9 at *
      refine wpAny_take (i := 0) (v := ?_) rfl (by kernel_rfl) (by kernel_rfl) (by kernel_rfl) (fun _ _ _ h => h) (Or.inl ⟨by rfl, ?_⟩) ?_; rotate_left; focus (intro uu; go_simp; try with_reducible rfl)
      try simp only [Act.put, List.getElem_toArray, List.getElem_cons_succ, List.getElem_cons_zero, List.setIfInBounds_toArray, List.set_cons_zero, List.set_cons_succ]
      refine wpAny_take (i := 2) (v := ?_) rfl (by kernel_rfl) (by kernel_rfl) (by kernel_rfl) (fun _ _ _ h => h) (Or.inl ⟨by rfl, ?_⟩) ?_; rotate_left; focus (intro uu; go_simp; try with_reducible rfl)
      try simp only [Act.put, List.getElem_toArray, List.getElem_cons_succ, List.getElem_cons_zero, List.setIfInBounds_toArray, List.set_cons_zero, List.set_cons_succ]
      refine wpAny_ready (rs := [1, 3]) (by kernel_rfl) (by simp) ?_
      refine (AllReady.cons rfl (fun K hK => ?_) (AllReady.cons rfl (fun K hK => ?_) AllReady.nil))
      · skip
        try rw [if_pos (by kernel_rfl)]
        have z2 := HR5.out.cell (j := 2) rfl
        have z8 := HR5.out.lt
        go_simp
        refine hK _ _ ?_; clear hK K
        clear z2 z8
        try simp only [Act.put, List.getElem_toArray, List.getElem_cons_succ, List.getElem_cons_zero, List.setIfInBounds_toArray, List.set_cons_zero, List.set_cons_succ]
        refine wpAny_ready (rs := [3]) (by kernel_rfl) (by simp) ?_
        refine (AllReady.cons rfl (fun K hK => ?_) AllReady.nil)
        try rw [if_pos (by kernel_rfl)]
        go_simp
        refine (cS _).mono ?_; rintro e u2 ⟨rfl, hbu2⟩
        replace HR5 := hide (HR5.out.new hbu2)
        replace HR4 := hide (HR4.out.new hbu2)
        replace HO := hide (owns_new HO.out hbu2)
        replace HLC := hide (HLC.out.new hbu2)
        replace HB := hide (bchain HB.out hbu2)
        replace HSZ := hide (Nat.le_trans HSZ.out hbu2.size)
        refine hK _ _ ?_; clear hK K hbu2
        try simp only [Act.put, List.getElem_toArray, List.getElem_cons_succ, List.getElem_cons_zero, List.setIfInBounds_toArray, List.set_cons_zero, List.set_cons_succ]
        refine wpAny_ready (rs := [4]) (by kernel_rfl) (by simp) ?_
        refine (AllReady.cons rfl (fun K hK => ?_) AllReady.nil)
        try rw [if_pos (by kernel_rfl)]
        go_simp
        obtain ⟨u3, hu3⟩ : ∃ u, u2.alloc (.cells #[.string s] 9) = u := ⟨_, rfl⟩
        have hbu3 : Below u2.heap.size u2 u3 := by rw [← hu3]; exact (Below.refl _ _).alloc (Nat.le_refl _) _
        replace HR5 := hide (HR5.out.new hbu3)
        replace HR4 := hide (HR4.out.new hbu3)
        replace HO := hide (owns_new HO.out hbu3)
        replace HLC := hide (HLC.out.new hbu3)
        replace HB := hide (bchain HB.out hbu3)
        replace HSZ := hide (Nat.le_trans HSZ.out hbu3.size)
        have HRD : Hid (Reads u3 (.slice (some ⟨(u2).heap.size, 0, none⟩) 1 1) 1 1 [.string s]) := by show _; rw [← hu3]; exact reads_of_owns (owns_lit u2 9 1 1 #[.string s] rfl (by omega))
        rw [hu3]
        clear hu3 hbu3
        refine hK _ _ ?_; clear hK K
        try simp only [Act.put, List.getElem_toArray, List.getElem_cons_succ, List.getElem_cons_zero, List.setIfInBounds_toArray, List.set_cons_zero, List.set_cons_succ]
        refine wpAny_ready (rs := [5]) (by kernel_rfl) (by simp) ?_
        refine (AllReady.cons rfl (fun K hK => ?_) AllReady.nil)
        refine step_app _ (by rfl) _ _ 30 (by rfl) 9 (.string ⟨#[]⟩) 1 16 Tryz.underlying30 (by kernel_rfl) rfl (by decide) wc.heap.size _ k ((dl.take k).map Value.string) (by rfl) HO.out _ 1 [.string s] (by rfl) HRD.out (by intro y hy; simp at hy; subst hy; rfl) (by omega) (by decide) HSZ.out ?_
        intro ad8 cap8 u4 hown8 hg8 hat8
        have HNB : Hid (∀ q, (Value.slice ab k pb).ownBlock = some q → wc.heap.size ≤ q) := fun q hq => (HO.out.lt q hq).1
        replace HR5 := hide (HR5.out.kept (hg8.block g HR5.out.lt (fun e => by have := HNB.out g e.symm; omega)))
        replace HR4 := hide (HR4.out.kept (hg8.block _ HR4.out.lt (fun e => by have := HNB.out _ e.symm; omega)))
        replace HB := hide (HB.out.grown hg8 HB.out.size (fun q hq => by have := HNB.out q hq; omega))
        replace HLC := hide (HLB.out u4 HB.out)
        have HO8 : Hid ((u4).ownsRow wc.heap.size 9 1 (.slice ad8 (k + 1) cap8) (k + 1) ((dl.take (k + 1)).map Value.string)) := by rw [HTK.out]; exact hown8
        replace HSZ := hide (Nat.le_trans HSZ.out hg8.size)
        have HN8 : Hid (∀ q, (Value.slice ad8 (k + 1) cap8).ownBlock = some q → wc.heap.size ≤ q) := fun q hq => (hown8.lt q hq).1
        refine hK _ _ ?_
        clear hK K hown8 hg8 hat8 HRD HO HTK HNB
        try simp only [Act.put, List.getElem_toArray, List.getElem_cons_succ, List.getElem_cons_zero, List.setIfInBounds_toArray, List.set_cons_zero, List.set_cons_succ]
        refine wpAny_take (i := 6) (v := ?_) rfl (by kernel_rfl) (by kernel_rfl) (by kernel_rfl) (fun _ _ _ h => h) (Or.inl ⟨by rfl, ?_⟩) ?_; rotate_left; focus (intro uu; go_simp; try with_reducible rfl)
        try simp only [Act.put, List.getElem_toArray, List.getElem_cons_succ, List.getElem_cons_zero, List.setIfInBounds_toArray, List.set_cons_zero, List.set_cons_succ]
        refine wpAny_ready (rs := [7]) (by kernel_rfl) (by simp) ?_
        refine (AllReady.cons rfl (fun K hK => ?_) AllReady.nil)
        try rw [if_pos (by kernel_rfl)]
        have z2 := HR5.out.cell (j := 2) rfl
        have z9 := HR5.out.frozen 2
        have z8 := HR5.out.lt
        go_simp
        clear z2 z9 z8
        replace HR5 := hide (HR5.out.set 2 (.slice ad8 (k + 1) cap8))
        replace HR4 := hide (HR4.out.far ⟨g, 2, none⟩ (.slice ad8 (k + 1) cap8) (by show g ≠ _; omega))
        replace HO8 := hide (owns_apart HO8.out ⟨g, 2, none⟩ (.slice ad8 (k + 1) cap8) (fun e => by have := HN8.out _ e; simp at this; omega))
        replace HB := hide (HB.out.setCell (p := ⟨g, 2, none⟩) (show w.heap.size ≤ g by omega) (.slice ad8 (k + 1) cap8))
        replace HLC := hide (HLB.out _ HB.out)
        replace HSZ : Hid (wc.heap.size ≤ ((u4).setCell ⟨g, 2, none⟩ (.slice ad8 (k + 1) cap8)).heap.size) := by show _ ≤ _; have := HSZ.out; simp; omega
        refine hK _ _ ?_; clear hK K
        try simp only [Act.put, List.getElem_toArray, List.getElem_cons_succ, List.getElem_cons_zero, List.setIfInBounds_toArray, List.set_cons_zero, List.set_cons_succ]
        refine wpAny_done (by kernel_rfl) ?_ _
        go_wp2_with fail
        go_roundw
        case rel => exact ⟨k + 1, ad8, cap8, by go_num, by omega, HR5, HR4, HO8, HLC, HB, HSZ.out⟩
        case measure => simp [intOf]; omega
      · skip
        try rw [if_pos (by kernel_rfl)]
        go_simp
        refine (cS _).mono ?_; rintro e u6 ⟨rfl, hbu6⟩
        replace HR5 := hide (HR5.out.new hbu6)
        replace HR4 := hide (HR4.out.new hbu6)
        replace HO := hide (owns_new HO.out hbu6)
        replace HLC := hide (HLC.out.new hbu6)
        replace HB := hide (bchain HB.out hbu6)
        replace HSZ := hide (Nat.le_trans HSZ.out hbu6.size)
        refine hK _ _ ?_; clear hK K hbu6
        try simp only [Act.put, List.getElem_toArray, List.getElem_cons_succ, List.getElem_cons_zero, List.setIfInBounds_toArray, List.set_cons_zero, List.set_cons_succ]
        refine wpAny_ready (rs := [1, 4]) (by kernel_rfl) (by simp) ?_
        refine (AllReady.cons rfl (fun K hK => ?_) (AllReady.cons rfl (fun K hK => ?_) AllReady.nil))
        · skip
          try rw [if_pos (by kernel_rfl)]
          have z2 := HR5.out.cell (j := 2) rfl
          have z8 := HR5.out.lt
          go_simp
          refine hK _ _ ?_; clear hK K
          clear z2 z8
          try simp only [Act.put, List.getElem_toArray, List.getElem_cons_succ, List.getElem_cons_zero, List.setIfInBounds_toArray, List.set_cons_zero, List.set_cons_succ]
          refine wpAny_ready (rs := [4]) (by kernel_rfl) (by simp) ?_
          refine (AllReady.cons rfl (fun K hK => ?_) AllReady.nil)
          try rw [if_pos (by kernel_rfl)]
          go_simp
          obtain ⟨u8, hu8⟩ : ∃ u, u6.alloc (.cells #[.string s] 9) = u := ⟨_, rfl⟩
          have hbu8 : Below u6.heap.size u6 u8 := by rw [← hu8]; exact (Below.refl _ _).alloc (Nat.le_refl _) _
          replace HR5 := hide (HR5.out.new hbu8)
          replace HR4 := hide (HR4.out.new hbu8)
          replace HO := hide (owns_new HO.out hbu8)
          replace HLC := hide (HLC.out.new hbu8)
          replace HB := hide (bchain HB.out hbu8)
          replace HSZ := hide (Nat.le_trans HSZ.out hbu8.size)
          have HRD : Hid (Reads u8 (.slice (some ⟨(u6).heap.size, 0, none⟩) 1 1) 1 1 [.string s]) := by show _; rw [← hu8]; exact reads_of_owns (owns_lit u6 9 1 1 #[.string s] rfl (by omega))
          rw [hu8]
          clear hu8 hbu8
          refine hK _ _ ?_; clear hK K
          try simp only [Act.put, List.getElem_toArray, List.getElem_cons_succ, List.getElem_cons_zero, List.setIfInBounds_toArray, List.set_cons_zero, List.set_cons_succ]
          refine wpAny_ready (rs := [5]) (by kernel_rfl) (by simp) ?_
          refine (AllReady.cons rfl (fun K hK => ?_) AllReady.nil)
          refine step_app _ (by rfl) _ _ 30 (by rfl) 9 (.string ⟨#[]⟩) 1 16 Tryz.underlying30 (by kernel_rfl) rfl (by decide) wc.heap.size _ k ((dl.take k).map Value.string) (by rfl) HO.out _ 1 [.string s] (by rfl) HRD.out (by intro y hy; simp at hy; subst hy; rfl) (by omega) (by decide) HSZ.out ?_
          intro ad8 cap8 u9 hown8 hg8 hat8
          have HNB : Hid (∀ q, (Value.slice ab k pb).ownBlock = some q → wc.heap.size ≤ q) := fun q hq => (HO.out.lt q hq).1
          replace HR5 := hide (HR5.out.kept (hg8.block g HR5.out.lt (fun e => by have := HNB.out g e.symm; omega)))
          replace HR4 := hide (HR4.out.kept (hg8.block _ HR4.out.lt (fun e => by have := HNB.out _ e.symm; omega)))
          replace HB := hide (HB.out.grown hg8 HB.out.size (fun q hq => by have := HNB.out q hq; omega))
          replace HLC := hide (HLB.out u9 HB.out)
          have HO8 : Hid ((u9).ownsRow wc.heap.size 9 1 (.slice ad8 (k + 1) cap8) (k + 1) ((dl.take (k + 1)).map Value.string)) := by rw [HTK.out]; exact hown8
          replace HSZ := hide (Nat.le_trans HSZ.out hg8.size)
          have HN8 : Hid (∀ q, (Value.slice ad8 (k + 1) cap8).ownBlock = some q → wc.heap.size ≤ q) := fun q hq => (hown8.lt q hq).1
          refine hK _ _ ?_
          clear hK K hown8 hg8 hat8 HRD HO HTK HNB
          try simp only [Act.put, List.getElem_toArray, List.getElem_cons_succ, List.getElem_cons_zero, List.setIfInBounds_toArray, List.set_cons_zero, List.set_cons_succ]
          refine wpAny_take (i := 6) (v := ?_) rfl (by kernel_rfl) (by kernel_rfl) (by kernel_rfl) (fun _ _ _ h => h) (Or.inl ⟨by rfl, ?_⟩) ?_; rotate_left; focus (intro uu; go_simp; try with_reducible rfl)
          try simp only [Act.put, List.getElem_toArray, List.getElem_cons_succ, List.getElem_cons_zero, List.setIfInBounds_toArray, List.set_cons_zero, List.set_cons_succ]
          refine wpAny_ready (rs := [7]) (by kernel_rfl) (by simp) ?_
          refine (AllReady.cons rfl (fun K hK => ?_) AllReady.nil)
          try rw [if_pos (by kernel_rfl)]
          have z2 := HR5.out.cell (j := 2) rfl
          have z9 := HR5.out.frozen 2
          have z8 := HR5.out.lt
          go_simp
          clear z2 z9 z8
          replace HR5 := hide (HR5.out.set 2 (.slice ad8 (k + 1) cap8))
          replace HR4 := hide (HR4.out.far ⟨g, 2, none⟩ (.slice ad8 (k + 1) cap8) (by show g ≠ _; omega))
          replace HO8 := hide (owns_apart HO8.out ⟨g, 2, none⟩ (.slice ad8 (k + 1) cap8) (fun e => by have := HN8.out _ e; simp at this; omega))
          replace HB := hide (HB.out.setCell (p := ⟨g, 2, none⟩) (show w.heap.size ≤ g by omega) (.slice ad8 (k + 1) cap8))
          replace HLC := hide (HLB.out _ HB.out)
          replace HSZ : Hid (wc.heap.size ≤ ((u9).setCell ⟨g, 2, none⟩ (.slice ad8 (k + 1) cap8)).heap.size) := by show _ ≤ _; have := HSZ.out; simp; omega
          refine hK _ _ ?_; clear hK K
          try simp only [Act.put, List.getElem_toArray, List.getElem_cons_succ, List.getElem_cons_zero, List.setIfInBounds_toArray, List.set_cons_zero, List.set_cons_succ]
          refine wpAny_done (by kernel_rfl) ?_ _
          go_wp2_with fail
          go_roundw
          case rel => exact ⟨k + 1, ad8, cap8, by go_num, by omega, HR5, HR4, HO8, HLC, HB, HSZ.out⟩
          case measure => simp [intOf]; omega
        · skip
          try rw [if_pos (by kernel_rfl)]
          go_simp
          obtain ⟨u11, hu11⟩ : ∃ u, u6.alloc (.cells #[.string s] 9) = u := ⟨_, rfl⟩
          have hbu11 : Below u6.heap.size u6 u11 := by rw [← hu11]; exact (Below.refl _ _).alloc (Nat.le_refl _) _
          replace HR5 := hide (HR5.out.new hbu11)
          replace HR4 := hide (HR4.out.new hbu11)
          replace HO := hide (owns_new HO.out hbu11)
          replace HLC := hide (HLC.out.new hbu11)
          replace HB := hide (bchain HB.out hbu11)
          replace HSZ := hide (Nat.le_trans HSZ.out hbu11.size)
          have HRD : Hid (Reads u11 (.slice (some ⟨(u6).heap.size, 0, none⟩) 1 1) 1 1 [.string s]) := by show _; rw [← hu11]; exact reads_of_owns (owns_lit u6 9 1 1 #[.string s] rfl (by omega))
          rw [hu11]
          clear hu11 hbu11
          refine hK _ _ ?_; clear hK K
          try simp only [Act.put, List.getElem_toArray, List.getElem_cons_succ, List.getElem_cons_zero, List.setIfInBounds_toArray, List.set_cons_zero, List.set_cons_succ]
          refine wpAny_ready (rs := [1]) (by kernel_rfl) (by simp) ?_
          refine (AllReady.cons rfl (fun K hK => ?_) AllReady.nil)
          try rw [if_pos (by kernel_rfl)]
          have z2 := HR5.out.cell (j := 2) rfl
          have z8 := HR5.out.lt
          go_simp
          refine hK _ _ ?_; clear hK K
          clear z2 z8
          try simp only [Act.put, List.getElem_toArray, List.getElem_cons_succ, List.getElem_cons_zero, List.setIfInBounds_toArray, List.set_cons_zero, List.set_cons_succ]
          refine wpAny_ready (rs := [5]) (by kernel_rfl) (by simp) ?_
          refine (AllReady.cons rfl (fun K hK => ?_) AllReady.nil)
          refine step_app _ (by rfl) _ _ 30 (by rfl) 9 (.string ⟨#[]⟩) 1 16 Tryz.underlying30 (by kernel_rfl) rfl (by decide) wc.heap.size _ k ((dl.take k).map Value.string) (by rfl) HO.out _ 1 [.string s] (by rfl) HRD.out (by intro y hy; simp at hy; subst hy; rfl) (by omega) (by decide) HSZ.out ?_
          intro ad8 cap8 u13 hown8 hg8 hat8
          have HNB : Hid (∀ q, (Value.slice ab k pb).ownBlock = some q → wc.heap.size ≤ q) := fun q hq => (HO.out.lt q hq).1
          replace HR5 := hide (HR5.out.kept (hg8.block g HR5.out.lt (fun e => by have := HNB.out g e.symm; omega)))
          replace HR4 := hide (HR4.out.kept (hg8.block _ HR4.out.lt (fun e => by have := HNB.out _ e.symm; omega)))
          replace HB := hide (HB.out.grown hg8 HB.out.size (fun q hq => by have := HNB.out q hq; omega))
          replace HLC := hide (HLB.out u13 HB.out)
          have HO8 : Hid ((u13).ownsRow wc.heap.size 9 1 (.slice ad8 (k + 1) cap8) (k + 1) ((dl.take (k + 1)).map Value.string)) := by rw [HTK.out]; exact hown8
          replace HSZ := hide (Nat.le_trans HSZ.out hg8.size)
          have HN8 : Hid (∀ q, (Value.slice ad8 (k + 1) cap8).ownBlock = some q → wc.heap.size ≤ q) := fun q hq => (hown8.lt q hq).1
          refine hK _ _ ?_
          clear hK K hown8 hg8 hat8 HRD HO HTK HNB
          try simp only [Act.put, List.getElem_toArray, List.getElem_cons_succ, List.getElem_cons_zero, List.setIfInBounds_toArray, List.set_cons_zero, List.set_cons_succ]
          refine wpAny_take (i := 6) (v := ?_) rfl (by kernel_rfl) (by kernel_rfl) (by kernel_rfl) (fun _ _ _ h => h) (Or.inl ⟨by rfl, ?_⟩) ?_; rotate_left; focus (intro uu; go_simp; try with_reducible rfl)
          try simp only [Act.put, List.getElem_toArray, List.getElem_cons_succ, List.getElem_cons_zero, List.setIfInBounds_toArray, List.set_cons_zero, List.set_cons_succ]
          refine wpAny_ready (rs := [7]) (by kernel_rfl) (by simp) ?_
          refine (AllReady.cons rfl (fun K hK => ?_) AllReady.nil)
          try rw [if_pos (by kernel_rfl)]
          have z2 := HR5.out.cell (j := 2) rfl
          have z9 := HR5.out.frozen 2
          have z8 := HR5.out.lt
          go_simp
          clear z2 z9 z8
          replace HR5 := hide (HR5.out.set 2 (.slice ad8 (k + 1) cap8))
          replace HR4 := hide (HR4.out.far ⟨g, 2, none⟩ (.slice ad8 (k + 1) cap8) (by show g ≠ _; omega))
          replace HO8 := hide (owns_apart HO8.out ⟨g, 2, none⟩ (.slice ad8 (k + 1) cap8) (fun e => by have := HN8.out _ e; simp at this; omega))
          replace HB := hide (HB.out.setCell (p := ⟨g, 2, none⟩) (show w.heap.size ≤ g by omega) (.slice ad8 (k + 1) cap8))
          replace HLC := hide (HLB.out _ HB.out)
          replace HSZ : Hid (wc.heap.size ≤ ((u13).setCell ⟨g, 2, none⟩ (.slice ad8 (k + 1) cap8)).heap.size) := by show _ ≤ _; have := HSZ.out; simp; omega
          refine hK _ _ ?_; clear hK K
          try simp only [Act.put, List.getElem_toArray, List.getElem_cons_succ, List.getElem_cons_zero, List.setIfInBounds_toArray, List.set_cons_zero, List.set_cons_succ]
          refine wpAny_done (by kernel_rfl) ?_ _
          go_wp2_with fail
          go_roundw
          case rel => exact ⟨k + 1, ad8, cap8, by go_num, by omega, HR5, HR4, HO8, HLC, HB, HSZ.out⟩
          case measure => simp [intOf]; omega
    · have hltI : ¬ (k : Int) < dl.length := by omega
      obtain rfl : k = dl.length := by omega
      rw [List.take_length] at HO
      have x0 := RowIs.cell (j := 0) HR5.out rfl; have x1 := RowIs.cell (j := 1) HR5.out rfl; have x2 := RowIs.cell (j := 2) HR5.out rfl; have x3 := RowIs.cell (j := 3) HR5.out rfl; have x9 := fun j => RowIs.frozen HR5.out j; have x8 := HR5.out.lt
      have y0 := RowIs.cell (j := 0) HR4.out rfl; have y1 := RowIs.cell (j := 1) HR4.out rfl; have y2 := RowIs.cell (j := 2) HR4.out rfl; have y3 := RowIs.cell (j := 3) HR4.out rfl; have y9 := fun j => RowIs.frozen HR4.out j; have y8 := HR4.out.lt
      go_wp2_with fail
      refine bodyPost_ret (v := .agg #[.string dn, .string dk, .slice ab dl.length pb, .int .i64 dq]) (by simp [results, Tryz.results33, go_sem, *]) rfl ?_
      refine ⟨_, _, rfl, ?_, by repeat' (first | (with_reducible exact HB.out) | (with_reducible refine Below.setCell ?_ ?_ _) | (with_reducible refine Below.alloc ?_ ?_ _) | (with_reducible refine Below.drew ?_) | (with_reducible refine bo_drewN _ ?_) | omega | (simp; done) | (simp; omega))⟩
      have hoz := strs_ow HO.out (fun x hx => by have := H3.out x hx; omega)
      refine (OwX.wide (lo := wc.heap.size) (hi := wr.heap.size) (lo' := w.heap.size) (hi' := wr.heap.size) ?_ (by omega) (Nat.le_refl _)).top
      (repeat' (first | (with_reducible exact hoz) | (with_reducible refine OwX.far ?_ _ _ ?_) | (simp; done) | (simp; omega)))
end Go.Proofs.YtfemmnhfllbgjaaGreatDoor
