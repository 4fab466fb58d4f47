/- A Memory: copied, held against another, counted, marked, read again. -/
import Derived.Test.YtdplpkobpoiioaaThreads4

namespace Go.Proofs.Ytdplpkobpoiioaa
open Go.RowKit
set_option linter.unusedSimpArgs false
set_option linter.unusedVariables false

structure DMem where
  cells : List Int
  ths : List DTh
structure Mm where
  cv : Value
  cells : List Int
  tv : Value
  ths : List Th
def Mm.d (m : Mm) : DMem := ⟨m.cells, m.ths.map Th.d⟩

structure ReadM (w : World) (m : Mm) : Prop where
  cel : Reads w m.cv m.cells.length 1 (iv m.cells)
  ths : ReadTs w m.tv m.ths
structure OwnM (w : World) (lo hi : Nat) (m : Mm) : Prop where
  cel : w.ownsRow lo 2 1 m.cv m.cells.length (iv m.cells)
  ths : OwnTs w lo hi m.tv m.ths
  apart : ∀ u ∈ m.tv :: m.ths.map Th.sv, Ap m.cv u
  up : ∀ k, m.cv.ownBlock = some k → k < hi
structure HeldM (w : World) (m : Mm) (k : Int) : Prop where
  cel : Reads w m.cv m.cells.length 1 (mk k m.cells.length)
  ths : HeldTs w m.tv m.ths (k + m.cells.length)
theorem OwnM.read {w : World} {lo hi : Nat} {m : Mm} (h : OwnM w lo hi m) : ReadM w m := ⟨reads_of_owns h.cel, h.ths.read⟩
theorem ReadM.new {w w' : World} {m : Mm} (h : ReadM w m) (hb : Below w.heap.size w w') : ReadM w' m := ⟨h.cel.new hb, h.ths.new hb⟩
theorem HeldM.new {w w' : World} {m : Mm} {k : Int} (h : HeldM w m k) (hb : Below w.heap.size w w') : HeldM w' m k := ⟨h.cel.new hb, h.ths.new hb⟩
theorem OwnM.new {w w' : World} {lo hi : Nat} {m : Mm} (h : OwnM w lo hi m) (hb : Below w.heap.size w w') : OwnM w' lo hi m := ⟨owns_new h.cel hb, h.ths.new hb, h.apart, h.up⟩
theorem OwnM.far {w w' : World} {lo hi a b : Nat} {m : Mm} (h : OwnM w lo hi m) (ht : Turn a b w w') (hd : hi ≤ a ∨ b ≤ lo) : OwnM w' lo hi m := by
  have hc : ∀ k, m.cv.ownBlock = some k → k < a ∨ b ≤ k := fun k hk => by have h1 := (h.cel.lt k hk).1; have h2 := h.up k hk; omega
  refine ⟨owns_turn h.cel ht hc, ⟨owns_turn h.ths.row ht fun k hk => ?_, fun t hm => owns_turn (h.ths.st t hm) ht fun k hk => ?_, h.ths.apart, h.ths.up⟩, h.apart, h.up⟩
  · have h1 := (h.ths.row.lt k hk).1; have h2 := h.ths.up _ List.mem_cons_self k hk; omega
  · have h1 := ((h.ths.st t hm).lt k hk).1; have h2 := h.ths.up _ (List.mem_cons_of_mem _ (List.mem_map_of_mem hm)) k hk; omega
theorem OwnM.hi {w : World} {lo hi hi' : Nat} {m : Mm} (h : OwnM w lo hi m) (hh : hi ≤ hi') : OwnM w lo hi' m :=
  ⟨h.cel, ⟨h.ths.row, h.ths.st, h.ths.apart, fun u hu k hk => Nat.lt_of_lt_of_le (h.ths.up u hu k hk) hh⟩, h.apart, fun k hk => Nat.lt_of_lt_of_le (h.up k hk) hh⟩
theorem OwnM.lo {w : World} {lo lo' hi : Nat} {m : Mm} (h : OwnM w lo hi m) (hh : lo' ≤ lo) : OwnM w lo' hi m :=
  ⟨owns_base h.cel fun k hk => by have := (h.cel.lt k hk).1; omega, ⟨owns_base h.ths.row fun k hk => by have := (h.ths.row.lt k hk).1; omega, fun t ht => owns_base (h.ths.st t ht) fun k hk => by have := ((h.ths.st t ht).lt k hk).1; omega, h.ths.apart, h.ths.up⟩, h.apart, h.up⟩

def zM : Mm := ⟨.slice none 0 0, [], .slice none 0 0, []⟩
theorem zM_own (w : World) (lo hi : Nat) : OwnM w lo hi zM := by
  refine ⟨w.ownsRow_nil _ _ _, ⟨w.ownsRow_nil _ _ _, ?_, ?_, ?_⟩, ?_, ?_⟩
  · intro t ht; cases ht
  · simp [zM]
  · intro u hu k hk; simp [zM] at hu; subst hu; cases hk
  · intro u hu k hk; cases hk
  · intro k hk; cases hk

def szM (m : Mm) : Int := m.cells.length + m.ths.length + szT m.ths
def cntM (m : Mm) : Int := m.cells.length + cntT m.ths
theorem cntM_le (m : Mm) (h : szM m ≤ 1048576) : 0 ≤ cntM m ∧ cntM m ≤ 10000000 := by
  unfold cntM szM at *; have := szT_nn m.ths; rw [cntT_sz]; omega
theorem d_eq {m m' : Mm} (h : m'.d = m.d) : m'.cells = m.cells ∧ m'.ths.map Th.d = m.ths.map Th.d := by
  simp only [Mm.d, DMem.mk.injEq] at h; exact h
theorem szT_d : ∀ {T T' : List Th}, T'.map Th.d = T.map Th.d → szT T' = szT T
  | [], [], _ => rfl
  | [], t :: T', h => by simp at h
  | t :: T, [], h => by simp at h
  | t :: T, t' :: T', h => by
    simp only [List.map_cons, List.cons.injEq] at h
    have h1 := szT_d h.2
    have h2 : t'.st = t.st := congrArg DTh.st h.1
    simp [szT, h1, h2]
theorem szM_d {m m' : Mm} (h : m'.d = m.d) : szM m' = szM m := by
  obtain ⟨h1, h2⟩ := d_eq h
  unfold szM; rw [h1, szT_d h2, d_len h2]

set_option maxHeartbeats 1000000 in
theorem szMem (m : Mm) (left : Int) (w : World) (hr : ReadM w m) (h0 : 0 ≤ left) (h1 : left ≤ 1048576) :
    Calls Try.prog 26 #[.agg #[m.cv, m.tv], .int .i64 left] w fun x w' => (x = .returned (.int .i64 (-1)) ∨ (x = .returned (.int .i64 (left - szM m)) ∧ 0 ≤ left - szM m)) ∧ Below w.heap.size w w' := by
  obtain ⟨cv, cells, tv, T⟩ := m
  simp only at hr ⊢
  obtain ⟨hc, ht⟩ := hr
  simp only at hc ht
  obtain ⟨ad, cap, rfl, _⟩ := hc.2
  obtain ⟨ad', cap', rfl, _⟩ := ht.row.2
  have HC := hide hc; have HT := hide ht
  clear hc ht
  by_cases h : left - cells.length < 0
  · go_enter Try.func26, Try.ntmps26
    go_wp2_with fail
    refine (szInts _ cells.length _ _ _ (HC.out.alloc _) h0 h1).mono ?_
    rw [if_pos h]; rintro x w1 ⟨rfl, rfl⟩
    go_wp2_with fail
    go_ret
    exact ⟨.inl rfl, (by repeat' (first | (with_reducible exact Below.refl _ _) | (with_reducible refine Below.drew ?_) | (with_reducible refine bo_drewN _ ?_) | (with_reducible refine bo_alloc ?_ _) | (refine bchain ?_ (by with_reducible assumption)) | (with_reducible refine Below.setCell ?_ ?_ _) | go_size))⟩
  · go_enter Try.func26, Try.ntmps26
    go_wp2_with fail
    refine (szInts _ cells.length _ _ _ (HC.out.alloc _) h0 h1).mono ?_
    rw [if_neg (by omega)]; rintro x w1 ⟨rfl, rfl⟩
    go_wp2_with fail
    refine (szThreads T _ _ _ (HT.out.new ((by repeat' (first | (with_reducible exact Below.refl _ _) | (with_reducible refine Below.drew ?_) | (with_reducible refine bo_drewN _ ?_) | (with_reducible refine bo_alloc ?_ _) | (refine bchain ?_ (by with_reducible assumption)) | (with_reducible refine Below.setCell ?_ ?_ _) | go_size)))) (by omega) (by omega)).mono ?_
    rintro x w1 ⟨rfl | ⟨rfl, hp⟩, hb1⟩
    · go_wp2_with fail
      go_ret
      exact ⟨.inl rfl, (by repeat' (first | (with_reducible exact Below.refl _ _) | (with_reducible refine Below.drew ?_) | (with_reducible refine bo_drewN _ ?_) | (with_reducible refine bo_alloc ?_ _) | (refine bchain ?_ (by with_reducible assumption)) | (with_reducible refine Below.setCell ?_ ?_ _) | go_size))⟩
    · go_wp2_with fail
      go_ret
      exact ⟨.inr ⟨congrArg (fun z => Ending.returned (.int .i64 z)) (by simp only [szM]; omega), by simp only [szM]; omega⟩, (by repeat' (first | (with_reducible exact Below.refl _ _) | (with_reducible refine Below.drew ?_) | (with_reducible refine bo_drewN _ ?_) | (with_reducible refine bo_alloc ?_ _) | (refine bchain ?_ (by with_reducible assumption)) | (with_reducible refine Below.setCell ?_ ?_ _) | go_size))⟩

set_option maxHeartbeats 1000000 in
theorem eqMem (m m' : Mm) (w : World) (hr : ReadM w m) (hr' : ReadM w m') (hd : m'.d = m.d) :
    Calls Try.prog 28 #[.agg #[m.cv, m.tv], .agg #[m'.cv, m'.tv]] w fun x w' => x = .returned (.bool true) ∧ Below w.heap.size w w' := by
  obtain ⟨cv, cells, tv, T⟩ := m
  obtain ⟨cv', cells', tv', T'⟩ := m'
  obtain ⟨he, hd'⟩ := d_eq hd
  clear hd
  simp only at hr hr' hd' he ⊢
  subst he
  obtain ⟨hc, ht⟩ := hr
  obtain ⟨hc', ht'⟩ := hr'
  simp only at hc ht hc' ht'
  obtain ⟨ad, cap, rfl, _⟩ := hc.2
  obtain ⟨ad1, cap1, rfl, _⟩ := ht.row.2
  obtain ⟨ad2, cap2, rfl, _⟩ := hc'.2
  obtain ⟨ad3, cap3, rfl, _⟩ := ht'.row.2
  have HC := hide hc; have HT := hide ht; have HC' := hide hc'; have HT' := hide ht'; have HD := hide hd'
  clear hc ht hc' ht' hd'
  go_enter Try.func28, Try.ntmps28
  go_wp2_with fail
  refine (eqInts cells' _ _ _ ((HC.out.alloc _).alloc _) ((HC'.out.alloc _).alloc _)).mono ?_
  rintro x w1 ⟨rfl, hb1⟩; have hz1 := hb1.size; (try simp at hz1); have hc1 := fun o => hb1.cell (p := ⟨w.heap.size, o, none⟩) (by first | (simp; done) | (simp; omega) | omega); have hf1 := fun o => hb1.frozen (p := ⟨w.heap.size, o, none⟩) (by first | (simp; done) | (simp; omega) | omega); have hcn1 := fun o => hb1.cell (p := ⟨w.heap.size + 1, o, none⟩) (by first | (simp; done) | (simp; omega) | omega); have hfn1 := fun o => hb1.frozen (p := ⟨w.heap.size + 1, o, none⟩) (by first | (simp; done) | (simp; omega) | omega)
  go_wp2_with fail
  have hbw : Below w.heap.size w w1 := (by repeat' (first | (with_reducible exact Below.refl _ _) | (with_reducible refine Below.drew ?_) | (with_reducible refine bo_drewN _ ?_) | (with_reducible refine bo_alloc ?_ _) | (refine bchain ?_ (by with_reducible assumption)) | (with_reducible refine Below.setCell ?_ ?_ _) | go_size))
  refine (eqThreads T T' _ _ _ (HT.out.new hbw) (HT'.out.new hbw) HD.out).mono ?_
  rintro x w2 ⟨rfl, hb2⟩
  go_wp2_with fail
  go_ret
  exact ⟨rfl, (by repeat' (first | (with_reducible exact Below.refl _ _) | (with_reducible refine Below.drew ?_) | (with_reducible refine bo_drewN _ ?_) | (with_reducible refine bo_alloc ?_ _) | (refine bchain ?_ (by with_reducible assumption)) | (with_reducible refine Below.setCell ?_ ?_ _) | go_size))⟩

set_option maxHeartbeats 1000000 in
theorem toMem (m : Mm) (w : World) (hr : ReadM w m) (hs : szM m ≤ 1048576) :
    Calls Try.prog 27 #[.agg #[m.cv, m.tv]] w fun x w' => ∃ m' : Mm, x = .returned (.agg #[m'.cv, m'.tv]) ∧ m'.d = m.d ∧ OwnM w' w.heap.size w'.heap.size m' ∧ Below w.heap.size w w' := by
  obtain ⟨cv, cells, tv, T⟩ := m
  simp only [szM] at hs
  have hnn := szT_nn T
  have hS : ∀ t ∈ T, t.st.length ≤ 1048576 := fun t ht => by have := szT_mem T t ht; omega
  obtain ⟨hc, ht⟩ := hr
  simp only at hc ht ⊢
  obtain ⟨ad, cap, rfl, _⟩ := hc.2
  obtain ⟨ad', cap', rfl, _⟩ := ht.row.2
  have HC := hide hc; have HT := hide ht; have HS := hide hS
  clear hc ht hS
  go_enter Try.func27, Try.ntmps27
  go_wp2_with fail
  refine (toInts cells _ _ ?c1 (by omega)).mono ?_
  case c1 => exact ((HC.out.alloc _).alloc _).alloc _
  rintro x w1 ⟨v1, rfl, ho, hb1⟩; have hz1 := hb1.size; (try simp at hz1); have hc1 := fun o => hb1.cell (p := ⟨w.heap.size, o, none⟩) (by first | (simp; done) | (simp; omega) | omega); have hf1 := fun o => hb1.frozen (p := ⟨w.heap.size, o, none⟩) (by first | (simp; done) | (simp; omega) | omega); have hcn1 := fun o => hb1.cell (p := ⟨w.heap.size + 1, o, none⟩) (by first | (simp; done) | (simp; omega) | omega); have hfn1 := fun o => hb1.frozen (p := ⟨w.heap.size + 1, o, none⟩) (by first | (simp; done) | (simp; omega) | omega); have hcm1 := fun o => hb1.cell (p := ⟨w.heap.size + 2, o, none⟩) (by first | (simp; done) | (simp; omega) | omega); have hfm1 := fun o => hb1.frozen (p := ⟨w.heap.size + 2, o, none⟩) (by first | (simp; done) | (simp; omega) | omega)
  have hbw : Below w.heap.size w w1 := (by repeat' (first | (with_reducible exact Below.refl _ _) | (with_reducible refine Below.drew ?_) | (with_reducible refine bo_drewN _ ?_) | (with_reducible refine bo_alloc ?_ _) | (refine bchain ?_ (by with_reducible assumption)) | (with_reducible refine Below.setCell ?_ ?_ _) | go_size))
  obtain ⟨ad1, cap1, rfl, _⟩ := owns_form ho
  have HO := hide ho
  clear ho
  go_wp2_with fail
  refine (toThreads T _ _ ?c1 (by omega) HS.out).mono ?_
  case c1 => exact HT.out.new (hbw.setCell (by go_size) _)
  rintro x w2 ⟨v2, T', rfl, hd, ho2, hb2⟩; have hz2 := hb2.size; (try simp at hz2); have hc2 := fun o => hb2.cell (p := ⟨w.heap.size, o, none⟩) (by first | (simp; done) | (simp; omega) | omega); have hf2 := fun o => hb2.frozen (p := ⟨w.heap.size, o, none⟩) (by first | (simp; done) | (simp; omega) | omega); have hcn2 := fun o => hb2.cell (p := ⟨w.heap.size + 1, o, none⟩) (by first | (simp; done) | (simp; omega) | omega); have hfn2 := fun o => hb2.frozen (p := ⟨w.heap.size + 1, o, none⟩) (by first | (simp; done) | (simp; omega) | omega); have hcm2 := fun o => hb2.cell (p := ⟨w.heap.size + 2, o, none⟩) (by first | (simp; done) | (simp; omega) | omega); have hfm2 := fun o => hb2.frozen (p := ⟨w.heap.size + 2, o, none⟩) (by first | (simp; done) | (simp; omega) | omega)
  obtain ⟨ad2, cap2, rfl, _⟩ := owns_form ho2.row
  have HO2 := hide ho2; have HD := hide hd
  clear ho2 hd
  go_wp2_with fail
  refine bodyPost_ret (v := .agg #[.slice ad1 cells.length cap1, .slice ad2 T'.length cap2]) (by simp [results, Try.results27, go_sem, *]) rfl ?_
  have hz2 := HO2.out.row
  have hc2 : ∀ k, (Value.slice ad1 cells.length cap1).ownBlock = some k → w.heap.size + 3 ≤ k ∧ k < w1.heap.size := fun k hk => by have := HO.out.lt k hk; simpa using this
  have hlo2 : ∀ u ∈ Value.slice ad2 T'.length cap2 :: T'.map Th.sv, ∀ k, u.ownBlock = some k → w1.heap.size ≤ k := fun u hu k hk => by
    simp only [List.mem_cons, List.mem_map] at hu
    rcases hu with rfl | ⟨t, ht, rfl⟩
    · have := (HO2.out.row.lt k hk).1; simpa using this
    · have := ((HO2.out.st t ht).lt k hk).1; simpa using this
  have howc : w2.ownsRow w.heap.size 2 1 (Value.slice ad1 cells.length cap1) cells.length (iv cells) := by
    have h1 : (w1.setCell ⟨w.heap.size + 1 + 1, 0, none⟩ (Value.slice ad1 cells.length cap1)).ownsRow w.heap.size 2 1 (Value.slice ad1 cells.length cap1) cells.length (iv cells) :=
      owns_far (w.heap.size + 3) (owns_base HO.out fun k hk => by have := hc2 k hk; omega) (fun k hk => (hc2 k hk).1) _ _ (by simp)
    exact owns_new h1 hb2
  have hT2 : Turn (w.heap.size + 1) (w.heap.size + 3) w2 (((w2.setCell ⟨w.heap.size + 1 + 1, 1, none⟩ (Value.slice ad2 T'.length cap2)).setCell ⟨w.heap.size + 1, 0, none⟩ (Value.slice ad1 cells.length cap1)).setCell ⟨w.heap.size + 1, 1, none⟩ (Value.slice ad2 T'.length cap2)) :=
    (((Turn.refl _ _ _).setCell _ (.inl (by simp))).setCell _ (.inl (by simp))).setCell _ (.inl (by simp))
  have hsz : w1.heap.size ≤ w2.heap.size := by omega
  have howm : OwnM w2 (w.heap.size + 3) w2.heap.size ⟨Value.slice ad1 cells.length cap1, cells, Value.slice ad2 T'.length cap2, T'⟩ := by
    refine ⟨owns_base howc fun k hk => (hc2 k hk).1, ⟨owns_base HO2.out.row fun k hk => ?_, fun t ht => owns_base (HO2.out.st t ht) fun k hk => ?_, HO2.out.apart, HO2.out.up⟩, fun u hu k hk hk' => ?_, fun k hk => ?_⟩
    · have := hlo2 _ List.mem_cons_self k hk; omega
    · have := hlo2 _ (List.mem_cons_of_mem _ (List.mem_map_of_mem ht)) k hk; omega
    · have h1 := hc2 k hk; have h2 := hlo2 u hu k hk'; omega
    · have := hc2 k hk; omega
  exact ⟨⟨Value.slice ad1 cells.length cap1, cells, Value.slice ad2 T'.length cap2, T'⟩, rfl, by simp only [Mm.d, HD.out], ((howm.far hT2 (.inr (by omega))).lo (by omega)).hi (by simp), (by repeat' (first | (with_reducible exact Below.refl _ _) | (with_reducible refine Below.drew ?_) | (with_reducible refine bo_drewN _ ?_) | (with_reducible refine bo_alloc ?_ _) | (refine bchain ?_ (by with_reducible assumption)) | (with_reducible refine Below.setCell ?_ ?_ _) | go_size))⟩

set_option maxHeartbeats 1000000 in
theorem heldMem (m : Mm) (k : Int) (w : World) (hr : HeldM w m k) (hk0 : 0 ≤ k) (hk1 : k + cntM m ≤ 1000000000) :
    Calls Try.prog 30 #[.agg #[m.cv, m.tv], .int .i64 k] w fun x w' => x = .returned (.int .i64 (k + cntM m)) ∧ Below w.heap.size w w' := by
  obtain ⟨cv, cells, tv, T⟩ := m
  obtain ⟨hc, ht⟩ := hr
  simp only [cntM] at hc ht hk1 ⊢
  obtain ⟨ad, cap, rfl, _⟩ := hc.2
  obtain ⟨ad', cap', rfl, _⟩ := ht.row.2
  have hnn := cntT_nn T
  have HC := hide hc; have HT := hide ht
  clear hc ht
  go_enter Try.func30, Try.ntmps30
  go_wp2_with fail
  refine (heldInts cells.length k _ _ (HC.out.alloc _) hk0 (by omega)).mono ?_
  rintro x w1 ⟨rfl, rfl⟩
  go_wp2_with fail
  refine (heldThreads T (k + cells.length) _ _ (HT.out.new ((by repeat' (first | (with_reducible exact Below.refl _ _) | (with_reducible refine Below.drew ?_) | (with_reducible refine bo_drewN _ ?_) | (with_reducible refine bo_alloc ?_ _) | (refine bchain ?_ (by with_reducible assumption)) | (with_reducible refine Below.setCell ?_ ?_ _) | go_size)))) (by omega) (by omega)).mono ?_
  rintro x w1 ⟨rfl, rfl⟩
  go_wp2_with fail
  go_ret
  exact ⟨congrArg (fun z => Ending.returned (.int .i64 z)) (by omega), (by repeat' (first | (with_reducible exact Below.refl _ _) | (with_reducible refine Below.drew ?_) | (with_reducible refine bo_drewN _ ?_) | (with_reducible refine bo_alloc ?_ _) | (refine bchain ?_ (by with_reducible assumption)) | (with_reducible refine Below.setCell ?_ ?_ _) | go_size))⟩

set_option maxHeartbeats 1000000 in
theorem markMem (m : Mm) (k : Int) (lo hi : Nat) (w : World) (ho : OwnM w lo hi m) (hk0 : 0 ≤ k) (hk1 : k + cntM m ≤ 1000000000) (hhi : hi ≤ w.heap.size) :
    Calls Try.prog 29 #[.agg #[m.cv, m.tv], .int .i64 k] w fun x w' => x = .returned (.int .i64 (k + cntM m)) ∧ HeldM w' m k ∧ Turn lo hi w w' := by
  obtain ⟨cv, cells, tv, T⟩ := m
  have HM := hide ho
  obtain ⟨hc, ht, ha, hu⟩ := ho
  simp only [cntM] at hc ht ha hu hk1 HM ⊢
  obtain ⟨ad, cap, rfl, _⟩ := owns_form hc
  obtain ⟨ad', cap', rfl, _⟩ := owns_form ht.row
  have hnn := cntT_nn T
  have HC := hide hc; have HT := hide ht; have HA := hide ha; have HU := hide hu
  clear hc ht ha hu
  go_enter Try.func29, Try.ntmps29
  go_wp2_with fail
  refine (markInts cells.length k _ _ lo _ (HC.out.alloc _) hk0 (by omega)).mono ?_
  rintro x w1 ⟨rfl, ho1, hg1⟩
  have ht1 : Turn lo hi w w1 := ((Turn.refl _ _ w).alloc _).trans (turn_grown (g := 0) hg1 fun k hk => ⟨(HC.out.lt k hk).1, HU.out k hk⟩)
  have hbx : ∀ o, w1.cell? ⟨w.heap.size, o, none⟩ = (w.alloc (.cells #[Value.slice ad cells.length cap, Value.slice ad' T.length cap'] 27)).cell? ⟨w.heap.size, o, none⟩ := fun o =>
    World.cell?_of_block (hg1.block w.heap.size (by simp) (fun e => by have := HU.out _ e.symm; omega))
  have hownT : OwnTs w1 lo hi (Value.slice ad' T.length cap') T := by
    have hap : ∀ u ∈ Value.slice ad' T.length cap' :: T.map Th.sv, u.ownBlock = none ∨ u.ownBlock ≠ (Value.slice ad cells.length cap).ownBlock := fun u hu => by
      cases hob : u.ownBlock with
      | none => exact .inl rfl
      | some b => exact .inr fun e => HA.out u hu b e.symm hob
    exact ⟨(HT.out.row.alloc _).kept hg1 (hap _ List.mem_cons_self), fun t ht => ((HT.out.st t ht).alloc _).kept hg1 (hap _ (List.mem_cons_of_mem _ (List.mem_map_of_mem ht))), HT.out.apart, HT.out.up⟩
  have HOT := hide hownT; have HO1 := hide ho1
  clear hownT ho1 hg1
  go_wp2_with fail
  refine (markThreads T (k + cells.length) _ lo hi _ HOT.out (by omega) (by omega)).mono ?_
  rintro x w2 ⟨rfl, hh2, ht2, hoth⟩
  have hc2 : Hid (Reads w2 (Value.slice ad cells.length cap) cells.length 1 (mk k cells.length)) := (reads_of_owns HO1.out).kept ht2.size fun b hb hlt => hoth b hlt fun u hu e => HA.out u hu b hb e
  have HH2 := hide hh2
  clear hoth hh2
  go_wp2_with fail
  go_ret
  exact ⟨congrArg (fun z => Ending.returned (.int .i64 z)) (by omega), ⟨hc2.out, HH2.out⟩, ht1.trans ht2⟩
end Go.Proofs.Ytdplpkobpoiioaa
