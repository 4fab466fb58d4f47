/- Two tenants in one row, as the laws draw them; a list of tenants that reads so whatever the cursor does. -/
import Derived.Test.YtbikmedbmnfdbaaGreatDoorTenSpec3
import Derived.Test.YtbikmedbmnfdbaaGreatDoorTokDraw4
import Derived.Test.YtbikmedbmnfdbaaGreatDoorAppFull


namespace Go.Proofs.YtbikmedbmnfdbaaGreatDoor
open Go.RowKit
set_option maxRecDepth 100000
set_option linter.unusedSimpArgs false
set_option linter.unusedVariables false
/-- It reads so, however the cursor (block g) moves on and whatever is made. -/
def StR (g : Nat) (u : World) (v : Value) (L : List TenantD) : Prop := ∀ u', Moves g u u' → RdR tenantS u' v L
theorem StR.rd {g : Nat} {u : World} {v : Value} {L : List TenantD} (h : StR g u v L) : RdR tenantS u v L := h u (Moves.refl _ _)
theorem StR.moves {g : Nat} {u u' : World} {v : Value} {L : List TenantD} (h : StR g u v L) (hm : Moves g u u') : StR g u' v L := fun x hx => h x (hm.trans hx)
def tcs (t : TenantD × Value) : List Value := [.string t.1.nm, .string t.1.key, t.2, .int .i64 t.1.quota]
def smT (d : TenantD) : Prop := d.nm.size ≤ 100 ∧ d.key.size ≤ 100 ∧ d.list.length ≤ 21
theorem ls_set {u : World} {base g b j : Nat} {v y : Value} {L : List ByteArray} {cs : List Value} (h : LsAt u base g v L) (hr : RowIs u b 32 cs) : LsAt (u.setCell ⟨b, j, none⟩ y) base g v L := by
  refine ⟨owns_apart h.own _ _ (fun e => ?_), h.lt, h.small⟩
  rcases h.own.2 with ⟨rfl, _⟩ | ⟨q, cap, cur, rfl, _, hq, _⟩
  · simp [Value.ownBlock] at e
  · simp [Value.ownBlock] at e
    subst e
    have h' : u.heap[q]? = some (.cells cs.toArray 32 (0, 0)) := hr
    rw [h'] at hq
    simp at hq
theorem ls_base {u : World} {base base' g : Nat} {v : Value} {L : List ByteArray} (h : LsAt u base g v L) (h1 : base' ≤ base) (h2 : g < base') : LsAt u base' g v L := ⟨owns_base h.own (fun k hk => by have := (h.own.lt k hk).1; omega), h2, h.small⟩
theorem ls_grown {u u' : World} {base g : Nat} {v s : Value} {L : List ByteArray} {b n : Nat} {xs : List Value} (h : LsAt u base g v L) (ho : u.ownsRow b 32 4 s n xs) (hg : u.grownBy u' s.ownBlock) : LsAt u' base g v L := by
  refine ⟨h.own.kept hg ?_, h.lt, h.small⟩
  cases hv : v.ownBlock with
  | none => exact .inl rfl
  | some q =>
    refine .inr (fun e => ?_)
    rcases h.own.2 with ⟨rfl, _⟩ | ⟨q1, cap, cur, rfl, _, hq, _⟩
    · simp [Value.ownBlock] at hv
    rcases ho.2 with ⟨rfl, _⟩ | ⟨q2, cap2, cur2, rfl, _, hq2, _⟩
    · simp [Value.ownBlock] at e
    simp [Value.ownBlock] at hv e
    subst hv e
    rw [hq] at hq2
    simp at hq2
theorem st_of {g base : Nat} {u : World} {v : Value} (T : List (TenantD × Value)) (hr : ∀ u', Moves g u u' → Reads u' v T.length 4 (T.flatMap tcs)) (hl : ∀ t ∈ T, LsAt u base g t.2 t.1.list ∧ smT t.1) : StR g u v (T.map (·.1)) := by
  intro u' hm
  refine ⟨T.map (fun t => (tcs t, t.1)), by simp, ?_, ?_⟩
  · have := hr u' hm
    simp only [List.length_map, List.flatMap_map]
    exact this
  · intro t ht
    obtain ⟨x, hx, rfl⟩ := List.mem_map.1 ht
    obtain ⟨h1, h2, h3, _⟩ := hl x hx
    exact ⟨x.2, rfl, (by show x.1.nm.size ≤ _; omega), (by show x.1.key.size ≤ _; omega), (h1.moves hm).owx.rd⟩
/-- Two tenants in the row of block b, each with a list of its own. -/
structure TwoAt (u : World) (base g b : Nat) (t0 t1 : TenantD × Value) : Prop where
  row : RowIs u b 32 (tcs t0 ++ tcs t1)
  l0 : LsAt u base g t0.2 t0.1.list
  l1 : LsAt u base g t1.2 t1.1.list
  s0 : smT t0.1
  s1 : smT t1.1
  hb : base ≤ b
theorem TwoAt.moves {u u' : World} {base g b : Nat} {t0 t1 : TenantD × Value} (h : TwoAt u base g b t0 t1) (hm : Moves g u u') : TwoAt u' base g b t0 t1 :=
  ⟨h.row.moves hm (by have := h.l0.lt; have := h.hb; omega), h.l0.moves hm, h.l1.moves hm, h.s0, h.s1, h.hb⟩
theorem TwoAt.new {u u' : World} {base g b : Nat} {t0 t1 : TenantD × Value} (h : TwoAt u base g b t0 t1) (hb : Below u.heap.size u u') : TwoAt u' base g b t0 t1 :=
  ⟨h.row.new hb, h.l0.new hb, h.l1.new hb, h.s0, h.s1, h.hb⟩
theorem TwoAt.set {u : World} {base g b : Nat} {t0 t1 : TenantD × Value} (h : TwoAt u base g b t0 t1) (j : Nat) (y : Value) (t0' t1' : TenantD × Value) (hc : (tcs t0 ++ tcs t1).set j y = tcs t0' ++ tcs t1')
    (h0 : LsAt u base g t0'.2 t0'.1.list) (h1 : LsAt u base g t1'.2 t1'.1.list) (s0 : smT t0'.1) (s1 : smT t1'.1) : TwoAt (u.setCell ⟨b, j, none⟩ y) base g b t0' t1' :=
  ⟨by have := h.row.set j y; rw [hc] at this; exact this, ls_set h0 h.row, ls_set h1 h.row, s0, s1, h.hb⟩
theorem reads_row {u : World} {b : Nat} {e : TypeId} {cs : List Value} (h : RowIs u b e cs) (o n : Nat) (xs : List Value) (hx : xs.length = n * 4) (hn : n ≤ 1000) (hc : ∀ j x, xs[j]? = some x → cs[o + j]? = some x) : Reads u (.slice (some ⟨b, o, none⟩) n n) n 4 xs :=
  ⟨hx, _, _, rfl, Nat.le_refl _, by unfold maxLen; omega, fun _ => ⟨b, o, rfl, h.lt, fun r y hy => h.cell (hc r y hy)⟩⟩
theorem TwoAt.reads0 {u : World} {base g b : Nat} {t0 t1 : TenantD × Value} (h : TwoAt u base g b t0 t1) : Reads u (.slice (some ⟨b, 0, none⟩) 2 2) 2 4 ([t0, t1].flatMap tcs) :=
  reads_row h.row 0 2 _ rfl (by omega) (fun j x hj => by simpa using hj)
theorem TwoAt.reads1 {u : World} {base g b : Nat} {t0 t1 : TenantD × Value} (h : TwoAt u base g b t0 t1) : Reads u (.slice (some ⟨b, 4, none⟩) 1 1) 1 4 ([t1].flatMap tcs) :=
  reads_row h.row 4 1 _ rfl (by omega) (fun j x hj => by
    rw [List.getElem?_append_right (by simp [tcs])]
    simp only [List.flatMap_cons, List.flatMap_nil, List.append_nil] at hj
    rw [show 4 + j - (tcs t0).length = j by simp [tcs]]; exact hj)
theorem TwoAt.st0 {u : World} {base g b : Nat} {t0 t1 : TenantD × Value} (h : TwoAt u base g b t0 t1) : StR g u (.slice (some ⟨b, 0, none⟩) 2 2) [t0.1, t1.1] :=
  st_of [t0, t1] (fun u' hm => (h.moves hm).reads0) (fun t ht => by
    simp at ht
    rcases ht with rfl | rfl
    · exact ⟨h.l0, h.s0⟩
    · exact ⟨h.l1, h.s1⟩)
theorem TwoAt.st1 {u : World} {base g b : Nat} {t0 t1 : TenantD × Value} (h : TwoAt u base g b t0 t1) : StR g u (.slice (some ⟨b, 4, none⟩) 1 1) [t1.1] :=
  st_of [t1] (fun u' hm => (h.moves hm).reads1) (fun t ht => by
    simp at ht
    subst ht
    exact ⟨h.l1, h.s1⟩)
set_option maxHeartbeats 1000000 in
theorem two15 (g : Nat) (w : World) (hg : g < w.heap.size) :
    Calls Tryz.prog 57 #[] w fun e w' => ∃ (b : Nat) (t0 t1 : TenantD × Value), e = .returned (.slice (some ⟨b, 0, none⟩) 2 2) ∧ TwoAt w' w.heap.size g b t0 t1 ∧ Below w.heap.size w w' := by
  go_enter Tryz.func57, Tryz.ntmps57
  go_wp2_with fail
  go_ret
  have h1 := owns_lit w 9 1 2 #[.string ⟨#[97, 46, 120]⟩, .string ⟨#[42, 46, 121]⟩] rfl (by omega)
  have h2 := owns_lit (w.alloc (.cells #[.string ⟨#[97, 46, 120]⟩, .string ⟨#[42, 46, 121]⟩] 9)) 9 1 1 #[.string ⟨#[42]⟩] rfl (by omega)
  have s0 : smT (⟨⟨#[97, 110, 110, 97]⟩, ⟨#[107, 49]⟩, [⟨#[97, 46, 120]⟩, ⟨#[42, 46, 121]⟩], 1⟩ : TenantD) := ⟨by decide, by decide, by decide⟩
  have s1 : smT (⟨⟨#[98, 101, 114, 116]⟩, ⟨#[107, 50]⟩, [⟨#[42]⟩], 2⟩ : TenantD) := ⟨by decide, by decide, by decide⟩
  have a0 : ∀ x ∈ (⟨⟨#[97, 110, 110, 97]⟩, ⟨#[107, 49]⟩, [⟨#[97, 46, 120]⟩, ⟨#[42, 46, 121]⟩], 1⟩ : TenantD).list, x.size ≤ 61 := by decide
  have a1 : ∀ x ∈ (⟨⟨#[98, 101, 114, 116]⟩, ⟨#[107, 50]⟩, [⟨#[42]⟩], 2⟩ : TenantD).list, x.size ≤ 61 := by decide
  refine ⟨_, ((⟨⟨#[97, 110, 110, 97]⟩, ⟨#[107, 49]⟩, [⟨#[97, 46, 120]⟩, ⟨#[42, 46, 121]⟩], 1⟩ : TenantD), .slice (some ⟨w.heap.size, 0, none⟩) 2 2), ((⟨⟨#[98, 101, 114, 116]⟩, ⟨#[107, 50]⟩, [⟨#[42]⟩], 2⟩ : TenantD), .slice (some ⟨w.heap.size + 1, 0, none⟩) 1 1), rfl, ⟨?_, ⟨?_, hg, a0⟩, ⟨?_, hg, a1⟩, s0, s1, by omega⟩, (by repeat' (first | (with_reducible exact Below.refl _ _) | (with_reducible refine Below.drew ?_) | (with_reducible refine bo_drewN _ ?_) | (with_reducible refine bo_alloc ?_ _) | (refine bchain ?_ (by with_reducible assumption)) | (with_reducible refine Below.setCell ?_ ?_ _) | go_size))⟩
  · have := rowIs_new ((w.alloc (.cells #[.string ⟨#[97, 46, 120]⟩, .string ⟨#[42, 46, 121]⟩] 9)).alloc (.cells #[.string ⟨#[42]⟩] 9)) 32 (tcs ((⟨⟨#[97, 110, 110, 97]⟩, ⟨#[107, 49]⟩, [⟨#[97, 46, 120]⟩, ⟨#[42, 46, 121]⟩], 1⟩ : TenantD), .slice (some ⟨w.heap.size, 0, none⟩) 2 2) ++ tcs ((⟨⟨#[98, 101, 114, 116]⟩, ⟨#[107, 50]⟩, [⟨#[42]⟩], 2⟩ : TenantD), .slice (some ⟨w.heap.size + 1, 0, none⟩) 1 1))
    simp at this
    exact this
  · exact (h1.alloc _).alloc _
  · have h3 := owns_base (h2.alloc (.cells #[.string ⟨#[97, 110, 110, 97]⟩, .string ⟨#[107, 49]⟩, .slice (some ⟨w.heap.size, 0, none⟩) 2 2, .int .i64 1, .string ⟨#[98, 101, 114, 116]⟩, .string ⟨#[107, 50]⟩, .slice (some ⟨w.heap.size + 1, 0, none⟩) 1 1, .int .i64 2] 32)) (base' := w.heap.size) (fun k hk => by have := (h2.lt k hk).1; simp at this; omega)
    simpa using h3
end Go.Proofs.YtbikmedbmnfdbaaGreatDoor
