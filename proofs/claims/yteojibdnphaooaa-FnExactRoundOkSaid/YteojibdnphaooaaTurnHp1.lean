/- The program's heap of visits in memory: less, swap, push, pop. -/
import Derived.Test.YteojibdnphaooaaTurnHpMath
import Derived.Test.YteojibdnphaooaaTurnRn
import Derived.Test.YteojibdnphaooaaTurnCopy
import Derived.Test.YteojibdnphaooaaAppRows
import Derived.Test.YteojibdnphaooaaRowNew
import Derived.WalkSmall


namespace Go.Proofs.Yteojibdnphaooaa
open Go.RowKit
set_option maxRecDepth 100000
set_option linter.unusedSimpArgs false
set_option linter.unusedVariables false
def vOf (T c : Int) (d : Nat) : List Value := [.int .i64 ((T + d) % c), .int .i64 (d : Int)]
def vc (T c : Int) (D : List Nat) : List Value := D.flatMap (vOf T c)
theorem vc_len (T c : Int) (D : List Nat) : (vc T c D).length = D.length * 2 := flat_length (vOf T c) 2 (fun _ => rfl) D
theorem getD_at {D : List Nat} {i : Nat} (h : i < D.length) : D.getD i 0 = D[i] := by simp [h]
theorem vc_at0 {T c : Int} {D : List Nat} {i : Nat} (h : i < D.length) : (vc T c D)[i * 2]? = some (.int .i64 ((T + (D.getD i 0 : Nat)) % c)) := by
  have := flat_get (vOf T c) 2 (fun _ => rfl) D i h 0 (by decide)
  rw [getD_at h]; exact this
theorem vc_at1 {T c : Int} {D : List Nat} {i : Nat} (h : i < D.length) : (vc T c D)[i * 2 + 1]? = some (.int .i64 ((D.getD i 0 : Nat) : Int)) := by
  have := flat_get (vOf T c) 2 (fun _ => rfl) D i h 1 (by decide)
  rw [getD_at h]; exact this
theorem vc_app (T c : Int) (A B : List Nat) : vc T c (A ++ B) = vc T c A ++ vc T c B := by simp [vc]
theorem vset {w : World} {lo g : Nat} {v : Value} {T c : Int} {D : List Nat} (h : w.ownsRow lo 72 2 v D.length (vc T c D)) (hg : v.ownBlock = some g) {k : Nat} (hk : k < D.length) (e : Nat) :
    ((w.setCell ⟨g, k * 2, none⟩ (.int .i64 ((T + (e : Nat)) % c))).setCell ⟨g, k * 2 + 1, none⟩ (.int .i64 ((e : Nat) : Int))).ownsRow lo 72 2 v D.length (vc T c (D.set k e)) := by
  have h2 := h
  unfold vc at h2
  rw [flat_split (vOf T c) D k hk] at h2
  have h3 := owns_sets hg (vOf T c e) w _ _ _ h2 rfl
  have hA : ((D.take k).flatMap (vOf T c)).length = k * 2 := by
    rw [flat_length (vOf T c) 2 (fun _ => rfl), List.length_take, Nat.min_eq_left (by omega)]
  rw [hA] at h3
  unfold vc
  rw [flat_split (vOf T c) (D.set k e) k (by simpa using hk)]
  simpa [List.take_set_of_le, List.drop_set_of_lt, vOf, setsFrom] using h3
/-- Block g holds a slice of visits; its row is owned and lies at or above lo. -/
structure VAt (w : World) (g lo : Nat) (v : Value) (T c : Int) (D : List Nat) : Prop where
  row : RowIs w g 69 [v]
  own : w.ownsRow lo 72 2 v D.length (vc T c D)
  ne : v.ownBlock ≠ some g
theorem VAt.new {w w' : World} {g lo : Nat} {v : Value} {T c : Int} {D : List Nat} (h : VAt w g lo v T c D) (hb : Below w.heap.size w w') : VAt w' g lo v T c D := ⟨h.row.new hb, owns_new h.own hb, h.ne⟩
theorem VAt.kept {w w' : World} {g lo : Nat} {v : Value} {T c : Int} {D : List Nat} (h : VAt w g lo v T c D) (hk : ∀ b, lo ≤ b ∨ b = g → b < w.heap.size → w'.heap[b]? = w.heap[b]?) : VAt w' g lo v T c D :=
  ⟨h.row.kept (hk g (.inr rfl) h.row.lt), owns_kept h.own (fun k e hl => hk k (.inl (h.own.lt k e).1) hl), h.ne⟩
set_option maxHeartbeats 1000000 in
theorem vless (D : List Nat) (T c : Int) (v : Value) (lo i j : Nat) (w : World) (ho : w.ownsRow lo 72 2 v D.length (vc T c D)) (hi : i < D.length) (hj : j < D.length) (h6 : D.length ≤ 6) :
    Calls Try.prog 86 #[v, .int .i64 i, .int .i64 j] w fun x w' => x = .returned (.bool (decide (D.getD i 0 < D.getD j 0))) ∧ Below w.heap.size w w' := by
  obtain ⟨g, cap, rfl, hg, _, hgl, h1, h2, hc, hf⟩ := owns_open ho (by omega)
  unfold maxLen at h2
  have ci := hc _ _ (vc_at1 hi)
  have cj := hc _ _ (vc_at1 hj)
  generalize D.getD i 0 = a at *
  generalize D.getD j 0 = b at *
  clear hc hf ho hg
  have hiI : (i : Int) < D.length := by omega
  have hjI : (j : Int) < D.length := by omega
  go_enter Try.func86, Try.ntmps86
  go_wp2_with fail
  go_quiet (fail)
  go_wp2_with fail
  go_ret
  exact ⟨by simp, bo_drewN _ (Below.refl _ _)⟩
set_option maxHeartbeats 2000000 in
theorem vswap (D : List Nat) (T c : Int) (g cap lo i j : Nat) (w : World) (ho : w.ownsRow lo 72 2 (.slice (some ⟨g, 0, none⟩) D.length cap) D.length (vc T c D)) (hi : i < D.length) (hj : j < D.length) (h6 : D.length ≤ 6) :
    Calls Try.prog 87 #[.slice (some ⟨g, 0, none⟩) D.length cap, .int .i64 i, .int .i64 j] w fun x w' => x = .returned (.tuple #[]) ∧ w'.ownsRow lo 72 2 (.slice (some ⟨g, 0, none⟩) D.length cap) D.length (vc T c (swp D i j)) ∧ w.grownBy w' (some g) := by
  have hgr : w.grownBy w.drew (some g) := ⟨rfl, rfl, rfl, Nat.le_refl _, fun _ _ _ => rfl⟩
  have ho0 : w.drew.ownsRow lo 72 2 (.slice (some ⟨g, 0, none⟩) D.length cap) D.length (vc T c D) := ho
  have hiI : (i : Int) < D.length := by omega
  have hjI : (j : Int) < D.length := by omega
  go_enter Try.func87, Try.ntmps87
  go_wp2_with fail
  refine wp_region_any (by kernel_rfl) ?_; change wpAny _ _ _ _ _ _ _ (World.drew _)
  generalize World.drew w = U at *
  clear ho
  obtain ⟨g', cap', e1, hg, _, hgl, h1, h2, hc, hf⟩ := owns_open ho0 (by omega)
  simp only [Value.slice.injEq, Option.some.injEq, Addr.mk.injEq, and_true, true_and] at e1
  obtain ⟨rfl, rfl⟩ := e1
  unfold maxLen at h2
  have ci0 := hc _ _ (vc_at0 hi)
  have ci := hc _ _ (vc_at1 hi)
  have cj0 := hc _ _ (vc_at0 hj)
  have cj := hc _ _ (vc_at1 hj)
  have HS1 := hide (vset ho0 hg hi (D.getD j 0))
  have HSL : Hid ((D.set i (D.getD j 0)).length = D.length) := by show _ = _; simp
  have HG1 := hide (gb_set (gb_set hgr ⟨g, i * 2, none⟩ (.int .i64 ((T + (D.getD j 0 : Nat)) % c)) rfl) ⟨g, i * 2 + 1, none⟩ (.int .i64 ((D.getD j 0 : Nat) : Int)) rfl)
  have HSW : Hid (swp D i j = (D.set i (D.getD j 0)).set j (D.getD i 0)) := rfl
  clear hgr ho0 hc
  generalize hda : D.getD i 0 = a at *
  generalize hdb : D.getD j 0 = b at *
  clear hda hdb
  have HF2 : Hid (∀ k : Nat, ∀ e : Nat, k < D.length → ((((U.setCell ⟨g, i * 2, none⟩ (.int .i64 ((T + (b : Int)) % c))).setCell ⟨g, i * 2 + 1, none⟩ (.int .i64 (b : Int))).setCell ⟨g, k * 2, none⟩ (.int .i64 ((T + (e : Nat)) % c))).setCell ⟨g, k * 2 + 1, none⟩ (.int .i64 ((e : Nat) : Int))).ownsRow lo 72 2 (.slice (some ⟨g, 0, none⟩) D.length cap) D.length (vc T c ((D.set i b).set k e))) := by
    intro k e hk
    have h9 : ((U.setCell ⟨g, i * 2, none⟩ (.int .i64 ((T + (b : Int)) % c))).setCell ⟨g, i * 2 + 1, none⟩ (.int .i64 (b : Int))).ownsRow lo 72 2 (.slice (some ⟨g, 0, none⟩) D.length cap) (D.set i b).length (vc T c (D.set i b)) := by rw [HSL.out]; exact HS1.out
    have := vset h9 hg (k := k) (by rw [HSL.out]; exact hk) e
    rw [HSL.out] at this
    exact this
  have HC2 : Hid (∃ u0 u1, ((U.setCell ⟨g, i * 2, none⟩ (.int .i64 ((T + (b : Int)) % c))).setCell ⟨g, i * 2 + 1, none⟩ (.int .i64 (b : Int))).cell? ⟨g, j * 2, none⟩ = some u0 ∧ ((U.setCell ⟨g, i * 2, none⟩ (.int .i64 ((T + (b : Int)) % c))).setCell ⟨g, i * 2 + 1, none⟩ (.int .i64 (b : Int))).cell? ⟨g, j * 2 + 1, none⟩ = some u1 ∧ ∀ q, ((U.setCell ⟨g, i * 2, none⟩ (.int .i64 ((T + (b : Int)) % c))).setCell ⟨g, i * 2 + 1, none⟩ (.int .i64 (b : Int))).frozen? ⟨g, q, none⟩ = false) := by
    obtain ⟨g', cap', e1, _, _, _, _, _, hc, hf⟩ := owns_open HS1.out (by omega)
    simp only [Value.slice.injEq, Option.some.injEq, Addr.mk.injEq, and_true, true_and] at e1
    obtain ⟨rfl, rfl⟩ := e1
    exact ⟨_, _, hc _ _ (vc_at0 (by rw [HSL.out]; exact hj)), hc _ _ (vc_at1 (by rw [HSL.out]; exact hj)), hf⟩
  generalize hA0 : (T + (a : Int)) % c = a0 at *
  generalize hB0 : (T + (b : Int)) % c = b0 at *
  have HA0 := hide hA0
  clear hA0 hB0
  refine wpAny_take (i := 0) (v := ?_) rfl (by kernel_rfl) (by kernel_rfl) (by kernel_rfl) (fun _ _ _ h => h) (Or.inl ⟨by rfl, ?_⟩) ?_; rotate_left; focus (intro w; go_simp; try with_reducible rfl)
  refine wpAny_take (i := 1) (v := ?_) rfl (by kernel_rfl) (by kernel_rfl) (by kernel_rfl) (fun _ _ _ h => h) (Or.inl ⟨by rfl, ?_⟩) ?_; rotate_left; focus (intro w; go_simp; try with_reducible rfl)
  refine wpAny_take (i := 2) (v := ?_) rfl (by kernel_rfl) (by kernel_rfl) (by kernel_rfl) (fun _ _ _ h => h) (Or.inl ⟨by rfl, ?_⟩) ?_; rotate_left; focus (intro w; go_simp; try with_reducible rfl)
  refine wpAny_take (i := 3) (v := ?_) rfl (by kernel_rfl) (by kernel_rfl) (by kernel_rfl) (fun _ _ _ h => h) (Or.inl ⟨by rfl, ?_⟩) ?_; rotate_left; focus (intro w; go_simp; try with_reducible rfl)
  refine wpAny_take (i := 4) (v := ?_) rfl (by kernel_rfl) (by kernel_rfl) (by kernel_rfl) (fun _ _ _ h => h) (Or.inl ⟨by rfl, ?_⟩) ?_; rotate_left; focus (intro w; go_simp; try with_reducible rfl)
  refine wpAny_take (i := 5) (v := ?_) rfl (by kernel_rfl) (by kernel_rfl) (by kernel_rfl) (fun _ _ _ h => h) (Or.inl ⟨by rfl, ?_⟩) ?_; rotate_left; focus (intro w; go_simp; try with_reducible rfl)
  refine wpAny_take (i := 6) (v := ?_) rfl (by kernel_rfl) (by kernel_rfl) (by kernel_rfl) (fun _ _ _ h => h) (Or.inl ⟨by rfl, ?_⟩) ?_; rotate_left; focus (intro w; go_simp; try with_reducible rfl)
  refine wpAny_take (i := 8) (v := ?_) rfl (by kernel_rfl) (by kernel_rfl) (by kernel_rfl) (fun _ _ _ h => h) (Or.inl ⟨by rfl, ?_⟩) ?_; rotate_left; focus (intro w; go_simp; try with_reducible rfl)
  refine wpAny_take (i := 9) (v := ?_) rfl (by kernel_rfl) (by kernel_rfl) (by kernel_rfl) (fun _ _ _ h => h) (Or.inl ⟨by rfl, ?_⟩) ?_; rotate_left; focus (intro w; go_simp; try with_reducible rfl)
  refine wpAny_take (i := 10) (v := ?_) rfl (by kernel_rfl) (by kernel_rfl) (by kernel_rfl) (fun _ _ _ h => h) (Or.inl ⟨by rfl, ?_⟩) ?_; rotate_left; focus (intro w; go_simp; try with_reducible rfl)
  refine wpAny_ready (rs := [7, 11]) (by kernel_rfl) (by simp) ?_; refine AllReady.cons rfl (fun K hK => ?_) (AllReady.cons rfl (fun K hK => ?_) AllReady.nil)
  · go_simp; refine hK _ _ ?_; clear hK K
    refine wpAny_ready (rs := [11]) (by kernel_rfl) (by simp) ?_; refine AllReady.cons rfl (fun K hK => ?_) AllReady.nil
    go_simp; refine hK _ _ ?_; clear hK K
    refine wpAny_take (i := 12) (v := ?_) rfl (by kernel_rfl) (by kernel_rfl) (by kernel_rfl) (fun _ _ _ h => h) (Or.inl ⟨by rfl, ?_⟩) ?_; rotate_left; (focus (intro w; go_simp; try with_reducible rfl)); refine wpAny_ready (rs := [13]) (by kernel_rfl) (by simp) ?_; refine AllReady.cons rfl (fun K hK => ?_) AllReady.nil; go_simp; refine hK _ _ ?_; clear hK K; have HG3 := hide (gb_set (gb_set HG1.out ⟨g, j * 2, none⟩ (.int .i64 a0) rfl) ⟨g, j * 2 + 1, none⟩ (.int .i64 (a : Int)) rfl); have HF3 := hide (HF2.out j a hj); clear HF2 HG1 HS1 ci0 ci cj0 cj hf; rw [HA0.out] at HF3; obtain ⟨u0, u1, d0, d1, hf⟩ := HC2.out; clear HC2; generalize (U.setCell ⟨g, i * 2, none⟩ (.int .i64 b0)).setCell ⟨g, i * 2 + 1, none⟩ (.int .i64 (b : Int)) = U2 at *; refine wpAny_take (i := 14) (v := ?_) rfl (by kernel_rfl) (by kernel_rfl) (by kernel_rfl) (fun _ _ _ h => h) (Or.inl ⟨by rfl, ?_⟩) ?_; rotate_left; (focus (intro w; go_simp; try with_reducible rfl)); refine wpAny_ready (rs := [15]) (by kernel_rfl) (by simp) ?_; refine AllReady.cons rfl (fun K hK => ?_) AllReady.nil; go_simp; refine hK _ _ ?_; clear hK K; refine wpAny_done (by kernel_rfl) ?_ _; go_wp2_with fail; refine bodyPost_end (v := .tuple #[]) (by simp [results, Try.results87, go_sem]) rfl ?_; exact ⟨rfl, by rw [HSW.out]; exact HF3.out, HG3.out⟩
  · go_simp; refine hK _ _ ?_; clear hK K
    refine wpAny_ready (rs := [7]) (by kernel_rfl) (by simp) ?_; refine AllReady.cons rfl (fun K hK => ?_) AllReady.nil
    go_simp; refine hK _ _ ?_; clear hK K
    refine wpAny_take (i := 12) (v := ?_) rfl (by kernel_rfl) (by kernel_rfl) (by kernel_rfl) (fun _ _ _ h => h) (Or.inl ⟨by rfl, ?_⟩) ?_; rotate_left; (focus (intro w; go_simp; try with_reducible rfl)); refine wpAny_ready (rs := [13]) (by kernel_rfl) (by simp) ?_; refine AllReady.cons rfl (fun K hK => ?_) AllReady.nil; go_simp; refine hK _ _ ?_; clear hK K; have HG3 := hide (gb_set (gb_set HG1.out ⟨g, j * 2, none⟩ (.int .i64 a0) rfl) ⟨g, j * 2 + 1, none⟩ (.int .i64 (a : Int)) rfl); have HF3 := hide (HF2.out j a hj); clear HF2 HG1 HS1 ci0 ci cj0 cj hf; rw [HA0.out] at HF3; obtain ⟨u0, u1, d0, d1, hf⟩ := HC2.out; clear HC2; generalize (U.setCell ⟨g, i * 2, none⟩ (.int .i64 b0)).setCell ⟨g, i * 2 + 1, none⟩ (.int .i64 (b : Int)) = U2 at *; refine wpAny_take (i := 14) (v := ?_) rfl (by kernel_rfl) (by kernel_rfl) (by kernel_rfl) (fun _ _ _ h => h) (Or.inl ⟨by rfl, ?_⟩) ?_; rotate_left; (focus (intro w; go_simp; try with_reducible rfl)); refine wpAny_ready (rs := [15]) (by kernel_rfl) (by simp) ?_; refine AllReady.cons rfl (fun K hK => ?_) AllReady.nil; go_simp; refine hK _ _ ?_; clear hK K; refine wpAny_done (by kernel_rfl) ?_ _; go_wp2_with fail; refine bodyPost_end (v := .tuple #[]) (by simp [results, Try.results87, go_sem]) rfl ?_; exact ⟨rfl, by rw [HSW.out]; exact HF3.out, HG3.out⟩
theorem vVisit (x : Value) (w : World) : (Instr.typeAssert (.iface 72 x) 20 72 false).run Try.prog w = .ok x w := by kernel_rfl
theorem vOf_one (T c : Int) (e : Nat) : ∀ u ∈ vOf T c e, u.oneCell' = true := by
  intro u hu
  simp only [vOf, List.mem_cons, List.not_mem_nil, or_false] at hu
  rcases hu with rfl | rfl <;> rfl
theorem Kept3.own {lo g : Nat} {a b : World} {row : Option Nat} (h : a.grownBy b row) (hr : ∀ k, row = some k → lo ≤ k ∨ g ≤ k) : Kept3 lo g a b := ⟨h.size, fun B h1 h2 h3 => (Below.refl _ _).grown h h3 (fun k hk => by have := hr k hk; omega)⟩
set_option maxHeartbeats 2000000 in
theorem vpush (D : List Nat) (T c : Int) (v : Value) (lo g e : Nat) (w : World) (H : VAt w g lo v T c D) (h6 : D.length ≤ 6) (hlo : lo ≤ w.heap.size) :
    Calls Try.prog 89 #[.pointer (some ⟨g, 0, none⟩), .iface 72 (.agg #[.int .i64 ((T + (e : Nat)) % c), .int .i64 ((e : Nat) : Int)])] w fun x w' => x = .returned (.tuple #[]) ∧ (∃ v', VAt w' g lo v' T c (D ++ [e])) ∧ Kept3 lo g w w' := by
  obtain ⟨hrow, hown, hne⟩ := H
  obtain ⟨ad, cap, rfl, h1, h2⟩ := owns_form hown
  unfold maxLen at h2
  have HNE := hide hne
  have hrow0 : RowIs w.drew g 69 [.slice ad D.length cap] := hrow
  have hown0 : w.drew.ownsRow lo 72 2 (.slice ad D.length cap) D.length (vc T c D) := hown
  have HK0 : Hid (Kept3 lo g w w.drew) := Kept3.of (Below.refl _ _).drew
  have hlo0 : lo ≤ w.drew.heap.size := hlo
  clear hrow hown hne
  have hva := vVisit (.agg #[.int .i64 ((T + (e : Nat)) % c), .int .i64 ((e : Nat) : Int)])
  go_enter Try.func89, Try.ntmps89
  go_wp2_with fail
  refine wp_region_any (by kernel_rfl) ?_; change wpAny _ _ _ _ _ _ _ (World.drew _)
  generalize World.drew w = U at *
  have h0 := hrow0.cell (j := 0) rfl
  have hl0 := hrow0.lt
  have hbx : Below U.heap.size U (U.alloc (.cells #[.int .i64 ((T + (e : Nat)) % c), .int .i64 ((e : Nat) : Int)] 72)) := (Below.refl _ _).alloc (Nat.le_refl _) _
  have HRX := hide (hrow0.new hbx)
  have HOX := hide (owns_new hown0 hbx)
  have HRD : Hid (Reads (U.alloc (.cells #[.int .i64 ((T + (e : Nat)) % c), .int .i64 ((e : Nat) : Int)] 72)) (.slice (some ⟨U.heap.size, 0, none⟩) 1 1) 1 2 (vOf T c e)) := reads_one (rowIs_new U 72 (vOf T c e))
  have hlo2 : lo ≤ (U.alloc (.cells #[.int .i64 ((T + (e : Nat)) % c), .int .i64 ((e : Nat) : Int)] 72)).heap.size := by simp; omega
  have HKX := hide (HK0.out.trans (Kept3.of (lo := lo) (g := g) hbx))
  clear HK0
  refine wpAny_take (i := 0) (v := ?_) rfl (by kernel_rfl) (by kernel_rfl) (by kernel_rfl) (fun _ _ _ h => h) (Or.inl ⟨by rfl, ?_⟩) ?_; rotate_left; focus (intro w; go_simp; try with_reducible rfl)
  refine wpAny_take (i := 1) (v := ?_) rfl (by kernel_rfl) (by kernel_rfl) (by kernel_rfl) (fun _ _ _ h => h) (Or.inl ⟨by rfl, ?_⟩) ?_; rotate_left; focus (intro w; go_simp; try with_reducible rfl)
  refine wpAny_take (i := 2) (v := ?_) rfl (by kernel_rfl) (by kernel_rfl) (by kernel_rfl) (fun _ _ _ h => h) (Or.inl ⟨by rfl, ?_⟩) ?_; rotate_left; focus (intro w; go_simp; try with_reducible rfl)
  refine wpAny_take (i := 4) (v := ?_) rfl (by kernel_rfl) (by kernel_rfl) (by kernel_rfl) (fun _ _ _ h => h) (Or.inl ⟨by rfl, ?_⟩) ?_; rotate_left; focus (intro w; go_simp; try with_reducible rfl)
  refine wpAny_take (i := 5) (v := ?_) rfl (by kernel_rfl) (by kernel_rfl) (by kernel_rfl) (fun _ _ _ h => h) (Or.inl ⟨by rfl, ?_⟩) ?_; rotate_left; focus (intro w; go_simp; try with_reducible rfl)
  refine wpAny_ready (rs := [3, 6]) (by kernel_rfl) (by simp) ?_; refine AllReady.cons rfl (fun K hK => ?_) (AllReady.cons rfl (fun K hK => ?_) AllReady.nil)
  · go_simp; refine hK _ _ ?_; clear hK K
    refine wpAny_ready (rs := [6]) (by kernel_rfl) (by simp) ?_; refine AllReady.cons rfl (fun K hK => ?_) AllReady.nil
    go_simp; refine hK _ _ ?_; clear hK K
    refine wpAny_ready (rs := [7]) (by kernel_rfl) (by simp) ?_; refine AllReady.cons rfl (fun K hK => ?_) AllReady.nil
    (refine step_app _ (by rfl) _ _ 69 (by rfl) 72 (.agg #[.int .i64 0, .int .i64 0]) 2 16 Try.underlying69 (by kernel_rfl) rfl (by decide) lo (.slice ad D.length cap) D.length (vc T c D) (by rfl) HOX.out _ 1 (vOf T c e) (by rfl) HRD.out (vOf_one _ _ _) (by omega) (by decide) hlo2 ?_); intro ad7 cap7 w7 hown7 hg7 hat7; refine hK _ _ ?_; clear hK K; have HR7 := hide (HRX.out.kept (hg7.block g HRX.out.lt (fun e => HNE.out e.symm))); have h0' := HR7.out.cell (j := 0) rfl; have hf' := HR7.out.frozen 0; have hl' := HR7.out.lt; refine wpAny_take (i := 8) (v := ?_) rfl (by kernel_rfl) (by kernel_rfl) (by kernel_rfl) (fun _ _ _ h => h) (Or.inl ⟨by rfl, ?_⟩) ?_; rotate_left; (focus (intro w; go_simp; try with_reducible rfl)); refine wpAny_ready (rs := [9]) (by kernel_rfl) (by simp) ?_; refine AllReady.cons rfl (fun K hK => ?_) AllReady.nil; go_simp; refine hK _ _ ?_; clear hK K; refine wpAny_done (by kernel_rfl) ?_ _; go_wp2_with fail; refine bodyPost_end (v := .tuple #[]) (by simp [results, Try.results89, go_sem]) rfl ?_; refine ⟨rfl, ⟨.slice ad7 (D.length + 1) cap7, ⟨HR7.out.set 0 _, ?_, ?_⟩⟩, ?_⟩
    · have h8 := owns_apart hown7 ⟨g, 0, none⟩ (.slice ad7 (D.length + 1) cap7) (by rcases hat7 with q | q <;> rw [q]; exact HNE.out; exact fun z => by have h3 : _ = g := Option.some.inj z; have h4 := hrow0.lt; have h5 := hbx.size; omega); rw [List.length_append, vc_app]; simpa [vc] using h8
    · rcases hat7 with q | q <;> rw [q]; exact HNE.out; exact fun z => by have h3 : _ = g := Option.some.inj z; have h4 := hrow0.lt; have h5 := hbx.size; omega
    · exact (HKX.out.trans (Kept3.own hg7 (fun k hk => .inl (HOX.out.lt k hk).1))).set _ _ (.inr (Nat.le_refl _))
  · go_simp; refine hK _ _ ?_; clear hK K
    refine wpAny_ready (rs := [3]) (by kernel_rfl) (by simp) ?_; refine AllReady.cons rfl (fun K hK => ?_) AllReady.nil
    go_simp; refine hK _ _ ?_; clear hK K
    refine wpAny_ready (rs := [7]) (by kernel_rfl) (by simp) ?_; refine AllReady.cons rfl (fun K hK => ?_) AllReady.nil
    (refine step_app _ (by rfl) _ _ 69 (by rfl) 72 (.agg #[.int .i64 0, .int .i64 0]) 2 16 Try.underlying69 (by kernel_rfl) rfl (by decide) lo (.slice ad D.length cap) D.length (vc T c D) (by rfl) HOX.out _ 1 (vOf T c e) (by rfl) HRD.out (vOf_one _ _ _) (by omega) (by decide) hlo2 ?_); intro ad7 cap7 w7 hown7 hg7 hat7; refine hK _ _ ?_; clear hK K; have HR7 := hide (HRX.out.kept (hg7.block g HRX.out.lt (fun e => HNE.out e.symm))); have h0' := HR7.out.cell (j := 0) rfl; have hf' := HR7.out.frozen 0; have hl' := HR7.out.lt; refine wpAny_take (i := 8) (v := ?_) rfl (by kernel_rfl) (by kernel_rfl) (by kernel_rfl) (fun _ _ _ h => h) (Or.inl ⟨by rfl, ?_⟩) ?_; rotate_left; (focus (intro w; go_simp; try with_reducible rfl)); refine wpAny_ready (rs := [9]) (by kernel_rfl) (by simp) ?_; refine AllReady.cons rfl (fun K hK => ?_) AllReady.nil; go_simp; refine hK _ _ ?_; clear hK K; refine wpAny_done (by kernel_rfl) ?_ _; go_wp2_with fail; refine bodyPost_end (v := .tuple #[]) (by simp [results, Try.results89, go_sem]) rfl ?_; refine ⟨rfl, ⟨.slice ad7 (D.length + 1) cap7, ⟨HR7.out.set 0 _, ?_, ?_⟩⟩, ?_⟩
    · have h8 := owns_apart hown7 ⟨g, 0, none⟩ (.slice ad7 (D.length + 1) cap7) (by rcases hat7 with q | q <;> rw [q]; exact HNE.out; exact fun z => by have h3 : _ = g := Option.some.inj z; have h4 := hrow0.lt; have h5 := hbx.size; omega); rw [List.length_append, vc_app]; simpa [vc] using h8
    · rcases hat7 with q | q <;> rw [q]; exact HNE.out; exact fun z => by have h3 : _ = g := Option.some.inj z; have h4 := hrow0.lt; have h5 := hbx.size; omega
    · exact (HKX.out.trans (Kept3.own hg7 (fun k hk => .inl (HOX.out.lt k hk).1))).set _ _ (.inr (Nat.le_refl _))
theorem owns_less {w : World} {base : Nat} {e : TypeId} {size g cap n m : Nat} {xs : List Value} (h : w.ownsRow base e size (.slice (some ⟨g, 0, none⟩) n cap) n xs) (hm : m ≤ n) : w.ownsRow base e size (.slice (some ⟨g, 0, none⟩) m cap) m (xs.take (m * size)) := by
  obtain ⟨h1, h2⟩ := h
  have hle : m * size ≤ n * size := Nat.mul_le_mul_right _ hm
  rcases h2 with ⟨h0, _⟩ | ⟨g', cap', cur, hv, hg, hh, hn, hcap, hsz, htake⟩
  · cases h0
  · cases hv
    refine ⟨by rw [List.length_take, h1]; omega, .inr ⟨g, cap, cur, rfl, hg, hh, by omega, hcap, hsz, ?_⟩⟩
    rw [← htake, List.take_take, Nat.min_eq_left hle]
theorem vc_take (T c : Int) (D : List Nat) (m : Nat) : (vc T c D).take (m * 2) = vc T c (D.take m) := by
  induction D generalizing m with
  | nil => simp [vc]
  | cons d D ih =>
    cases m with
    | zero => simp [vc]
    | succ m =>
      have := ih m
      simp only [vc, List.flatMap_cons, vOf, List.take_succ_cons] at this ⊢
      rw [show (m + 1) * 2 = m * 2 + 1 + 1 by omega]
      simp only [List.cons_append, List.nil_append, List.take_succ_cons]
      rw [this]
set_option maxHeartbeats 2000000 in
theorem vpop (D : List Nat) (T c : Int) (lo g gv cap n : Nat) (w : World) (H : VAt w g lo (.slice (some ⟨gv, 0, none⟩) D.length cap) T c D) (h6 : D.length ≤ 6) (hn : D.length = n + 1) :
    Calls Try.prog 88 #[.pointer (some ⟨g, 0, none⟩)] w fun x w' => x = .returned (.iface 72 (.agg #[.int .i64 ((T + (D.getD n 0 : Nat)) % c), .int .i64 ((D.getD n 0 : Nat) : Int)])) ∧ VAt w' g lo (.slice (some ⟨gv, 0, none⟩) n cap) T c (D.take n) ∧ TurnB [g, gv] w w' := by
  obtain ⟨hrow, hown, hne⟩ := H
  obtain ⟨gv', cap', e1, hg, hgb, hgl, h1, h2, hc, hf⟩ := owns_open hown (by omega)
  simp only [Value.slice.injEq, Option.some.injEq, Addr.mk.injEq, and_true, true_and] at e1
  obtain ⟨rfl, rfl⟩ := e1
  unfold maxLen at h2
  have hnD : n < D.length := by omega
  have c0 := hc _ _ (vc_at0 hnD)
  have c1 := hc _ _ (vc_at1 hnD)
  have hown2 := owns_less (m := n) hown (by omega)
  rw [vc_take] at hown2
  have HOW := hide hown2
  have HTL : Hid ((D.take n).length = n) := by show _ = _; rw [List.length_take]; omega
  have hgg : gv ≠ g := fun e => hne (by subst e; rfl)
  generalize D.getD n 0 = e at *
  generalize (T + (e : Int)) % c = e0 at *
  have x0 := hrow.cell (j := 0) rfl
  have xf := hrow.frozen 0
  have xl := hrow.lt
  have HRW := hide hrow
  clear hc hf hown hown2 hne hg hrow
  rw [hn] at x0 HRW
  have h1' : n + 1 ≤ cap := by omega
  have h6' : n ≤ 5 := by omega
  clear h1
  go_enter Try.func88, Try.ntmps88
  go_wp2_with fail
  go_ret
  have hbx := (Below.refl (w.setCell ⟨g, 0, none⟩ (.slice (some ⟨gv, 0, none⟩) n cap)).heap.size (w.setCell ⟨g, 0, none⟩ (.slice (some ⟨gv, 0, none⟩) n cap))).alloc (Nat.le_refl _) (.cells #[.int .i64 e0, .int .i64 (e : Int)] 72)
  refine ⟨rfl, VAt.new (v := .slice (some ⟨gv, 0, none⟩) n cap) ⟨HRW.out.set 0 _, ?_, fun h => hgg (Option.some.inj h)⟩ hbx, ((TurnB.refl [g, gv] w).set _ _ (by simp)).trans (TurnB.new hbx)⟩
  rw [HTL.out]
  exact owns_apart HOW.out _ _ (fun h => hgg (Option.some.inj h))
end Go.Proofs.Yteojibdnphaooaa
