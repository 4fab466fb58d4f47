/- Several small texts of one level, one behind the other. -/
import Derived.Test.YtejmnkabmajebaaQRing4
import Derived.DeepKeys
import Derived.Laws.StructEq
import Derived.Deep.MidRow
import Derived.Test.YtejmnkabmajebaaQG10
import Derived.Deep.DeepCutAuto
/- Two rings' slots compared as whole arrays. -/
namespace Go.Proofs.Ytejmnkabmajebaa
open Go.RowKit
set_option maxRecDepth 100000
set_option linter.unusedSimpArgs false
set_option linter.unusedVariables false

def lits (f : Fd) : List Lit := [.string f.n.data.toList, .string f.v.data.toList]
theorem lits_inj {f g : Fd} (h : lits f = lits g) : f = g := by
  obtain ⟨⟨⟨a⟩⟩, ⟨⟨b⟩⟩⟩ := f
  obtain ⟨⟨⟨c⟩⟩, ⟨⟨d⟩⟩⟩ := g
  simp only [lits, List.cons.injEq, Lit.string.injEq, and_true] at h
  obtain ⟨h1, h2⟩ := h
  subst h1 h2
  rfl
theorem litsL_inj : ∀ {A B : List Fd}, A.length = B.length → A.flatMap lits = B.flatMap lits → A = B
  | [], [], _, _ => rfl
  | [], _ :: _, h, _ => by simp at h
  | _ :: _, [], h, _ => by simp at h
  | f :: A, g :: B, h, e => by
    simp only [List.flatMap_cons] at e
    have := List.append_inj e rfl
    rw [lits_inj this.1, litsL_inj (by simpa using h) this.2]
theorem mapM_some {α β : Type} (g : α → Option β) (h : α → β) : ∀ l : List α, (∀ i ∈ l, g i = some (h i)) → l.mapM g = some (l.map h)
  | [], _ => by simp
  | a :: l, H => by
    rw [List.mapM_cons, H a (by simp), mapM_some g h l fun i hi => H i (by simp [hi])]
    rfl
theorem fv_chunk (L : List Fd) (i : Nat) (hi : i < L.length) : ((fv L).drop (i * 2)).take 2 = L[i].cs := by
  have h1 : fv L = fv (L.take i) ++ (L[i].cs ++ fv (L.drop (i + 1))) := by
    conv => lhs; rw [← List.take_append_drop i L, List.drop_eq_getElem_cons hi, fv_app]
    simp only [fv, List.flatMap_cons]
  have h2 : (fv (L.take i)).length = i * 2 := by rw [fv_len, List.length_take]; omega
  rw [h1, List.drop_append_of_le_length (by omega), List.drop_of_length_le (by omega), List.nil_append, List.take_append_of_le_length (by simp [Fd.cs])]
  rfl
theorem kl_field (f : Fd) (hf : f.fine) : Try.prog.keyLits 2 46 f.cs = some (lits f) := by
  obtain ⟨h1, h2⟩ := hf
  have e1 : Try.prog.cellsOf 46 = 2 := by kernel_rfl
  have e2 : Try.prog.cellsOf 9 = 1 := by kernel_rfl
  have m1 : f.n.size ≤ maxLen := by unfold maxLen; omega
  have m2 : f.v.size ≤ maxLen := by unfold maxLen; omega
  simp [Program.keyLits, Try.underlying46, Try.underlying9, e1, e2, Fd.cs, m1, m2, lits]
theorem kl_ring (sl : List Fd) (hs : sl.length = 112) (hf : ∀ f ∈ sl, f.fine) : Try.prog.keyLits 3 122 (fv sl) = some (sl.flatMap lits) := by
  have e1 : Try.prog.cellsOf 46 = 2 := by kernel_rfl
  have e2 : Try.prog.cellsOf 122 = 224 := by kernel_rfl
  have hl : (fv sl).length = 224 := by rw [fv_len, hs]
  unfold Program.keyLits
  simp only [Try.underlying122, e2, hl, if_true, e1]
  rw [mapM_some _ (fun i => lits (sl.getD i zF)) _ (fun i hi => by
    have hi' : i < sl.length := by rw [hs]; simpa using hi
    rw [fv_chunk sl i hi', kl_field _ (hf _ (List.getElem_mem hi'))]
    simp [hi'])]
  have : (List.range 112).map (fun i => sl.getD i zF) = sl := by
    refine List.ext_getElem (by simp [hs]) fun i h1 h2 => ?_
    simp [h2]
  conv => rhs; rw [← this]
  simp [List.flatMap_def, Function.comp_def]

theorem eqRings (sl sl' : List Fd) (hs : sl.length = 112) (hs' : sl'.length = 112) (hf : ∀ f ∈ sl, f.fine) (hf' : ∀ f ∈ sl', f.fine) (c : Bool) (hc : c = true ↔ sl = sl') (w : World) :
    (binOp .eql 122 (.agg (fv sl).toArray) (.agg (fv sl').toArray)).run Try.prog w = .ok (.bool c) w := by
  have fm : ∀ L : List Fd, L.length = 112 → (Value.agg (fv L).toArray).formed Try.prog 122 = true := fun L hL => by
    have e2 : Try.prog.cellsOf 122 = 224 := by kernel_rfl
    simp [Value.formed, Try.underlying122, e2, fv_len, hL]
  obtain ⟨r, hr, hiff⟩ := run_equalIn_deep (P := Try.prog) 9997 3 122 (by kernel_rfl) w 3 3 (.agg (fv sl).toArray) (.agg (fv sl').toArray) (sl.flatMap lits) (sl'.flatMap lits) (fm sl hs) (fm sl' hs') (by simpa [Value.cells] using kl_ring sl hs hf) (by simpa [Value.cells] using kl_ring sl' hs' hf')
  have hrc : r = c := by
    have h1 : (sl.flatMap lits = sl'.flatMap lits) ↔ sl = sl' := ⟨litsL_inj (by omega), fun e => by rw [e]⟩
    rw [h1, ← hc] at hiff
    cases r <;> cases c <;> simp_all
  rw [run_eql_struct, hr, hrc]
  rfl

section
variable {P : Program}
theorem yieldsIf_load_row {ops : Array Oper} {S : World → Prop} {op : Oper} {a : Act} (hw : Region.wanted op (yielded ops a.tmps) = true) (ty : TypeId) (x : Operand) (ho : op.op = .load ty x)
    (b : Nat) (hx : a.eval x = .pointer (some ⟨b, 0, none⟩)) (cs : List Value) (d : TypeDesc) (t : TypeId) (hS : ∀ w, S w → RowIs w b t cs)
    (hu : P.underlying ty = some d) (hd : (match d with | .struct _ | .array _ _ => true | _ => false) = true) (hi : (P.info? ty).map (·.size) = some cs.length) : YieldsIf P ops S op (.agg cs.toArray) a :=
  .inl ⟨hw, fun w hw' => by
    unfold execOp
    simp only [ho, hx, Instr.loadAt, Instr.sureAddr, Sem.run_bind, Sem.run_pure, Result.andThen_ok, run_loadVar_row w b t ty cs.toArray (0, 0) d (hS w hw') hu hd (by simpa using hi)]⟩
end
theorem rowIs_range {w : World} {b : Nat} {t : TypeId} {xs ys : List Value} (h : RowIs w b t (xs ++ ys)) : w.rangeAt b 0 xs := fun j v hv => by
  rw [Nat.zero_add]
  exact h.cell (by rw [List.getElem?_append_left (List.getElem?_eq_some_iff.1 hv).1]; exact hv)
/-- The zero ring. -/
def ringZ : List Value := rC (ringS 0 []) 0 0 0
theorem ringZ_zero : (∀ w, (zeroValue 124).run Try.prog w = .ok (.agg ringZ.toArray) w) ∧ (Try.prog.info? 124).map (·.size) = some 227 := zero_of_info (by kernel_rfl)
theorem ringZ_len : ringZ.length = 227 := rC_len (ringS_len _ _) _ _ _
theorem ringZ_at {w : World} {b : Nat} (h : RowIs w b 124 ringZ) : RingAt w b 0 [] := ⟨by omega, by simp, h⟩
end Go.Proofs.Ytejmnkabmajebaa
/- A Table that is drawn, right or not: its rows are owned and short; of what was there the cursor alone has moved. -/
namespace Go.Proofs.Ytejmnkabmajebaa
open Go.RowKit
set_option maxRecDepth 100000
set_option linter.unusedSimpArgs false
set_option linter.unusedVariables false

def Fd.small (f : Fd) : Prop := f.n.size ≤ 100 ∧ f.v.size ≤ 100
theorem Fd.small.fine {f : Fd} (h : f.small) : f.fine := small_fine h.1 h.2
theorem ok_small {f : Fd} (h : okF f = true) : f.small := by have := okF_parts h; exact ⟨by omega, by omega⟩

theorem cellI4 {u : World} {b : Nat} {ty : TypeId} {s0 s1 s2 s3 : Int} (h : RowIs u b ty [.int .i64 s0, .int .i64 s1, .int .i64 s2, .int .i64 s3]) (k : Nat) (hk : k < 4) : ∃ s : Int, u.cell? ⟨b, k, none⟩ = some (.int .i64 s) := by
  match k, hk with
  | 0, _ => exact ⟨s0, h.cell rfl⟩
  | 1, _ => exact ⟨s1, h.cell rfl⟩
  | 2, _ => exact ⟨s2, h.cell rfl⟩
  | 3, _ => exact ⟨s3, h.cell rfl⟩

/-- One more row behind the others, in the table's box. -/
theorem tabAt_more {w w' : World} {g base : Nat} {room : Int} {L : List Fd} {a ad : Option Addr} {p cap : Nat} {f : Fd} (hrow : RowIs w g 26 [.int .i64 room, .slice a L.length p]) (hg : w.grownBy w' (Value.slice a L.length p).ownBlock)
    (hap : (Value.slice a L.length p).ownBlock ≠ some g) (hown : w'.ownsRow base 46 2 (.slice ad (L.length + 1) cap) (L.length + 1) (fv L ++ fv [f]))
    (hat : (Value.slice ad (L.length + 1) cap).ownBlock = (Value.slice a L.length p).ownBlock ∨ (Value.slice ad (L.length + 1) cap).ownBlock = some w.heap.size) :
    RowIs w' g 26 [.int .i64 room, .slice a L.length p] ∧ TabAt (w'.setCell ⟨g, 1, none⟩ (.slice ad (L.length + 1) cap)) g base room (L ++ [f]) := by
  have hlt := hrow.lt
  have hr' : RowIs w' g 26 [.int .i64 room, .slice a L.length p] := hrow.kept (hg.block g hlt (fun e => hap e.symm))
  have hap' : (Value.slice ad (L.length + 1) cap).ownBlock ≠ some g := by
    rcases hat with h | h
    · rw [h]; exact hap
    · rw [h]; intro e; simp only [Option.some.injEq] at e; omega
  have e1 : (L ++ [f]).length = L.length + 1 := by simp
  refine ⟨hr', ⟨ad, cap, by rw [e1]; exact hr'.set 1 _, ?_, by rw [e1]; exact hap'⟩⟩
  rw [e1, fv_app]
  exact owns_apart hown _ _ hap'

theorem reads_row1 (w : World) (f : Fd) : Reads (w.alloc (.cells #[.string f.n, .string f.v] 46)) (.slice (some ⟨w.heap.size, 0, none⟩) 1 1) 1 2 (fv [f]) := reads_of_owns (owns_two w 46 f)

set_option maxHeartbeats 2000000 in
theorem drawAny (g B : Nat) (w : World) (hc : Cur w g B) :
    Calls Try.prog 37 #[.pointer (some ⟨g, 0, none⟩)] w fun e w' => ∃ (room : Int) (v : Value) (L : List Fd), e = .returned (.agg #[.int .i64 room, v]) ∧ w'.ownsRow (w.heap.size + 1) 46 2 v L.length (fv L) ∧ (∀ f ∈ L, f.small) ∧ L.length ≤ 7 ∧ Cur w' g B ∧ Moves g w w' := by
  have hgw := hc.lt
  go_enter Try.func37, Try.ntmps37
  go_wp2_with fail
  generalize hw1 : w.alloc _ = w1
  have hc1 : Cur w1 g B := by rw [← hw1]; exact hc.alloc _
  have hm1 : Moves g w w1 := by rw [← hw1]; exact (Moves.refl g w).alloc _
  have hr1 : RowIs w1 w.heap.size 26 [.int .i64 0, .slice none 0 0] := by rw [← hw1]; exact rowIs_new w 26 [.int .i64 0, .slice none 0 0]
  have hs1 : w1.heap.size = w.heap.size + 1 := by rw [← hw1]; simp
  clear hw1 hc
  refine (drawTab g B _ hc1).mono ?_; rintro e w2 ⟨room, v, L, rfl, x0, x1, hown, hok, hLen, hc2, hm2⟩
  obtain ⟨a, p, rfl, _⟩ := owns_form hown
  have hs2 := hm2.size
  have HOK : Hid (∀ f ∈ L, f.small) := fun f hf => ok_small (hok f hf)
  clear hok
  have hA0 := tabAt_new (room := room) (owns_base (base' := w.heap.size + 1) hown (fun k hk => by have := (hown.lt k hk).1; omega))
  go_upto_region 2 with fail
  have hcA := hc2.alloc (.cells #[.int .i64 room, .slice a L.length p] 26)
  have hmA := (hm1.trans hm2).alloc (.cells #[.int .i64 room, .slice a L.length p] 26)
  have hrA := (hr1.moves hm2 (by omega)).alloc (.cells #[.int .i64 room, .slice a L.length p] 26)
  obtain ⟨b, hb⟩ : ∃ b, b = w2.heap.size := ⟨_, rfl⟩
  rw [← hb] at hA0
  have hb1 : w.heap.size < b := by omega
  clear hc1 hm1 hr1 hc2 hm2 hown
  rw [← hb]
  generalize (w2.alloc (.cells #[.int .i64 room, .slice a L.length p] 26)) = w3 at *
  clear hb hs1 hs2
  go_wp2_with fail
  refine (once1 g B 12 _ hcA (by omega)).mono ?_; rintro e w4 ⟨v, rfl, hc4, hm4⟩
  replace hA0 := hA0.moves hm4 (by omega) (by omega)
  replace hrA := hrA.moves hm4 (by omega)
  replace hmA := hmA.trans hm4
  clear hm4 hcA
  go_upto_if 7 with fail
  go_cut [] (fun wc => ∃ (room : Int) (L : List Fd), TabAt wc b (w.heap.size + 1) room L ∧ (∀ f ∈ L, f.small) ∧ L.length ≤ 7 ∧ RowIs wc w.heap.size 26 [.int .i64 0, .slice none 0 0] ∧ Cur wc g B ∧ Moves g w wc)
  case first =>
    cases v
    · go_wp2_with fail
      go_meet
      exact ⟨room, L, hA0, HOK.out, by omega, hrA, hc4, hmA⟩
    go_wp2_with fail
    refine (below1 g B 3 _ hc4 (by omega)).mono ?_; rintro e w5 ⟨z, z0, z1, _, rfl, hc5, hm5⟩
    have z3 := z1 (by omega)
    replace hA0 := hA0.moves hm5 (by omega) (by omega)
    replace hrA := hrA.moves hm5 (by omega)
    replace hmA := hmA.trans hm5
    clear hm5 hc4 z1
    have hs5 := hmA.size
    obtain rfl | rfl | rfl : z = 0 ∨ z = 1 ∨ z = 2 := by omega
    · go_wp2_with fail
      have hb6 := rowIs_new w5 2 [.int .i64 (-1), .int .i64 0, .int .i64 1000, .int .i64 1001]
      have hb5 : Below w5.heap.size w5 (w5.alloc (.cells #[.int .i64 (-1), .int .i64 0, .int .i64 1000, .int .i64 1001] 2)) := (Below.refl _ _).alloc (Nat.le_refl _) _
      have hg5 := hc5.lt
      refine (below1 g B 4 _ (hc5.alloc _) (by omega)).mono ?_; rintro e w6 ⟨z, z0, z1, _, rfl, hc6, hm6⟩
      have z4 := z1 (by omega)
      obtain ⟨k, rfl⟩ : ∃ k : Nat, z = k := ⟨z.toNat, by omega⟩
      have hk : k < 4 := by omega
      obtain ⟨r, hcell⟩ := cellI4 (hb6.moves hm6 (by omega)) k hk
      have hA6 := (tabAt_later hA0 hb5).moves hm6 (by omega) (by omega)
      have hr6 := (hrA.new hb5).moves hm6 (by omega)
      have hm7 := (hmA.trans (Moves.of_below (g := g) hb5)).trans hm6
      obtain ⟨a6, p6, hrow, _, _⟩ := hA6.ex
      have c0 := hrow.cell (j := 0) rfl
      have e0 := hrow.frozen 0
      clear hb6 hb5 hm6 hA0 hrA hmA hrow
      go_wp2_with fail
      go_meet
      exact ⟨r, L, tabAt_room hA6 r, HOK.out, by omega, hr6.far _ _ (by show b ≠ w.heap.size; omega), hc6.set ⟨b, 0, none⟩ _ (by show g < b; omega), hm7.setNew ⟨b, 0, none⟩ (by show w.heap.size ≤ b; omega) _⟩
    · go_wp2_with fail
      obtain ⟨a5, p5, hrow, hown, hap⟩ := hA0.ex
      have c1 := hrow.cell (j := 1) rfl
      refine wp_region_any (by kernel_rfl) ?_; change wpAny _ _ _ _ _ _ _ (World.drew _)
      refine wpAny_take (i := 0) (v := ?_) rfl (by kernel_rfl) (by kernel_rfl) (by kernel_rfl) (fun _ _ _ h => h) (Or.inl ⟨by rfl, ?_⟩) ?_; rotate_left; focus (intro w; go_simp; try with_reducible rfl)
      refine wpAny_take (i := 2) (v := ?_) rfl (by kernel_rfl) (by kernel_rfl) (by kernel_rfl) (fun _ _ _ h => h) (Or.inl ⟨by rfl, ?_⟩) ?_; rotate_left; focus (intro w; go_simp; try with_reducible rfl)
      refine wpAny_ready (rs := [1, 3]) (by kernel_rfl) (by simp) ?_; refine AllReady.cons rfl (fun K hK => ?_) (AllReady.cons rfl (fun K hK => ?_) AllReady.nil)
      · go_simp; refine hK _ _ ?_; clear hK K
        refine wpAny_ready (rs := [3]) (by kernel_rfl) (by simp) ?_; refine AllReady.cons rfl (fun K hK => ?_) AllReady.nil
        go_simp
        refine (drawField g B _ hc5.drew).mono ?_; rintro e w6 ⟨f, hn, hv, rfl, hc6, hm6⟩
        refine hK _ _ ?_; clear hK K
        replace hm6 : Moves g w5 w6 := ((Moves.refl g w5).drew).trans hm6
        have hrow6 := hrow.moves hm6 (by omega)
        have c6 := hrow6.cell (j := 1) rfl
        have hX : Below w6.heap.size w6 (w6.alloc (.cells #[.string f.n, .string f.v] 46)) := (Below.refl _ _).alloc (Nat.le_refl _) _
        have hrowX := hrow6.new hX
        have hownX := owns_new (ownsRow_moves hown hm6 (by omega)) hX
        have cX := hrowX.cell (j := 1) rfl
        have hcX := hc6.below hX
        have hmX := (hmA.trans hm6).trans (Moves.of_below (g := g) hX)
        have hrX := (hrA.moves hm6 (by omega)).new hX
        have hRd := reads_row1 w6 f
        have hsX := hmX.size
        have HSM : Hid (∀ u ∈ L ++ [f], u.small) := fun u hu => by rcases List.mem_append.1 hu with h | h; exact HOK.out u h; simp at h; rw [h]; exact ⟨hn, hv⟩
        refine wpAny_ready (rs := [4]) (by kernel_rfl) (by simp) ?_; refine AllReady.cons rfl (fun K hK => ?_) AllReady.nil
        go_simp; refine hK _ _ ?_; clear hK K
        refine wpAny_ready (rs := [5]) (by kernel_rfl) (by simp) ?_; refine AllReady.cons rfl (fun K hK => ?_) AllReady.nil
        refine step_app _ (by rfl) _ _ 24 (by rfl) 46 (.agg #[.string ⟨#[]⟩, .string ⟨#[]⟩]) 2 32 Try.underlying24 (by kernel_rfl) rfl (by decide) (w.heap.size + 1) _ L.length (fv L) (by rfl) hownX _ 1 (fv [f]) (by rfl) hRd (fv_one _) (by omega) (by decide) (by have := hrowX.lt; omega) ?_
        intro ad7 cap7 w7 hown7 hg7 hat7
        refine hK _ _ ?_; clear hK K
        obtain ⟨hr7, hT7⟩ := tabAt_more hrowX hg7 hap hown7 hat7
        have hc7 : Cur w7 g B := hcX.grown hg7 (fun k hk => by have := (hownX.lt k hk).1; omega)
        have hm7 : Moves g w w7 := hmX.grown hg7 (fun k hk => by have := (hownX.lt k hk).1; omega)
        have hq7 := hrX.kept (hg7.block w.heap.size hrX.lt (fun e => by have := (hownX.lt _ e.symm).1; omega))
        have g0 := hr7.cell (j := 1) rfl
        have g1 := hr7.frozen 1
        have HT7 := hide hT7
        clear hT7 hr7 hat7 hg7 hown7 hownX hrowX hRd
        refine wpAny_take (i := 6) (v := ?_) rfl (by kernel_rfl) (by kernel_rfl) (by kernel_rfl) (fun _ _ _ h => h) (Or.inl ⟨by rfl, ?_⟩) ?_; rotate_left; focus (intro w; go_simp; try with_reducible rfl)
        refine wpAny_ready (rs := [7]) (by kernel_rfl) (by simp) ?_; refine AllReady.cons rfl (fun K hK => ?_) AllReady.nil
        go_simp; refine hK _ _ ?_; clear hK K
        refine wpAny_done (by kernel_rfl) ?_ _
        go_wp2_with fail
        go_meet
        exact ⟨room, L ++ [f], HT7.out, HSM.out, by simp; omega, hq7.far _ _ (by show b ≠ w.heap.size; omega), hc7.set ⟨b, 1, none⟩ _ (by show g < b; omega), hm7.setNew ⟨b, 1, none⟩ (by show w.heap.size ≤ b; omega) _⟩
      · go_simp
        refine (drawField g B _ hc5.drew).mono ?_; rintro e w6 ⟨f, hn, hv, rfl, hc6, hm6⟩
        refine hK _ _ ?_; clear hK K
        replace hm6 : Moves g w5 w6 := ((Moves.refl g w5).drew).trans hm6
        have hrow6 := hrow.moves hm6 (by omega)
        have c6 := hrow6.cell (j := 1) rfl
        have hX : Below w6.heap.size w6 (w6.alloc (.cells #[.string f.n, .string f.v] 46)) := (Below.refl _ _).alloc (Nat.le_refl _) _
        have hrowX := hrow6.new hX
        have hownX := owns_new (ownsRow_moves hown hm6 (by omega)) hX
        have cX := hrowX.cell (j := 1) rfl
        have hcX := hc6.below hX
        have hmX := (hmA.trans hm6).trans (Moves.of_below (g := g) hX)
        have hrX := (hrA.moves hm6 (by omega)).new hX
        have hRd := reads_row1 w6 f
        have hsX := hmX.size
        have HSM : Hid (∀ u ∈ L ++ [f], u.small) := fun u hu => by rcases List.mem_append.1 hu with h | h; exact HOK.out u h; simp at h; rw [h]; exact ⟨hn, hv⟩
        refine wpAny_ready (rs := [1, 4]) (by kernel_rfl) (by simp) ?_; refine AllReady.cons rfl (fun K hK => ?_) (AllReady.cons rfl (fun K hK => ?_) AllReady.nil)
        · go_simp; refine hK _ _ ?_; clear hK K
          refine wpAny_ready (rs := [4]) (by kernel_rfl) (by simp) ?_; refine AllReady.cons rfl (fun K hK => ?_) AllReady.nil
          go_simp; refine hK _ _ ?_; clear hK K
          refine wpAny_ready (rs := [5]) (by kernel_rfl) (by simp) ?_; refine AllReady.cons rfl (fun K hK => ?_) AllReady.nil
          refine step_app _ (by rfl) _ _ 24 (by rfl) 46 (.agg #[.string ⟨#[]⟩, .string ⟨#[]⟩]) 2 32 Try.underlying24 (by kernel_rfl) rfl (by decide) (w.heap.size + 1) _ L.length (fv L) (by rfl) hownX _ 1 (fv [f]) (by rfl) hRd (fv_one _) (by omega) (by decide) (by have := hrowX.lt; omega) ?_
          intro ad7 cap7 w7 hown7 hg7 hat7
          refine hK _ _ ?_; clear hK K
          obtain ⟨hr7, hT7⟩ := tabAt_more hrowX hg7 hap hown7 hat7
          have hc7 : Cur w7 g B := hcX.grown hg7 (fun k hk => by have := (hownX.lt k hk).1; omega)
          have hm7 : Moves g w w7 := hmX.grown hg7 (fun k hk => by have := (hownX.lt k hk).1; omega)
          have hq7 := hrX.kept (hg7.block w.heap.size hrX.lt (fun e => by have := (hownX.lt _ e.symm).1; omega))
          have g0 := hr7.cell (j := 1) rfl
          have g1 := hr7.frozen 1
          have HT7 := hide hT7
          clear hT7 hr7 hat7 hg7 hown7 hownX hrowX hRd
          refine wpAny_take (i := 6) (v := ?_) rfl (by kernel_rfl) (by kernel_rfl) (by kernel_rfl) (fun _ _ _ h => h) (Or.inl ⟨by rfl, ?_⟩) ?_; rotate_left; focus (intro w; go_simp; try with_reducible rfl)
          refine wpAny_ready (rs := [7]) (by kernel_rfl) (by simp) ?_; refine AllReady.cons rfl (fun K hK => ?_) AllReady.nil
          go_simp; refine hK _ _ ?_; clear hK K
          refine wpAny_done (by kernel_rfl) ?_ _
          go_wp2_with fail
          go_meet
          exact ⟨room, L ++ [f], HT7.out, HSM.out, by simp; omega, hq7.far _ _ (by show b ≠ w.heap.size; omega), hc7.set ⟨b, 1, none⟩ _ (by show g < b; omega), hm7.setNew ⟨b, 1, none⟩ (by show w.heap.size ≤ b; omega) _⟩
        · go_simp; refine hK _ _ ?_; clear hK K
          refine wpAny_ready (rs := [1]) (by kernel_rfl) (by simp) ?_; refine AllReady.cons rfl (fun K hK => ?_) AllReady.nil
          go_simp; refine hK _ _ ?_; clear hK K
          refine wpAny_ready (rs := [5]) (by kernel_rfl) (by simp) ?_; refine AllReady.cons rfl (fun K hK => ?_) AllReady.nil
          refine step_app _ (by rfl) _ _ 24 (by rfl) 46 (.agg #[.string ⟨#[]⟩, .string ⟨#[]⟩]) 2 32 Try.underlying24 (by kernel_rfl) rfl (by decide) (w.heap.size + 1) _ L.length (fv L) (by rfl) hownX _ 1 (fv [f]) (by rfl) hRd (fv_one _) (by omega) (by decide) (by have := hrowX.lt; omega) ?_
          intro ad7 cap7 w7 hown7 hg7 hat7
          refine hK _ _ ?_; clear hK K
          obtain ⟨hr7, hT7⟩ := tabAt_more hrowX hg7 hap hown7 hat7
          have hc7 : Cur w7 g B := hcX.grown hg7 (fun k hk => by have := (hownX.lt k hk).1; omega)
          have hm7 : Moves g w w7 := hmX.grown hg7 (fun k hk => by have := (hownX.lt k hk).1; omega)
          have hq7 := hrX.kept (hg7.block w.heap.size hrX.lt (fun e => by have := (hownX.lt _ e.symm).1; omega))
          have g0 := hr7.cell (j := 1) rfl
          have g1 := hr7.frozen 1
          have HT7 := hide hT7
          clear hT7 hr7 hat7 hg7 hown7 hownX hrowX hRd
          refine wpAny_take (i := 6) (v := ?_) rfl (by kernel_rfl) (by kernel_rfl) (by kernel_rfl) (fun _ _ _ h => h) (Or.inl ⟨by rfl, ?_⟩) ?_; rotate_left; focus (intro w; go_simp; try with_reducible rfl)
          refine wpAny_ready (rs := [7]) (by kernel_rfl) (by simp) ?_; refine AllReady.cons rfl (fun K hK => ?_) AllReady.nil
          go_simp; refine hK _ _ ?_; clear hK K
          refine wpAny_done (by kernel_rfl) ?_ _
          go_wp2_with fail
          go_meet
          exact ⟨room, L ++ [f], HT7.out, HSM.out, by simp; omega, hq7.far _ _ (by show b ≠ w.heap.size; omega), hc7.set ⟨b, 1, none⟩ _ (by show g < b; omega), hm7.setNew ⟨b, 1, none⟩ (by show w.heap.size ≤ b; omega) _⟩
    · obtain ⟨a5, p5, hrow, hown, hap⟩ := hA0.ex
      have c1 := hrow.cell (j := 1) rfl
      have hX : Below w5.heap.size w5 (w5.alloc (.cells #[.string ⟨#[]⟩, .string ⟨#[]⟩] 46)) := (Below.refl _ _).alloc (Nat.le_refl _) _
      have hrowX := hrow.new hX
      have hownX := owns_new hown hX
      have hcX := hc5.below hX
      have hmX := hmA.trans (Moves.of_below (g := g) hX)
      have hrX := hrA.new hX
      have hRd := reads_row1 w5 ⟨⟨#[]⟩, ⟨#[]⟩⟩
      have hsX := hmX.size
      have HSM : Hid (∀ u ∈ L ++ [(⟨⟨#[]⟩, ⟨#[]⟩⟩ : Fd)], u.small) := fun u hu => by rcases List.mem_append.1 hu with h | h; exact HOK.out u h; simp at h; rw [h]; exact ⟨Nat.zero_le _, Nat.zero_le _⟩
      go_wp2_with (at_builtin; refine Hid.out ?_)
      refine (wpList_app _ rfl _ _ 24 rfl 46 (.agg #[.string ⟨#[]⟩, .string ⟨#[]⟩]) 2 32 Try.underlying24 (by kernel_rfl) rfl (by decide) (w.heap.size + 1) (.slice a5 L.length p5) L.length (fv L) rfl hownX (.slice (some ⟨w5.heap.size, 0, none⟩) 1 1) 1 (fv [⟨⟨#[]⟩, ⟨#[]⟩⟩]) rfl hRd (fv_one _) ?f3 (by decide) ?f4 ?_)
      case f3 => omega
      case f4 => have := hrowX.lt; omega
      intro ad7 cap7 w7 hown7 hg7 hat7
      obtain ⟨hr7, hT7⟩ := tabAt_more hrowX hg7 hap hown7 hat7
      have hc7 : Cur w7 g B := hcX.grown hg7 (fun k hk => by have := (hownX.lt k hk).1; omega)
      have hm7 : Moves g w w7 := hmX.grown hg7 (fun k hk => by have := (hownX.lt k hk).1; omega)
      have hq7 := hrX.kept (hg7.block w.heap.size hrX.lt (fun e => by have := (hownX.lt _ e.symm).1; omega))
      have g0 := hr7.cell (j := 1) rfl
      have g1 := hr7.frozen 1
      have HT7 := hide hT7
      clear hT7 hr7 hat7 hg7 hown7 hownX hrowX hRd hX hown hrow hap hA0
      go_wp2_with fail
      go_meet
      exact ⟨room, L ++ [⟨⟨#[]⟩, ⟨#[]⟩⟩], HT7.out, HSM.out, by simp; omega, hq7.far _ _ (by show b ≠ w.heap.size; omega), hc7.set ⟨b, 1, none⟩ _ (by show g < b; omega), hm7.setNew ⟨b, 1, none⟩ (by show w.heap.size ≤ b; omega) _⟩
  case rest =>
    obtain ⟨room, L, hT, hsm, hLL, hR, hcr, hmr⟩ := hcut
    obtain ⟨a, p, hrow, hown, hap⟩ := hT.ex
    have HOWN := hide hown
    have HSM := hide hsm
    have c0 := hrow.cell (j := 0) rfl
    have c1 := hrow.cell (j := 1) rfl
    have r0 := hR.cell (j := 0) rfl
    have r1 := hR.cell (j := 1) rfl
    have p0 := hR.frozen 0
    have p1 := hR.frozen 1
    have hbw : w.heap.size ≠ b := by omega
    have hbw2 : b ≠ w.heap.size := by omega
    clear hown hap hT hrow hsm
    go_wp2_with fail
    refine bodyPost_ret (v := (.agg #[.int .i64 room, .slice a L.length p])) (by simp [results, Try.results37, go_sem, *]) rfl ?_
    exact ⟨room, _, L, rfl, owns_far (w.heap.size + 1) (owns_far (w.heap.size + 1) HOWN.out (fun k hk => (HOWN.out.lt k hk).1) _ _ (by show w.heap.size < w.heap.size + 1; omega)) (fun k hk => (HOWN.out.lt k hk).1) _ _ (by show w.heap.size < w.heap.size + 1; omega), HSM.out, by omega, (hcr.set ⟨w.heap.size, 0, none⟩ (.int .i64 room) (by show g < w.heap.size; omega)).set ⟨w.heap.size, 1, none⟩ (.slice a L.length p) (by show g < w.heap.size; omega), (hmr.setNew ⟨w.heap.size, 0, none⟩ (Nat.le_refl w.heap.size) _).setNew ⟨w.heap.size, 1, none⟩ (Nat.le_refl w.heap.size) _⟩
end Go.Proofs.Ytejmnkabmajebaa
