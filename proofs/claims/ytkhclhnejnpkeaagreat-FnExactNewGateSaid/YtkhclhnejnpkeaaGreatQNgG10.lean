/- Several small texts of one level, one behind the other. -/
import Derived.Test.YtkhclhnejnpkeaaGreatQNgG9
import Derived.DeepKeys
import Derived.Laws.StructEq
import Derived.Deep.MidRow
import Derived.Test.YtkhclhnejnpkeaaGreatQNgG5
import Derived.Deep.RegionHeld3
import Derived.Deep.LoopGhost
import Derived.WalkMore
import Derived.Test.YtkhclhnejnpkeaaGreatQNgBase
import Derived.Test.YtkhclhnejnpkeaaGreatQNgG6
/- Two rings' slots compared as whole arrays. -/
namespace Go.Proofs.YtkhclhnejnpkeaaGreat
open Go.RowKit
set_option maxRecDepth 100000
set_option linter.unusedSimpArgs false
set_option linter.unusedVariables false

def lits (f : Fd) : List Lit := [.string f.n.data.toList, .string f.v.data.toList]
theorem lits_inj {f g : Fd} (h : lits f = lits g) : f = g := by
  obtain ⟨⟨⟨a⟩⟩, ⟨⟨b⟩⟩⟩ := f
  obtain ⟨⟨⟨c⟩⟩, ⟨⟨d⟩⟩⟩ := g
  simp only [lits, List.cons.injEq, Lit.string.injEq, and_true] at h
  obtain ⟨h1, h2⟩ := h
  subst h1 h2
  rfl
theorem litsL_inj : ∀ {A B : List Fd}, A.length = B.length → A.flatMap lits = B.flatMap lits → A = B
  | [], [], _, _ => rfl
  | [], _ :: _, h, _ => by simp at h
  | _ :: _, [], h, _ => by simp at h
  | f :: A, g :: B, h, e => by
    simp only [List.flatMap_cons] at e
    have := List.append_inj e rfl
    rw [lits_inj this.1, litsL_inj (by simpa using h) this.2]
theorem mapM_some {α β : Type} (g : α → Option β) (h : α → β) : ∀ l : List α, (∀ i ∈ l, g i = some (h i)) → l.mapM g = some (l.map h)
  | [], _ => by simp
  | a :: l, H => by
    rw [List.mapM_cons, H a (by simp), mapM_some g h l fun i hi => H i (by simp [hi])]
    rfl
theorem fv_chunk (L : List Fd) (i : Nat) (hi : i < L.length) : ((fv L).drop (i * 2)).take 2 = L[i].cs := by
  have h1 : fv L = fv (L.take i) ++ (L[i].cs ++ fv (L.drop (i + 1))) := by
    conv => lhs; rw [← List.take_append_drop i L, List.drop_eq_getElem_cons hi, fv_app]
    simp only [fv, List.flatMap_cons]
  have h2 : (fv (L.take i)).length = i * 2 := by rw [fv_len, List.length_take]; omega
  rw [h1, List.drop_append_of_le_length (by omega), List.drop_of_length_le (by omega), List.nil_append, List.take_append_of_le_length (by simp [Fd.cs])]
  rfl
theorem kl_field (f : Fd) (hf : f.fine) : Tryz.prog.keyLits 2 160 f.cs = some (lits f) := by
  obtain ⟨h1, h2⟩ := hf
  have e1 : Tryz.prog.cellsOf 160 = 2 := by kernel_rfl
  have e2 : Tryz.prog.cellsOf 9 = 1 := by kernel_rfl
  have m1 : f.n.size ≤ maxLen := by unfold maxLen; omega
  have m2 : f.v.size ≤ maxLen := by unfold maxLen; omega
  simp [Program.keyLits, Tryz.underlying160, Tryz.underlying9, e1, e2, Fd.cs, m1, m2, lits]
theorem kl_ring (sl : List Fd) (hs : sl.length = 112) (hf : ∀ f ∈ sl, f.fine) : Tryz.prog.keyLits 3 191 (fv sl) = some (sl.flatMap lits) := by
  have e1 : Tryz.prog.cellsOf 160 = 2 := by kernel_rfl
  have e2 : Tryz.prog.cellsOf 191 = 224 := by kernel_rfl
  have hl : (fv sl).length = 224 := by rw [fv_len, hs]
  unfold Program.keyLits
  simp only [Tryz.underlying191, e2, hl, if_true, e1]
  rw [mapM_some _ (fun i => lits (sl.getD i zF)) _ (fun i hi => by
    have hi' : i < sl.length := by rw [hs]; simpa using hi
    rw [fv_chunk sl i hi', kl_field _ (hf _ (List.getElem_mem hi'))]
    simp [hi'])]
  have : (List.range 112).map (fun i => sl.getD i zF) = sl := by
    refine List.ext_getElem (by simp [hs]) fun i h1 h2 => ?_
    simp [h2]
  conv => rhs; rw [← this]
  simp [List.flatMap_def, Function.comp_def]

theorem eqRings (sl sl' : List Fd) (hs : sl.length = 112) (hs' : sl'.length = 112) (hf : ∀ f ∈ sl, f.fine) (hf' : ∀ f ∈ sl', f.fine) (c : Bool) (hc : c = true ↔ sl = sl') (w : World) :
    (binOp .eql 191 (.agg (fv sl).toArray) (.agg (fv sl').toArray)).run Tryz.prog w = .ok (.bool c) w := by
  have fm : ∀ L : List Fd, L.length = 112 → (Value.agg (fv L).toArray).formed Tryz.prog 191 = true := fun L hL => by
    have e2 : Tryz.prog.cellsOf 191 = 224 := by kernel_rfl
    simp [Value.formed, Tryz.underlying191, e2, fv_len, hL]
  obtain ⟨r, hr, hiff⟩ := run_equalIn_deep (P := Tryz.prog) 9997 3 191 (by kernel_rfl) w 3 3 (.agg (fv sl).toArray) (.agg (fv sl').toArray) (sl.flatMap lits) (sl'.flatMap lits) (fm sl hs) (fm sl' hs') (by simpa [Value.cells] using kl_ring sl hs hf) (by simpa [Value.cells] using kl_ring sl' hs' hf')
  have hrc : r = c := by
    have h1 : (sl.flatMap lits = sl'.flatMap lits) ↔ sl = sl' := ⟨litsL_inj (by omega), fun e => by rw [e]⟩
    rw [h1, ← hc] at hiff
    cases r <;> cases c <;> simp_all
  rw [run_eql_struct, hr, hrc]
  rfl

section
variable {P : Program}
theorem yieldsIf_load_row {ops : Array Oper} {S : World → Prop} {op : Oper} {a : Act} (hw : Region.wanted op (yielded ops a.tmps) = true) (ty : TypeId) (x : Operand) (ho : op.op = .load ty x)
    (b : Nat) (hx : a.eval x = .pointer (some ⟨b, 0, none⟩)) (cs : List Value) (d : TypeDesc) (t : TypeId) (hS : ∀ w, S w → RowIs w b t cs)
    (hu : P.underlying ty = some d) (hd : (match d with | .struct _ | .array _ _ => true | _ => false) = true) (hi : (P.info? ty).map (·.size) = some cs.length) : YieldsIf P ops S op (.agg cs.toArray) a :=
  .inl ⟨hw, fun w hw' => by
    unfold execOp
    simp only [ho, hx, Instr.loadAt, Instr.sureAddr, Sem.run_bind, Sem.run_pure, Result.andThen_ok, run_loadVar_row w b t ty cs.toArray (0, 0) d (hS w hw') hu hd (by simpa using hi)]⟩
end
theorem rowIs_range {w : World} {b : Nat} {t : TypeId} {xs ys : List Value} (h : RowIs w b t (xs ++ ys)) : w.rangeAt b 0 xs := fun j v hv => by
  rw [Nat.zero_add]
  exact h.cell (by rw [List.getElem?_append_left (List.getElem?_eq_some_iff.1 hv).1]; exact hv)
/-- The zero ring. -/
def ringZ : List Value := rC (ringS 0 []) 0 0 0
theorem ringZ_zero : (∀ w, (zeroValue 193).run Tryz.prog w = .ok (.agg ringZ.toArray) w) ∧ (Tryz.prog.info? 193).map (·.size) = some 227 := zero_of_info (by kernel_rfl)
theorem ringZ_len : ringZ.length = 227 := rC_len (ringS_len _ _) _ _ _
theorem ringZ_at {w : World} {b : Nat} (h : RowIs w b 193 ringZ) : RingAt w b 0 [] := ⟨by omega, by simp, h⟩
end Go.Proofs.YtkhclhnejnpkeaaGreat
/- Chapter 15's model: a copy of a list of tenants, and who is found in it. -/
namespace Go.Proofs.YtkhclhnejnpkeaaGreat
open Go.RowKit
set_option maxRecDepth 100000
set_option linter.unusedSimpArgs false
set_option linter.unusedVariables false
set_option maxHeartbeats 4000000 in
theorem specCopy15 (L : List TenantD) (v : Value) (w : World) (hr : RdR tenantS w v L) (hok : okTs L = true) :
    Calls Tryz.prog 38 #[v] w fun x w' => ∃ v', x = .returned v' ∧ OwX tenantS w' w.heap.size w'.heap.size v' L ∧ Below w.heap.size w w' := by
  obtain ⟨ad, cap, rfl, h1, h2⟩ := hr.form
  have HR := hide hr
  obtain ⟨hl8, hall⟩ := okTs_iff.1 hok
  have HALL := hide hall
  clear hr hall hok
  have hX0 : Below w.heap.size w (w.alloc (.cells #[] 88)) := (Below.refl _ _).alloc (Nat.le_refl _) _
  have HO0 : Hid (OwX tenantS (w.alloc (.cells #[] 88)) w.heap.size (w.alloc (.cells #[] 88)).heap.size (.slice (some ⟨w.heap.size, 0, none⟩) 0 0) []) := owX_empty w _ (by simp)
  have HX0 := hide hX0
  clear hX0
  go_enter Tryz.func38, Tryz.ntmps38
  go_wp2_with fail
  generalize w.alloc (.cells #[] 88) = W at *
  go_loopw [3, 4, 5] (fun s i _ wr => ∃ (k : Nat) (ab : Option Addr) (pb : Nat), i = .int .i64 (k : Int) ∧ s = .slice ab k pb ∧ k ≤ L.length ∧ Hid (OwX tenantS wr w.heap.size wr.heap.size (.slice ab k pb) (L.take k)) ∧ Hid (Below w.heap.size w wr)) (fun _ i _ _ => L.length - (intOf i).toNat)
  case atStart => exact ⟨0, _, _, rfl, rfl, Nat.zero_le _, HO0, HX0⟩
  case round =>
    clear HO0 HX0
    obtain ⟨k, ab, pb, rfl, rfl, hk, HO, HB⟩ := hrel
    by_cases hlt : k < L.length
    rotate_left
    · have hltI : ¬ (k : Int) < L.length := by omega
      obtain rfl : k = L.length := by omega
      rw [List.take_length] at HO
      go_wp2_with fail
      go_ret
      exact ⟨_, rfl, HO.out, HB.out⟩
    have hltI : (k : Int) < L.length := by omega
    obtain ⟨b, o, al, pl, rfl, hbw, c0, c1, c2, c3, f0, f1, hls, q1, q2⟩ := ten_at (HR.out.new HB.out) hlt
    have hokx := (okTn_iff.1 (HALL.out k hlt).1).2.2.1
    have HTK : Hid (L.take (k + 1) = L.take k ++ [tn L k]) := by show _ = _; rw [tn_get hlt]; exact List.take_succ_eq_append_getElem hlt
    obtain ⟨x, hx⟩ : ∃ x, tn L k = x := ⟨_, rfl⟩
    rw [hx] at c0 c1 c2 c3 f0 f1 hls q1 hokx HTK
    clear hx
    have hX : Below wr.heap.size wr (wr.alloc (.cells #[.string x.nm, .string x.key, .slice al x.list.length pl, .int .i64 x.quota] 88)) := (Below.refl _ _).alloc (Nat.le_refl _) _
    have RX := rowIs_new wr 88 [.string x.nm, .string x.key, .slice al x.list.length pl, .int .i64 x.quota]
    have hsX : wr.heap.size + 1 ≤ (wr.alloc (.cells #[.string x.nm, .string x.key, .slice al x.list.length pl, .int .i64 x.quota] 88)).heap.size := by simp
    have HLS := hide (hls.new hX)
    have HOX := hide (HO.out.new hX)
    have HBX := hide (bchain HB.out hX)
    have hsr := HB.out.size
    clear hls
    go_upto_region 6 with fail
    clear c0 c1 c2 c3 hbw HB HO hX
    generalize hge : wr.heap.size = ge at *
    clear hge
    generalize wr.alloc (.cells #[.string x.nm, .string x.key, .slice al x.list.length pl, .int .i64 x.quota] 88) = X at *
    have x2 := RX.cell (j := 2) rfl
    have xf := RX.frozen 2
    have xl := RX.lt
    have hY : Below X.heap.size X (X.alloc (.cells #[] 9)) := (Below.refl _ _).alloc (Nat.le_refl _) _
    have hoY : (X.alloc (.cells #[] 9)).ownsRow X.heap.size 9 1 (.slice (some ⟨X.heap.size, 0, none⟩) 0 0) 0 [] := owns_lit X 9 1 0 #[] rfl (by omega)
    have hrY := rd_strs (HLS.out.new hY)
    have HSMS := hide (rd_small HLS.out)
    go_wp2_with (at_builtin; go_must (refine wpList_app _ (by rfl) _ _ 82 (by rfl) 9 (.string ⟨#[]⟩) 1 16 Tryz.underlying82 (by kernel_rfl) rfl (by decide) X.heap.size _ 0 [] (by rfl) hoY _ x.list.length (x.list.map Value.string) (by rfl) hrY (sv_one15 _) (by omega) (by decide) hY.size ?_))
    intro ad7 cp7 w7 hown7 hg7 hat7
    try simp only [Nat.zero_add, List.nil_append] at hown7
    have hb7 : Below X.heap.size X w7 := hY.grown hg7 hY.size (fun k hk => (hoY.lt k hk).1)
    have R7 := RX.new hb7
    have c27 := R7.cell (j := 2) rfl
    have f27 := R7.frozen 2
    have l7 := R7.lt
    have hs7 := hb7.size
    have HRB := hide (R7.set 2 (.slice ad7 x.list.length cp7))
    have HO7 : Hid (w7.ownsRow X.heap.size 9 1 (.slice ad7 x.list.length cp7) x.list.length (x.list.map Value.string)) := hown7
    have HO8 := hide (owns_apart HO7.out ⟨ge, 2, none⟩ (.slice ad7 x.list.length cp7) (fun e => by have := (HO7.out.lt _ e).1; simp at this; omega))
    have HOX8 := hide ((HOX.out.new hb7).far ⟨ge, 2, none⟩ (.slice ad7 x.list.length cp7) (.inr (Nat.le_refl _)))
    have HB8 := hide ((bchain HBX.out hb7).setCell (p := ⟨ge, 2, none⟩) (show w.heap.size ≤ ge by omega) (.slice ad7 x.list.length cp7))
    have hs8 : ge + 1 ≤ (w7.setCell ⟨ge, 2, none⟩ (.slice ad7 x.list.length cp7)).heap.size := by simp; omega
    clear hown7 hg7 hat7 hoY hrY hY HO7 HOX HBX HLS RX x2 xf xl R7
    try rw [Nat.zero_add]
    go_upto_region 7 with fail
    clear c27 f27 l7 hb7
    generalize w7.setCell ⟨ge, 2, none⟩ (.slice ad7 x.list.length cp7) = V at *
    have y0 := HRB.out.cell (j := 0) rfl
    have y1 := HRB.out.cell (j := 1) rfl
    have y2 := HRB.out.cell (j := 2) rfl
    have y3 := HRB.out.cell (j := 3) rfl
    have yl := HRB.out.lt
    have hZ : Below V.heap.size V (V.alloc (.cells #[.string x.nm, .string x.key, .slice ad7 x.list.length cp7, .int .i64 x.quota] 88)) := (Below.refl _ _).alloc (Nat.le_refl _) _
    have RZ := rowIs_new V 88 [.string x.nm, .string x.key, .slice ad7 x.list.length cp7, .int .i64 x.quota]
    have hrdl : Reads (V.alloc (.cells #[.string x.nm, .string x.key, .slice ad7 x.list.length cp7, .int .i64 x.quota] 88)) (.slice (some ⟨V.heap.size, 0, none⟩) 1 1) 1 4 [.string x.nm, .string x.key, .slice ad7 x.list.length cp7, .int .i64 x.quota] := ⟨by simp, _, _, rfl, Nat.le_refl _, by unfold maxLen; omega, fun _ => ⟨V.heap.size, 0, rfl, RZ.lt, fun r y hy => by simpa using RZ.cell hy⟩⟩
    have hone : ∀ y ∈ ([.string x.nm, .string x.key, .slice ad7 x.list.length cp7, .int .i64 x.quota] : List Value), y.oneCell' = true := by intro y hy; simp at hy; rcases hy with rfl | rfl | rfl | rfl <;> rfl
    have HBZ := hide (bchain HB8.out hZ)
    have hsZ := hZ.size
    have hlk : (L.take k).length = k := by rw [List.length_take]; omega
    obtain ⟨xs, hoz, hgrow⟩ := (HOX8.out.new hZ).grow (by omega) (by omega)
    rw [hlk] at hoz hgrow
    have hoe : OwE tenantS (V.alloc (.cells #[.string x.nm, .string x.key, .slice ad7 x.list.length cp7, .int .i64 x.quota] 88)) ge (V.alloc (.cells #[.string x.nm, .string x.key, .slice ad7 x.list.length cp7, .int .i64 x.quota] 88)).heap.size [.string x.nm, .string x.key, .slice ad7 x.list.length cp7, .int .i64 x.quota] x := by
      have h9 := strs_owr (owns_base (owns_new HO8.out hZ) (fun _ _ => Nat.zero_le _)) HSMS.out
      refine ⟨_, ⟨_, _, rfl, f0, f1, h9, rfl⟩, opt_nodup _, fun y hy => ⟨?_, h9.lt y hy⟩⟩
      cases hq : (Value.slice ad7 x.list.length cp7).ownBlock with
      | none => rw [hq] at hy; cases hy
      | some z => rw [hq] at hy; simp at hy; subst hy; have := (HO8.out.lt y hq).1; omega
    have HGR := hide (fun w1 v' h1 h2 h3 => hgrow w1 v' _ x hoe h1 h2 h3)
    have hbo : ∀ q, (Value.slice ab k pb).ownBlock = some q → w.heap.size ≤ q := fun q hq => (HOX8.out.own q hq).1
    have HBO := hide hbo
    clear hgrow hoe RZ HOX8 HO8 HB8 hZ hbo
    go_wp2_with (at_builtin; go_must (refine wpList_app _ (by rfl) _ _ 30 (by rfl) 88 (.agg #[.string ⟨#[]⟩, .string ⟨#[]⟩, .slice none 0 0, .int .i64 0]) 4 64 Tryz.underlying30 (by kernel_rfl) rfl (by decide) 0 _ k xs (by rfl) hoz _ 1 _ (by rfl) hrdl hone (by omega) (by decide) (Nat.zero_le _) ?_))
    intro ad9 cp9 w9 hown9 hg9 hat9
    have HO9 := hide (HGR.out w9 _ hown9 hg9 (hat9.imp id (fun h => by rw [h]; simp)))
    have HB9 := hide (HBZ.out.grown hg9 (by omega) (fun q hq => HBO.out q hq))
    rw [← HTK.out] at HO9
    clear hown9 hg9 hat9 HGR HBZ HBO hoz hrdl hone y0 y1 y2 y3 yl HRB
    go_wp2_with fail
    go_roundw
    case rel => exact ⟨k + 1, ad9, cp9, by go_num, rfl, by omega, HO9, HB9⟩
    case measure => simp [intOf]; omega
end Go.Proofs.YtkhclhnejnpkeaaGreat
/- The program's registry, its small words: odd numbers, entries, which ones are kept, whether they rise, where one is. -/
namespace Go.Proofs.YtkhclhnejnpkeaaGreat
open Go.RowKit
set_option maxRecDepth 100000
set_option linter.unusedSimpArgs false
set_option linter.unusedVariables false
def oddTo (x m : Int) : Bool := decide (1 ≤ x ∧ x ≤ m ∧ x % 2 = 1)
theorem implOdd (x m : Int) (w : World) : Calls Tryz.prog 140 #[.int .i64 x, .int .i64 m] w fun e w' => e = .returned (.bool (oddTo x m)) ∧ w' = w := by
  cases h : inB x 1 m
  · have hv : oddTo x m = false := by unfold oddTo; refine decide_eq_false fun c => ?_; exact inB_false h ⟨c.1, c.2.1⟩
    rw [hv]
    go_enter Tryz.func140, Tryz.ntmps140
    go_wp2_with fail
    refine (implWithin _ _ _ _).mono ?_; rw [h]; rintro e w1 ⟨rfl, hsame⟩; obtain rfl := hsame.symm; clear hsame
    go_wp2_with fail
    go_ret
    exact ⟨rfl, rfl⟩
  · obtain ⟨h0, h1⟩ := inB_true h
    have ht : x.tmod 2 = x % 2 := Int.tmod_eq_emod_of_nonneg (by omega)
    have hv : oddTo x m = decide (x % 2 = 1) := by unfold oddTo; congr 1; exact propext ⟨fun c => c.2.2, fun c => ⟨h0, h1, c⟩⟩
    rw [hv]
    go_enter Tryz.func140, Tryz.ntmps140
    go_wp2_with fail
    refine (implWithin _ _ _ _).mono ?_; rw [h]; rintro e w1 ⟨rfl, hsame⟩; obtain rfl := hsame.symm; clear hsame
    go_wp2_with fail
    go_ret
    exact ⟨by rfl, rfl⟩
theorem implId (x : Int) (w : World) : Calls Tryz.prog 140 #[.int .i64 x, .int .i64 100000] w fun e w' => e = .returned (.bool (idB x)) ∧ w' = w := implOdd x 100000 w
def liB (e : EntryD) : Bool := !decide (e.state = 4)
def rtB (e : EntryD) : Bool := idB e.id && inB e.state 1 4
theorem implELive (e : EntryD) (w : World) : Calls Tryz.prog 162 #[.agg #[.int .i64 e.id, .int .i64 e.state]] w fun x w' => x = .returned (.bool (liB e)) ∧ Below w.heap.size w w' := by
  by_cases h : e.state = 4
  · have hv : liB e = false := by unfold liB; simp [h]
    rw [hv, h]
    go_enter Tryz.func162, Tryz.ntmps162
    go_wp2_with fail
    go_ret
    exact ⟨rfl, (by repeat' (first | (with_reducible exact Below.refl _ _) | (with_reducible refine Below.drew ?_) | (with_reducible refine bo_drewN _ ?_) | (with_reducible refine bo_alloc ?_ _) | (refine bchain ?_ (by with_reducible assumption)) | (with_reducible refine Below.setCell ?_ ?_ _) | go_size))⟩
  · have hv : liB e = true := by unfold liB; simp [h]
    rw [hv]
    have h4 : (e.state != 4) = true := by simpa using h
    clear h hv
    go_enter Tryz.func162, Tryz.ntmps162
    go_wp2_with fail
    go_ret
    exact ⟨rfl, (by repeat' (first | (with_reducible exact Below.refl _ _) | (with_reducible refine Below.drew ?_) | (with_reducible refine bo_drewN _ ?_) | (with_reducible refine bo_alloc ?_ _) | (refine bchain ?_ (by with_reducible assumption)) | (with_reducible refine Below.setCell ?_ ?_ _) | go_size))⟩
theorem implERight (e : EntryD) (w : World) : Calls Tryz.prog 143 #[.agg #[.int .i64 e.id, .int .i64 e.state]] w fun x w' => x = .returned (.bool (rtB e)) ∧ Below w.heap.size w w' := by
  cases h : idB e.id
  · have hv : rtB e = false := by unfold rtB; rw [h]; rfl
    rw [hv]
    go_enter Tryz.func143, Tryz.ntmps143
    go_wp2_with fail
    refine (implId _ _).mono ?_; rw [h]; rintro e w1 ⟨rfl, hsame⟩; obtain rfl := hsame.symm; clear hsame
    go_wp2_with fail
    go_ret
    exact ⟨rfl, (by repeat' (first | (with_reducible exact Below.refl _ _) | (with_reducible refine Below.drew ?_) | (with_reducible refine bo_drewN _ ?_) | (with_reducible refine bo_alloc ?_ _) | (refine bchain ?_ (by with_reducible assumption)) | (with_reducible refine Below.setCell ?_ ?_ _) | go_size))⟩
  · have hv : rtB e = inB e.state 1 4 := by unfold rtB; rw [h]; rfl
    rw [hv]
    go_enter Tryz.func143, Tryz.ntmps143
    go_wp2_with fail
    refine (implId _ _).mono ?_; rw [h]; rintro e w1 ⟨rfl, hsame⟩; obtain rfl := hsame.symm; clear hsame
    go_wp2_with fail
    refine (implWithin _ _ _ _).mono ?_; rintro e w1 ⟨rfl, hsame⟩; obtain rfl := hsame.symm; clear hsame
    go_wp2_with fail
    go_ret
    exact ⟨rfl, (by repeat' (first | (with_reducible exact Below.refl _ _) | (with_reducible refine Below.drew ?_) | (with_reducible refine bo_drewN _ ?_) | (with_reducible refine bo_alloc ?_ _) | (refine bchain ?_ (by with_reducible assumption)) | (with_reducible refine Below.setCell ?_ ?_ _) | go_size))⟩
theorem implReaches (l t : Int) (v : Value) (e : EntryD) (w : World) (hv : ∃ ad n cap, v = .slice ad n cap) : Calls Tryz.prog 144 #[.agg #[.int .i64 l, .int .i64 t, v], .agg #[.int .i64 e.id, .int .i64 e.state]] w fun x w' => x = .returned (.bool (decide (e.id ≤ t))) ∧ Below w.heap.size w w' := by
  obtain ⟨ad, n, cap, rfl⟩ := hv
  go_enter Tryz.func144, Tryz.ntmps144
  go_wp2_with fail
  go_ret
  exact ⟨rfl, (by repeat' (first | (with_reducible exact Below.refl _ _) | (with_reducible refine Below.drew ?_) | (with_reducible refine bo_drewN _ ?_) | (with_reducible refine bo_alloc ?_ _) | (refine bchain ?_ (by with_reducible assumption)) | (with_reducible refine Below.setCell ?_ ?_ _) | go_size))⟩
theorem implBelow (a b : EntryD) (w : World) : Calls Tryz.prog 146 #[.agg #[.int .i64 a.id, .int .i64 a.state], .agg #[.int .i64 b.id, .int .i64 b.state]] w fun x w' => x = .returned (.bool (decide (a.id < b.id))) ∧ Below w.heap.size w w' := by
  go_enter Tryz.func146, Tryz.ntmps146
  go_wp2_with fail
  go_ret
  exact ⟨rfl, (by repeat' (first | (with_reducible exact Below.refl _ _) | (with_reducible refine Below.drew ?_) | (with_reducible refine bo_drewN _ ?_) | (with_reducible refine bo_alloc ?_ _) | (refine bchain ?_ (by with_reducible assumption)) | (with_reducible refine Below.setCell ?_ ?_ _) | go_size))⟩
theorem implList (d : RegistryD) (v : Value) (w : World) (hr : RdR entryS w v d.es) : Calls Tryz.prog 141 #[.agg #[.int .i64 d.lim, .int .i64 d.top, v]] w fun x w' => x = .returned v ∧ Below w.heap.size w w' := by
  obtain ⟨ad, cap, rfl, h1, h2⟩ := hr.form
  go_enter Tryz.func141, Tryz.ntmps141
  go_wp2_with fail
  go_ret
  exact ⟨rfl, (by repeat' (first | (with_reducible exact Below.refl _ _) | (with_reducible refine Below.drew ?_) | (with_reducible refine bo_drewN _ ?_) | (with_reducible refine bo_alloc ?_ _) | (refine bchain ?_ (by with_reducible assumption)) | (with_reducible refine Below.setCell ?_ ?_ _) | go_size))⟩
/-- What may be wanted of an entry: that it is live, that it is right, that some Registry's Top reaches it. -/
abbrev Wn := Bool ⊕ (Int × Int × Option Addr × Nat × Nat)
def wnV : Wn → Value
  | .inl false => .func (.func 162) #[] #[]
  | .inl true => .func (.func 143) #[] #[]
  | .inr (l, t, a, n, c) => .func (.func 144) #[.agg #[.int .i64 l, .int .i64 t, .slice a n c]] #[]
def wnP : Wn → EntryD → Bool
  | .inl false, e => liB e
  | .inl true, e => rtB e
  | .inr (_, t, _), e => decide (e.id ≤ t)
def keep (ws : List Wn) (L : List EntryD) : List EntryD := L.filter fun e => ws.all fun x => wnP x e
theorem keep_yes {ws : List Wn} {L : List EntryD} {k : Nat} (hk : k < L.length) (h : (ws.all fun x => wnP x L[k]) = true) : keep ws (L.take (k + 1)) = keep ws (L.take k) ++ [L[k]] := by
  unfold keep
  rw [List.take_add_one, List.filter_append, List.getElem?_eq_getElem hk]
  simp only [Option.toList]
  rw [List.filter_cons_of_pos (p := fun e => ws.all fun x => wnP x e) h]; rfl
theorem keep_no {ws : List Wn} {L : List EntryD} {k : Nat} (hk : k < L.length) (h : (ws.all fun x => wnP x L[k]) = false) : keep ws (L.take (k + 1)) = keep ws (L.take k) := by
  unfold keep
  rw [List.take_add_one, List.filter_append, List.getElem?_eq_getElem hk]
  simp only [Option.toList]
  rw [List.filter_cons_of_neg (p := fun e => ws.all fun x => wnP x e) (by rw [h]; simp)]; simp
theorem keep_len (ws : List Wn) (L : List EntryD) : (keep ws L).length ≤ L.length := List.length_filter_le _ _
set_option maxHeartbeats 4000000 in
theorem implOnly (L : List EntryD) (ws : List Wn) (v : Value) (fa : Option Addr) (fc : Nat) (w : World) (hr : RdR entryS w v L) (hf : Reads w (.slice fa ws.length fc) ws.length 1 (ws.map wnV)) (hL : L.length ≤ 60) (hW : ws.length ≤ 5) :
    Calls Tryz.prog 142 #[v, .slice fa ws.length fc] w fun x w' => ∃ v', x = .returned v' ∧ w'.ownsRow w.heap.size 127 2 v' (keep ws L).length (ev (keep ws L)) ∧ Below w.heap.size w w' := by
  obtain ⟨ad, cap, rfl, h1, h2⟩ := hr.form
  have HR := hide hr
  have HF := hide hf
  clear hr hf
  go_enter Tryz.func142, Tryz.ntmps142
  go_wp2_with fail
  go_step3
  go_wp2_with fail
  go_step3
  go_wp2_with fail
  go_loopg [5, 12] L.length (fun g s i wr => ∃ (k : Nat) (a : Option Addr) (p : Nat) (M : List EntryD), k + g = L.length ∧ i = .int .i64 k ∧ s = .slice a M.length p ∧ Hid (keep ws (L.take k) = M) ∧ Hid (wr.ownsRow w.heap.size 127 2 (.slice a M.length p) M.length (ev M)) ∧ Hid (Below w.heap.size w wr))
  case atStart => exact ⟨0, none, 0, [], by omega, rfl, rfl, rfl, World.ownsRow_nil w w.heap.size 127 2, Below.refl _ _⟩
  case round =>
    obtain ⟨k, a, p, M, hkg, rfl, rfl, HM, HO, HB⟩ := hrel
    cases gk with
    | zero =>
      have hkz : ¬ ((k : Int) < (L.length : Int)) := by omega
      have HMM : Hid (M = keep ws L) := by show M = _; rw [← HM.out, List.take_of_length_le (by omega)]
      clear hkg
      go_wp2_with fail
      try rw [Exit.noGoto_ret]
      go_ret
      have := HMM.out
      subst this
      exact ⟨_, rfl, HO.out, HB.out⟩
    | succ go1 =>
      have hlt : k < L.length := by omega
      obtain ⟨b, o, cs, rfl, hbw, rfl, hc⟩ := (HR.out.new HB.out).at k hlt
      have c0 : wr.cell? ⟨b, o + k * 2, none⟩ = some (.int .i64 L[k].id) := hc 0 _ rfl
      have c1 : wr.cell? ⟨b, o + k * 2 + 1, none⟩ = some (.int .i64 L[k].state) := hc 1 _ rfl
      clear hc
      obtain ⟨e, he⟩ : ∃ e, L[k] = e := ⟨_, rfl⟩
      rw [he] at c0 c1
      have HY : Hid ((ws.all fun x => wnP x e) = true → keep ws (L.take (k + 1)) = M ++ [e]) := by rw [← he, ← HM.out]; exact keep_yes hlt
      have HN : Hid ((ws.all fun x => wnP x e) = false → keep ws (L.take (k + 1)) = M) := by rw [← he, ← HM.out]; exact keep_no hlt
      have hkl : M.length ≤ k := by have := keep_len ws (L.take k); rw [List.length_take, HM.out] at this; omega
      clear he HM
      go_upto_region 5 with fail
      have hbe : Below wr.heap.size wr (wr.alloc (.cells #[.int .i64 e.id, .int .i64 e.state] 127)) := (Below.refl _ _).alloc (Nat.le_refl _) _
      have HE : Hid (RowIs (wr.alloc (.cells #[.int .i64 e.id, .int .i64 e.state] 127)) wr.heap.size 127 [.int .i64 e.id, .int .i64 e.state]) := rowIs_new wr 127 [.int .i64 e.id, .int .i64 e.state]
      generalize wr.alloc (.cells #[.int .i64 e.id, .int .i64 e.state] 127) = X at *
      have HOX := hide (owns_new HO.out hbe)
      have HBX := hide (bchain HB.out hbe)
      have hne : (Value.slice a M.length p).ownBlock ≠ some wr.heap.size := fun hq => by have := (HO.out.lt _ hq).2; omega
      have HNE := hide hne
      have HGB : Hid (w.heap.size ≤ wr.heap.size) := HB.out.size
      generalize wr.heap.size = go at *
      clear c0 c1 hbe HO hne HB
      go_wp2_with fail
      go_loopg [18] ws.length (fun g i wi => ∃ (j : Nat), j + g = ws.length ∧ i = .int .i64 j ∧ Hid (∀ x ∈ ws.take j, wnP x e = true) ∧ Hid (RowIs wi go 127 [.int .i64 e.id, .int .i64 e.state]) ∧ Hid (wi.ownsRow w.heap.size 127 2 (.slice a M.length p) M.length (ev M)) ∧ Hid (Below w.heap.size w wi))
      case atStart => exact ⟨0, by omega, rfl, by show ∀ x ∈ ws.take 0, _; simp, HE, HOX, HBX⟩
      case round =>
        clear HE HOX HBX
        obtain ⟨j, hjg, rfl, HA, HE, HO, HB⟩ := hrel
        have hlE := HE.out.lt
        have e0 := HE.out.cell (j := 0) rfl
        have e1 := HE.out.cell (j := 1) rfl
        cases gk with
        | zero =>
          have hjz : ¬ ((j : Int) < (ws.length : Int)) := by omega
          have HQ : Hid ((ws.all fun x => wnP x e) = true) := by
            show _ = true
            refine List.all_eq_true.2 fun x hx => HA.out x ?_
            rw [List.take_of_length_le (by omega)]; exact hx
          have HM2 := hide (HY.out HQ.out)
          clear hjg
          have hX : Below wr.heap.size wr (wr.alloc (.cells #[.int .i64 e.id, .int .i64 e.state] 127)) := (Below.refl _ _).alloc (Nat.le_refl _) _
          have hownX := owns_new HO.out hX
          have hRd : Reads (wr.alloc (.cells #[.int .i64 e.id, .int .i64 e.state] 127)) (.slice (some ⟨wr.heap.size, 0, none⟩) 1 1) 1 2 (ev [e]) := reads_of_owns (owns_lit wr 127 2 1 #[.int .i64 e.id, .int .i64 e.state] rfl (by omega))
          have HBX := hide (bchain HB.out hX)
          have hbs := HBX.out.size
          go_wp2_with (at_builtin; refine wpList_app _ (by rfl) _ _ 211 (by rfl) 127 (.agg #[.int .i64 0, .int .i64 0]) 2 16 Tryz.underlying211 (by kernel_rfl) rfl (by decide) w.heap.size _ M.length (ev M) (by rfl) hownX _ 1 (ev [e]) (by rfl) hRd (ev_one _) (by omega) (by decide) hbs ?_)
          intro ad7 cap7 w7 hown7 hg7 hat7
          have HB7 : Hid (Below w.heap.size w w7) := by
            have hb := HBX.out
            exact ⟨hg7.os.trans hb.os, hg7.tape.trans hb.tape, hg7.output.trans hb.output, Nat.le_trans hb.size hg7.size, fun k hk => (hg7.block k (by have := hb.size; omega) (fun e => by have := (hownX.lt k e.symm).1; omega)).trans (hb.block k hk)⟩
          have HO7 : Hid (w7.ownsRow w.heap.size 127 2 (.slice ad7 (M ++ [e]).length cap7) (M ++ [e]).length (ev (M ++ [e]))) := by
            show World.ownsRow _ _ _ _ _ _ _
            have := hown7
            rw [← ev_app] at this
            simpa using this
          clear hown7 hg7 hat7 hownX hRd hX hbs
          go_wp2_with fail
          go_roundg go1
          case measure => omega
          case rel => exact ⟨k + 1, ad7, cap7, M ++ [e], by omega, by go_num, by simp, HM2, HO7, HB7⟩
        | succ gj =>
          have hj : j < ws.length := by omega
          obtain ⟨_, fa', fc', hfe, _, _, hf4⟩ := HF.out.new HB.out
          obtain ⟨fb, fo, hfa, hfb, hfc⟩ := hf4 (by omega)
          simp only [Value.slice.injEq] at hfe
          obtain ⟨rfl, -, rfl⟩ := hfe
          subst hfa
          obtain ⟨x, hxj⟩ : ∃ x, ws[j] = x := ⟨_, rfl⟩
          have hcx : wr.cell? ⟨fb, fo + j, none⟩ = some (wnV x) := hfc j _ (by rw [List.getElem?_map, List.getElem?_eq_getElem hj, hxj]; rfl)
          clear hfc hf4
          rcases x with (_ | _) | ⟨l, t, xa, xn, xc⟩
          · simp only [wnV] at hcx
            go_wp2_with fail
            refine (implELive e _).mono ?_; rintro z w5 ⟨rfl, hb5⟩
            replace HE := hide (HE.out.new hb5)
            replace HO := hide (owns_new HO.out hb5)
            replace HB := hide (bchain HB.out hb5)
            clear hb5 e0 e1 hcx
            cases hq : wnP (.inl false) e
            · have HQ : Hid ((ws.all fun x => wnP x e) = false) := by
                show _ = false
                refine List.all_eq_false.2 ⟨ws[j], List.getElem_mem hj, ?_⟩
                rw [hxj, hq]; simp
              have HM2 := hide (HN.out HQ.out)
              change liB e = _ at hq
              rw [hq]
              clear hxj hq
              go_wp2_with fail
              go_roundg go1
              case measure => omega
              case rel => exact ⟨k + 1, a, p, M, by omega, by go_num, rfl, HM2, HO, HB⟩
            · have HA2 : Hid (∀ x ∈ ws.take (j + 1), wnP x e = true) := by
                show ∀ x ∈ _, _
                intro x hx
                rw [List.take_add_one, List.getElem?_eq_getElem hj, hxj] at hx
                rcases List.mem_append.1 hx with hx | hx
                · exact HA.out x hx
                · simp at hx; subst hx; exact hq
              change liB e = _ at hq
              rw [hq]
              clear hxj hq
              go_wp2_with fail
              go_roundg gj
              case measure => omega
              case rel => exact ⟨j + 1, by omega, by go_num, HA2, HE, HO, HB⟩
          · simp only [wnV] at hcx
            go_wp2_with fail
            refine (implERight e _).mono ?_; rintro z w5 ⟨rfl, hb5⟩
            replace HE := hide (HE.out.new hb5)
            replace HO := hide (owns_new HO.out hb5)
            replace HB := hide (bchain HB.out hb5)
            clear hb5 e0 e1 hcx
            cases hq : wnP (.inl true) e
            · have HQ : Hid ((ws.all fun x => wnP x e) = false) := by
                show _ = false
                refine List.all_eq_false.2 ⟨ws[j], List.getElem_mem hj, ?_⟩
                rw [hxj, hq]; simp
              have HM2 := hide (HN.out HQ.out)
              change rtB e = _ at hq
              rw [hq]
              clear hxj hq
              go_wp2_with fail
              go_roundg go1
              case measure => omega
              case rel => exact ⟨k + 1, a, p, M, by omega, by go_num, rfl, HM2, HO, HB⟩
            · have HA2 : Hid (∀ x ∈ ws.take (j + 1), wnP x e = true) := by
                show ∀ x ∈ _, _
                intro x hx
                rw [List.take_add_one, List.getElem?_eq_getElem hj, hxj] at hx
                rcases List.mem_append.1 hx with hx | hx
                · exact HA.out x hx
                · simp at hx; subst hx; exact hq
              change rtB e = _ at hq
              rw [hq]
              clear hxj hq
              go_wp2_with fail
              go_roundg gj
              case measure => omega
              case rel => exact ⟨j + 1, by omega, by go_num, HA2, HE, HO, HB⟩
          · simp only [wnV] at hcx
            go_wp2_with fail
            refine (implReaches l t (.slice xa xn xc) e _ ⟨_, _, _, rfl⟩).mono ?_; rintro z w5 ⟨rfl, hb5⟩
            replace HE := hide (HE.out.new hb5)
            replace HO := hide (owns_new HO.out hb5)
            replace HB := hide (bchain HB.out hb5)
            clear hb5 e0 e1 hcx
            cases hq : wnP (.inr (l, t, xa, xn, xc)) e
            · have HQ : Hid ((ws.all fun x => wnP x e) = false) := by
                show _ = false
                refine List.all_eq_false.2 ⟨ws[j], List.getElem_mem hj, ?_⟩
                rw [hxj, hq]; simp
              have HM2 := hide (HN.out HQ.out)
              change decide (e.id ≤ t) = _ at hq
              rw [hq]
              clear hxj hq
              go_wp2_with fail
              go_roundg go1
              case measure => omega
              case rel => exact ⟨k + 1, a, p, M, by omega, by go_num, rfl, HM2, HO, HB⟩
            · have HA2 : Hid (∀ x ∈ ws.take (j + 1), wnP x e = true) := by
                show ∀ x ∈ _, _
                intro x hx
                rw [List.take_add_one, List.getElem?_eq_getElem hj, hxj] at hx
                rcases List.mem_append.1 hx with hx | hx
                · exact HA.out x hx
                · simp at hx; subst hx; exact hq
              change decide (e.id ≤ t) = _ at hq
              rw [hq]
              clear hxj hq
              go_wp2_with fail
              go_roundg gj
              case measure => omega
              case rel => exact ⟨j + 1, by omega, by go_num, HA2, HE, HO, HB⟩
end Go.Proofs.YtkhclhnejnpkeaaGreat
/- Chapter 15's program, its small words: a right tenant, which name is below, how many are right, whether they rise, whether all are right. -/
namespace Go.Proofs.YtkhclhnejnpkeaaGreat
open Go.RowKit
set_option maxRecDepth 100000
set_option linter.unusedSimpArgs false
set_option linter.unusedVariables false
set_option maxHeartbeats 2000000 in
theorem implTRight (d : TenantD) (a : Option Addr) (p : Nat) (w : World) (hl : RdR strS w (.slice a d.list.length p) d.list) (hf0 : d.nm.size ≤ 9223372036854775807) (hf1 : d.key.size ≤ 9223372036854775807) : Calls Tryz.prog 81 #[.agg #[.string d.nm, .string d.key, .slice a d.list.length p, .int .i64 d.quota]] w fun x w' => x = .returned (.bool (okTn d)) ∧ Below w.heap.size w w' := by
  rw [okTn_way]
  have hN := fun w => implName d.nm w (by unfold maxLen; exact hf0)
  have hK := fun w => implWithin (d.key.size : Int) 1 40 w
  have hQ := fun w => implWithin d.quota 0 20 w
  have HP : Hid (∀ w' : World, Below w.heap.size w w' → Calls Tryz.prog 109 #[.slice a d.list.length p] w' fun x w2 => x = .returned (.bool (plcB d.list)) ∧ w2 = w') := fun w' hb => implPlaces d.list _ w' (rd_strs (hl.new hb)) (fun x hx => by unfold maxLen; exact rd_small hl x hx)
  obtain ⟨_, _, hq, _, _⟩ := hl.form
  simp only [Value.slice.injEq] at hq
  clear hq hl
  cases h0 : nameB d.nm
  · rw [h0] at hN
    go_enter Tryz.func81, Tryz.ntmps81
    go_wp2_with fail
    refine (hN _).mono ?_; rintro e w1 ⟨rfl, hsame⟩; obtain rfl := hsame.symm; clear hsame
    go_wp2_with fail
    go_ret
    exact ⟨rfl, (by repeat' (first | (with_reducible exact Below.refl _ _) | (with_reducible refine Below.drew ?_) | (with_reducible refine bo_drewN _ ?_) | (with_reducible refine bo_alloc ?_ _) | (refine bchain ?_ (by with_reducible assumption)) | (with_reducible refine Below.setCell ?_ ?_ _) | go_size))⟩
  rw [h0] at hN
  cases h1 : inB (d.key.size : Int) 1 40
  · rw [h1] at hK
    go_enter Tryz.func81, Tryz.ntmps81
    go_wp2_with fail
    refine (hN _).mono ?_; rintro e w1 ⟨rfl, hsame⟩; obtain rfl := hsame.symm; clear hsame
    go_wp2_with fail
    refine (hK _).mono ?_; rintro e w1 ⟨rfl, hsame⟩; obtain rfl := hsame.symm; clear hsame
    go_wp2_with fail
    go_ret
    exact ⟨rfl, (by repeat' (first | (with_reducible exact Below.refl _ _) | (with_reducible refine Below.drew ?_) | (with_reducible refine bo_drewN _ ?_) | (with_reducible refine bo_alloc ?_ _) | (refine bchain ?_ (by with_reducible assumption)) | (with_reducible refine Below.setCell ?_ ?_ _) | go_size))⟩
  rw [h1] at hK
  cases h2 : plcB d.list
  · rw [h2] at HP
    go_enter Tryz.func81, Tryz.ntmps81
    go_wp2_with fail
    refine (hN _).mono ?_; rintro e w1 ⟨rfl, hsame⟩; obtain rfl := hsame.symm; clear hsame
    go_wp2_with fail
    refine (hK _).mono ?_; rintro e w1 ⟨rfl, hsame⟩; obtain rfl := hsame.symm; clear hsame
    go_wp2_with fail
    refine (HP.out _ (by repeat' (first | (with_reducible exact Below.refl _ _) | (with_reducible refine Below.drew ?_) | (with_reducible refine bo_drewN _ ?_) | (with_reducible refine bo_alloc ?_ _) | (refine bchain ?_ (by with_reducible assumption)) | (with_reducible refine Below.setCell ?_ ?_ _) | go_size))).mono ?_; rintro e w1 ⟨rfl, hsame⟩; obtain rfl := hsame.symm; clear hsame
    go_wp2_with fail
    go_ret
    exact ⟨rfl, (by repeat' (first | (with_reducible exact Below.refl _ _) | (with_reducible refine Below.drew ?_) | (with_reducible refine bo_drewN _ ?_) | (with_reducible refine bo_alloc ?_ _) | (refine bchain ?_ (by with_reducible assumption)) | (with_reducible refine Below.setCell ?_ ?_ _) | go_size))⟩
  rw [h2] at HP
  go_enter Tryz.func81, Tryz.ntmps81
  go_wp2_with fail
  refine (hN _).mono ?_; rintro e w1 ⟨rfl, hsame⟩; obtain rfl := hsame.symm; clear hsame
  go_wp2_with fail
  refine (hK _).mono ?_; rintro e w1 ⟨rfl, hsame⟩; obtain rfl := hsame.symm; clear hsame
  go_wp2_with fail
  refine (HP.out _ (by repeat' (first | (with_reducible exact Below.refl _ _) | (with_reducible refine Below.drew ?_) | (with_reducible refine bo_drewN _ ?_) | (with_reducible refine bo_alloc ?_ _) | (refine bchain ?_ (by with_reducible assumption)) | (with_reducible refine Below.setCell ?_ ?_ _) | go_size))).mono ?_; rintro e w1 ⟨rfl, hsame⟩; obtain rfl := hsame.symm; clear hsame
  go_wp2_with fail
  refine (hQ _).mono ?_; rintro e w1 ⟨rfl, hsame⟩; obtain rfl := hsame.symm; clear hsame
  go_wp2_with fail
  go_ret
  exact ⟨rfl, (by repeat' (first | (with_reducible exact Below.refl _ _) | (with_reducible refine Below.drew ?_) | (with_reducible refine bo_drewN _ ?_) | (with_reducible refine bo_alloc ?_ _) | (refine bchain ?_ (by with_reducible assumption)) | (with_reducible refine Below.setCell ?_ ?_ _) | go_size))⟩
theorem implTBelow (x y : TenantD) (a b : Option Addr) (p q : Nat) (w : World) : Calls Tryz.prog 83 #[.agg #[.string x.nm, .string x.key, .slice a x.list.length p, .int .i64 x.quota], .agg #[.string y.nm, .string y.key, .slice b y.list.length q, .int .i64 y.quota]] w fun e w' => e = .returned (.bool (Op.bytesLess x.nm.toList y.nm.toList)) ∧ Below w.heap.size w w' := by
  go_enter Tryz.func83, Tryz.ntmps83
  go_wp2_with fail
  go_ret
  exact ⟨rfl, (by repeat' (first | (with_reducible exact Below.refl _ _) | (with_reducible refine Below.drew ?_) | (with_reducible refine bo_drewN _ ?_) | (with_reducible refine bo_alloc ?_ _) | (refine bchain ?_ (by with_reducible assumption)) | (with_reducible refine Below.setCell ?_ ?_ _) | go_size))⟩
set_option maxHeartbeats 4000000 in
theorem implOnlyT (L : List TenantD) (v : Value) (fb : Nat) (w : World) (hr : RdR tenantS w v L) (hf : w.cell? ⟨fb, 0, none⟩ = some (.func (.func 81) #[] #[])) (hfl : fb < w.heap.size) (hL : L.length ≤ 8) :
    Calls Tryz.prog 80 #[v, .slice (some ⟨fb, 0, none⟩) 1 1] w fun x w' => ∃ a p, x = .returned (.slice a (numT15 L) p) ∧ numT15 L ≤ p ∧ p ≤ 9223372036854775807 ∧ Below w.heap.size w w' := by
  obtain ⟨ad, cap, rfl, h1, h2⟩ := hr.form
  have HR := hide hr
  have HF : Hid (∀ w' : World, Below w.heap.size w w' → w'.cell? ⟨fb, 0, none⟩ = some (.func (.func 81) #[] #[]) ∧ fb < w'.heap.size) := fun w' hb => ⟨(hb.cell (p := ⟨fb, 0, none⟩) hfl).trans hf, Nat.lt_of_lt_of_le hfl hb.size⟩
  clear hr hf hfl
  obtain ⟨N, hN⟩ : ∃ N, numT15 L = N := ⟨_, rfl⟩
  rw [hN]
  have HN := hide hN
  clear hN
  go_enter Tryz.func80, Tryz.ntmps80
  go_wp2_with fail
  go_step3
  go_wp2_with fail
  go_step3
  go_wp2_with fail
  go_loopg [5, 12] L.length (fun g s i wr => ∃ (k : Nat) (a : Option Addr) (p M : Nat) (xs : List Value), k + g = L.length ∧ i = .int .i64 k ∧ s = .slice a M p ∧ Hid (numT15 (L.take k) = M) ∧ Hid (wr.ownsRow w.heap.size 88 4 (.slice a M p) M xs) ∧ Hid (Below w.heap.size w wr))
  case atStart => exact ⟨0, none, 0, 0, [], by omega, rfl, rfl, rfl, World.ownsRow_nil w w.heap.size 88 4, Below.refl _ _⟩
  case round =>
    obtain ⟨k, a, p, M, xs, hkg, rfl, rfl, HM, HO, HB⟩ := hrel
    cases gk with
    | zero =>
      have hkz : ¬ ((k : Int) < (L.length : Int)) := by omega
      have HMM : Hid (M = N) := by show M = _; rw [← HM.out, ← HN.out, List.take_of_length_le (by omega)]
      clear hkg
      go_wp2_with fail
      try rw [Exit.noGoto_ret]
      go_ret
      have := HMM.out
      subst this
      obtain ⟨_, _, he, q1, q2⟩ := owns_form HO.out
      simp only [Value.slice.injEq] at he
      obtain ⟨rfl, -, rfl⟩ := he
      exact ⟨_, _, rfl, q1, q2, HB.out⟩
    | succ go1 =>
      have hlt : k < L.length := by omega
      obtain ⟨b, o, al, pl, rfl, hbw, c0, c1, c2, c3, f0, f1, hls, q1, q2⟩ := ten_at (HR.out.new HB.out) hlt
      obtain ⟨e, he⟩ : ∃ e, tn L k = e := ⟨_, rfl⟩
      have HY : Hid (okTn e = true → numT15 (L.take (k + 1)) = M + 1) := by rw [← he, ← HM.out]; exact num_yes hlt
      have HNO : Hid (okTn e = false → numT15 (L.take (k + 1)) = M) := by rw [← he, ← HM.out]; exact num_no hlt
      rw [he] at c0 c1 c2 c3 f0 f1 hls q1
      have hkl : M ≤ k := by have := num_le (L.take k); rw [List.length_take, HM.out] at this; omega
      clear he HM
      go_upto_region 5 with fail
      have hbe : Below wr.heap.size wr (wr.alloc (.cells #[.string e.nm, .string e.key, .slice al e.list.length pl, .int .i64 e.quota] 88)) := (Below.refl _ _).alloc (Nat.le_refl _) _
      have HE : Hid (RowIs (wr.alloc (.cells #[.string e.nm, .string e.key, .slice al e.list.length pl, .int .i64 e.quota] 88)) wr.heap.size 88 [.string e.nm, .string e.key, .slice al e.list.length pl, .int .i64 e.quota]) := rowIs_new wr 88 [.string e.nm, .string e.key, .slice al e.list.length pl, .int .i64 e.quota]
      have HLS := hide (hls.new hbe)
      generalize wr.alloc (.cells #[.string e.nm, .string e.key, .slice al e.list.length pl, .int .i64 e.quota] 88) = X at *
      have HOX := hide (owns_new HO.out hbe)
      have HBX := hide (bchain HB.out hbe)
      have hne : (Value.slice a M p).ownBlock ≠ some wr.heap.size := fun hq => by have := (HO.out.lt _ hq).2; omega
      have HNE := hide hne
      have HGB : Hid (w.heap.size ≤ wr.heap.size) := HB.out.size
      generalize wr.heap.size = go at *
      clear c0 c1 c2 c3 hbe HO hne HB hls
      go_wp2_with fail
      go_loopg [18] 1 (fun g i wi => ∃ (j : Nat), j + g = 1 ∧ i = .int .i64 j ∧ Hid (0 < j → okTn e = true) ∧ Hid (RowIs wi go 88 [.string e.nm, .string e.key, .slice al e.list.length pl, .int .i64 e.quota]) ∧ Hid (RdR strS wi (.slice al e.list.length pl) e.list) ∧ Hid (wi.ownsRow w.heap.size 88 4 (.slice a M p) M xs) ∧ Hid (Below w.heap.size w wi))
      case atStart => exact ⟨0, by omega, rfl, by intro h; exact absurd h (Nat.lt_irrefl _), HE, HLS, HOX, HBX⟩
      case round =>
        clear HE HLS HOX HBX
        obtain ⟨j, hjg, rfl, HA, HE, HLS, HO, HB⟩ := hrel
        have hlE := HE.out.lt
        have e0 := HE.out.cell (j := 0) rfl
        have e1 := HE.out.cell (j := 1) rfl
        have e2 := HE.out.cell (j := 2) rfl
        have e3 := HE.out.cell (j := 3) rfl
        cases gk with
        | zero =>
          obtain rfl : j = 1 := by omega
          have HM2 := hide (HY.out (HA.out Nat.one_pos))
          clear hjg
          have hX : Below wr.heap.size wr (wr.alloc (.cells #[.string e.nm, .string e.key, .slice al e.list.length pl, .int .i64 e.quota] 88)) := (Below.refl _ _).alloc (Nat.le_refl _) _
          have hownX := owns_new HO.out hX
          have hRd : Reads (wr.alloc (.cells #[.string e.nm, .string e.key, .slice al e.list.length pl, .int .i64 e.quota] 88)) (.slice (some ⟨wr.heap.size, 0, none⟩) 1 1) 1 4 [.string e.nm, .string e.key, .slice al e.list.length pl, .int .i64 e.quota] := reads_of_owns (owns_lit wr 88 4 1 #[.string e.nm, .string e.key, .slice al e.list.length pl, .int .i64 e.quota] rfl (by omega))
          have hone : ∀ y ∈ ([.string e.nm, .string e.key, .slice al e.list.length pl, .int .i64 e.quota] : List Value), y.oneCell' = true := by intro y hy; simp at hy; rcases hy with rfl | rfl | rfl | rfl <;> rfl
          have HBX := hide (bchain HB.out hX)
          have hbs := HBX.out.size
          go_wp2_with (at_builtin; refine wpList_app _ (by rfl) _ _ 143 (by rfl) 88 (.agg #[.string ⟨#[]⟩, .string ⟨#[]⟩, .slice none 0 0, .int .i64 0]) 4 64 Tryz.underlying143 (by kernel_rfl) rfl (by decide) w.heap.size _ M xs (by rfl) hownX _ 1 [.string e.nm, .string e.key, .slice al e.list.length pl, .int .i64 e.quota] (by rfl) hRd hone (by omega) (by decide) hbs ?_)
          intro ad7 cap7 w7 hown7 hg7 hat7
          have HB7 : Hid (Below w.heap.size w w7) := by
            have hb := HBX.out
            exact ⟨hg7.os.trans hb.os, hg7.tape.trans hb.tape, hg7.output.trans hb.output, Nat.le_trans hb.size hg7.size, fun k hk => (hg7.block k (by have := hb.size; omega) (fun e => by have := (hownX.lt k e.symm).1; omega)).trans (hb.block k hk)⟩
          have HO7 := hide hown7
          clear hown7 hg7 hat7 hownX hRd hX hbs hone
          go_wp2_with fail
          go_roundg go1
          case measure => omega
          case rel => exact ⟨k + 1, ad7, cap7, M + 1, _, by omega, by go_num, rfl, HM2, HO7, HB7⟩
        | succ gj =>
          obtain rfl : j = 0 := by omega
          obtain ⟨hcx, hfl⟩ := HF.out _ HB.out
          go_wp2_with fail
          refine (implTRight e al pl _ (HLS.out.new (by repeat' (first | (with_reducible exact Below.refl _ _) | (with_reducible refine Below.drew ?_) | (with_reducible refine bo_drewN _ ?_) | (with_reducible refine bo_alloc ?_ _) | (refine bchain ?_ (by with_reducible assumption)) | (with_reducible refine Below.setCell ?_ ?_ _) | go_size))) f0 f1).mono ?_; rintro z w5 ⟨rfl, hb5⟩
          replace HE := hide (HE.out.new hb5)
          replace HLS := hide (HLS.out.new hb5)
          replace HO := hide (owns_new HO.out hb5)
          replace HB := hide (bchain HB.out hb5)
          clear hb5 e0 e1 e2 e3 hcx
          cases hq : okTn e
          · have HM2 := hide (HNO.out hq)
            clear hq
            go_wp2_with fail
            go_roundg go1
            case measure => omega
            case rel => exact ⟨k + 1, a, p, M, xs, by omega, by go_num, rfl, HM2, HO, HB⟩
          · have HA2 : Hid (0 < 1 → okTn e = true) := fun _ => hq
            clear hq
            go_wp2_with fail
            go_roundg gj
            case measure => omega
            case rel => exact ⟨1, by omega, by go_num, HA2, HE, HLS, HO, HB⟩
set_option maxHeartbeats 4000000 in
theorem implRisesT (L : List TenantD) (v : Value) (w : World) (hr : RdR tenantS w v L) (hL : L.length ≤ 8) :
    Calls Tryz.prog 82 #[v, .func (.func 83) #[] #[]] w fun x w' => x = .returned (.bool (risT L)) ∧ Below w.heap.size w w' := by
  obtain ⟨ad, cap, rfl, h1, h2⟩ := hr.form
  have HR := hide hr
  clear hr
  obtain ⟨A, hA⟩ : ∃ A, risT L = A := ⟨_, rfl⟩
  rw [hA]
  have HA := hide hA
  clear hA
  go_enter Tryz.func82, Tryz.ntmps82
  go_wp2_with fail
  go_loopw [5] (fun i wr => ∃ (k : Nat), i = .int .i64 (k + 1 : Nat) ∧ k ≤ 60 ∧ Hid (∀ j, j + 1 < L.length → j < k → Op.bytesLess (tn L j).nm.toList (tn L (j + 1)).nm.toList = true) ∧ Hid (Below w.heap.size w wr)) (fun i _ => L.length + 1 - (intOf i).toNat)
  case atStart => exact ⟨0, rfl, by omega, fun j _ hj => absurd hj (Nat.not_lt_zero _), Below.refl _ _⟩
  case round =>
    obtain ⟨k, rfl, hk, HN, HB⟩ := hrel
    by_cases hlt : k + 1 < L.length
    · obtain ⟨b, o, al, pl, rfl, hbw, c0, c1, c2, c3, f0, f1, hls, q1, q2⟩ := ten_at (HR.out.new HB.out) (show k < L.length by omega)
      obtain ⟨b', o', am, pm, hbo, _, d0, d1, d2, d3, f2, f3, hms, q3, q4⟩ := ten_at (HR.out.new HB.out) hlt
      simp only [Option.some.injEq, Addr.mk.injEq] at hbo
      obtain ⟨rfl, rfl, -⟩ := hbo
      obtain ⟨e, he⟩ : ∃ e, tn L k = e := ⟨_, rfl⟩
      obtain ⟨f, hf⟩ : ∃ f, tn L (k + 1) = f := ⟨_, rfl⟩
      rw [he] at c0 c1 c2 c3 q1
      rw [hf] at d0 d1 d2 d3 q3
      have g0 : ∀ y : Later wr, y.w.cell? ⟨b, o + k * 4, none⟩ = some (.string e.nm) := fun y => (y.b.cell (p := ⟨b, o + k * 4, none⟩) hbw).trans c0
      have g1 : ∀ y : Later wr, y.w.cell? ⟨b, o + k * 4 + 1, none⟩ = some (.string e.key) := fun y => (y.b.cell (p := ⟨b, o + k * 4 + 1, none⟩) hbw).trans c1
      have g2 : ∀ y : Later wr, y.w.cell? ⟨b, o + k * 4 + 2, none⟩ = some (.slice al e.list.length pl) := fun y => (y.b.cell (p := ⟨b, o + k * 4 + 2, none⟩) hbw).trans c2
      have g3 : ∀ y : Later wr, y.w.cell? ⟨b, o + k * 4 + 3, none⟩ = some (.int .i64 e.quota) := fun y => (y.b.cell (p := ⟨b, o + k * 4 + 3, none⟩) hbw).trans c3
      have k0 : ∀ y : Later wr, y.w.cell? ⟨b, o + (k + 1) * 4, none⟩ = some (.string f.nm) := fun y => (y.b.cell (p := ⟨b, o + (k + 1) * 4, none⟩) hbw).trans d0
      have k1 : ∀ y : Later wr, y.w.cell? ⟨b, o + (k + 1) * 4 + 1, none⟩ = some (.string f.key) := fun y => (y.b.cell (p := ⟨b, o + (k + 1) * 4 + 1, none⟩) hbw).trans d1
      have k2 : ∀ y : Later wr, y.w.cell? ⟨b, o + (k + 1) * 4 + 2, none⟩ = some (.slice am f.list.length pm) := fun y => (y.b.cell (p := ⟨b, o + (k + 1) * 4 + 2, none⟩) hbw).trans d2
      have k3 : ∀ y : Later wr, y.w.cell? ⟨b, o + (k + 1) * 4 + 3, none⟩ = some (.int .i64 f.quota) := fun y => (y.b.cell (p := ⟨b, o + (k + 1) * 4 + 3, none⟩) hbw).trans d3
      have hbl := fun w => implTBelow e f al am pl pm w
      clear c0 c1 c2 c3 d0 d1 d2 d3 hls hms f0 f1 f2 f3
      cases hq : Op.bytesLess e.nm.toList f.nm.toList
      · have HF : Hid (A = false) := by
          show A = false
          rw [← HA.out]
          cases hz : risT L
          · rfl
          · have := risT_iff.1 hz k hlt
            rw [he, hf, hq] at this
            cases this
        rw [hq] at hbl
        clear hq he hf
        go_upto_region 4 with fail
        have hne : Nonempty (Later wr) := ⟨⟨wr, Below.refl _ _⟩⟩; refine region_later (by kernel_rfl) (by kernel_rfl) ?_
        repeat (go_big_quiet_step (fail))
        go_big_quiet_want; go_big_quiet_op; refine ⟨.bool false, fun y => later_calls (x := y) (hbl y.w), ?_⟩; go_big_quiet_on
        repeat (go_big_quiet_step (fail))
        refine wpQuiet_nil ?_; intro _ hw'; obtain ⟨y, hw''⟩ := hw'; subst hw''; have hby := y.b
        go_wp2_with fail
        go_ret
        exact ⟨by rw [HF.out]; rfl, bchain HB.out hby⟩
      · have HN2 : Hid (∀ j, j + 1 < L.length → j < k + 1 → Op.bytesLess (tn L j).nm.toList (tn L (j + 1)).nm.toList = true) := fun j hj hjk => by
          by_cases ej : j = k
          · subst ej; rw [he, hf]; exact hq
          · exact HN.out j hj (by omega)
        rw [hq] at hbl
        clear hq he hf
        go_upto_region 4 with fail
        have hne : Nonempty (Later wr) := ⟨⟨wr, Below.refl _ _⟩⟩; refine region_later (by kernel_rfl) (by kernel_rfl) ?_
        repeat (go_big_quiet_step (fail))
        go_big_quiet_want; go_big_quiet_op; refine ⟨.bool true, fun y => later_calls (x := y) (hbl y.w), ?_⟩; go_big_quiet_on
        repeat (go_big_quiet_step (fail))
        refine wpQuiet_nil ?_; intro _ hw'; obtain ⟨y, hw''⟩ := hw'; subst hw''; have hby := y.b
        have HB2 := hide (bchain HB.out hby)
        go_wp2_with fail
        go_roundw
        case rel => exact ⟨k + 1, by go_num, by omega, HN2, HB2⟩
        case measure => simp [intOf]; omega
    · have HF : Hid (A = true) := by
        show A = true
        rw [← HA.out]
        exact risT_iff.2 fun i hi => HN.out i hi (by omega)
      have hge : ¬ ((k + 1 : Nat) : Int) < (L.length : Int) := by omega
      go_wp2_with fail
      go_ret
      exact ⟨by rw [HF.out]; rfl, HB.out⟩
end Go.Proofs.YtkhclhnejnpkeaaGreat
