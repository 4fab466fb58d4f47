/- Lemmas. -/
import Derived.Test.YtlpbnkideaojeaaGreatDoorQRpG4
import Derived.RangeFuncNested
import Derived.RangeFuncBound
import Derived.Shelf.RegionOpen
import Derived.OwnWalkIn
import Derived.LoopNIn
import Derived.LoopIn
import Derived.Deep.DeepCutAuto
import Derived.Deep.RegionHeld3
import Derived.Lib.SlBytesRow
import Derived.Lib.ItoaNum
import Derived.Lib.ParseIntB
import Derived.Lib.Split
namespace Go.Proofs.YtlpbnkideaojeaaGreatDoor
open Go.RowKit
set_option maxRecDepth 100000
set_option linter.unusedSimpArgs false
set_option linter.unusedVariables false
structure aF where
 id : Int
 state : Int
def aF.cs (d : aF) : List Value := [.int .i64 d.id, .int .i64 d.state]
def bE : lN aF where
 size := 2
 ty := 94
 rd := fun _ cs d => cs = d.cs
 own := fun _ cs d bs => cs = d.cs ∧ bs = []
 pos := by decide
 nT := fun h => by subst h; rfl
 Dc := fun h u hu => by subst h; simp only [aF.cs, List.mem_cons, List.not_mem_nil, or_false] at hu; rcases hu with rfl | rfl <;> rfl
 Df := fun h _ => h
 nU := fun h => h.1
 ji := fun h _ _ => h
 kr := fun h b hb => by rw [h.2] at hb; cases hb
def nR (L : List aF) : Int := L.length
theorem UC (L : List aF) : 0 ≤ nR L := by unfold nR; omega
theorem Wm (L : List aF) : (L.length : Int) ≤ nR L := by unfold nR; omega
def wL (d : aF) (k : Nat) : aF := ⟨((k : Nat) : Int), ((k + 1 : Nat) : Int)⟩
def gT (d : aF) : Nat := 1 + 1
def rV (L : List aF) (k : Nat) : List aF := jN wL gT L k
def iW (L : List aF) : Nat := dF gT L
theorem Wo (d : aF) (w : World) : Calls Tryz.prog 86 #[.agg #[.int .i64 d.id, .int .i64 d.state]] w fun x w' => x = .returned (.agg #[.int .i64 d.id, .int .i64 d.state]) ∧ Below w.heap.size w w' := by
 go_enter Tryz.func86, Tryz.ntmps86
 go_wp2
 go_returns
 exact ⟨rfl, (by repeat' (first | (with_reducible exact Below.refl _ _) | (with_reducible refine Below.drew ?_) | (with_reducible refine ay _ ?_) | (with_reducible refine aA ?_ _) | (refine ah ?_ (by with_reducible assumption)) | (with_reducible refine Below.setCell ?_ ?_ _) | go_size))⟩
theorem Wp (d : aF) (w : World) : Calls Tryz.prog 106 #[.agg #[.int .i64 d.id, .int .i64 d.state], .agg #[.int .i64 d.id, .int .i64 d.state]] w fun x w' => x = .returned (.bool true) ∧ Below w.heap.size w w' := by
 go_enter Tryz.func106, Tryz.ntmps106
 go_wp2
 go_ret
 exact ⟨rfl, (by repeat' (first | (with_reducible exact Below.refl _ _) | (with_reducible refine Below.drew ?_) | (with_reducible refine ay _ ?_) | (with_reducible refine aA ?_ _) | (refine ah ?_ (by with_reducible assumption)) | (with_reducible refine Below.setCell ?_ ?_ _) | go_size))⟩
set_option maxHeartbeats 2000000 in
theorem UE (L : List aF) (v : Value) (w : World) (hr : aT bE w v L) (hz : nR L ≤ 1048576) :
  Calls Tryz.prog 54 #[v] w fun x w' => ∃ v', x = .returned v' ∧ aD bE w' w.heap.size w'.heap.size v' L ∧ Below w.heap.size w w' := by
 have hL : L.length ≤ 1048576 := by have := Wm L; omega
 obtain ⟨M, hM, hmk⟩ := Gb 32 94 (.agg #[.int .i64 0, .int .i64 0]) 2 16 Tryz.underlying32 (by kernel_rfl) rfl (by decide) (by decide) L.length hL
 have hst := LG (E := bE) (Gc w M 94 2 L.length hM hL)
 obtain ⟨ad, cap, rfl, h1, h2⟩ := hr.form
 have HR := hide hr
 clear hr
 have HZ := hide hz
 clear hz
 go_enter Tryz.func54, Tryz.ntmps54
 go_wp2_with fail
 go_loopw [4] (fun i wr => ∃ (k : Nat), i = .int .i64 k ∧ k ≤ L.length ∧ Hid (yc bE w wr L k)) (fun i _ => L.length - (intOf i).toNat)
 case atStart => exact ⟨0, rfl, Nat.zero_le _, hst⟩
 case round =>
  clear hst hmk
  obtain ⟨k, rfl, hk, nu⟩ := hrel
  by_cases hlt : k < L.length
  ·have hb : Below w.heap.size w wr := nu.out.2.1
   have iD := (HR.out.new hb).at k hlt
   have hmem : L[k] ∈ L := List.getElem_mem hlt
   obtain ⟨d, hd⟩ : ∃ d, d = L[k] := ⟨_, rfl⟩
   rw [← hd] at iD hmem
   obtain ⟨b, o, cs, rfl, hbw, hrd, hc⟩ := iD
   obtain rfl := hrd
   have c0 : wr.cell? ⟨b, o + k * 2, none⟩ = some (.int .i64 d.id) := hc 0 _ rfl
   have c1 : wr.cell? ⟨b, o + k * 2 + 1, none⟩ = some (.int .i64 d.state) := hc 1 _ rfl
   clear hc
   have HD := hide hd
   clear hd hmem
   go_wp2_with fail
   refine (Wo d _).mono ?_; rintro x w1 ⟨rfl, hb1⟩
   have hoe : kJ bE w1 wr.heap.size w1.heap.size [.int .i64 d.id, .int .i64 d.state] d := ⟨[], ⟨rfl, rfl⟩, by simp, fun b hb => by cases hb⟩
   rw [HD.out] at hoe
   obtain ⟨hcell, hfr, TV, hfi⟩ := LH nu.out hlt hb1 hoe
   rw [← HD.out] at hfi
   obtain ⟨x0, hx0⟩ : ∃ u, w1.cell? ⟨w.heap.size, k * 2, none⟩ = some u := hcell 0 (by decide)
   obtain ⟨x1, hx1⟩ : ∃ u, w1.cell? ⟨w.heap.size, k * 2 + 1, none⟩ = some u := hcell 1 (by decide)
   have e6 := hfr
   have lI := hide hfi
   clear hcell hfr hfi hoe
   go_wp2_with fail
   go_roundw
   case rel => exact ⟨k + 1, by go_num, by omega, lI.out⟩
   case measure => simp [intOf]; omega
  ·obtain rfl : k = L.length := by omega
   obtain ⟨hox, hbx⟩ := LJ nu.out
   have HX := hide hox
   clear hox
   go_wp2_with fail
   go_ret
   exact ⟨_, rfl, HX.out, hbx⟩
set_option maxHeartbeats 1000000 in
theorem UJ (L : List aF) (v v' : Value) (w : World) (hr0 : aT bE w v L) (hr1 : aT bE w v' L) :
  Calls Tryz.prog 67 #[v, v'] w fun x w' => x = .returned (.bool true) ∧ Below w.heap.size w w' := by
 obtain ⟨ad, cap, rfl, h1, h2⟩ := hr0.form
 obtain ⟨oJ, cap', rfl, h1', h2'⟩ := hr1.form
 have HR := hide hr0; have HR' := hide hr1
 clear hr0 hr1
 go_enter Tryz.func67, Tryz.ntmps67
 go_wp2_with fail
 go_loopw [5] (fun i wr => ∃ (k : Nat), i = .int .i64 k ∧ k ≤ L.length ∧ Below w.heap.size w wr) (fun i _ => L.length - (intOf i).toNat)
 case atStart => exact ⟨0, rfl, Nat.zero_le _, Below.refl _ _⟩
 case round =>
  obtain ⟨k, rfl, hk, hb⟩ := hrel
  by_cases hlt : k < L.length
  ·have iD := (HR.out.new hb).at k hlt
   have zT := (HR'.out.new hb).at k hlt
   obtain ⟨d, hd⟩ : ∃ d, d = L[k] := ⟨_, rfl⟩
   rw [← hd] at iD zT
   clear hd
   obtain ⟨b, o, cs, rfl, hb1, hrd, hc⟩ := iD
   obtain ⟨b', o', cs', rfl, hb2, Gf, hc'⟩ := zT
   obtain rfl := hrd
   obtain rfl := Gf
   have c0 : wr.cell? ⟨b, o + k * 2, none⟩ = some (.int .i64 d.id) := hc 0 _ rfl
   have c1 : wr.cell? ⟨b, o + k * 2 + 1, none⟩ = some (.int .i64 d.state) := hc 1 _ rfl
   have d0 : wr.cell? ⟨b', o' + k * 2, none⟩ = some (.int .i64 d.id) := hc' 0 _ rfl
   have d1 : wr.cell? ⟨b', o' + k * 2 + 1, none⟩ = some (.int .i64 d.state) := hc' 1 _ rfl
   clear hc hc'
   go_wp2_with fail
   have T9 : ∀ y : Later wr, y.w.cell? ⟨b, o + k * 2, none⟩ = some (.int .i64 d.id) := fun y => (y.b.cell (p := ⟨b, o + k * 2, none⟩) hb1).trans c0
   have Ua : ∀ y : Later wr, y.w.cell? ⟨b, o + k * 2 + 1, none⟩ = some (.int .i64 d.state) := fun y => (y.b.cell (p := ⟨b, o + k * 2 + 1, none⟩) hb1).trans c1
   have Ub : ∀ y : Later wr, y.w.cell? ⟨b', o' + k * 2, none⟩ = some (.int .i64 d.id) := fun y => (y.b.cell (p := ⟨b', o' + k * 2, none⟩) hb2).trans d0
   have Uc : ∀ y : Later wr, y.w.cell? ⟨b', o' + k * 2 + 1, none⟩ = some (.int .i64 d.state) := fun y => (y.b.cell (p := ⟨b', o' + k * 2 + 1, none⟩) hb2).trans d1
   clear c0 c1 d0 d1
   have hne : Nonempty (Later wr) := ⟨⟨wr, Below.refl _ _⟩⟩; refine eH (by kernel_rfl) (by kernel_rfl) ?_
   repeat (go_big_quiet_step (fail))
   go_big_quiet_want; go_big_quiet_op
   refine ⟨.bool true, fun y => gW (x := y) (Wp d y.w), ?_⟩
   go_big_quiet_on
   repeat (go_big_quiet_step (fail))
   refine wpQuiet_nil ?_; intro _ hw'; obtain ⟨y, hw''⟩ := hw'; subst hw''; have hby := y.b
   go_wp2_with fail
   go_roundw
   case rel => exact ⟨k + 1, by go_num, by omega, ah hb hby⟩
   case measure => simp [intOf]; omega
  ·go_wp2_with fail
   go_ret
   exact ⟨rfl, hb⟩
set_option maxHeartbeats 1000000 in
theorem UL (L : List aF) (v : Value) (left : Int) (w : World) (hr : aT bE w v L) (h0 : 0 ≤ left) (h1 : left ≤ 1048576) :
  Calls Tryz.prog 38 #[v, .int .i64 left] w fun x w' => (x = .returned (.int .i64 (-1)) ∨ (x = .returned (.int .i64 (left - nR L)) ∧ 0 ≤ left - nR L)) ∧ Below w.heap.size w w' := by
 obtain ⟨ad, cap, rfl, h2, h3⟩ := hr.form
 have HR := hide hr
 clear hr
 unfold nR
 by_cases h : left - L.length < 0
 ·go_enter Tryz.func38, Tryz.ntmps38
  go_wp2
  go_ret
  exact ⟨.inl rfl, Below.refl _ _⟩
 ·go_enter Tryz.func38, Tryz.ntmps38
  go_wp2
  go_ret
  exact ⟨.inr ⟨rfl, by omega⟩, Below.refl _ _⟩
set_option maxHeartbeats 2000000 in
theorem UN (L : List aF) (k : Nat) (v : Value) (bs : List Nat) (w : World) (ho : aW bE w v L bs) (hn : bs.Nodup) (hk1 : k + iW L ≤ 1000000000) :
  Calls Tryz.prog 70 #[v, .int .i64 k] w fun x w' => x = .returned (.int .i64 ((k + iW L : Nat) : Int)) ∧ aW bE w' v (rV L k) bs ∧ aG bs w w' := by
 obtain ⟨ad, cap, rfl, h1, h2⟩ := ho.rd.form
 unfold iW rV at *
 have uG : Hid (aW bE w (.slice ad L.length cap) (jR wL gT L k 0) bs) := by show aW _ _ _ _ _; rw [MC]; exact ho
 clear ho
 have HN := hide hn
 clear hn
 go_enter Tryz.func70, Tryz.ntmps70
 go_wp2_with fail
 go_loopw [1, 5] (fun kk i wr => ∃ (j : Nat), i = .int .i64 j ∧ kk = .int .i64 ((k + dF gT (L.take j) : Nat) : Int) ∧ j ≤ L.length ∧ Hid (aW bE wr (.slice ad L.length cap) (jR wL gT L k j) bs) ∧ Hid (aG bs w wr)) (fun _ i _ => L.length - (intOf i).toNat)
 case atStart => exact ⟨0, rfl, by simp [dF], Nat.zero_le _, uG, aG.refl _ _⟩
 case round =>
  clear uG
  obtain ⟨j, rfl, rfl, hj, HO, HT⟩ := hrel
  by_cases hlt : j < L.length
  ·have hct := Dv gT L j hlt
   have hcl := Dw gT L (j + 1)
   have hst := MB wL gT L k j hlt
   have hat := Mx wL gT L k j hlt (by rw [Dx _ _ L k j hj]; exact hlt)
   have hml := Dx wL gT L k j hj
   obtain ⟨d, hd⟩ : ∃ d, d = L[j] := ⟨_, rfl⟩
   rw [← hd] at hct hst hat
   obtain ⟨K, hK⟩ : ∃ K : Nat, K = k + dF gT (L.take j) := ⟨_, rfl⟩
   rw [← hK] at hst ⊢
   obtain ⟨M, hM⟩ : ∃ M, M = jR wL gT L k j := ⟨_, rfl⟩
   rw [← hM] at hst hml
   have wH : Hid (aW bE wr (.slice ad L.length cap) M bs) := by show aW _ _ _ _ _; rw [hM]; exact HO.out
   have HAT : Hid (∀ h : j < M.length, M[j] = d) := fun h => by subst hM; exact hat
   have hKc : K + gT d = k + dF gT (L.take (j + 1)) := by omega
   have wM := hide hKc
   have hKb : K + gT d ≤ 1000000000 := by omega
   unfold gT at hKb
   have HST := hide hst
   have lX : j < M.length := by omega
   clear hct hcl hst hat hM HO hd hK hKc
   obtain ⟨g1, c1, cs, bb, e1, Nk, hgm, hgb, hsub, hbn, hown, hcell, hfr, _, hkeep, lq⟩ := wH.out.put HN.out j (by simpa using lX)
   have eq1 : (M)[j]'(by simpa using lX) = d := HAT.out lX
   rw [eq1] at hown
   obtain ⟨rfl, hbb⟩ := hown
   simp only [Value.slice.injEq] at e1
   obtain ⟨rfl, -, -⟩ := e1
   have c1_0 : wr.cell? ⟨g1, j * 2, none⟩ = some (.int .i64 d.id) := hcell 0 _ rfl
   have c1_1 : wr.cell? ⟨g1, j * 2 + 1, none⟩ = some (.int .i64 d.state) := hcell 1 _ rfl
   have su : Hid (aW bE (fJ wr g1 (j * bE.size + ([] : List Value).length) [.int .i64 ((K : Nat) : Int), .int .i64 ((K + 1 : Nat) : Int)]) _ ((M).set j ⟨((K : Nat) : Int), ((K + 1 : Nat) : Int)⟩) bs) := lq [] [.int .i64 d.id, .int .i64 d.state] [] [.int .i64 ((K : Nat) : Int), .int .i64 ((K + 1 : Nat) : Int)] ⟨((K : Nat) : Int), ((K + 1 : Nat) : Int)⟩ rfl rfl ⟨rfl, hbb⟩
   have HT2 : Hid (aG bs w (fJ wr g1 (j * bE.size + ([] : List Value).length) [.int .i64 ((K : Nat) : Int), .int .i64 ((K + 1 : Nat) : Int)])) := aG.fJ g1 hgm _ _ _ HT.out
   have f1 := hfr
   clear hcell hfr hkeep lq hsub hbn hgb hbb eq1
   go_wp2_with fail
   change Hid (aW bE ((wr.setCell ⟨g1, j * 2, none⟩ (.int .i64 ((K : Nat) : Int))).setCell ⟨g1, j * 2 + 1, none⟩ (.int .i64 ((K + 1 : Nat) : Int))) _ _ _) at su
   change Hid (aG bs w ((wr.setCell ⟨g1, j * 2, none⟩ (.int .i64 ((K : Nat) : Int))).setCell ⟨g1, j * 2 + 1, none⟩ (.int .i64 ((K + 1 : Nat) : Int)))) at HT2
   refine ⟨⟨j + 1, ?_, ?_, ?_, ?_, ?_⟩, ?_⟩
   ·go_num
   ·exact int_eq (by have h1 := wM.out; have h2 : gT d = 1 + 1 := rfl; omega)
   ·omega
   ·show aW _ _ _ _ _
    rw [← HST.out]
    exact su.out
   ·exact HT2.out
   ·simp [intOf]; omega
  ·obtain rfl : j = L.length := by omega
   rw [ME] at HO
   rw [List.take_length]
   go_wp2_with fail
   go_ret
   exact ⟨rfl, HO.out, HT.out⟩
set_option maxHeartbeats 1000000 in
theorem UQ (L : List aF) (k : Nat) (v : Value) (w : World) (hr : aT bE w v (rV L k)) (hk1 : k + iW L ≤ 1000000000) :
  Calls Tryz.prog 72 #[v, .int .i64 k] w fun x w' => x = .returned (.int .i64 ((k + iW L : Nat) : Int)) ∧ Below w.heap.size w w' := by
 obtain ⟨ad, cap, rfl, h1, h2⟩ := hr.form
 unfold iW rV at *
 rw [oN] at h1 ⊢
 have HR := hide hr
 clear hr
 go_enter Tryz.func72, Tryz.ntmps72
 go_wp2_with fail
 go_loopw [1, 5] (fun kk i wr => ∃ (j : Nat), i = .int .i64 j ∧ kk = .int .i64 ((k + dF gT (L.take j) : Nat) : Int) ∧ j ≤ L.length ∧ Below w.heap.size w wr) (fun _ i _ => L.length - (intOf i).toNat)
 case atStart => exact ⟨0, rfl, by simp [dF], Nat.zero_le _, Below.refl _ _⟩
 case round =>
  obtain ⟨j, rfl, rfl, hj, hb⟩ := hrel
  by_cases hlt : j < L.length
  ·have hct := Dv gT L j hlt
   have hcl := Dw gT L (j + 1)
   have iD := (HR.out.new hb).at j (by rw [oN]; exact hlt)
   rw [Gz _ _ L k j hlt] at iD
   obtain ⟨d, hd⟩ : ∃ d, d = L[j] := ⟨_, rfl⟩
   rw [← hd] at hct iD
   obtain ⟨K, hK⟩ : ∃ K : Nat, K = k + dF gT (L.take j) := ⟨_, rfl⟩
   rw [← hK] at iD ⊢
   have hKc : K + gT d = k + dF gT (L.take (j + 1)) := by omega
   have wM := hide hKc
   have hKb : K + gT d ≤ 1000000000 := by omega
   unfold gT at hKb
   clear hct hcl hd hK hKc
   obtain ⟨b, o, cs, rfl, hb1, hrd, hc⟩ := iD
   obtain rfl := hrd
   have c0 : wr.cell? ⟨b, o + j * 2, none⟩ = some (.int .i64 ((K : Nat) : Int)) := hc 0 _ rfl
   have c1 : wr.cell? ⟨b, o + j * 2 + 1, none⟩ = some (.int .i64 ((K + 1 : Nat) : Int)) := hc 1 _ rfl
   clear hc
   go_wp2_with fail
   go_roundw
   case rel => exact ⟨j + 1, by go_num, int_eq (by have h1 := wM.out; have h2 : gT d = 1 + 1 := rfl; omega), by omega, hb⟩
   case measure => simp [intOf]; omega
  ·obtain rfl : j = L.length := by omega
   rw [List.take_length]
   go_wp2_with fail
   go_ret
   exact ⟨rfl, hb⟩
open Go.ChangeShapes Go.WideShapes Go.ChangeAt Go.Joins in
theorem Wq {H : Type} {enc : TypeId × Value → H} {W : World} {base : Nat} {spare : Nat → Bool} {held : Bool} {fuel : Nat} {cs : List Value} {x : DataW H × List MemPlace} (h : DataW.trod enc Tryz.prog W base spare held fuel 141 cs = some x) : ∃ d : aF, bE.rd W cs d := by
 obtain ⟨c0, c1, y0, y1, n, rfl, h0, h1⟩ := MF Tryz.underlying141 (by kernel_rfl) (by kernel_rfl) h
 obtain ⟨i0, e0, _⟩ := DataW.trod_int Tryz.underlying2 h0
 simp only [List.cons.injEq, and_true] at e0
 subst e0
 obtain ⟨i1, e1, _⟩ := DataW.trod_int Tryz.underlying2 h1
 simp only [List.cons.injEq, and_true] at e1
 subst e1
 exact ⟨⟨i0, i1⟩, rfl⟩
attribute [local go_sem ↓] Go.wp_at_zero Go.wp_at_succ
theorem BR.set {w : World} {base n cap blk : Nat} (h : BR w base (some ⟨blk, 0, none⟩) n cap) (k : Nat) (u : Value) (hu : uD u) : BR (w.setCell ⟨blk, k, none⟩ u) base (some ⟨blk, 0, none⟩) n cap := by
 obtain ⟨h1, h2, h3⟩ := h
 refine ⟨h1, h2, fun hn => ?_⟩
 obtain ⟨b', e, hb, hl, hc⟩ := h3 hn
 simp only [Option.some.injEq, Addr.mk.injEq, and_true] at e
 subst e
 refine ⟨blk, rfl, hb, by simpa using hl, fun j hj => ?_⟩
 obtain ⟨⟨v, hv, hcv⟩, hf⟩ := hc j hj
 refine ⟨?_, by rw [World.frozen?_setCell]; exact hf⟩
 by_cases hjk : k = j
 ·subst hjk
  exact ⟨u, hu, World.cell?_setCell_same' _ _ _ (by rw [hcv]; rfl)⟩
 ·refine ⟨v, hv, ?_⟩
  exact (World.cell?_setCell_other _ ⟨blk, k, none⟩ ⟨blk, j, none⟩ _ (by simp [hjk])).trans hcv
def G8 (i : Nat) (p : Int) : Prop := (i = 1 ∧ p = 1) ∨ (i = 2 ∧ p = 128) ∨ (i = 3 ∧ p = 16384) ∨ (i = 4 ∧ p = 2097152) ∨ (i = 5 ∧ p = 268435456) ∨ (i = 6 ∧ p = 34359738368)
theorem G8.lo {i : Nat} {p : Int} (h : G8 i p) : 1 ≤ i ∧ i ≤ 6 ∧ 1 ≤ p ∧ p ≤ 34359738368 ∧ (i ≤ 5 ↔ p ≤ 268435456) := by unfold G8 at *; omega
def wN : Nat → Int → Int → Nat → List Int → Int × Int
 | 0, _, _, _, _ => (-1, 0)
 | _ + 1, _, _, _, [] => (-1, 0)
 | k + 1, n, p, i, c :: cs => if c < 128 then (if 268435456 < n + c % 128 * p ∨ (1 < i ∧ c = 0) then (-1, 0) else (n + c % 128 * p, (i : Int) + 1)) else wN k (n + c % 128 * p) (p * 128) (i + 1) cs
def dQ (s : ByteArray) (b : Int) : Int × Int :=
 if h : 0 < s.size then if aQ b 1 8 = true then (if (s[0].toNat : Int) % pw b < pw b - 1 then ((s[0].toNat : Int) % pw b, 1) else wN 5 ((s[0].toNat : Int) % pw b) 1 1 ((cB s).drop 1)) else (-1, 0) else (-1, 0)
theorem Ws {s : ByteArray} {b : Int} (h : s.size = 0) : dQ s b = (-1, 0) := by simp [dQ, h]
end Go.Proofs.YtlpbnkideaojeaaGreatDoor
namespace Go.Proofs.YtlpbnkideaojeaaGreatDoor
open Go.RowKit Go.Shelf
attribute [local go_sem] Oper.semAt_some
set_option linter.unusedSimpArgs false
set_option linter.unusedVariables false
def uH (a b : Nat) (W W' : World) : Prop := W'.heap[a]? = W.heap[a]? ∧ W'.heap[b]? = W.heap[b]?
theorem Uo {a b : Nat} {A B C : World} (h : uH a b A B) (k : uH a b B C) : uH a b A C := ⟨k.1.trans h.1, k.2.trans h.2⟩
theorem Uq {a b : Nat} {w : World} (ha : a < w.heap.size) (hb : b < w.heap.size) (W : World) (l : Nat) (o o' : Obj) (hl : w.heap.size ≤ l) (h : W.heap[l]? = some o) (_ : o.isCells = false) (_ : o.isWalk = false) : uH a b W (W.putObj l o') :=
 ⟨World.putObj_heap_other (by omega), World.putObj_heap_other (by omega)⟩
theorem uH.Wt {a b : Nat} {W W' : World} (h : uH a b W W') {t : TypeId} {v : Value} (hb : Boxed W a t v) : Boxed W' a t v := h.1.trans hb
set_option maxRecDepth 100000 in
set_option maxHeartbeats 2000000 in
theorem Wu (m : Nat) (hm : 1 ≤ m) (l Bn Bb : Nat) (n b : Int) (hn0 : 0 ≤ n) (hn : n ≤ 268435456) (h1 : 1 ≤ b) (h8 : b ≤ 8) (J Jx : List Int → World → Prop)
  (hY : ∀ pre x W, J pre W → pre.length < (bytesOf n (pw b - 1)).length → YieldAt Fence.wide (m - 1) Tryz.prog l #[.int .u8 x] W fun e W' =>
   (e = .returned (.bool true) ∧ J (pre ++ [x]) W' ∧ uH Bn Bb W W') ∨ (e = .returned (.bool false) ∧ Jx (pre ++ [x]) W'))
  (W : World) (Aq : Boxed W Bn 2 (.int .i64 n)) (hBb : Boxed W Bb 2 (.int .i64 b)) (h0 : J [] W) :
  CallsIn Fence.wide m Tryz.prog 174 #[.func (.yield l) #[] #[], .pointer (some ⟨Bb, 0, none⟩), .pointer (some ⟨Bn, 0, none⟩)] W fun e W' => (∃ v, e = .returned v) ∧
   ((∃ ys, ys = bytesOf n (pw b - 1) ∧ J ys W') ∨ (∃ pre, True ∧ Jx pre W')) := by
 obtain ⟨hp1, hp2⟩ := wE h1 h8
 have cn := Aq.cell
 have cb := hBb.cell
 have hB1 := (Dp n (pw b - 1)).1
 by_cases hlt : n < pw b - 1
 ·have gB : bytesOf n (pw b - 1) = [n] := by simp [bytesOf, hlt]
  obtain ⟨fn, tmps, assign, body, hy, hR⟩ := hY [] n W h0 hB1
  refine callsIn_of_wp Tryz.func174 rfl trivial ?_ rfl
  simp only [Tryz.ntmps174, List.size_toArray, List.length_cons, List.length_nil, Nat.reduceAdd, Nat.reduceSub, Array.replicate_succ, Array.replicate_zero, List.push_toArray, List.append_toArray, List.nil_append, List.cons_append]
  gi_wp2_with (refine ⟨trivial, ?_⟩; gi_at_call 167; refine (callsIn_wide.2 (Dq b _ h1 h8)).mono ?_; rintro e w' ⟨rfl, rfl⟩)
  refine hR.mono ?_
  rintro e W3 (⟨rfl, hJ3, hk3⟩ | ⟨rfl, hJx3⟩)
  ·gi_wp2
   refine bodyPost_ret (results_none rfl _ _ _) rfl ?_
   exact ⟨⟨_, rfl⟩, .inl ⟨[n], gB.symm, hJ3⟩⟩
  ·gi_wp2
   refine bodyPost_ret (results_none rfl _ _ _) rfl ?_
   exact ⟨⟨_, rfl⟩, .inr ⟨_, trivial, hJx3⟩⟩
 ·have gB : bytesOf n (pw b - 1) = (pw b - 1) :: iM 4 (n - (pw b - 1)) := by simp only [bytesOf]; rw [if_neg hlt]
  obtain ⟨fn, tmps, assign, body, hy, hR⟩ := hY [] (pw b - 1) W h0 hB1
  refine callsIn_of_wp Tryz.func174 rfl trivial ?_ rfl
  simp only [Tryz.ntmps174, List.size_toArray, List.length_cons, List.length_nil, Nat.reduceAdd, Nat.reduceSub, Array.replicate_succ, Array.replicate_zero, List.push_toArray, List.append_toArray, List.nil_append, List.cons_append]
  gi_wp2_with (refine ⟨trivial, ?_⟩; gi_at_call 167; refine (callsIn_wide.2 (Dq b _ h1 h8)).mono ?_; rintro e w' ⟨rfl, rfl⟩)
  refine hR.mono ?_
  rintro e W3 (⟨rfl, hJ3, hk3⟩ | ⟨rfl, hJx3⟩)
  ·have cn3 := (hk3.Wt Aq).cell
   gi_wp2
   gi_loopw [5] (fun r wr => ∃ (k : Nat) (z : Int) (pre : List Int), r = .int .i64 z ∧ 0 ≤ z ∧ z < 128 ^ (k + 1) ∧ z ≤ 268435456 ∧ bytesOf n (pw b - 1) = pre ++ iM k z ∧ J pre wr) (fun r _ => (intOf r).toNat)
   case atStart => exact ⟨4, n - (pw b - 1), [pw b - 1], rfl, by omega, by simp; omega, by omega, gB, hJ3⟩
   case round =>
    obtain ⟨k, z, pre, rfl, hz0, hz1, hz2, hpre, hJs⟩ := hrel
    have hpl : pre.length < (bytesOf n (pw b - 1)).length := by rw [hpre, List.length_append]; have := GD k z; omega
    by_cases hz : z < 128
    ·have hbe : bytesOf n (pw b - 1) = pre ++ [z] := by rw [hpre, Af hz]
     obtain ⟨Wv, Ww, Wx, Wy, hy4, qE⟩ := hY pre z wr hJs hpl
     gi_wp2
     refine qE.mono ?_
     rintro e W4 (⟨rfl, G9, hk4⟩ | ⟨rfl, He⟩)
     ·gi_wp2
      go_end0
      exact ⟨⟨_, rfl⟩, .inl ⟨_, hbe.symm, G9⟩⟩
     ·gi_wp2
      go_end0
      exact ⟨⟨_, rfl⟩, .inr ⟨_, trivial, He⟩⟩
    ·obtain ⟨k', rfl⟩ : ∃ k', k = k' + 1 := ⟨k - 1, by cases k with | zero => simp at hz1; omega | succ k => rfl⟩
     obtain ⟨Wv, Ww, Wx, Wy, hy4, qE⟩ := hY pre (z % 128 + 128) wr hJs hpl
     have HB : Hid (bytesOf n (pw b - 1) = (pre ++ [z % 128 + 128]) ++ iM k' (z / 128)) := by show _ = _; rw [hpre, Dz (by omega)]; simp
     have HZ : Hid (z / 128 < 128 ^ (k' + 1)) := by show _ < _; rw [Int.pow_succ] at hz1; omega
     clear hz1 hpre
     gi_wp2
     refine qE.mono ?_
     rintro e W4 (⟨rfl, G9, hk4⟩ | ⟨rfl, He⟩)
     ·gi_wp2
      go_roundw
      case rel => exact ⟨k', z / 128, _, by go_num, by omega, HZ.out, by omega, HB.out, G9⟩
      case measure => simp [intOf]; omega
     ·gi_wp2
      refine bodyPost_ret (results_none rfl _ _ _) rfl ?_
      exact ⟨⟨_, rfl⟩, .inr ⟨_, trivial, He⟩⟩
  ·gi_wp2
   refine bodyPost_ret (results_none rfl _ _ _) rfl ?_
   exact ⟨⟨_, rfl⟩, .inr ⟨_, trivial, hJx3⟩⟩
set_option maxHeartbeats 1000000 in
theorem Um (m : Nat) (n b : Int) (w : World) :
  CallsIn Fence.wide m Tryz.prog 168 #[.int .i64 n, .int .i64 b] w fun e w' => e = .returned (.func (.func 174) #[] #[.pointer (some ⟨w.heap.size + 1, 0, none⟩), .pointer (some ⟨w.heap.size, 0, none⟩)])
   ∧ w' = (w.alloc (.cells #[.int .i64 n] 2)).alloc (.cells #[.int .i64 b] 2) := by
 refine callsIn_of_wp Tryz.func168 rfl trivial ?_ rfl
 simp only [Tryz.ntmps168, List.size_toArray, List.length_cons, List.length_nil, Nat.reduceAdd, Nat.reduceSub, Array.replicate_succ, Array.replicate_zero, List.push_toArray, List.append_toArray, List.nil_append, List.cons_append]
 gi_wp2
 go_ret
 exact ⟨rfl, rfl⟩
theorem Un (m : Nat) (hm : 1 ≤ m) (Bn Bb : Nat) (n b : Int) (hn0 : 0 ≤ n) (hn : n ≤ 268435456) (h1 : 1 ≤ b) (h8 : b ≤ 8) (w : World) (Aq : Boxed w Bn 2 (.int .i64 n)) (hBb : Boxed w Bb 2 (.int .i64 b)) :
  SeqStopsK Fence.wide m Tryz.prog 174 #[.pointer (some ⟨Bb, 0, none⟩), .pointer (some ⟨Bn, 0, none⟩)] (fun x : Int => #[Value.int .u8 x]) (uH Bn Bb) (fun ys => ys = bytesOf n (pw b - 1)) (fun _ => True) (bytesOf n (pw b - 1)).length w :=
 fun l J Jx W hW _ _ hY h0 => Wu m hm l Bn Bb n b hn0 hn h1 h8 J Jx hY W ((hW.block Bn Aq.lt).trans Aq) ((hW.block Bb hBb.lt).trans hBb) h0
end Go.Proofs.YtlpbnkideaojeaaGreatDoor
namespace Go.Proofs.YtlpbnkideaojeaaGreatDoor
open Go.RowKit
open List renaming getElem_toArray → aI, getElem_cons_succ → aJ, getElem_cons_zero → aK, setIfInBounds_toArray → aL, set_cons_zero → aM, set_cons_succ → aN
set_option maxRecDepth 100000
set_option linter.unusedSimpArgs false
set_option linter.unusedVariables false
def kY (h : Int) : List Int → List Int
 | [] => []
 | x :: xs => (h + x) :: xs
theorem Hf (h : Int) (l : List Int) : (kY h l).length = l.length := by cases l <;> rfl
set_option maxHeartbeats 2000000 in
theorem Ar (n b h : Int) (w : World) (hn0 : 0 ≤ n) (hn : n ≤ 268435456) (h1 : 1 ≤ b) (h8 : b ≤ 8) (hh : 0 ≤ h) (hf : h + (pw b - 1) ≤ 255) :
  Calls Tryz.prog 82 #[.int .i64 n, .int .i64 b, .int .i64 h] w fun e w' => e = .returned (.string (strOf (kY h (bytesOf n (pw b - 1))))) ∧ Below w.heap.size w w' := by
 obtain ⟨hp1, hp2⟩ := wE h1 h8
 have hpw : (2 : Int) ^ b.toNat = pw b := rfl
 obtain ⟨i0, hi, hz0, hz1, hz2⟩ := info_parts (P := Tryz.prog) (e := 5) (z := .int .u8 0) (size := 1) (bytes := 1) (by kernel_rfl)
 by_cases hlt : n < pw b - 1
 ·have gB : kY h (bytesOf n (pw b - 1)) = [h + n] := by simp [bytesOf, hlt, kY]
  rw [gB]
  have hcv := iY (l := [h + n]) (oQ w 5 (Value.int .u8 (h + n))) (by intro x hx; simp at hx; omega)
  go_enter Tryz.func82, Tryz.ntmps82
  go_wp2_with fail
  go_ret
  exact ⟨rfl, (Below.refl _ _).alloc (Nat.le_refl _) _⟩
 ·have gB : kY h (bytesOf n (pw b - 1)) = (h + (pw b - 1)) :: iM 4 (n - (pw b - 1)) := by simp only [bytesOf]; rw [if_neg hlt]; rfl
  have hle : pw b - 1 ≤ n := by omega
  obtain ⟨L, hL⟩ : ∃ L, kY h (bytesOf n (pw b - 1)) = L := ⟨_, rfl⟩
  have bO : L.length ≤ 6 := by rw [← hL, Hf]; exact (Dp n _).2
  rw [hL] at gB ⊢
  go_enter Tryz.func82, Tryz.ntmps82
  go_wp2_with fail
  go_loopw [0, 8] (fun r v wr => ∃ (k : Nat) (z : Int) (pre : List Int), r = .int .i64 z ∧ 0 ≤ z ∧ z < 128 ^ (k + 1) ∧ z ≤ 268435456 ∧ L = pre ++ iM k z ∧ (∀ x ∈ pre, 0 ≤ x ∧ x ≤ 255) ∧ wr.ownsRow w.heap.size 5 1 v pre.length (pre.map (Value.int .u8)) ∧ Below w.heap.size w wr) (fun r _ _ => (intOf r).toNat)
  case atStart =>
   exact ⟨4, n - (pw b - 1), [h + (pw b - 1)], by go_num, by omega, by simp; omega, by omega, gB, by intro x hx; simp at hx; omega, oQ w 5 (Value.int .u8 (h + (pw b - 1))), (Below.refl _ _).alloc (Nat.le_refl _) _⟩
  case round =>
   obtain ⟨k, z, pre, rfl, hz0', hz1', hz2', hpre, hx, hown, hB⟩ := hrel
   have hpl : pre.length + 1 ≤ 6 := by have := GD k z; rw [hpre, List.length_append] at bO; omega
   have hsz := hB.size
   by_cases hz : z < 128
   ·have HL : Hid (L = pre ++ [z]) := by show _ = _; rw [hpre, Af hz]
    have hown2 := hown.alloc (.cells #[.int .u8 z] 5)
    clear hz1' hpre gB hL
    go_wp2_with (at_builtin; refine wpList_append_own _ rfl _ _ 127 rfl w.heap.size 5 i0 (.int .u8 0) 1 1 Tryz.underlying127 hi hz0 hz1 hz2 rfl (by decide) _ _ _ rfl hown2 ⟨wr.heap.size, 0, none⟩ 1 1 [.int .u8 z] rfl rfl ?c1 ?c2 ?c3 ?c4 ?c5 ?_)
    case c1 => exact cell_one_new _ _ _
    case c2 => intro u hu; simp at hu; subst hu; rfl
    case c3 => unfold maxLen; omega
    case c4 => omega
    case c5 => simp; omega
    intro v' w3 hown3 hgrow _
    have hcv := iY (l := pre ++ [z]) (by simpa using hown3) (by intro x hx2; rcases List.mem_append.1 hx2 with h | h; exact hx x h; simp at h; omega)
    have hB3 : Below w.heap.size w w3 := (hB.alloc hB.size _).grown hgrow (by simp; omega) (fun k hk => (hown2.lt k hk).1)
    go_wp2_with fail
    go_ret
    exact ⟨by rw [HL.out]; rfl, hB3⟩
   ·obtain ⟨k', rfl⟩ : ∃ k', k = k' + 1 := ⟨k - 1, by cases k with | zero => simp at hz1'; omega | succ k => rfl⟩
    have HL : Hid (L = (pre ++ [z % 128 + 128]) ++ iM k' (z / 128)) := by show _ = _; rw [hpre, Dz (by omega)]; simp
    have HZ : Hid (z / 128 < 128 ^ (k' + 1)) := by show _ < _; rw [Int.pow_succ] at hz1'; omega
    have hown2 := hown.alloc (.cells #[.int .u8 (z % 128 + 128)] 5)
    clear hz1' hpre gB hL
    go_wp2_with (at_builtin; refine wpList_append_own _ rfl _ _ 127 rfl w.heap.size 5 i0 (.int .u8 0) 1 1 Tryz.underlying127 hi hz0 hz1 hz2 rfl (by decide) _ _ _ rfl hown2 ⟨wr.heap.size, 0, none⟩ 1 1 [.int .u8 (z % 128 + 128)] rfl rfl (cell_one_new _ _ _) ?d2 ?d3 ?d4 ?d5 ?_)
    case d2 => first | rfl | (intro u hu; simp at hu; subst hu; rfl)
    case d3 => first | omega | (unfold maxLen; omega)
    case d4 => omega
    case d5 => first | omega | (simp; omega)
    intro v' w3 hown3 hgrow _
    have HX : Hid (∀ x ∈ pre ++ [z % 128 + 128], 0 ≤ x ∧ x ≤ 255) := by show ∀ _ ∈ _, _; intro x hx2; rcases List.mem_append.1 hx2 with h | h; exact hx x h; simp at h; omega
    have hB3 : Below w.heap.size w w3 := (hB.alloc hB.size _).grown hgrow (by simp; omega) (fun k hk => (hown2.lt k hk).1)
    have HO : Hid (w3.ownsRow w.heap.size 5 1 v' (pre ++ [z % 128 + 128]).length ((pre ++ [z % 128 + 128]).map (Value.int .u8))) := by show World.ownsRow _ _ _ _ _ _ _; simpa using hown3
    clear hown3 hown2 hown hx
    go_wp2_with fail
    go_roundw
    case rel => exact ⟨k', z / 128, _, by go_num, by omega, HZ.out, by omega, HL.out, HX.out, HO.out, hB3⟩
    case measure => simp [intOf]; omega
def okF (f : Fd) : Bool := aQ f.n.size 1 40 && decide ((f.v.size : Int) ≤ 60)
def wt (f : Fd) : Int := if okF f then (f.n.size : Int) + f.v.size + 8 else 0
def aS : List Fd → Int
 | [] => 0
 | f :: L => wt f + aS L
theorem qF {f : Fd} (h : okF f = true) : (1 : Int) ≤ f.n.size ∧ (f.n.size : Int) ≤ 40 ∧ (f.v.size : Int) ≤ 60 := by
 unfold okF at h
 simp only [Bool.and_eq_true, decide_eq_true_eq] at h
 have := jm h.1
 omega
theorem DU {f : Fd} (h : okF f = true) : wt f = f.n.size + f.v.size + 8 := by simp [wt, h]
theorem DV {f : Fd} (h : okF f = false) : wt f = 0 := by simp [wt, h]
theorem zY (f : Fd) : 0 ≤ wt f ∧ wt f ≤ 108 := by
 cases h : okF f
 ·rw [DV h]; omega
 ·rw [DU h]; have := qF h; omega
theorem Hg {f : Fd} (h : okF f = true) : 9 ≤ wt f := by rw [DU h]; have := qF h; omega
theorem Wz (f : Fd) : (wt f = 0) ↔ okF f = false := by
 cases h : okF f
 ·simp [DV h]
 ·have := Hg h; simp; omega
theorem Au (L : List Fd) : 0 ≤ aS L ∧ aS L ≤ 108 * L.length := by
 induction L with
 | nil => simp [aS]
 | cons f L ih => have := zY f; simp only [aS, List.length_cons]; omega
theorem Hl (A B : List Fd) : aS (A ++ B) = aS A + aS B := by
 induction A with
 | nil => simp [aS]
 | cons f A ih => simp only [List.cons_append, aS, ih]; omega
theorem WB (L : List Fd) (k : Nat) (h : k < L.length) : aS (L.take (k + 1)) = aS (L.take k) + wt L[k] := by
 rw [List.take_succ_eq_append_getElem h, Hl]; simp [aS]
theorem WC {L : List Fd} (h : ∀ f ∈ L, okF f = true) : 9 * (L.length : Int) ≤ aS L := by
 induction L with
 | nil => simp [aS]
 | cons f L ih => have := Hg (h f (by simp)); have := ih fun g hg => h g (by simp [hg]); simp only [aS, List.length_cons]; omega
def bI (room : Int) (L : List Fd) : Bool := aQ room 0 1000 && (L.all okF && decide (aS L ≤ room))
theorem mE {room : Int} {L : List Fd} (h : bI room L = true) : 0 ≤ room ∧ room ≤ 1000 ∧ (∀ f ∈ L, okF f = true) ∧ aS L ≤ room ∧ L.length ≤ 111 := by
 unfold bI at h
 simp only [Bool.and_eq_true, decide_eq_true_eq, List.all_eq_true] at h
 have h1 := jm h.1
 have h2 := WC h.2.1
 exact ⟨h1.1, h1.2, h.2.1, h.2.2, by omega⟩
def ig (room : Int) : Nat → List Fd → List Fd
 | 0, L => L
 | n + 1, L => if room < aS L then ig room n L.dropLast else L
def shr (room : Int) (L : List Fd) : List Fd := ig room L.length L
theorem zq {room : Int} {L : List Fd} (h : ¬ room < aS L) : shr room L = L := by
 unfold shr
 cases L.length with
 | zero => rfl
 | succ n => simp [ig, h]
theorem Nl {room : Int} {L : List Fd} (h : room < aS L) : shr room L = shr room L.dropLast := by
 unfold shr
 cases hn : L.length with
 | zero =>
  have : L = [] := List.length_eq_zero_iff.1 hn
  subst this
  rfl
 | succ n => rw [ig, if_pos h, List.length_dropLast, hn]; rfl
theorem WE {room : Int} (n : Nat) : ∀ {L : List Fd}, ∀ f ∈ ig room n L, f ∈ L := by
 induction n with
 | zero => intro L f hf; exact hf
 | succ n ih =>
  intro L f hf
  rw [ig] at hf
  split at hf
  ·exact (List.dropLast_sublist _).subset (ih f hf)
  ·exact hf
theorem DW {room : Int} {L : List Fd} (h : ∀ f ∈ L, okF f = true) : ∀ f ∈ shr room L, okF f = true := fun f hf => h f (WE _ f hf)
theorem WG {room : Int} (L : List Fd) : (shr room L).length ≤ L.length := by
 have : ∀ n (L : List Fd), (ig room n L).length ≤ L.length := fun n => by
  induction n with
  | zero => intro L; exact Nat.le_refl _
  | succ n ih =>
   intro L
   rw [ig]
   split
   ·have := ih L.dropLast; rw [List.length_dropLast] at this; omega
   ·exact Nat.le_refl _
 exact this _ _
theorem qj {f : Fd} (h : okF f = true) : f.fine := by have := qF h; exact ⟨by omega, by omega⟩
theorem oL (f : Fd) (w : World) (hf : f.fine) : Calls Tryz.prog 151 #[.agg #[.string f.n, .string f.v]] w fun x w' => x = .returned (.int .i64 (wt f)) ∧ Below w.heap.size w w' := by
 obtain ⟨hn, hv⟩ := hf
 cases h : okF f
 ·rw [DV h]
  unfold okF at h
  cases h1 : aQ f.n.size 1 40
  ·clear h
   go_enter Tryz.func151, Tryz.ntmps151
   go_wp2_with fail
   go_quiet (fail)
   go_wp2_with fail
   refine (iX _ _ _ _).mono ?_; rw [h1]; rintro e w1 ⟨rfl, rfl⟩
   go_wp2_with fail
   go_ret
   exact ⟨rfl, (by repeat' (first | (with_reducible exact Below.refl _ _) | (with_reducible refine Below.drew ?_) | (with_reducible refine ay _ ?_) | (with_reducible refine aA ?_ _) | (refine ah ?_ (by with_reducible assumption)) | (with_reducible refine Below.setCell ?_ ?_ _) | go_size))⟩
  ·have h2 : ¬ ((f.v.size : Int) ≤ 60) := by simpa [h1] using h
   clear h
   go_enter Tryz.func151, Tryz.ntmps151
   go_wp2_with fail
   go_quiet (fail)
   go_wp2_with fail
   refine (iX _ _ _ _).mono ?_; rw [h1]; rintro e w1 ⟨rfl, rfl⟩
   go_wp2_with fail
   go_ret
   exact ⟨rfl, (by repeat' (first | (with_reducible exact Below.refl _ _) | (with_reducible refine Below.drew ?_) | (with_reducible refine ay _ ?_) | (with_reducible refine aA ?_ _) | (refine ah ?_ (by with_reducible assumption)) | (with_reducible refine Below.setCell ?_ ?_ _) | go_size))⟩
 ·rw [DU h]
  obtain ⟨p1, p2, p3⟩ := qF h
  have h1 : aQ f.n.size 1 40 = true := by unfold okF at h; simp only [Bool.and_eq_true] at h; exact h.1
  clear h
  go_enter Tryz.func151, Tryz.ntmps151
  go_wp2_with fail
  go_quiet (fail)
  go_wp2_with fail
  refine (iX _ _ _ _).mono ?_; rw [h1]; rintro e w1 ⟨rfl, rfl⟩
  go_wp2_with fail
  go_ret
  exact ⟨rfl, (by repeat' (first | (with_reducible exact Below.refl _ _) | (with_reducible refine Below.drew ?_) | (with_reducible refine ay _ ?_) | (with_reducible refine aA ?_ _) | (refine ah ?_ (by with_reducible assumption)) | (with_reducible refine Below.setCell ?_ ?_ _) | go_size))⟩
theorem yu (f : Fd) (w : World) (hf : f.fine) : Calls Tryz.prog 124 #[.agg #[.string f.n, .string f.v]] w fun x w' => x = .returned (.bool (okF f)) ∧ Below w.heap.size w w' := by
 have hz := Wz f
 cases h : okF f
 ·have h0 := hz.2 h
  go_enter Tryz.func124, Tryz.ntmps124
  go_wp2_with fail
  refine (oL f _ hf).mono ?_; rw [h0]; rintro e w1 ⟨rfl, hb1⟩
  go_wp2_with fail
  go_ret
  exact ⟨rfl, (by repeat' (first | (with_reducible exact Below.refl _ _) | (with_reducible refine Below.drew ?_) | (with_reducible refine ay _ ?_) | (with_reducible refine aA ?_ _) | (refine ah ?_ (by with_reducible assumption)) | (with_reducible refine Below.setCell ?_ ?_ _) | go_size))⟩
 ·have h0 : ¬ wt f = 0 := fun e => by rw [hz.1 e] at h; cases h
  go_enter Tryz.func124, Tryz.ntmps124
  go_wp2_with fail
  refine (oL f _ hf).mono ?_; rintro e w1 ⟨rfl, hb1⟩
  generalize wt f = z at *
  clear hz
  go_wp2_with fail
  go_ret
  exact ⟨by simp [h0], (by repeat' (first | (with_reducible exact Below.refl _ _) | (with_reducible refine Below.drew ?_) | (with_reducible refine ay _ ?_) | (with_reducible refine aA ?_ _) | (refine ah ?_ (by with_reducible assumption)) | (with_reducible refine Below.setCell ?_ ?_ _) | go_size))⟩
theorem Av (r : Int) (w : World) : Calls Tryz.prog 143 #[.int .i64 r] w fun e w' => e = .returned (.bool (aQ r 0 1000)) ∧ w' = w := by
 go_enter Tryz.func143, Tryz.ntmps143
 go_wp2_with (go_at_call 25; refine (iX _ _ _ _).mono ?_; rintro e w' ⟨rfl, rfl⟩)
 go_ret
 exact ⟨rfl, rfl⟩
theorem yw (f : Fd) (w : World) (hf : f.fine) : Calls Tryz.prog 77 #[.agg #[.string f.n, .string f.v]] w fun x w' => x = .returned (.bool (okF f)) ∧ Below w.heap.size w w' := by
 obtain ⟨hn, hv⟩ := hf
 unfold okF
 cases h1 : aQ f.n.size 1 40
 ·go_enter Tryz.func77, Tryz.ntmps77
  go_wp2_with fail
  refine (jP _ _ _ _).mono ?_; rw [h1]; rintro e w1 ⟨rfl, rfl⟩
  go_wp2_with fail
  go_ret
  exact ⟨rfl, (by repeat' (first | (with_reducible exact Below.refl _ _) | (with_reducible refine Below.drew ?_) | (with_reducible refine ay _ ?_) | (with_reducible refine aA ?_ _) | (refine ah ?_ (by with_reducible assumption)) | (with_reducible refine Below.setCell ?_ ?_ _) | go_size))⟩
 ·go_enter Tryz.func77, Tryz.ntmps77
  go_wp2_with fail
  refine (jP _ _ _ _).mono ?_; rw [h1]; rintro e w1 ⟨rfl, rfl⟩
  go_wp2_with fail
  go_ret
  exact ⟨by simp, (by repeat' (first | (with_reducible exact Below.refl _ _) | (with_reducible refine Below.drew ?_) | (with_reducible refine ay _ ?_) | (with_reducible refine aA ?_ _) | (refine ah ?_ (by with_reducible assumption)) | (with_reducible refine Below.setCell ?_ ?_ _) | go_size))⟩
theorem WH (f : Fd) (w : World) (hf : f.fine) : Calls Tryz.prog 110 #[.agg #[.string f.n, .string f.v]] w fun x w' => x = .returned (.int .i64 (wt f)) ∧ Below w.heap.size w w' := by
 have hf' := hf
 obtain ⟨hn, hv⟩ := hf'
 cases h : okF f
 ·rw [DV h]
  go_enter Tryz.func110, Tryz.ntmps110
  go_wp2_with fail
  refine (yw f _ hf).mono ?_; rw [h]; rintro e w1 ⟨rfl, hb1⟩
  go_wp2_with fail
  go_ret
  exact ⟨rfl, (by repeat' (first | (with_reducible exact Below.refl _ _) | (with_reducible refine Below.drew ?_) | (with_reducible refine ay _ ?_) | (with_reducible refine aA ?_ _) | (refine ah ?_ (by with_reducible assumption)) | (with_reducible refine Below.setCell ?_ ?_ _) | go_size))⟩
 ·rw [DU h]
  obtain ⟨p1, p2, p3⟩ := qF h
  go_enter Tryz.func110, Tryz.ntmps110
  go_wp2_with fail
  refine (yw f _ hf).mono ?_; rw [h]; rintro e w1 ⟨rfl, hb1⟩; have hc1 := fun o => hb1.cell (p := ⟨w.heap.size, o, none⟩) (by first | (simp; done) | (simp; omega) | omega); have hf1 := fun o => hb1.frozen (p := ⟨w.heap.size, o, none⟩) (by first | (simp; done) | (simp; omega) | omega)
  go_wp2_with fail
  go_ret
  exact ⟨rfl, (by repeat' (first | (with_reducible exact Below.refl _ _) | (with_reducible refine Below.drew ?_) | (with_reducible refine ay _ ?_) | (with_reducible refine aA ?_ _) | (refine ah ?_ (by with_reducible assumption)) | (with_reducible refine Below.setCell ?_ ?_ _) | go_size))⟩
set_option maxHeartbeats 1000000 in
theorem Mt (L : List Fd) (v : Value) (w : World) (hr0 : Reads w v L.length 2 (fv L)) (hf : ∀ f ∈ L, f.fine) (hL : L.length ≤ 201) :
  Calls Tryz.prog 78 #[v] w fun x w' => x = .returned (.int .i64 (aS L)) ∧ Below w.heap.size w w' := by
 obtain ⟨hl, ad, cap, rfl, h1, h2, h3⟩ := hr0
 have H3 := hide h3; have HF := hide hf
 clear h3 hf
 unfold maxLen at h2
 go_enter Tryz.func78, Tryz.ntmps78
 go_wp2_with fail
 go_loopw [3, 4] (fun s i wr => ∃ (k : Nat), i = .int .i64 k ∧ s = .int .i64 (aS (L.take k)) ∧ k ≤ L.length ∧ Below w.heap.size w wr) (fun _ i _ => L.length - (intOf i).toNat)
 case atStart => exact ⟨0, rfl, by simp [aS], Nat.zero_le _, Below.refl _ _⟩
 case round =>
  obtain ⟨k, rfl, rfl, hk, hb⟩ := hrel
  by_cases hlt : k < L.length
  ·obtain ⟨b, o, rfl, hbw, hc⟩ := H3.out (by omega)
   obtain ⟨s0, s1⟩ := kK L k hlt
   have fT := HF.out _ (List.getElem_mem hlt)
   have hsu := WB L k hlt
   have hrg := Au (L.take k)
   rw [List.length_take, Nat.min_eq_left (by omega)] at hrg
   obtain ⟨f, bK⟩ : ∃ f, f = L[k] := ⟨_, rfl⟩
   rw [← bK] at s0 s1 fT hsu
   have c0 : wr.cell? ⟨b, o + k * 2, none⟩ = some (.string f.n) := by rw [hb.cell (p := ⟨b, o + k * 2, none⟩) hbw]; exact hc _ _ s0
   have c1 : wr.cell? ⟨b, o + k * 2 + 1, none⟩ = some (.string f.v) := by rw [hb.cell (p := ⟨b, o + k * 2 + 1, none⟩) hbw]; exact hc _ _ s1
   clear hc s0 s1 bK
   have HU := hide hsu
   have hwr := zY f
   generalize aS (L.take k) = A at *
   clear hsu
   go_wp2_with fail
   refine (WH f _ fT).mono ?_; rintro x w1 ⟨rfl, hb1⟩
   generalize wt f = z at *
   go_wp2_with fail
   exact ⟨⟨k + 1, by go_num, by rw [HU.out], by omega, ah hb hb1⟩, by simp [intOf]; omega⟩
  ·obtain rfl : k = L.length := by omega
   rw [List.take_length]
   go_wp2_with fail
   go_ret
   exact ⟨rfl, hb⟩
section
variable {D : Type} {E : lN D}
theorem aW.flat {f : D → List Value} (hf : ∀ w cs d bs, E.own w cs d bs → cs = f d ∧ bs = []) {w : World} {v : Value} {L : List D} {bs : List Nat} (h : aW E w v L bs) : w.ownsRow 0 E.ty E.size v L.length (L.flatMap f) ∧ bs = v.ownBlock.toList := by
 obtain ⟨ts, rfl, ho, hE, rfl⟩ := h
 have e : ts.flatMap (fun t => t.1) = (ts.map (fun t => t.2.1)).flatMap f := by
  rw [List.flatMap_map]
  have hh : ∀ t ∈ ts, t.1 = f t.2.1 := fun t ht => (hf _ _ _ _ (hE t ht)).1
  clear ho hE
  induction ts with
  | nil => rfl
  | cons t ts ih => simp only [List.flatMap_cons]; rw [ih (fun x hx => hh x (by simp [hx])), ← hh t (by simp)]
 have e2 : ts.flatMap (fun t => t.2.2) = [] := by
  have hh : ∀ t ∈ ts, t.2.2 = [] := fun t ht => (hf _ _ _ _ (hE t ht)).2
  clear ho hE e
  induction ts with
  | nil => rfl
  | cons t ts ih => simp only [List.flatMap_cons]; rw [ih (fun x hx => hh x (by simp [hx])), hh t (by simp)]; rfl
 rw [e] at ho
 exact ⟨by simpa using ho, by rw [e2]; simp⟩
theorem Nn {f : D → List Value} {w : World} {v : Value} {L : List D} (hf : ∀ d ∈ L, E.own w (f d) d []) (h : w.ownsRow 0 E.ty E.size v L.length (L.flatMap f)) : aW E w v L v.ownBlock.toList := by
 refine ⟨L.map fun d => (f d, d, []), by simp [Function.comp_def], ?_, fun t ht => ?_, ?_⟩
 ·simpa [List.flatMap_map] using h
 ·obtain ⟨d, hd, rfl⟩ := List.mem_map.1 ht
  exact hf d hd
 ·have : ∀ M : List D, (M.map fun d => ((f d, d, []) : List Value × D × List Nat)).flatMap (fun t => t.2.2) = [] := fun M => by induction M <;> simp_all
  rw [this]; simp
end
def bT : lN Fd where
 size := 2
 ty := 104
 rd := fun _ cs d => cs = d.cs ∧ d.fine
 own := fun _ cs d bs => cs = d.cs ∧ d.fine ∧ bs = []
 pos := by decide
 nT := fun h => by obtain ⟨rfl, _⟩ := h; rfl
 Dc := fun h u hu => by obtain ⟨rfl, _⟩ := h; simp only [Fd.cs, List.mem_cons, List.not_mem_nil, or_false] at hu; rcases hu with rfl | rfl <;> rfl
 Df := fun h _ => h
 nU := fun h => ⟨h.1, h.2.1⟩
 ji := fun h _ _ => h
 kr := fun h b hb => by rw [h.2.2] at hb; cases hb
theorem dM {w : World} {v : Value} {L : List Fd} (h : aT bT w v L) : Reads w v L.length 2 (fv L) := aT.flat (E := bT) (f := Fd.cs) (fun _ _ _ h => h.1) h
theorem eu {w : World} {v : Value} {L : List Fd} (h : aT bT w v L) : ∀ f ∈ L, f.fine := by
 obtain ⟨ts, rfl, _, hE⟩ := h
 intro x hx
 obtain ⟨t, ht, rfl⟩ := List.mem_map.1 hx
 exact (hE t ht).2
theorem F7 {w : World} {v : Value} {L : List Fd} {bs : List Nat} (h : aW bT w v L bs) : w.ownsRow 0 104 2 v L.length (fv L) ∧ bs = v.ownBlock.toList := aW.flat (E := bT) (f := Fd.cs) (fun _ _ _ _ h => ⟨h.1, h.2.2⟩) h
theorem zN {w : World} {v : Value} {L : List Fd} (h : w.ownsRow 0 104 2 v L.length (fv L)) (hs : ∀ f ∈ L, f.fine) : aW bT w v L v.ownBlock.toList := Nn (E := bT) (f := Fd.cs) (fun d hd => ⟨rfl, hs d hd, rfl⟩) h
theorem vR {w : World} {lo : Nat} {v : Value} {L : List Fd} (h : w.ownsRow lo 104 2 v L.length (fv L)) (hs : ∀ f ∈ L, f.fine) : aD bT w lo w.heap.size v L := GR (E := bT) (f := Fd.cs) (fun d hd => ⟨rfl, hs d hd, rfl⟩) h
def iC (L : List Fd) : Int := L.length + eB L
theorem Dh (L : List Fd) : 0 ≤ iC L := by unfold iC; have := Ag L; omega
theorem zO (L : List Fd) : (L.length : Int) ≤ iC L := by unfold iC; have := Ag L; omega
def bQ (L : List Fd) (k : Nat) : List Fd := jN (fun _ k => ⟨bg k, bg (k + 1)⟩) (fun _ => 2) L k
def av (L : List Fd) : Nat := dF (fun _ => 2) L
theorem oI (L : List Fd) : av L = L.length * 2 := by
 unfold av
 induction L with
 | nil => rfl
 | cons x L ih => simp only [dF, List.length_cons, ih]; omega
theorem wO (L : List Fd) (k : Nat) : (bQ L k).length = L.length := oN _ _ L k
theorem Np (L : List Fd) (k j : Nat) (h : j < L.length) (h' : j < (bQ L k).length) : (bQ L k)[j] = ⟨bg (k + j * 2), bg (k + j * 2 + 1)⟩ := by
 have e := Gz (fun (_ : Fd) k => (⟨bg k, bg (k + 1)⟩ : Fd)) (fun _ => 2) L k j h h'
 have h2 := oI (L.take j)
 unfold av at h2
 rw [h2, List.length_take, Nat.min_eq_left (by omega)] at e
 exact e
theorem DX (L : List Fd) (k : Nat) : fv (bQ L k) = mkT k (L.length * 2) := by
 apply List.ext_getElem?
 intro i
 by_cases hi : i < L.length * 2
 ·obtain ⟨j, r, hr, rfl⟩ : ∃ j r, r < 2 ∧ i = j * 2 + r := ⟨i / 2, i % 2, by omega, by omega⟩
  have hj : j < L.length := by omega
  have hj' : j < (bQ L k).length := by rw [wO]; exact hj
  obtain ⟨g1, g2⟩ := kK (bQ L k) j hj'
  rw [Np L k j hj hj'] at g1 g2
  rw [Ah k _ _ hi]
  rcases (show r = 0 ∨ r = 1 by omega) with rfl | rfl
  ·rw [Nat.add_zero]; exact g1
  ·exact g2
 ·rw [List.getElem?_eq_none (by rw [gY, wO]; omega), List.getElem?_eq_none (by rw [MP]; omega)]
theorem Nq (L : List Fd) (k : Nat) (hk : k + av L ≤ 1000000000) : ∀ f ∈ bQ L k, f.fine := by
 intro x hx
 obtain ⟨j, hj, rfl⟩ := List.getElem_of_mem hx
 have hj2 : j < L.length := by rw [← wO L k]; exact hj
 rw [Np L k j hj2]
 have h1 := Aj (k + j * 2)
 have h2 := Aj (k + j * 2 + 1)
 have h3 := oI L
 exact ⟨by simp only; omega, by simp only; omega⟩
theorem TK (L : List Fd) (v : Value) (w : World) (hr : aT bT w v L) (hz : iC L ≤ 1048576) :
  Calls Tryz.prog 55 #[v] w fun x w' => ∃ v', x = .returned v' ∧ aD bT w' w.heap.size w'.heap.size v' L ∧ Below w.heap.size w w' := by
 refine (MO L v w (dM hr) (by have := zO L; omega)).mono ?_
 rintro x w' ⟨v', rfl, ho, hb⟩
 exact ⟨v', rfl, vR ho (eu hr), hb⟩
theorem TN (L : List Fd) (v v' : Value) (w : World) (hr0 : aT bT w v L) (hr1 : aT bT w v' L) :
  Calls Tryz.prog 68 #[v, v'] w fun x w' => x = .returned (.bool true) ∧ Below w.heap.size w w' := eqFields L v v' w (dM hr0) (dM hr1)
theorem TT (L : List Fd) (v : Value) (left : Int) (w : World) (hr : aT bT w v L) (h0 : 0 ≤ left) (h1 : left ≤ 1048576) :
  Calls Tryz.prog 39 #[v, .int .i64 left] w fun x w' => (x = .returned (.int .i64 (-1)) ∨ (x = .returned (.int .i64 (left - iC L)) ∧ 0 ≤ left - iC L)) ∧ Below w.heap.size w w' := by
 refine (MN L v left w (dM hr) (eu hr) h0 h1).mono ?_
 rintro x w' ⟨rfl, hb⟩
 refine ⟨?_, hb⟩
 unfold iC
 by_cases c : left - L.length - eB L < 0
 ·exact .inl (by rw [if_pos c])
 ·exact .inr ⟨by rw [if_neg c, show left - L.length - eB L = left - (L.length + eB L) by omega], by omega⟩
theorem WI (L : List Fd) (k : Nat) (v : Value) (bs : List Nat) (w : World) (ho : aW bT w v L bs) (hn : bs.Nodup) (hk1 : k + av L ≤ 1000000000) :
  Calls Tryz.prog 71 #[v, .int .i64 k] w fun x w' => x = .returned (.int .i64 ((k + av L : Nat) : Int)) ∧ aW bT w' v (bQ L k) bs ∧ aG bs w w' := by
 obtain ⟨ho1, rfl⟩ := F7 ho
 have hc := oI L
 refine (MR L.length k v (fv L) 0 w ho1 (by omega)).mono ?_
 rintro x w' ⟨rfl, ho2, hg⟩
 rw [hc]
 refine ⟨rfl, zN ?_ (Nq L k hk1), ⟨hg.os, hg.tape, hg.output, hg.size, fun q hq hn => hg.block q hq fun e => hn (by rw [← e]; simp)⟩⟩
 rw [DX, wO]
 exact ho2
theorem WJ (L : List Fd) (k : Nat) (v : Value) (w : World) (hr : aT bT w v (bQ L k)) (hk1 : k + av L ≤ 1000000000) :
  Calls Tryz.prog 73 #[v, .int .i64 k] w fun x w' => x = .returned (.int .i64 ((k + av L : Nat) : Int)) ∧ Below w.heap.size w w' := by
 have h := dM hr
 rw [DX, wO] at h
 rw [oI] at hk1 ⊢
 exact MQ L.length k v w h hk1
open Go.ChangeShapes Go.WideShapes Go.ChangeAt Go.Joins in
theorem Ho {H : Type} {enc : TypeId × Value → H} {W : World} {base : Nat} {spare : Nat → Bool} {held : Bool} {fuel : Nat} {cs : List Value} {x : DataW H × List MemPlace} (h : DataW.trod enc Tryz.prog W base spare held fuel 129 cs = some x) : ∃ d : Fd, bT.rd W cs d := by
 obtain ⟨c0, c1, y0, y1, n, rfl, h0, h1⟩ := MF Tryz.underlying129 (by kernel_rfl) (by kernel_rfl) h
 obtain ⟨i0, e0, _, hs0⟩ := DataW.trod_string Tryz.underlying9 h0
 simp only [List.cons.injEq, and_true] at e0
 subst e0
 obtain ⟨i1, e1, _, hs1⟩ := DataW.trod_string Tryz.underlying9 h1
 simp only [List.cons.injEq, and_true] at e1
 subst e1
 exact ⟨⟨i0, i1⟩, rfl, by unfold maxLen at hs0; simp only; omega, by unfold maxLen at hs1; simp only; omega⟩
theorem Aw (x : Int) (w : World) : Calls Tryz.prog 80 #[.int .i64 x] w fun e w' => e = .returned (.bool (aQ x 0 1000000)) ∧ w' = w := by
 go_enter Tryz.func80, Tryz.ntmps80
 go_wp2_with fail
 refine (jP _ _ _ _).mono ?_; rintro e w1 ⟨rfl, hsame⟩; obtain rfl := hsame.symm; clear hsame
 go_wp2_with fail
 go_ret
 exact ⟨rfl, rfl⟩
theorem sw (p : qz) (w : World) (hb : p.b.size ≤ maxLen) : Calls Tryz.prog 79 #[pv p] w fun x w' => x = .returned (.bool (lU p)) ∧ Below w.heap.size w w' := VO p.r p.b p.e p.k w hb
set_option maxHeartbeats 1000000 in
theorem Nr (t : jh) (w : World) (h1 : t.up.b.size ≤ maxLen) (h2 : t.dn.b.size ≤ maxLen) : Calls Tryz.prog 46 #[kI t] w fun x w' => x = .returned (.bool (jJ t)) ∧ Below w.heap.size w w' := by
 obtain ⟨⟨r, b, e, k⟩, ⟨r2, b2, e2, k2⟩, wt, cm⟩ := t
 unfold jJ
 dsimp only [kI] at *
 have RX := aB w 90 [.int .i64 r, .string b, .bool e, .bool k, .int .i64 r2, .string b2, .bool e2, .bool k2, .int .i64 wt, .int .i64 cm]
 have HB : Below w.heap.size w (w.alloc (.cells #[.int .i64 r, .string b, .bool e, .bool k, .int .i64 r2, .string b2, .bool e2, .bool k2, .int .i64 wt, .int .i64 cm] 90)) := (Below.refl _ _).alloc (Nat.le_refl _) _
 cases hu : lU ⟨r, b, e, k⟩
 ·go_enter Tryz.func46, Tryz.ntmps46
  go_wp2_with fail
  refine (sw ⟨r, b, e, k⟩ _ h1).mono ?_; rw [hu]; rintro x w1 ⟨rfl, hb1⟩
  replace RX := RX.new hb1
  replace HB := ah HB hb1
  clear hb1
  obtain ⟨x0, x1, x2, x3, x4, x5, x6, x7, x10, bC⟩ := fF RX; have x9 := fun j => aj.frozen RX j; have x8 := RX.lt
  go_wp2_with fail
  go_ret
  exact ⟨rfl, HB⟩
 cases hd : lU ⟨r2, b2, e2, k2⟩
 ·go_enter Tryz.func46, Tryz.ntmps46
  go_wp2_with fail
  refine (sw ⟨r, b, e, k⟩ _ h1).mono ?_; rw [hu]; rintro x w1 ⟨rfl, hb1⟩
  replace RX := RX.new hb1
  replace HB := ah HB hb1
  clear hb1
  obtain ⟨x0, x1, x2, x3, x4, x5, x6, x7, x10, bC⟩ := fF RX; have x9 := fun j => aj.frozen RX j; have x8 := RX.lt
  go_wp2_with fail
  clear x0 x1 x2 x3 x4 x5 x6 x7 x10 bC x9 x8
  refine (sw ⟨r2, b2, e2, k2⟩ _ h2).mono ?_; rw [hd]; rintro x w2 ⟨rfl, hb2⟩
  replace RX := RX.new hb2
  replace HB := ah HB hb2
  clear hb2
  obtain ⟨x0, x1, x2, x3, x4, x5, x6, x7, x10, bC⟩ := fF RX; have x9 := fun j => aj.frozen RX j; have x8 := RX.lt
  go_wp2_with fail
  go_ret
  exact ⟨rfl, HB⟩
 cases hw : aQ wt 0 1000000
 ·go_enter Tryz.func46, Tryz.ntmps46
  go_wp2_with fail
  refine (sw ⟨r, b, e, k⟩ _ h1).mono ?_; rw [hu]; rintro x w1 ⟨rfl, hb1⟩
  replace RX := RX.new hb1
  replace HB := ah HB hb1
  clear hb1
  obtain ⟨x0, x1, x2, x3, x4, x5, x6, x7, x10, bC⟩ := fF RX; have x9 := fun j => aj.frozen RX j; have x8 := RX.lt
  go_wp2_with fail
  clear x0 x1 x2 x3 x4 x5 x6 x7 x10 bC x9 x8
  refine (sw ⟨r2, b2, e2, k2⟩ _ h2).mono ?_; rw [hd]; rintro x w2 ⟨rfl, hb2⟩
  replace RX := RX.new hb2
  replace HB := ah HB hb2
  clear hb2
  obtain ⟨x0, x1, x2, x3, x4, x5, x6, x7, x10, bC⟩ := fF RX; have x9 := fun j => aj.frozen RX j; have x8 := RX.lt
  go_wp2_with fail
  refine (Aw _ _).mono ?_; rw [hw]; rintro e w3 ⟨rfl, hsame⟩; obtain rfl := hsame.symm; clear hsame
  go_wp2_with fail
  go_ret
  exact ⟨rfl, HB⟩
 cases hm : aQ cm 0 1000000
 ·go_enter Tryz.func46, Tryz.ntmps46
  go_wp2_with fail
  refine (sw ⟨r, b, e, k⟩ _ h1).mono ?_; rw [hu]; rintro x w1 ⟨rfl, hb1⟩
  replace RX := RX.new hb1
  replace HB := ah HB hb1
  clear hb1
  obtain ⟨x0, x1, x2, x3, x4, x5, x6, x7, x10, bC⟩ := fF RX; have x9 := fun j => aj.frozen RX j; have x8 := RX.lt
  go_wp2_with fail
  clear x0 x1 x2 x3 x4 x5 x6 x7 x10 bC x9 x8
  refine (sw ⟨r2, b2, e2, k2⟩ _ h2).mono ?_; rw [hd]; rintro x w2 ⟨rfl, hb2⟩
  replace RX := RX.new hb2
  replace HB := ah HB hb2
  clear hb2
  obtain ⟨x0, x1, x2, x3, x4, x5, x6, x7, x10, bC⟩ := fF RX; have x9 := fun j => aj.frozen RX j; have x8 := RX.lt
  go_wp2_with fail
  refine (Aw _ _).mono ?_; rw [hw]; rintro e w3 ⟨rfl, hsame⟩; obtain rfl := hsame.symm; clear hsame
  go_wp2_with fail
  refine (Aw _ _).mono ?_; rw [hm]; rintro e w3 ⟨rfl, hsame⟩; obtain rfl := hsame.symm; clear hsame
  go_wp2_with fail
  go_ret
  exact ⟨rfl, HB⟩
 go_enter Tryz.func46, Tryz.ntmps46
 go_wp2_with fail
 refine (sw ⟨r, b, e, k⟩ _ h1).mono ?_; rw [hu]; rintro x w1 ⟨rfl, hb1⟩
 replace RX := RX.new hb1
 replace HB := ah HB hb1
 clear hb1
 obtain ⟨x0, x1, x2, x3, x4, x5, x6, x7, x10, bC⟩ := fF RX; have x9 := fun j => aj.frozen RX j; have x8 := RX.lt
 go_wp2_with fail
 clear x0 x1 x2 x3 x4 x5 x6 x7 x10 bC x9 x8
 refine (sw ⟨r2, b2, e2, k2⟩ _ h2).mono ?_; rw [hd]; rintro x w2 ⟨rfl, hb2⟩
 replace RX := RX.new hb2
 replace HB := ah HB hb2
 clear hb2
 obtain ⟨x0, x1, x2, x3, x4, x5, x6, x7, x10, bC⟩ := fF RX; have x9 := fun j => aj.frozen RX j; have x8 := RX.lt
 go_wp2_with fail
 refine (Aw _ _).mono ?_; rw [hw]; rintro e w3 ⟨rfl, hsame⟩; obtain rfl := hsame.symm; clear hsame
 go_wp2_with fail
 refine (Aw _ _).mono ?_; rw [hm]; rintro e w3 ⟨rfl, hsame⟩; obtain rfl := hsame.symm; clear hsame
 go_wp2_with fail
 go_ret
 exact ⟨rfl, HB⟩
set_option maxHeartbeats 1000000 in
theorem TL (t : jh) (w : World) : Calls Tryz.prog 88 #[kI t] w fun x w' => x = .returned (kI t) ∧ Below w.heap.size w w' := by
 obtain ⟨⟨r, b, e, k⟩, ⟨r2, b2, e2, k2⟩, wt, cm⟩ := t
 dsimp only [kI] at *
 obtain ⟨W, hW⟩ : ∃ W, ((w.alloc (.cells #[.int .i64 r, .string b, .bool e, .bool k, .int .i64 r2, .string b2, .bool e2, .bool k2, .int .i64 wt, .int .i64 cm] 83)).alloc (.cells #[.int .i64 0, .string ⟨#[]⟩, .bool false, .bool false, .int .i64 0, .string ⟨#[]⟩, .bool false, .bool false, .int .i64 0, .int .i64 0] 90)).alloc (.cells #[.int .i64 0, .string ⟨#[]⟩, .bool false, .bool false, .int .i64 0, .string ⟨#[]⟩, .bool false, .bool false, .int .i64 0, .int .i64 0] 90) = W := ⟨_, rfl⟩
 have RX : aj W w.heap.size 83 [.int .i64 r, .string b, .bool e, .bool k, .int .i64 r2, .string b2, .bool e2, .bool k2, .int .i64 wt, .int .i64 cm] := by rw [← hW]; exact ((aB w 83 [.int .i64 r, .string b, .bool e, .bool k, .int .i64 r2, .string b2, .bool e2, .bool k2, .int .i64 wt, .int .i64 cm]).alloc _).alloc _
 have RY : aj W (w.heap.size + 1) 90 [.int .i64 0, .string ⟨#[]⟩, .bool false, .bool false, .int .i64 0, .string ⟨#[]⟩, .bool false, .bool false, .int .i64 0, .int .i64 0] := by have := (aB (w.alloc (.cells #[.int .i64 r, .string b, .bool e, .bool k, .int .i64 r2, .string b2, .bool e2, .bool k2, .int .i64 wt, .int .i64 cm] 83)) 90 [.int .i64 0, .string ⟨#[]⟩, .bool false, .bool false, .int .i64 0, .string ⟨#[]⟩, .bool false, .bool false, .int .i64 0, .int .i64 0]).alloc (.cells #[.int .i64 0, .string ⟨#[]⟩, .bool false, .bool false, .int .i64 0, .string ⟨#[]⟩, .bool false, .bool false, .int .i64 0, .int .i64 0] 90); rw [hW] at this; simpa using this
 have RZ : aj W (w.heap.size + 1 + 1) 90 [.int .i64 0, .string ⟨#[]⟩, .bool false, .bool false, .int .i64 0, .string ⟨#[]⟩, .bool false, .bool false, .int .i64 0, .int .i64 0] := by have := aB ((w.alloc (.cells #[.int .i64 r, .string b, .bool e, .bool k, .int .i64 r2, .string b2, .bool e2, .bool k2, .int .i64 wt, .int .i64 cm] 83)).alloc (.cells #[.int .i64 0, .string ⟨#[]⟩, .bool false, .bool false, .int .i64 0, .string ⟨#[]⟩, .bool false, .bool false, .int .i64 0, .int .i64 0] 90)) 90 [.int .i64 0, .string ⟨#[]⟩, .bool false, .bool false, .int .i64 0, .string ⟨#[]⟩, .bool false, .bool false, .int .i64 0, .int .i64 0]; rw [hW] at this; simpa using this
 have HB : Below w.heap.size w W := by rw [← hW]; exact ((((Below.refl _ _).alloc (Nat.le_refl _) _).alloc (by simp) _).alloc (by simp; omega) _)
 go_enter Tryz.func88, Tryz.ntmps88
 obtain ⟨x0, x1, x2, x3⟩ := wu RX
 have xf := fun j => aj.frozen RX j
 have xl := RX.lt
 go_wp2_with fail
 clear x0 x1 x2 x3 xf xl
 clear hW
 refine (toP r b e k _).mono ?_; rintro x w1 ⟨rfl, hb⟩
 replace RX := RX.new hb
 replace RY := RY.new hb
 replace RZ := RZ.new hb
 replace HB := ah HB hb
 clear hb
 obtain ⟨z0, z1, z2, z3, z4, z5, z6, z7, z8, z9⟩ := fF RZ
 have zf := fun j => aj.frozen RZ j
 have zl := RZ.lt
 go_upto_region 3 with fail
 have bX : aj ((((w1.setCell ⟨(w.heap.size + 1 + 1), 0, none⟩ (.int .i64 r)).setCell ⟨(w.heap.size + 1 + 1), 1, none⟩ (.string b)).setCell ⟨(w.heap.size + 1 + 1), 2, none⟩ (.bool e)).setCell ⟨(w.heap.size + 1 + 1), 3, none⟩ (.bool k)) w.heap.size 83 [.int .i64 r, .string b, .bool e, .bool k, .int .i64 r2, .string b2, .bool e2, .bool k2, .int .i64 wt, .int .i64 cm] := ((((RX.far ⟨(w.heap.size + 1 + 1), 0, none⟩ (.int .i64 r) (show (w.heap.size + 1 + 1) ≠ w.heap.size by omega)).far ⟨(w.heap.size + 1 + 1), 1, none⟩ (.string b) (show (w.heap.size + 1 + 1) ≠ w.heap.size by omega)).far ⟨(w.heap.size + 1 + 1), 2, none⟩ (.bool e) (show (w.heap.size + 1 + 1) ≠ w.heap.size by omega)).far ⟨(w.heap.size + 1 + 1), 3, none⟩ (.bool k) (show (w.heap.size + 1 + 1) ≠ w.heap.size by omega))
 have bY : aj ((((w1.setCell ⟨(w.heap.size + 1 + 1), 0, none⟩ (.int .i64 r)).setCell ⟨(w.heap.size + 1 + 1), 1, none⟩ (.string b)).setCell ⟨(w.heap.size + 1 + 1), 2, none⟩ (.bool e)).setCell ⟨(w.heap.size + 1 + 1), 3, none⟩ (.bool k)) (w.heap.size + 1) 90 [.int .i64 0, .string ⟨#[]⟩, .bool false, .bool false, .int .i64 0, .string ⟨#[]⟩, .bool false, .bool false, .int .i64 0, .int .i64 0] := ((((RY.far ⟨(w.heap.size + 1 + 1), 0, none⟩ (.int .i64 r) (show (w.heap.size + 1 + 1) ≠ (w.heap.size + 1) by omega)).far ⟨(w.heap.size + 1 + 1), 1, none⟩ (.string b) (show (w.heap.size + 1 + 1) ≠ (w.heap.size + 1) by omega)).far ⟨(w.heap.size + 1 + 1), 2, none⟩ (.bool e) (show (w.heap.size + 1 + 1) ≠ (w.heap.size + 1) by omega)).far ⟨(w.heap.size + 1 + 1), 3, none⟩ (.bool k) (show (w.heap.size + 1 + 1) ≠ (w.heap.size + 1) by omega))
 have bJ : aj ((((w1.setCell ⟨(w.heap.size + 1 + 1), 0, none⟩ (.int .i64 r)).setCell ⟨(w.heap.size + 1 + 1), 1, none⟩ (.string b)).setCell ⟨(w.heap.size + 1 + 1), 2, none⟩ (.bool e)).setCell ⟨(w.heap.size + 1 + 1), 3, none⟩ (.bool k)) (w.heap.size + 1 + 1) 90 [.int .i64 r, .string b, .bool e, .bool k, .int .i64 0, .string ⟨#[]⟩, .bool false, .bool false, .int .i64 0, .int .i64 0] := ((((RZ.set 0 (.int .i64 r)).set 1 (.string b)).set 2 (.bool e)).set 3 (.bool k))
 have bD := ((((HB.setCell (p := ⟨(w.heap.size + 1 + 1), 0, none⟩) (show w.heap.size ≤ (w.heap.size + 1 + 1) by omega) (.int .i64 r)).setCell (p := ⟨(w.heap.size + 1 + 1), 1, none⟩) (show w.heap.size ≤ (w.heap.size + 1 + 1) by omega) (.string b)).setCell (p := ⟨(w.heap.size + 1 + 1), 2, none⟩) (show w.heap.size ≤ (w.heap.size + 1 + 1) by omega) (.bool e)).setCell (p := ⟨(w.heap.size + 1 + 1), 3, none⟩) (show w.heap.size ≤ (w.heap.size + 1 + 1) by omega) (.bool k))
 generalize hV : ((((w1.setCell ⟨(w.heap.size + 1 + 1), 0, none⟩ (.int .i64 r)).setCell ⟨(w.heap.size + 1 + 1), 1, none⟩ (.string b)).setCell ⟨(w.heap.size + 1 + 1), 2, none⟩ (.bool e)).setCell ⟨(w.heap.size + 1 + 1), 3, none⟩ (.bool k)) = V2 at *
 clear hV
 clear RX
 have RX := bX
 clear bX
 clear RY
 have RY := bY
 clear bY
 clear RZ
 have RZ := bJ
 clear bJ
 clear HB
 have HB := bD
 clear bD
 clear z0 z1 z2 z3 z4 z5 z6 z7 z8 z9 zf zl
 have x4 := ak 4 RX rfl
 have x5 := ak 5 RX rfl
 have x6 := ak 6 RX rfl
 have x7 := ak 7 RX rfl
 have xf := fun j => aj.frozen RX j
 have xl := RX.lt
 go_wp2_with fail
 clear x4 x5 x6 x7 xf xl
 refine (toP r2 b2 e2 k2 _).mono ?_; rintro x w3 ⟨rfl, hb⟩
 replace RX := RX.new hb
 replace RY := RY.new hb
 replace RZ := RZ.new hb
 replace HB := ah HB hb
 clear hb
 obtain ⟨z0, z1, z2, z3, z4, z5, z6, z7, z8, z9⟩ := fF RZ
 have zf := fun j => aj.frozen RZ j
 have zl := RZ.lt
 go_upto_region 4 with fail
 clear z0 z1 z2 z3 z4 z5 z6 z7 z8 z9 zf zl
 have bX : aj ((((w3.setCell ⟨(w.heap.size + 1 + 1), 4, none⟩ (.int .i64 r2)).setCell ⟨(w.heap.size + 1 + 1), 5, none⟩ (.string b2)).setCell ⟨(w.heap.size + 1 + 1), 6, none⟩ (.bool e2)).setCell ⟨(w.heap.size + 1 + 1), 7, none⟩ (.bool k2)) w.heap.size 83 [.int .i64 r, .string b, .bool e, .bool k, .int .i64 r2, .string b2, .bool e2, .bool k2, .int .i64 wt, .int .i64 cm] := ((((RX.far ⟨(w.heap.size + 1 + 1), 4, none⟩ (.int .i64 r2) (show (w.heap.size + 1 + 1) ≠ w.heap.size by omega)).far ⟨(w.heap.size + 1 + 1), 5, none⟩ (.string b2) (show (w.heap.size + 1 + 1) ≠ w.heap.size by omega)).far ⟨(w.heap.size + 1 + 1), 6, none⟩ (.bool e2) (show (w.heap.size + 1 + 1) ≠ w.heap.size by omega)).far ⟨(w.heap.size + 1 + 1), 7, none⟩ (.bool k2) (show (w.heap.size + 1 + 1) ≠ w.heap.size by omega))
 have bY : aj ((((w3.setCell ⟨(w.heap.size + 1 + 1), 4, none⟩ (.int .i64 r2)).setCell ⟨(w.heap.size + 1 + 1), 5, none⟩ (.string b2)).setCell ⟨(w.heap.size + 1 + 1), 6, none⟩ (.bool e2)).setCell ⟨(w.heap.size + 1 + 1), 7, none⟩ (.bool k2)) (w.heap.size + 1) 90 [.int .i64 0, .string ⟨#[]⟩, .bool false, .bool false, .int .i64 0, .string ⟨#[]⟩, .bool false, .bool false, .int .i64 0, .int .i64 0] := ((((RY.far ⟨(w.heap.size + 1 + 1), 4, none⟩ (.int .i64 r2) (show (w.heap.size + 1 + 1) ≠ (w.heap.size + 1) by omega)).far ⟨(w.heap.size + 1 + 1), 5, none⟩ (.string b2) (show (w.heap.size + 1 + 1) ≠ (w.heap.size + 1) by omega)).far ⟨(w.heap.size + 1 + 1), 6, none⟩ (.bool e2) (show (w.heap.size + 1 + 1) ≠ (w.heap.size + 1) by omega)).far ⟨(w.heap.size + 1 + 1), 7, none⟩ (.bool k2) (show (w.heap.size + 1 + 1) ≠ (w.heap.size + 1) by omega))
 have bJ : aj ((((w3.setCell ⟨(w.heap.size + 1 + 1), 4, none⟩ (.int .i64 r2)).setCell ⟨(w.heap.size + 1 + 1), 5, none⟩ (.string b2)).setCell ⟨(w.heap.size + 1 + 1), 6, none⟩ (.bool e2)).setCell ⟨(w.heap.size + 1 + 1), 7, none⟩ (.bool k2)) (w.heap.size + 1 + 1) 90 [.int .i64 r, .string b, .bool e, .bool k, .int .i64 r2, .string b2, .bool e2, .bool k2, .int .i64 0, .int .i64 0] := ((((RZ.set 4 (.int .i64 r2)).set 5 (.string b2)).set 6 (.bool e2)).set 7 (.bool k2))
 have bD := ((((HB.setCell (p := ⟨(w.heap.size + 1 + 1), 4, none⟩) (show w.heap.size ≤ (w.heap.size + 1 + 1) by omega) (.int .i64 r2)).setCell (p := ⟨(w.heap.size + 1 + 1), 5, none⟩) (show w.heap.size ≤ (w.heap.size + 1 + 1) by omega) (.string b2)).setCell (p := ⟨(w.heap.size + 1 + 1), 6, none⟩) (show w.heap.size ≤ (w.heap.size + 1 + 1) by omega) (.bool e2)).setCell (p := ⟨(w.heap.size + 1 + 1), 7, none⟩) (show w.heap.size ≤ (w.heap.size + 1 + 1) by omega) (.bool k2))
 generalize hV : ((((w3.setCell ⟨(w.heap.size + 1 + 1), 4, none⟩ (.int .i64 r2)).setCell ⟨(w.heap.size + 1 + 1), 5, none⟩ (.string b2)).setCell ⟨(w.heap.size + 1 + 1), 6, none⟩ (.bool e2)).setCell ⟨(w.heap.size + 1 + 1), 7, none⟩ (.bool k2)) = V4 at *
 clear hV
 clear RX
 have RX := bX
 clear bX
 clear RY
 have RY := bY
 clear bY
 clear RZ
 have RZ := bJ
 clear bJ
 clear HB
 have HB := bD
 clear bD
 have z8 := ak 8 RZ rfl
 have z9 := ak 9 RZ rfl
 have zf := fun j => aj.frozen RZ j
 have zl := RZ.lt
 have x8 := ak 8 RX rfl
 have x9 := ak 9 RX rfl
 have xf := fun j => aj.frozen RX j
 have xl := RX.lt
 go_upto_region 6 with fail
 clear z8 z9 zf zl
 clear x8 x9 xf xl
 have bX : aj ((V4.setCell ⟨(w.heap.size + 1 + 1), 8, none⟩ (.int .i64 wt)).setCell ⟨(w.heap.size + 1 + 1), 9, none⟩ (.int .i64 cm)) w.heap.size 83 [.int .i64 r, .string b, .bool e, .bool k, .int .i64 r2, .string b2, .bool e2, .bool k2, .int .i64 wt, .int .i64 cm] := ((RX.far ⟨(w.heap.size + 1 + 1), 8, none⟩ (.int .i64 wt) (show (w.heap.size + 1 + 1) ≠ w.heap.size by omega)).far ⟨(w.heap.size + 1 + 1), 9, none⟩ (.int .i64 cm) (show (w.heap.size + 1 + 1) ≠ w.heap.size by omega))
 have bY : aj ((V4.setCell ⟨(w.heap.size + 1 + 1), 8, none⟩ (.int .i64 wt)).setCell ⟨(w.heap.size + 1 + 1), 9, none⟩ (.int .i64 cm)) (w.heap.size + 1) 90 [.int .i64 0, .string ⟨#[]⟩, .bool false, .bool false, .int .i64 0, .string ⟨#[]⟩, .bool false, .bool false, .int .i64 0, .int .i64 0] := ((RY.far ⟨(w.heap.size + 1 + 1), 8, none⟩ (.int .i64 wt) (show (w.heap.size + 1 + 1) ≠ (w.heap.size + 1) by omega)).far ⟨(w.heap.size + 1 + 1), 9, none⟩ (.int .i64 cm) (show (w.heap.size + 1 + 1) ≠ (w.heap.size + 1) by omega))
 have bJ : aj ((V4.setCell ⟨(w.heap.size + 1 + 1), 8, none⟩ (.int .i64 wt)).setCell ⟨(w.heap.size + 1 + 1), 9, none⟩ (.int .i64 cm)) (w.heap.size + 1 + 1) 90 [.int .i64 r, .string b, .bool e, .bool k, .int .i64 r2, .string b2, .bool e2, .bool k2, .int .i64 wt, .int .i64 cm] := ((RZ.set 8 (.int .i64 wt)).set 9 (.int .i64 cm))
 have bD := ((HB.setCell (p := ⟨(w.heap.size + 1 + 1), 8, none⟩) (show w.heap.size ≤ (w.heap.size + 1 + 1) by omega) (.int .i64 wt)).setCell (p := ⟨(w.heap.size + 1 + 1), 9, none⟩) (show w.heap.size ≤ (w.heap.size + 1 + 1) by omega) (.int .i64 cm))
 generalize hV : ((V4.setCell ⟨(w.heap.size + 1 + 1), 8, none⟩ (.int .i64 wt)).setCell ⟨(w.heap.size + 1 + 1), 9, none⟩ (.int .i64 cm)) = V5 at *
 clear hV
 clear RX
 have RX := bX
 clear bX
 clear RY
 have RY := bY
 clear bY
 clear RZ
 have RZ := bJ
 clear bJ
 clear HB
 have HB := bD
 clear bD
 go_wp2_with (first | (refine wpList_load_row (by rfl) 90 _ (by rfl) (w.heap.size + 1 + 1) (by rfl) [.int .i64 r, .string b, .bool e, .bool k, .int .i64 r2, .string b2, .bool e2, .bool k2, .int .i64 wt, .int .i64 cm] _ 90 RZ Tryz.underlying90 rfl (by kernel_rfl) ?_) | (refine wpList_store_row (by rfl) 90 _ _ (by rfl) (w.heap.size + 1) [.int .i64 r, .string b, .bool e, .bool k, .int .i64 r2, .string b2, .bool e2, .bool k2, .int .i64 wt, .int .i64 cm] (by rfl) (by rfl) 90 [.int .i64 0, .string ⟨#[]⟩, .bool false, .bool false, .int .i64 0, .string ⟨#[]⟩, .bool false, .bool false, .int .i64 0, .int .i64 0] RY (by kernel_rfl) rfl (by intro u hu; simp at hu; rcases hu with rfl | rfl | rfl | rfl | rfl | rfl | rfl | rfl | rfl | rfl <;> rfl) ?_))
 have bX := RX.kept (setRow_other V5 (w.heap.size + 1) #[.int .i64 r, .string b, .bool e, .bool k, .int .i64 r2, .string b2, .bool e2, .bool k2, .int .i64 wt, .int .i64 cm] w.heap.size (by omega))
 have bY : aj (V5.setRow (w.heap.size + 1) #[.int .i64 r, .string b, .bool e, .bool k, .int .i64 r2, .string b2, .bool e2, .bool k2, .int .i64 wt, .int .i64 cm]) (w.heap.size + 1) 90 [.int .i64 r, .string b, .bool e, .bool k, .int .i64 r2, .string b2, .bool e2, .bool k2, .int .i64 wt, .int .i64 cm] := dW (cs' := [.int .i64 r, .string b, .bool e, .bool k, .int .i64 r2, .string b2, .bool e2, .bool k2, .int .i64 wt, .int .i64 cm]) RY
 have bJ := RZ.kept (setRow_other V5 (w.heap.size + 1) #[.int .i64 r, .string b, .bool e, .bool k, .int .i64 r2, .string b2, .bool e2, .bool k2, .int .i64 wt, .int .i64 cm] (w.heap.size + 1 + 1) (by omega))
 have bD := below_setRow HB (show w.heap.size ≤ (w.heap.size + 1) by omega) #[.int .i64 r, .string b, .bool e, .bool k, .int .i64 r2, .string b2, .bool e2, .bool k2, .int .i64 wt, .int .i64 cm]
 generalize hV : V5.setRow (w.heap.size + 1) #[.int .i64 r, .string b, .bool e, .bool k, .int .i64 r2, .string b2, .bool e2, .bool k2, .int .i64 wt, .int .i64 cm] = V6 at *
 clear hV
 clear RX
 have RX := bX
 clear bX
 clear RY
 have RY := bY
 clear bY
 clear RZ
 have RZ := bJ
 clear bJ
 clear HB
 have HB := bD
 clear bD
 obtain ⟨y0, y1, y2, y3, y4, y5, y6, y7, y8, y9⟩ := fF RY
 have yf := fun j => aj.frozen RY j
 have yl := RY.lt
 refine bodyPost_ret (v := .agg #[.int .i64 r, .string b, .bool e, .bool k, .int .i64 r2, .string b2, .bool e2, .bool k2, .int .i64 wt, .int .i64 cm]) (by simp [results, Tryz.results88, go_sem, *]) rfl ?_
 exact ⟨rfl, HB⟩
set_option maxHeartbeats 1000000 in
theorem TP (t : jh) (w : World) : Calls Tryz.prog 108 #[kI t, kI t] w fun x w' => x = .returned (.bool true) ∧ Below w.heap.size w w' := by
 obtain ⟨⟨r, b, e, k⟩, ⟨r2, b2, e2, k2⟩, wt, cm⟩ := t
 dsimp only [kI] at *
 obtain ⟨W, hW⟩ : ∃ W, (w.alloc (.cells #[.int .i64 r, .string b, .bool e, .bool k, .int .i64 r2, .string b2, .bool e2, .bool k2, .int .i64 wt, .int .i64 cm] 90)).alloc (.cells #[.int .i64 r, .string b, .bool e, .bool k, .int .i64 r2, .string b2, .bool e2, .bool k2, .int .i64 wt, .int .i64 cm] 90) = W := ⟨_, rfl⟩
 have RX : aj W w.heap.size 90 [.int .i64 r, .string b, .bool e, .bool k, .int .i64 r2, .string b2, .bool e2, .bool k2, .int .i64 wt, .int .i64 cm] := by rw [← hW]; exact (aB w 90 [.int .i64 r, .string b, .bool e, .bool k, .int .i64 r2, .string b2, .bool e2, .bool k2, .int .i64 wt, .int .i64 cm]).alloc _
 have RY : aj W (w.heap.size + 1) 90 [.int .i64 r, .string b, .bool e, .bool k, .int .i64 r2, .string b2, .bool e2, .bool k2, .int .i64 wt, .int .i64 cm] := by have := aB (w.alloc (.cells #[.int .i64 r, .string b, .bool e, .bool k, .int .i64 r2, .string b2, .bool e2, .bool k2, .int .i64 wt, .int .i64 cm] 90)) 90 [.int .i64 r, .string b, .bool e, .bool k, .int .i64 r2, .string b2, .bool e2, .bool k2, .int .i64 wt, .int .i64 cm]; rw [hW] at this; simpa using this
 have HB : Below w.heap.size w W := by rw [← hW]; exact (((Below.refl _ _).alloc (Nat.le_refl _) _).alloc (by simp) _)
 have hw0 : (wt != wt) = false := by simp
 have hc0 : (cm != cm) = false := by simp
 go_enter Tryz.func108, Tryz.ntmps108
 obtain ⟨x0, x1, x2, x3, x4, x5, x6, x7, x8, x9⟩ := fF RX
 have xf := fun j => aj.frozen RX j
 have xl := RX.lt
 obtain ⟨y0, y1, y2, y3, y4, y5, y6, y7, y8, y9⟩ := fF RY
 have yf := fun j => aj.frozen RY j
 have yl := RY.lt
 go_wp2_with fail
 clear x0 x1 x2 x3 x4 x5 x6 x7 x8 x9 xf xl
 clear y0 y1 y2 y3 y4 y5 y6 y7 y8 y9 yf yl
 clear hW
 refine (Nf r b e k _).mono ?_; rintro x w1 ⟨rfl, hb⟩
 replace RX := RX.new hb
 replace RY := RY.new hb
 replace HB := ah HB hb
 clear hb
 obtain ⟨x0, x1, x2, x3, x4, x5, x6, x7, x8, x9⟩ := fF RX
 have xf := fun j => aj.frozen RX j
 have xl := RX.lt
 obtain ⟨y0, y1, y2, y3, y4, y5, y6, y7, y8, y9⟩ := fF RY
 have yf := fun j => aj.frozen RY j
 have yl := RY.lt
 go_wp2_with fail
 clear x0 x1 x2 x3 x4 x5 x6 x7 x8 x9 xf xl
 clear y0 y1 y2 y3 y4 y5 y6 y7 y8 y9 yf yl
 refine (Nf r2 b2 e2 k2 _).mono ?_; rintro x w2 ⟨rfl, hb⟩
 replace RX := RX.new hb
 replace RY := RY.new hb
 replace HB := ah HB hb
 clear hb
 obtain ⟨x0, x1, x2, x3, x4, x5, x6, x7, x8, x9⟩ := fF RX
 have xf := fun j => aj.frozen RX j
 have xl := RX.lt
 obtain ⟨y0, y1, y2, y3, y4, y5, y6, y7, y8, y9⟩ := fF RY
 have yf := fun j => aj.frozen RY j
 have yl := RY.lt
 go_wp2_with fail
 go_ret
 exact ⟨rfl, HB⟩
theorem WK (L : List Fd) (room : Int) (v : Value) (left : Int) (w : World) (hr0 : Reads w v L.length 2 (fv L)) (hf : ∀ f ∈ L, f.fine) (h0 : 0 ≤ left) (h1 : left ≤ 1048576) :
  Calls Tryz.prog 15 #[.agg #[.int .i64 room, v], .int .i64 left] w fun x w' => x = .returned (.int .i64 (if left - L.length - eB L < 0 then -1 else left - L.length - eB L)) ∧ Below w.heap.size w w' := by
 obtain ⟨ad, cap, rfl, _⟩ := hr0.2
 have HR := hide hr0
 clear hr0
 obtain ⟨R, hR⟩ : ∃ R : Int, R = if left - L.length - eB L < 0 then -1 else left - L.length - eB L := ⟨_, rfl⟩
 rw [← hR]
 go_enter Tryz.func15, Tryz.ntmps15
 have HRR := hide hR
 clear hR
 go_wp2_with fail
 refine (MN L _ left _ (HR.out.new ((Below.refl _ _).alloc (Nat.le_refl _) _)) hf h0 h1).mono ?_; rw [← HRR.out]; rintro x w1 ⟨rfl, hb1⟩
 have hz := HRR.out
 by_cases h : left - L.length - eB L < 0
 ·rw [if_pos h] at hz
  subst hz
  go_wp2_with fail
  go_ret
  exact ⟨rfl, (by repeat' (first | (with_reducible exact Below.refl _ _) | (with_reducible refine Below.drew ?_) | (with_reducible refine ay _ ?_) | (with_reducible refine aA ?_ _) | (refine ah ?_ (by with_reducible assumption)) | (with_reducible refine Below.setCell ?_ ?_ _) | go_size))⟩
 ·rw [if_neg h] at hz
  have hz0 : ¬ R < 0 := by omega
  clear hz
  go_wp2_with fail
  go_ret
  exact ⟨rfl, (by repeat' (first | (with_reducible exact Below.refl _ _) | (with_reducible refine Below.drew ?_) | (with_reducible refine ay _ ?_) | (with_reducible refine aA ?_ _) | (refine ah ?_ (by with_reducible assumption)) | (with_reducible refine Below.setCell ?_ ?_ _) | go_size))⟩
theorem WL (L : List Fd) (room : Int) (v : Value) (w : World) (hr0 : Reads w v L.length 2 (fv L)) (hL : L.length ≤ 1048576) :
  Calls Tryz.prog 21 #[.agg #[.int .i64 room, v]] w fun x w' => ∃ v', x = .returned (.agg #[.int .i64 room, v']) ∧ w'.ownsRow w.heap.size 104 2 v' L.length (fv L) ∧ Below w.heap.size w w' := by
 obtain ⟨ad, cap, rfl, _⟩ := hr0.2
 have HR := hide hr0
 clear hr0
 go_enter Tryz.func21, Tryz.ntmps21
 go_wp2_with fail
 refine (MO L _ _ ?c1 hL).mono ?_
 case c1 => exact HR.out.new (by repeat' (first | (with_reducible exact Below.refl _ _) | (with_reducible refine Below.drew ?_) | (with_reducible refine ay _ ?_) | (with_reducible refine aA ?_ _) | (refine ah ?_ (by with_reducible assumption)) | (with_reducible refine Below.setCell ?_ ?_ _) | go_size))
 rintro x w1 ⟨v1, rfl, ho, hb1⟩; have hz1 := hb1.size; (try simp at hz1); have hc1 := fun o => hb1.cell (p := ⟨w.heap.size, o, none⟩) (by first | (simp; done) | (simp; omega) | omega); have hf1 := fun o => hb1.frozen (p := ⟨w.heap.size, o, none⟩) (by first | (simp; done) | (simp; omega) | omega); have uw := fun o => hb1.cell (p := ⟨w.heap.size + 1, o, none⟩) (by first | (simp; done) | (simp; omega) | omega); have uy := fun o => hb1.frozen (p := ⟨w.heap.size + 1, o, none⟩) (by first | (simp; done) | (simp; omega) | omega); have hcm1 := fun o => hb1.cell (p := ⟨w.heap.size + 2, o, none⟩) (by first | (simp; done) | (simp; omega) | omega); have UF := fun o => hb1.frozen (p := ⟨w.heap.size + 2, o, none⟩) (by first | (simp; done) | (simp; omega) | omega)
 have hbw : Below w.heap.size w w1 := (by repeat' (first | (with_reducible exact Below.refl _ _) | (with_reducible refine Below.drew ?_) | (with_reducible refine ay _ ?_) | (with_reducible refine aA ?_ _) | (refine ah ?_ (by with_reducible assumption)) | (with_reducible refine Below.setCell ?_ ?_ _) | go_size))
 obtain ⟨dN, dO, rfl, _⟩ := bW ho
 have hc2 : ∀ k, (Value.slice dN L.length dO).ownBlock = some k → w.heap.size + 3 ≤ k ∧ k < w1.heap.size := fun k hk => by have := ho.lt k hk; simpa using this
 have HO := hide ho
 clear ho
 have HC := hide hc2
 clear hc2
 go_wp2_with fail
 refine bodyPost_ret (v := .agg #[.int .i64 room, .slice dN L.length dO]) (by simp [results, Tryz.results21, go_sem, *]) rfl ?_
 have ho : w1.ownsRow w.heap.size 104 2 (.slice dN L.length dO) L.length (fv L) := eG HO.out fun k hk => by have := HC.out k hk; omega
 have hv : ∀ k, (Value.slice dN L.length dO).ownBlock = some k → w.heap.size + 3 ≤ k := fun k hk => (HC.out k hk).1
 exact ⟨_, rfl, (by repeat' (first | (with_reducible exact ho) | (with_reducible refine iq _ ?_ hv _ _ ?_) | (with_reducible refine World.ownsRow.alloc ?_ _) | (simp; done) | (simp; omega))), (by repeat' (first | (with_reducible exact Below.refl _ _) | (with_reducible refine Below.drew ?_) | (with_reducible refine ay _ ?_) | (with_reducible refine aA ?_ _) | (refine ah ?_ (by with_reducible assumption)) | (with_reducible refine Below.setCell ?_ ?_ _) | go_size))⟩
theorem Ns (L : List Fd) (room : Int) (v v' : Value) (w : World) (hr0 : Reads w v L.length 2 (fv L)) (hr1 : Reads w v' L.length 2 (fv L)) :
  Calls Tryz.prog 28 #[.agg #[.int .i64 room, v], .agg #[.int .i64 room, v']] w fun x w' => x = .returned (.bool true) ∧ Below w.heap.size w w' := by
 obtain ⟨ad, cap, rfl, _⟩ := hr0.2
 obtain ⟨oJ, cap', rfl, _⟩ := hr1.2
 have HR := hide hr0; have HR' := hide hr1
 clear hr0 hr1
 go_enter Tryz.func28, Tryz.ntmps28
 go_wp2_with fail
 refine (eqFields L _ _ _ ?c1 ?c2).mono ?_
 case c1 => exact HR.out.new (by repeat' (first | (with_reducible exact Below.refl _ _) | (with_reducible refine Below.drew ?_) | (with_reducible refine ay _ ?_) | (with_reducible refine aA ?_ _) | (refine ah ?_ (by with_reducible assumption)) | (with_reducible refine Below.setCell ?_ ?_ _) | go_size))
 case c2 => exact HR'.out.new (by repeat' (first | (with_reducible exact Below.refl _ _) | (with_reducible refine Below.drew ?_) | (with_reducible refine ay _ ?_) | (with_reducible refine aA ?_ _) | (refine ah ?_ (by with_reducible assumption)) | (with_reducible refine Below.setCell ?_ ?_ _) | go_size))
 rintro x w1 ⟨rfl, hb1⟩
 go_wp2_with fail
 go_ret
 exact ⟨rfl, (by repeat' (first | (with_reducible exact Below.refl _ _) | (with_reducible refine Below.drew ?_) | (with_reducible refine ay _ ?_) | (with_reducible refine aA ?_ _) | (refine ah ?_ (by with_reducible assumption)) | (with_reducible refine Below.setCell ?_ ?_ _) | go_size))⟩
theorem WM (n k : Nat) (room : Int) (v : Value) (w : World) (hr0 : Reads w v n 2 (mkT k (n * 2))) (hk1 : k + n * 2 ≤ 1000000000) :
  Calls Tryz.prog 36 #[.agg #[.int .i64 room, v], .int .i64 k] w fun x w' => x = .returned (.int .i64 ((k + n * 2 : Nat) : Int)) ∧ Below w.heap.size w w' := by
 obtain ⟨ad, cap, rfl, _⟩ := hr0.2
 have HR := hide hr0
 clear hr0
 obtain ⟨K, hK⟩ : ∃ K : Nat, K = k + n * 2 := ⟨_, rfl⟩
 rw [← hK]
 have HK := hide hK
 clear hK
 go_enter Tryz.func36, Tryz.ntmps36
 go_wp2_with fail
 refine (MQ n k _ _ ?c1 hk1).mono ?_
 case c1 => exact HR.out.new (by repeat' (first | (with_reducible exact Below.refl _ _) | (with_reducible refine Below.drew ?_) | (with_reducible refine ay _ ?_) | (with_reducible refine aA ?_ _) | (refine ah ?_ (by with_reducible assumption)) | (with_reducible refine Below.setCell ?_ ?_ _) | go_size))
 rw [← HK.out]
 rintro x w1 ⟨rfl, hb1⟩
 go_wp2_with fail
 go_ret
 exact ⟨rfl, (by repeat' (first | (with_reducible exact Below.refl _ _) | (with_reducible refine Below.drew ?_) | (with_reducible refine ay _ ?_) | (with_reducible refine aA ?_ _) | (refine ah ?_ (by with_reducible assumption)) | (with_reducible refine Below.setCell ?_ ?_ _) | go_size))⟩
theorem WO (n k : Nat) (room : Int) (v : Value) (xs : List Value) (lo : Nat) (w : World) (ho : w.ownsRow lo 104 2 v n xs) (hk1 : k + n * 2 ≤ 1000000000) :
  Calls Tryz.prog 32 #[.agg #[.int .i64 room, v], .int .i64 k] w fun x w' => x = .returned (.int .i64 ((k + n * 2 : Nat) : Int)) ∧ w'.ownsRow lo 104 2 v n (mkT k (n * 2)) ∧ w.grownBy w' v.ownBlock := by
 obtain ⟨ad, cap, rfl, h1, h2⟩ := bW ho
 have HO := hide ho
 clear ho
 obtain ⟨K, hK⟩ : ∃ K : Nat, K = k + n * 2 := ⟨_, rfl⟩
 rw [← hK]
 have HK := hide hK
 clear hK
 go_enter Tryz.func32, Tryz.ntmps32
 go_wp2_with fail
 refine (MR n k _ _ lo _ (HO.out.alloc _) hk1).mono ?_
 rw [← HK.out]
 rintro x w1 ⟨rfl, ho1, hg1⟩
 have wH := hide ho1
 have HG := hide (DF (DI ((Below.refl w.heap.size w).alloc (Nat.le_refl _) _) _) hg1)
 clear ho1 hg1
 go_wp2_with fail
 go_ret
 exact ⟨rfl, wH.out, HG.out⟩
def Fr.cs (f : Fr) : List Value := [.int .i64 f.k, .int .i64 f.fl, .int .i64 f.st, .string f.b]
def Fr.fine (f : Fr) : Prop := f.b.size ≤ 9223372036854775807
def fr (L : List Fr) : List Value := L.flatMap Fr.cs
theorem DY (s : Fr) : s.cs.length = 4 := rfl
theorem WQ (L : List Fr) (k : Nat) (h : k < L.length) : (fr L)[k * 4]? = some (.int .i64 L[k].k) ∧ (fr L)[k * 4 + 1]? = some (.int .i64 L[k].fl) ∧ (fr L)[k * 4 + 2]? = some (.int .i64 L[k].st) ∧ (fr L)[k * 4 + 3]? = some (.string L[k].b) :=
 ⟨flat_get Fr.cs 4 DY L k h 0 (by decide), flat_get Fr.cs 4 DY L k h 1 (by decide), flat_get Fr.cs 4 DY L k h 2 (by decide), flat_get Fr.cs 4 DY L k h 3 (by decide)⟩
theorem WR (L : List Fr) : ∀ u ∈ fr L, u.oneCell' = true := by
 intro u hu
 obtain ⟨f, _, hf⟩ := List.mem_flatMap.1 hu
 simp only [Fr.cs, List.mem_cons, List.not_mem_nil, or_false] at hf
 rcases hf with rfl | rfl | rfl | rfl <;> rfl
theorem WS (A B : List Fr) : fr (A ++ B) = fr A ++ fr B := by simp [fr]
theorem WT (f : Fr) (w : World) : Calls Tryz.prog 30 #[.agg #[.int .i64 (f).k, .int .i64 (f).fl, .int .i64 (f).st, .string (f).b], .agg #[.int .i64 (f).k, .int .i64 (f).fl, .int .i64 (f).st, .string (f).b]] w fun x w' => x = .returned (.bool true) ∧ Below w.heap.size w w' := by
 go_enter Tryz.func30, Tryz.ntmps30
 go_wp2
 go_ret
 exact ⟨rfl, (by repeat' (first | (with_reducible exact Below.refl _ _) | (with_reducible refine Below.drew ?_) | (with_reducible refine ay _ ?_) | (with_reducible refine aA ?_ _) | (refine ah ?_ (by with_reducible assumption)) | (with_reducible refine Below.setCell ?_ ?_ _) | go_size))⟩
set_option maxHeartbeats 1000000 in
theorem Fx (L : List Fr) (v v' : Value) (w : World) (hr0 : Reads w v L.length 4 (fr L)) (hr1 : Reads w v' L.length 4 (fr L)) :
  Calls Tryz.prog 9 #[v, v'] w fun x w' => x = .returned (.bool true) ∧ Below w.heap.size w w' := by
 obtain ⟨hl, ad, cap, rfl, h1, h2, h3⟩ := hr0
 obtain ⟨hl', oJ, cap', rfl, h1', h2', h3'⟩ := hr1
 have H3 := hide h3
 have GI := hide h3'
 clear h3 h3'
 unfold maxLen at h2 h2'
 go_enter Tryz.func9, Tryz.ntmps9
 go_wp2_with fail
 go_loopw [5] (fun i wr => ∃ (k : Nat), i = .int .i64 k ∧ k ≤ L.length ∧ Below w.heap.size w wr) (fun i _ => L.length - (intOf i).toNat)
 case atStart => exact ⟨0, rfl, Nat.zero_le _, Below.refl _ _⟩
 case round =>
  obtain ⟨k, rfl, hk, hb⟩ := hrel
  by_cases hlt : k < L.length
  ·obtain ⟨b, o, rfl, hbw, hc⟩ := H3.out (by omega)
   obtain ⟨b', o', rfl, oO, hc'⟩ := GI.out (by omega)
   obtain ⟨s0, s1, s2, s3⟩ := WQ L k hlt
   have c0 : wr.cell? ⟨b, o + k * 4, none⟩ = some (.int .i64 L[k].k) := by rw [hb.cell (p := ⟨b, o + k * 4, none⟩) hbw]; exact hc _ _ s0
   have c1 : wr.cell? ⟨b, o + k * 4 + 1, none⟩ = some (.int .i64 L[k].fl) := by rw [hb.cell (p := ⟨b, o + k * 4 + 1, none⟩) hbw]; exact hc _ _ s1
   have c2 : wr.cell? ⟨b, o + k * 4 + 2, none⟩ = some (.int .i64 L[k].st) := by rw [hb.cell (p := ⟨b, o + k * 4 + 2, none⟩) hbw]; exact hc _ _ s2
   have c3 : wr.cell? ⟨b, o + k * 4 + 3, none⟩ = some (.string L[k].b) := by rw [hb.cell (p := ⟨b, o + k * 4 + 3, none⟩) hbw]; exact hc _ _ s3
   have d0 : wr.cell? ⟨b', o' + k * 4, none⟩ = some (.int .i64 L[k].k) := by rw [hb.cell (p := ⟨b', o' + k * 4, none⟩) oO]; exact hc' _ _ s0
   have d1 : wr.cell? ⟨b', o' + k * 4 + 1, none⟩ = some (.int .i64 L[k].fl) := by rw [hb.cell (p := ⟨b', o' + k * 4 + 1, none⟩) oO]; exact hc' _ _ s1
   have d2 : wr.cell? ⟨b', o' + k * 4 + 2, none⟩ = some (.int .i64 L[k].st) := by rw [hb.cell (p := ⟨b', o' + k * 4 + 2, none⟩) oO]; exact hc' _ _ s2
   have d3 : wr.cell? ⟨b', o' + k * 4 + 3, none⟩ = some (.string L[k].b) := by rw [hb.cell (p := ⟨b', o' + k * 4 + 3, none⟩) oO]; exact hc' _ _ s3
   have hsb := hb.size
   have hb1 : b < wr.heap.size := by omega
   have hb2 : b' < wr.heap.size := by omega
   clear hc hc' s0 s1 s2 s3
   go_wp2_with fail
   have q0 : ∀ y : Later wr, y.w.cell? ⟨b, o + k * 4, none⟩ = some (.int .i64 L[k].k) := fun y => (y.b.cell (p := ⟨b, o + k * 4, none⟩) hb1).trans c0
   have q1 : ∀ y : Later wr, y.w.cell? ⟨b, o + k * 4 + 1, none⟩ = some (.int .i64 L[k].fl) := fun y => (y.b.cell (p := ⟨b, o + k * 4 + 1, none⟩) hb1).trans c1
   have q2 : ∀ y : Later wr, y.w.cell? ⟨b, o + k * 4 + 2, none⟩ = some (.int .i64 L[k].st) := fun y => (y.b.cell (p := ⟨b, o + k * 4 + 2, none⟩) hb1).trans c2
   have q3 : ∀ y : Later wr, y.w.cell? ⟨b, o + k * 4 + 3, none⟩ = some (.string L[k].b) := fun y => (y.b.cell (p := ⟨b, o + k * 4 + 3, none⟩) hb1).trans c3
   have r0 : ∀ y : Later wr, y.w.cell? ⟨b', o' + k * 4, none⟩ = some (.int .i64 L[k].k) := fun y => (y.b.cell (p := ⟨b', o' + k * 4, none⟩) hb2).trans d0
   have r1 : ∀ y : Later wr, y.w.cell? ⟨b', o' + k * 4 + 1, none⟩ = some (.int .i64 L[k].fl) := fun y => (y.b.cell (p := ⟨b', o' + k * 4 + 1, none⟩) hb2).trans d1
   have r2 : ∀ y : Later wr, y.w.cell? ⟨b', o' + k * 4 + 2, none⟩ = some (.int .i64 L[k].st) := fun y => (y.b.cell (p := ⟨b', o' + k * 4 + 2, none⟩) hb2).trans d2
   have r3 : ∀ y : Later wr, y.w.cell? ⟨b', o' + k * 4 + 3, none⟩ = some (.string L[k].b) := fun y => (y.b.cell (p := ⟨b', o' + k * 4 + 3, none⟩) hb2).trans d3
   clear c0 c1 c2 c3 d0 d1 d2 d3
   have hne : Nonempty (Later wr) := ⟨⟨wr, Below.refl _ _⟩⟩; refine eH (by kernel_rfl) (by kernel_rfl) ?_
   repeat (go_big_quiet_step (fail))
   go_big_quiet_want; go_big_quiet_op; refine ⟨.bool true, fun y => gW (x := y) (WT L[k] y.w), ?_⟩; go_big_quiet_on
   repeat (go_big_quiet_step (fail))
   refine wpQuiet_nil ?_; intro _ hw'; obtain ⟨y, hw''⟩ := hw'; subst hw''; have hby := y.b
   go_wp2_with fail
   go_roundw
   case rel => exact ⟨k + 1, by go_num, by omega, ah hb hby⟩
   case measure => simp [intOf]; omega
  ·go_wp2_with fail
   go_ret
   exact ⟨rfl, hb⟩
def DZ (k j : Nat) : List Value := [.int .i64 ((k + j * 4 : Nat) : Int), .int .i64 (((k + j * 4 : Nat) : Int) + 1), .int .i64 (((k + j * 4 : Nat) : Int) + 2), .string (bg (k + j * 4 + 3))]
theorem Nt (k j : Nat) : (DZ k j).length = 4 := rfl
def qG (k n : Nat) : List Value := (List.range n).flatMap (DZ k)
theorem WU (k n : Nat) : (qG k n).length = n * 4 := by have := DC (DZ k) 4 (Nt k) (List.range n); simpa [qG] using this
theorem Nu (k n j : Nat) (h : j < n) : (qG k n)[j * 4]? = some (.int .i64 ((k + j * 4 : Nat) : Int)) ∧ (qG k n)[j * 4 + 1]? = some (.int .i64 (((k + j * 4 : Nat) : Int) + 1)) ∧ (qG k n)[j * 4 + 2]? = some (.int .i64 (((k + j * 4 : Nat) : Int) + 2)) ∧ (qG k n)[j * 4 + 3]? = some (.string (bg (k + j * 4 + 3))) := by
 have hg := flat_get (DZ k) 4 (Nt k) (List.range n) j (by simpa using h)
 have h0 := hg 0 (by decide)
 have h1 := hg 1 (by decide)
 have h2 := hg 2 (by decide)
 have h3 := hg 3 (by decide)
 rw [List.getElem_range] at h0 h1 h2 h3
 exact ⟨h0, h1, h2, h3⟩
set_option maxHeartbeats 1000000 in
theorem Ky (n k : Nat) (v : Value) (w : World) (hr0 : Reads w v n 4 (qG k n)) (hk1 : k + n * 4 ≤ 1000000000) :
  Calls Tryz.prog 13 #[v, .int .i64 k] w fun x w' => x = .returned (.int .i64 ((k + n * 4 : Nat) : Int)) ∧ Below w.heap.size w w' := by
 obtain ⟨hl, ad, cap, rfl, h1, h2, h3⟩ := hr0
 have H3 := hide h3
 clear h3
 unfold maxLen at h2
 go_enter Tryz.func13, Tryz.ntmps13
 go_wp2_with fail
 go_loopw [1, 5] (fun kk i wr => ∃ (j : Nat), i = .int .i64 j ∧ kk = .int .i64 ((k + j * 4 : Nat) : Int) ∧ j ≤ n ∧ Below w.heap.size w wr) (fun _ i _ => n - (intOf i).toNat)
 case atStart => exact ⟨0, rfl, by simp, Nat.zero_le _, Below.refl _ _⟩
 case round =>
  obtain ⟨j, rfl, rfl, hj, hb⟩ := hrel
  by_cases hlt : j < n
  ·obtain ⟨b, o, rfl, hbw, hc⟩ := H3.out (by omega)
   obtain ⟨s0, s1, s2, s3⟩ := Nu k n j hlt
   obtain ⟨K, hK⟩ : ∃ K : Nat, K = k + j * 4 := ⟨_, rfl⟩
   rw [← hK] at s0 s1 s2 s3
   have c0 : wr.cell? ⟨b, o + j * 4, none⟩ = some (.int .i64 (K : Int)) := by rw [hb.cell (p := ⟨b, o + j * 4, none⟩) hbw]; exact hc _ _ s0
   have c1 : wr.cell? ⟨b, o + j * 4 + 1, none⟩ = some (.int .i64 ((K : Int) + 1)) := by rw [hb.cell (p := ⟨b, o + j * 4 + 1, none⟩) hbw]; exact hc _ _ s1
   have c2 : wr.cell? ⟨b, o + j * 4 + 2, none⟩ = some (.int .i64 ((K : Int) + 2)) := by rw [hb.cell (p := ⟨b, o + j * 4 + 2, none⟩) hbw]; exact hc _ _ s2
   have c3 : wr.cell? ⟨b, o + j * 4 + 3, none⟩ = some (.string (bg (K + 3))) := by rw [hb.cell (p := ⟨b, o + j * 4 + 3, none⟩) hbw]; exact hc _ _ s3
   have hsb := hb.size
   have hb1 : b < wr.heap.size := by omega
   clear hc s0 s1 s2 s3
   have hkb : K + 3 ≤ 1000000000 := by omega
   rw [← hK]
   have HK := hide hK
   clear hK
   go_wp2_with fail
   have q0 : ∀ y : Later wr, y.w.cell? ⟨b, o + j * 4 + 3, none⟩ = some (.string (bg (K + 3))) := fun y => (y.b.cell (p := ⟨b, o + j * 4 + 3, none⟩) hb1).trans c3
   have hne : Nonempty (Later wr) := ⟨⟨wr, Below.refl _ _⟩⟩; refine eH (by kernel_rfl) (by kernel_rfl) ?_
   repeat (go_big_quiet_step (fail))
   go_big_quiet_want; go_big_quiet_op; refine ⟨.string (bg (K + 3)), fun y => gW (x := y) ((fun u => qA (K + 3) u (by omega)) y.w), ?_⟩; go_big_quiet_on
   repeat (go_big_quiet_step (fail))
   refine wpQuiet_nil ?_; intro _ hw'; obtain ⟨y, hw''⟩ := hw'; subst hw''; have hby := y.b
   go_wp2_with fail
   go_roundw
   case rel => exact ⟨j + 1, by go_num, int_eq (by have := HK.out; omega), by omega, ah hb hby⟩
   case measure => simp [intOf]; omega
  ·obtain rfl : j = n := by omega
   go_wp2_with fail
   go_ret
   exact ⟨rfl, hb⟩
set_option maxHeartbeats 1000000 in
theorem Rt (n k : Nat) (v : Value) (xs : List Value) (lo : Nat) (w : World) (ho : w.ownsRow lo 72 4 v n xs) (hk1 : k + n * 4 ≤ 1000000000) :
  Calls Tryz.prog 11 #[v, .int .i64 k] w fun x w' => x = .returned (.int .i64 ((k + n * 4 : Nat) : Int)) ∧ w'.ownsRow lo 72 4 v n (qG k n) ∧ w.grownBy w' v.ownBlock := by
 obtain ⟨ad, cap, rfl, h1, h2⟩ := bW ho
 unfold maxLen at h2
 have HO := hide ho
 clear ho
 go_enter Tryz.func11, Tryz.ntmps11
 go_wp2_with fail
 go_loopw [1, 5] (fun kk i wr => ∃ (j : Nat) (ys : List Value), i = .int .i64 j ∧ kk = .int .i64 ((k + j * 4 : Nat) : Int) ∧ j ≤ n ∧ wr.ownsRow lo 72 4 (.slice ad n cap) n ys ∧ (∀ t, t < j * 4 → ys[t]? = (qG k n)[t]?) ∧ w.grownBy wr (Value.slice ad n cap).ownBlock) (fun _ i _ => n - (intOf i).toNat)
 case atStart => exact ⟨0, _, rfl, by simp, Nat.zero_le _, HO.out, fun t ht => absurd ht (by omega), GJ _ _⟩
 case round =>
  obtain ⟨j, ys, rfl, rfl, hj, hown, hy, ht⟩ := hrel
  by_cases hlt : j < n
  ·obtain ⟨s0, s1, s2, s3⟩ := Nu k n j hlt
   obtain ⟨K, hK⟩ : ∃ K : Nat, K = k + j * 4 := ⟨_, rfl⟩
   rw [← hK] at s0 s1 s2 s3 ⊢
   have hkb : K + 3 ≤ 1000000000 := by omega
   have HK := hide hK
   obtain ⟨g, cap', e1, e2, e3, e4, _, _, e5, e6⟩ := qx hown (by omega)
   simp only [Value.slice.injEq] at e1
   obtain ⟨rfl, _, rfl⟩ := e1
   have hl1 := hown.1
   obtain ⟨u0, hu0⟩ : ∃ u, wr.cell? ⟨g, j * 4, none⟩ = some u := ⟨_, e5 _ _ (List.getElem?_eq_getElem (by omega))⟩
   obtain ⟨u1, hu1⟩ : ∃ u, wr.cell? ⟨g, j * 4 + 1, none⟩ = some u := ⟨_, e5 _ _ (List.getElem?_eq_getElem (by omega))⟩
   obtain ⟨u2, hu2⟩ : ∃ u, wr.cell? ⟨g, j * 4 + 2, none⟩ = some u := ⟨_, e5 _ _ (List.getElem?_eq_getElem (by omega))⟩
   obtain ⟨W, hW⟩ : ∃ W, ((wr.setCell ⟨g, j * 4, none⟩ (.int .i64 (K : Int))).setCell ⟨g, j * 4 + 1, none⟩ (.int .i64 ((K : Int) + 1))).setCell ⟨g, j * 4 + 2, none⟩ (.int .i64 ((K : Int) + 1 + 1)) = W := ⟨_, rfl⟩
   have su := hide (mI (g := g) (mI (g := g) (mI (g := g) hown rfl (j * 4) (.int .i64 (K : Int))) rfl (j * 4 + 1) (.int .i64 ((K : Int) + 1))) rfl (j * 4 + 2) (.int .i64 ((K : Int) + 1 + 1)))
   have WV := hide (uE (j * 4 + 3) (uE (j * 4 + 2) (uE (j * 4 + 1) hy s0 (by omega) rfl) s1 (by simp; omega) rfl) s2 (by simp; omega) (by omega))
   have ht2 : Hid (w.grownBy (((wr.setCell ⟨g, j * 4, none⟩ (.int .i64 (K : Int))).setCell ⟨g, j * 4 + 1, none⟩ (.int .i64 ((K : Int) + 1))).setCell ⟨g, j * 4 + 2, none⟩ (.int .i64 ((K : Int) + 1 + 1))) (Value.slice (some ⟨g, 0, none⟩) n cap).ownBlock) := by
    show World.grownBy _ _ _
    refine yB ?_ _ _ (by rfl); refine yB ?_ _ _ (by rfl); refine yB ?_ _ _ (by rfl); exact ht
   have S3 := hide s3
   have HW := hide hW
   clear hy hown hK ht e5 e2 s0 s1 s2 s3 hW
   go_wp2_with fail
   have hW := HW.out
   rw [hW] at su ht2
   rw [show ((K : Int) + 1 + 1 : Int) = (K : Int) + 2 by omega] at su
   first | rw [hW] | (rw [show ((K : Int) + 1 + 1 : Int) = (K : Int) + 2 by omega] at hW; rw [hW])
   clear hW HW hu0 hu1 hu2
   refine (qA (K + 3) _ (by omega)).mono ?_; rintro x w3 ⟨rfl, hb3⟩
   have hown3 := aX su.out hb3
   obtain ⟨g', Vu, f1, f2, f3, f4, _, _, f5, f6⟩ := qx hown3 (by omega)
   simp only [Value.slice.injEq, Option.some.injEq, Addr.mk.injEq] at f1
   obtain ⟨⟨rfl, _, _⟩, _, rfl⟩ := f1
   have hl3 := hown3.1
   obtain ⟨u3, hu3⟩ : ∃ u, w3.cell? ⟨g, j * 4 + 3, none⟩ = some u := ⟨_, f5 _ _ (List.getElem?_eq_getElem (by omega))⟩
   have lK := hide (mI (g := g) hown3 rfl (j * 4 + 3) (.string (bg (K + 3))))
   have GK := hide (uE ((j + 1) * 4) (a := .string (bg (K + 3))) WV.out S3.out (by rw [List.length_set, List.length_set, List.length_set] at hl3 ⊢; omega) (by omega))
   have ht3 := hide (yB (DF ht2.out (DI hb3 _)) ⟨g, j * 4 + 3, none⟩ (.string (bg (K + 3))) (by rfl))
   clear f5 f2 hown3
   go_wp2_with fail
   exact ⟨⟨j + 1, _, by go_num, int_eq (by have := HK.out; omega), by omega, lK.out, GK.out, ht3.out⟩, by simp [intOf]; omega⟩
  ·obtain rfl : j = n := by omega
   have hys : ys = qG k j := GH hown.1 (WU _ _) hy
   subst hys
   go_wp2_with fail
   go_ret
   exact ⟨rfl, hown, ht⟩
theorem kW (w : World) (e : TypeId) (size n : Nat) (xs : Array Value) (hx : xs.size = n * size) (hn : n ≤ 1000000) : (w.alloc (.cells xs e)).ownsRow w.heap.size e size (.slice (some ⟨w.heap.size, 0, none⟩) n n) n xs.toList :=
 ⟨by simp [hx], .inr ⟨w.heap.size, n, xs, rfl, Nat.le_refl _, heap_alloc_last w _, Nat.le_refl _, by unfold maxLen; omega, hx, by rw [List.take_of_length_le (by simp [hx])]⟩⟩
set_option maxHeartbeats 4000000 in
theorem WW (s e : Int) (w : World) : Calls Tryz.prog 85 #[.int .i64 s, .int .i64 e] w fun x w' => x = .returned (.tuple #[.int .i64 (fQ s e).1, .bool (fQ s e).2]) ∧ w' = w := by
 rcases DR s with rfl | rfl | rfl | rfl | rfl | hs
 rotate_left 5
 ·rw [G5 hs]
  obtain ⟨h0, h1, h2, h3, h4⟩ := hs
  rcases wK e with rfl | rfl | rfl | rfl | rfl | rfl | rfl | ⟨e1, e2, e3, e4, e5, e6, e7⟩
  all_goals (
   go_enter Tryz.func85, Tryz.ntmps85
   go_wp2_with fail
   go_ret2
   exact ⟨rfl, rfl⟩)
 all_goals (
  rcases wK e with rfl | rfl | rfl | rfl | rfl | rfl | rfl | he
  rotate_left 7
  ·rw [yD he]
   obtain ⟨e1, e2, e3, e4, e5, e6, e7⟩ := he
   have q1 : (e == 1) = false := (by simpa using e1); have q2 : (e == 2) = false := (by simpa using e2); have q3 : (e == 3) = false := (by simpa using e3); have q4 : (e == 4) = false := (by simpa using e4); have q5 : (e == 5) = false := (by simpa using e5); have q6 : (e == 6) = false := (by simpa using e6); have q7 : (e == 7) = false := (by simpa using e7)
   clear e1 e2 e3 e4 e5 e6 e7
   go_enter Tryz.func85, Tryz.ntmps85
   go_wp2_with fail
   go_ret2
   exact ⟨rfl, rfl⟩
  all_goals (
   go_enter Tryz.func85, Tryz.ntmps85
   go_wp2_with fail
   go_ret2
   exact ⟨rfl, rfl⟩))
theorem WX (s : Int) (w : World) : Calls Tryz.prog 50 #[.int .i64 s] w fun x w' => x = .returned (.bool (jM s)) ∧ w' = w := by
 rcases DR s with rfl | rfl | rfl | rfl | rfl | ⟨h0, h1, h2, h3, h4⟩
 rotate_left 5
 ·have hv : jM s = false := by simp [jM, h1, h2]
  rw [hv]
  have q1 : (s == 1) = false := (by simpa using h1); have q2 : (s == 2) = false := (by simpa using h2); have q3 : (s == 3) = false := (by simpa using h3)
  go_enter Tryz.func50, Tryz.ntmps50
  go_wp2_with fail
  go_ret
  exact ⟨rfl, rfl⟩
 all_goals (
  go_enter Tryz.func50, Tryz.ntmps50
  go_wp2_with fail
  go_ret
  exact ⟨rfl, rfl⟩)
theorem aD.grow {D : Type} {E : lN D} {w : World} {lo mid : Nat} {v : Value} {L : List D} (h : aD E w lo mid v L) (hmid : mid ≤ w.heap.size) (hlm : lo ≤ mid) : ∃ xs, w.ownsRow 0 E.ty E.size v L.length xs ∧
  ∀ (w1 : World) (v' : Value) (cs : List Value) (x : D), kJ E w mid w.heap.size cs x → w1.ownsRow 0 E.ty E.size v' (L.length + 1) (xs ++ cs) → w.grownBy w1 v.ownBlock → (v'.ownBlock = v.ownBlock ∨ v'.ownBlock = some w.heap.size) → aD E w1 lo w1.heap.size v' (L ++ [x]) := by
 obtain ⟨bs, ⟨ts, hL, ho, hE, rfl⟩, hn, hb⟩ := h
 have hlen : L.length = ts.length := by rw [hL]; simp
 refine ⟨ts.flatMap (·.1), by rw [hlen]; exact ho, fun w1 v' cs x hx ho' hg hat => ?_⟩
 exact aD.app (mid := mid) (hi := w.heap.size) hL ho hE hn hb hmid (by omega) hx hlm (by rw [← hlen]; exact ho') hg hat
theorem WY (m : Nat) : iK m = if m / 10 = 0 then [48 + ((m % 10 : Nat) : Int)] else iK (m / 10) ++ [48 + ((m % 10 : Nat) : Int)] := by
 by_cases h : m < 10
 ·rw [DK h, if_pos (by omega), Nat.mod_eq_of_lt h]
 ·rw [DJ h, if_neg (by omega)]
theorem Xa (b : Int) (t : List Int) (hb : 0 ≤ b ∧ b ≤ 255) (ht : ∀ x ∈ t, 0 ≤ x ∧ x ≤ 255) : strOf [b] ++ strOf t = strOf (b :: t) := by
 refine qC ?_
 rw [kZ, uF (by intro x hx; simp at hx; omega), uF ht, uF (by intro x hx; rcases List.mem_cons.1 hx with rfl | h; exact hb; exact ht x h)]
 rfl
set_option maxHeartbeats 2000000 in
theorem Xb (n : Nat) (w : World) (hn : n ≤ 4611686018427387904) : Calls Tryz.prog 52 #[.int .i64 n] w fun x w' => x = .returned (.string (strOf (iK n))) ∧ Below w.heap.size w w' := by
 obtain ⟨A, hA⟩ : ∃ A, iK n = A := ⟨_, rfl⟩
 rw [hA]
 have HA := hide hA
 clear hA
 have hneg : decide ((n : Int) < 0) = false := decide_eq_false (by omega)
 go_enter Tryz.func52, Tryz.ntmps52
 go_wp2_with fail
 go_loopw [0, 3] (fun v s wr => ∃ (m : Nat) (t : List Int), v = .int .i64 m ∧ m ≤ n ∧ t.length + m ≤ n + 1 ∧ s = .string (strOf t) ∧ Hid (∀ x ∈ t, 48 ≤ x ∧ x ≤ 57) ∧ Hid ((t = [] ∧ m = n) ∨ (t ≠ [] ∧ A = (if m = 0 then t else iK m ++ t))) ∧ Hid (Below w.heap.size w wr)) (fun v s _ => (intOf v).toNat + (match s with | .string s => (if s.size = 0 then 1 else 0) | _ => 0))
 case atStart => exact ⟨n, [], rfl, Nat.le_refl _, by simp, rfl, by show ∀ x ∈ [], _; simp, .inl ⟨rfl, rfl⟩, Below.refl _ _⟩
 case round =>
  obtain ⟨m, t, rfl, hm, htm, rfl, HT, HD, HB⟩ := hrel
  have hd0 : (0 : Int) ≤ ((m % 10 : Nat) : Int) ∧ ((m % 10 : Nat) : Int) ≤ 9 := by omega
  obtain ⟨dg, hdg⟩ : ∃ z : Int, ((m % 10 : Nat) : Int) = z := ⟨_, rfl⟩
  rw [hdg] at hd0
  have e1 : (m : Int).tmod 10 = dg := by rw [← hdg, Int.tmod_eq_emod_of_nonneg (by omega)]; omega
  have e2 : (m : Int).tdiv 10 = ((m / 10 : Nat) : Int) := by rw [Int.tdiv_eq_ediv_of_nonneg (by omega)]; omega
  obtain ⟨d0, d9⟩ := hd0
  have hcv := iY (l := [48 + dg]) (oQ wr 5 (.int .u8 (48 + dg))) (by intro x hx; simp at hx; omega)
  have hcc : strOf [48 + dg] ++ strOf t = strOf ((48 + dg) :: t) := Xa _ _ (by omega) (fun x hx => by have := HT.out x hx; omega)
  obtain ⟨t1, ht1⟩ : ∃ t1, strOf [48 + dg] = t1 := ⟨_, rfl⟩
  have Nv : t1.size = 1 := by rw [← ht1, oP]; rfl
  rw [ht1] at hcv hcc
  have hsum : t1.size + (strOf t).size ≤ maxLen := by rw [Nv, oP]; unfold maxLen; omega
  have abp : (t1.size : Int) + ((strOf t).size : Int) ≤ 9223372036854775807 := by unfold maxLen at hsum; omega
  have Nw : t.length + 1 + m / 10 ≤ n + 1 ∨ m = 0 := by omega
  have Xc := hide Nw
  clear Nw Nv
  have HT2 : Hid (∀ x ∈ (48 + dg) :: t, 48 ≤ x ∧ x ≤ 57) := by
   show ∀ x ∈ _, _
   intro x hx
   rcases List.mem_cons.1 hx with rfl | h
   ·omega
   ·exact HT.out x h
  have hst : (strOf t).size = t.length := oP t
  have HD2 : t = [] ∨ m ≠ 0 → Hid ((48 + dg) :: t ≠ [] ∧ A = (if m / 10 = 0 then (48 + dg) :: t else iK (m / 10) ++ ((48 + dg) :: t))) := by
   intro hc
   refine ⟨by simp, ?_⟩
   have hnx := WY m
   rw [hdg] at hnx
   rcases HD.out with ⟨rfl, rfl⟩ | ⟨hne, hA2⟩
   ·rw [← HA.out, hnx]
   ·have hm0 : m ≠ 0 := hc.resolve_left hne
    rw [hA2, if_neg hm0, hnx]
    split <;> simp
  have hlt : ((48 + dg) :: t).length = t.length + 1 := rfl
  have hsz2 : (strOf ((48 + dg) :: t)).size ≠ 0 := by rw [oP]; simp
  rcases HD.out with ⟨rfl, rfl⟩ | ⟨hne, hA2⟩
  ·have HD3 := hide (HD2 (.inl rfl))
   have e0 : strOf [] = (⟨#[]⟩ : ByteArray) := rfl
   have he : t1 ++ (⟨#[]⟩ : ByteArray) = strOf [48 + dg] := by rw [← ht1]; exact Nb _
   rw [e0]
   have zm := hide hsz2
   clear HD HD2 hdg ht1 hcc hst hlt hsz2 e0
   go_wp2_with fail
   go_roundw
   case rel => exact ⟨m / 10, [48 + dg], by go_num, by omega, by simp; omega, by first | rfl | rw [he] | simp [he], HT2, .inr HD3.out, hide (aA HB.out _)⟩
   case measure => have h2 := zm.out; simp only [intOf]; rw [if_neg (by first | exact h2 | (rw [he]; exact h2)), if_pos (show (⟨#[]⟩ : ByteArray).size = 0 from rfl)]; omega
  ·by_cases hm0 : m = 0
   ·subst hm0
    have HF : Hid (A = t) := by show A = t; rw [hA2, if_pos rfl]
    have hpos : 0 < (strOf t).size := by rw [hst]; exact List.length_pos_iff.2 hne
    have hl1 := GX hpos
    have hl2 := M8 hpos
    clear HD HD2 hcv hcc HT2 e1 e2 hst hsz2 hlt hA2
    go_wp2_with fail
    go_ret
    exact ⟨by rw [HF.out]; rfl, HB.out⟩
   ·have HD3 := hide (HD2 (.inr hm0))
    have hpos : 0 < (strOf t).size := by rw [hst]; exact List.length_pos_iff.2 hne
    have hl1 := GX hpos
    have hl2 := M8 hpos
    have hm1 : ((m : Int) != 0) = true := by simp; omega
    have zm := hide hsz2
    have Xd := hide hpos
    clear HD HD2 hdg ht1 hst hlt hsz2 hA2 hpos
    go_wp2_with fail
    go_roundw
    case rel => exact ⟨m / 10, (48 + dg) :: t, by go_num, by omega, by have := Xc.out; simp only [List.length_cons]; omega, rfl, HT2, .inr HD3.out, hide (aA HB.out _)⟩
    case measure => have h2 := Xd.out; simp only [intOf]; rw [if_neg zm.out, if_neg (by omega)]; omega
structure Hq (w : World) (g : Nat) (t : jh) : Prop where
 row : aj w g 90 (rW t)
theorem Hq.new {w w' : World} {b : Nat} {t : jh} (h : Hq w b t) (hb : Below w.heap.size w w') : Hq w' b t := ⟨h.row.new hb⟩
section
variable {P : Program}
theorem run_loadVar_mid (w : World) (b o : Nat) (ty : TypeId) (cs : List Value) (d : TypeDesc) (hc : ∀ j u, cs[j]? = some u → w.cell? ⟨b, o + j, none⟩ = some u)
  (hu : P.underlying ty = some d) (hd : (match d with | .struct _ | .array _ _ => true | _ => false) = true) (hi : (P.info? ty).map (·.size) = some cs.length) :
  (loadVar ty ⟨b, o, none⟩).run P w = .ok (.agg cs.toArray) w := by
 have hl : (loadCells ⟨b, o, none⟩ cs.length).run P w = .ok cs.toArray w :=
  run_loadCells_list (P := P) w ⟨b, o, none⟩ cs (fun j v hv => by
   have hadd : (⟨b, o, none⟩ : Addr).add j = ⟨b, o + j, none⟩ := by unfold Addr.add; split <;> simp_all
   rw [hadd]; exact hc j v hv)
 cases hq : P.info? ty with
 | none => simp [hq] at hi
 | some i =>
  have hs : i.size = cs.length := by simpa [hq] using hi
  have hagg : (isAgg ty).run P w = .ok true w := by
   unfold isAgg
   rw [Sem.run_bind, run_underlying hu w]
   cases d <;> simp_all
  simp [loadVar, hagg, sizeOf, typeInfo, hq, hs, hl]
theorem wp_load_mid {op : Oper} {a : Act} {w : World} {K : Act → World → Prop} {Q : Exit → Act → World → Prop} (ty : TypeId) (x : Operand) (ho : op.op = .load ty x)
  (b o : Nat) (hx : a.eval x = .pointer (some ⟨b, o, none⟩)) (cs : List Value) (d : TypeDesc) (hc : ∀ j u, cs[j]? = some u → w.cell? ⟨b, o + j, none⟩ = some u)
  (hu : P.underlying ty = some d) (hd : (match d with | .struct _ | .array _ _ => true | _ => false) = true) (hi : (P.info? ty).map (·.size) = some cs.length)
  (h : K (a.put op.dst (.agg cs.toArray)) w) : op.wp P a w K Q := by
 unfold Oper.wp execOp
 simp only [ho, hx, Instr.loadAt, Instr.sureAddr, Sem.run_bind, Sem.run_pure, Result.andThen_ok, run_loadVar_mid w b o ty cs d hc hu hd hi]
 exact h
theorem wpList_load_mid {ops : Array Oper} {rest : List Oper} {op : Oper} {a : Act} {w : World} {Q : Exit → Act → World → Prop} (hgd : op.guard = none) (ty : TypeId) (x : Operand) (ho : op.op = .load ty x)
  (b o : Nat) (hx : a.eval x = .pointer (some ⟨b, o, none⟩)) (cs : List Value) (d : TypeDesc) (hc : ∀ j u, cs[j]? = some u → w.cell? ⟨b, o + j, none⟩ = some u)
  (hu : P.underlying ty = some d) (hd : (match d with | .struct _ | .array _ _ => true | _ => false) = true) (hi : (P.info? ty).map (·.size) = some cs.length)
  (h : wpList P ops Q rest (a.put op.dst (.agg cs.toArray)) w) : wpList P ops Q (op :: rest) a w :=
 wpList_plain hgd fun _ hK => wp_load_mid ty x ho b o hx cs d hc hu hd hi (hK _ _ h)
theorem run_storeVar_mid (w : World) (b o : Nat) (t ty : TypeId) (A C old cs : List Value) (hg : bL w b t A C o old) (hi : (P.info? ty).map (·.size) = some cs.length) (hl : old.length = cs.length) (h1 : ∀ u ∈ cs, u.oneCell' = true) :
  (storeVar ty ⟨b, o, none⟩ (.agg cs.toArray)).run P w = .ok () (w.setRow b (A ++ cs ++ C).toArray) := by
 have hoff := hg.off
 have hrow : w.heap[b]? = some (.cells (A ++ old ++ C).toArray t (0, 0)) := hg.row
 have := run_storeCells_at (P := P) b o t cs 0 (A ++ old ++ C).toArray w hrow (by simp; omega) h1
 have e : (A ++ old ++ C).toArray.toList.take (o + 0) ++ cs ++ (A ++ old ++ C).toArray.toList.drop (o + 0 + cs.length) = A ++ cs ++ C := by
  subst hoff
  simp only [Nat.add_zero, List.append_assoc]
  rw [List.take_left, show A.length + cs.length = A.length + old.length by omega, ← List.append_assoc A old C, ← List.length_append, List.drop_left]
 rw [e] at this
 cases hq : P.info? ty with
 | none => simp [hq] at hi
 | some i =>
  have hs : cs.length = i.size := by simp [hq] at hi; omega
  simp [storeVar, sizeOf, typeInfo, hq, Value.cells, hs, this]
theorem bL.setRow {w : World} {b o : Nat} {t : TypeId} {A C old : List Value} (h : bL w b t A C o old) (cs : List Value) : bL (w.setRow b (A ++ cs ++ C).toArray) b t A C o cs := ⟨dW (cs' := A ++ cs ++ C) h.row, h.off⟩
theorem Xe (w : World) (b : Nat) (cs : Array Value) : aG [b] w (w.setRow b cs) := ⟨rfl, rfl, rfl, by rw [setRow_size]; exact Nat.le_refl _, fun k _ hk => setRow_other _ _ _ _ (by simpa using hk)⟩
theorem wp_store_mid {op : Oper} {a : Act} {w : World} {K : Act → World → Prop} {Q : Exit → Act → World → Prop} (ty : TypeId) (x y : Operand) (ho : op.op = .store ty x y)
  (b o : Nat) (cs : List Value) (hx : a.eval x = .pointer (some ⟨b, o, none⟩)) (hy : a.eval y = .agg cs.toArray) (t : TypeId) (A C old : List Value) (hc : bL w b t A C o old)
  (hi : (P.info? ty).map (·.size) = some cs.length) (hl : old.length = cs.length) (h1 : ∀ u ∈ cs, u.oneCell' = true)
  (h : ∀ w', bL w' b t A C o cs → aG [b] w w' → K (a.put op.dst undef) w') : op.wp P a w K Q := by
 unfold Oper.wp execOp
 simp only [ho, hx, hy, Instr.storeAt, Instr.sureAddr, Sem.run_bind, Sem.run_pure, Result.andThen_ok, run_storeVar_mid w b o t ty A C old cs hc hi hl h1]
 exact h _ (hc.setRow cs) (Xe w b _)
theorem wpList_store_mid {ops : Array Oper} {rest : List Oper} {op : Oper} {a : Act} {w : World} {Q : Exit → Act → World → Prop} (hgd : op.guard = none) (ty : TypeId) (x y : Operand) (ho : op.op = .store ty x y)
  (b o : Nat) (cs : List Value) (hx : a.eval x = .pointer (some ⟨b, o, none⟩)) (hy : a.eval y = .agg cs.toArray) (t : TypeId) (A C old : List Value) (hc : bL w b t A C o old)
  (hi : (P.info? ty).map (·.size) = some cs.length) (hl : old.length = cs.length) (h1 : ∀ u ∈ cs, u.oneCell' = true)
  (h : ∀ w', bL w' b t A C o cs → aG [b] w w' → wpList P ops Q rest (a.put op.dst undef) w') : wpList P ops Q (op :: rest) a w :=
 wpList_plain hgd fun _ hK => wp_store_mid ty x y ho b o cs hx hy t A C old hc hi hl h1 fun w' h2 h3 => hK _ _ (h w' h2 h3)
end
theorem bL.part {w : World} {b o : Nat} {t : TypeId} {A C p m q : List Value} (h : bL w b t A C o (p ++ m ++ q)) : bL w b t (A ++ p) (q ++ C) (o + p.length) m :=
 ⟨by have := h.row; simpa using this, by rw [List.length_append, h.off]⟩
theorem bL.whole {w : World} {b o o' : Nat} {t : TypeId} {A C p m q : List Value} (h : bL w b t (A ++ p) (q ++ C) o' m) (ho : A.length = o) : bL w b t A C o (p ++ m ++ q) :=
 ⟨by have := h.row; simpa using this, ho⟩
theorem Xf {w : World} {base : Nat} {e : TypeId} {size n : Nat} {v : Value} {A B C : List Value} (h : w.ownsRow base e size v n (A ++ B ++ C)) (hB : B ≠ []) :
  ∃ g cap S, v = .slice (some ⟨g, 0, none⟩) n cap ∧ v.ownBlock = some g ∧ base ≤ g ∧ g < w.heap.size ∧ n ≤ cap ∧ cap ≤ maxLen ∧ bL w g e A (C ++ S) A.length B ∧
   ∀ w' B', B'.length = B.length → bL w' g e A (C ++ S) A.length B' → w'.ownsRow base e size v n (A ++ B' ++ C) := by
 obtain ⟨hl, hr⟩ := h
 rcases hr with ⟨hv, h0⟩ | ⟨g, cap, arr, hv, hb0, hheap, h1, h2, h3, h4⟩
 ·subst h0
  have : (A ++ B ++ C).length = 0 := by rw [hl]; simp
  simp at this
  exact absurd this.2.1 hB
 ·have hS : arr.toList = A ++ B ++ (C ++ arr.toList.drop (n * size)) := by rw [← List.append_assoc, ← h4, List.take_append_drop]
  refine ⟨g, cap, arr.toList.drop (n * size), hv, by rw [hv]; rfl, hb0, (Array.getElem?_eq_some_iff.1 hheap).1, h1, h2, ⟨?_, rfl⟩, fun w' B' hBl hm => ?_⟩
  ·show w.heap[g]? = some (.cells _ e (0, 0))
   rw [hheap, ← hS]
  ·refine ⟨by rw [← hl]; simp [hBl], .inr ⟨g, cap, (A ++ B' ++ (C ++ arr.toList.drop (n * size))).toArray, hv, hb0, hm.row, h1, h2, ?_, ?_⟩⟩
   ·have e1 := congrArg List.length hS
    rw [← h3]
    simp only [List.length_append, Array.length_toList, List.size_toArray] at e1 ⊢
    omega
   ·have e2 : A ++ B' ++ (C ++ arr.toList.drop (n * size)) = (A ++ B' ++ C) ++ arr.toList.drop (n * size) := by simp
    show List.take _ _ = _
    rw [e2, List.take_append_of_le_length (by rw [← hl]; simp [hBl]), List.take_of_length_le (by rw [← hl]; simp [hBl])]
theorem Ny {α : Type} {l : List α} {j : Nat} {u : α} (h : l[j]? = some u) : l.set j u = l := by
 obtain ⟨hj, e⟩ := List.getElem?_eq_some_iff.1 h
 rw [← e]; exact List.set_getElem_self hj
def jB : List (Nat × Int × Int × Int) := [(2, 0, 1, 1), (4, 1, 6, 1), (6, 1, 7, 1), (8, 1, 2, 2), (10, 1, 3, 3), (12, 1, 4, 4), (14, 1, 5, 4), (16, 2, 7, 2), (18, 2, 3, 4), (20, 2, 4, 4), (22, 2, 5, 4), (24, 3, 6, 3), (26, 3, 2, 4), (28, 3, 4, 4), (30, 3, 5, 4)]
def fL (l : Array Bool) : Int → Int → Option Int := fun s e => (jB.find? fun t => decide (t.2.1 = s) && decide (t.2.2.1 = e)).bind fun t => if l.getD t.1 false then some t.2.2.2 else none
def mM : Int → Int → Option Int := fun s e => (jB.find? fun t => decide (t.2.1 = s) && decide (t.2.2.1 = e)).map fun t => t.2.2.2
theorem Nz : ∀ t ∈ jB, (jB.find? fun u => decide (u.2.1 = t.2.1) && decide (u.2.2.1 = t.2.2.1)) = some t := by decide
theorem Xg : ∀ t ∈ jB, ∀ u ∈ jB, t.1 = u.1 → t = u := by decide
theorem lY {l : Array Bool} {t : Nat × Int × Int × Int} (ht : t ∈ jB) (hl : t.1 < l.size) (a b : Int) : qD (fL l) t.2.1 t.2.2.1 t.2.2.2 a b = fL (l.setIfInBounds t.1 true) a b := by
 unfold qD fL
 split
 ·rename_i h
  obtain ⟨rfl, rfl⟩ := h
  rw [Nz t ht]
  simp [hl]
 ·rename_i h
  cases hf : jB.find? fun t => decide (t.2.1 = a) && decide (t.2.2.1 = b) with
  | none => rfl
  | some u =>
   have hu := List.find?_some hf
   have hm := List.mem_of_find?_eq_some hf
   simp at hu
   have hne : t.1 ≠ u.1 := fun e => by
    obtain rfl := Xg t ht u hm e
    exact h ⟨hu.1.symm, hu.2.symm⟩
   simp only [Option.bind_some]
   rw [getD_set_ne false hne]
theorem lZ {l : Array Bool} {t : Nat × Int × Int × Int} (ht : t ∈ jB) (hl : l.getD t.1 false = false) : fL l t.2.1 t.2.2.1 = none := by
 unfold fL
 rw [Nz t ht]
 simp only [Option.bind_some]
 rw [hl]; rfl
theorem NA {l : Array Bool} {i : Nat} (h : ∀ t ∈ jB, i ≠ t.1) (a b : Int) : fL l a b = fL (l.setIfInBounds i true) a b := by
 unfold fL
 cases hf : jB.find? fun t => decide (t.2.1 = a) && decide (t.2.2.1 = b) with
 | none => rfl
 | some u =>
  simp only [Option.bind_some]
  rw [getD_set_ne false (h u (List.mem_of_find?_eq_some hf))]
theorem Xh {l : Array Bool} (h : ∀ t ∈ jB, l.getD t.1 false = true) (a b : Int) : fL l a b = mM a b := by
 unfold fL mM
 cases hf : jB.find? fun t => decide (t.2.1 = a) && decide (t.2.2.1 = b) with
 | none => rfl
 | some u =>
  simp only [Option.bind_some, Option.map_some]
  rw [h u (List.mem_of_find?_eq_some hf)]; rfl
set_option maxRecDepth 100000 in
set_option maxHeartbeats 4000000 in
theorem Xi (w : World) : Calls Tryz.prog 149 #[] w fun x w' => x = .returned (.map (some w.heap.size)) ∧ gU w' w.heap.size mM ∧ Below w.heap.size w w' := by
 have hmm := @run_makeMap Tryz.prog
 go_enter Tryz.func149, Tryz.ntmps149
 go_wp2_with fail
 refine wp_region_any (by kernel_rfl) ?_; change wpAny _ _ _ _ _ _ _ (World.drew _)
 refine wpAny_take (i := 1) (v := ?_) rfl (by kernel_rfl) (by kernel_rfl) (by kernel_rfl) (fun _ _ _ h => h) (Or.inl ⟨by rfl, ?_⟩) ?_; rotate_left; focus (intro w; go_simp; try with_reducible rfl)
 refine wpAny_take (i := 3) (v := ?_) rfl (by kernel_rfl) (by kernel_rfl) (by kernel_rfl) (fun _ _ _ h => h) (Or.inl ⟨by rfl, ?_⟩) ?_; rotate_left; focus (intro w; go_simp; try with_reducible rfl)
 refine wpAny_take (i := 5) (v := ?_) rfl (by kernel_rfl) (by kernel_rfl) (by kernel_rfl) (fun _ _ _ h => h) (Or.inl ⟨by rfl, ?_⟩) ?_; rotate_left; focus (intro w; go_simp; try with_reducible rfl)
 refine wpAny_take (i := 7) (v := ?_) rfl (by kernel_rfl) (by kernel_rfl) (by kernel_rfl) (fun _ _ _ h => h) (Or.inl ⟨by rfl, ?_⟩) ?_; rotate_left; focus (intro w; go_simp; try with_reducible rfl)
 refine wpAny_take (i := 9) (v := ?_) rfl (by kernel_rfl) (by kernel_rfl) (by kernel_rfl) (fun _ _ _ h => h) (Or.inl ⟨by rfl, ?_⟩) ?_; rotate_left; focus (intro w; go_simp; try with_reducible rfl)
 refine wpAny_take (i := 11) (v := ?_) rfl (by kernel_rfl) (by kernel_rfl) (by kernel_rfl) (fun _ _ _ h => h) (Or.inl ⟨by rfl, ?_⟩) ?_; rotate_left; focus (intro w; go_simp; try with_reducible rfl)
 refine wpAny_take (i := 13) (v := ?_) rfl (by kernel_rfl) (by kernel_rfl) (by kernel_rfl) (fun _ _ _ h => h) (Or.inl ⟨by rfl, ?_⟩) ?_; rotate_left; focus (intro w; go_simp; try with_reducible rfl)
 refine wpAny_take (i := 15) (v := ?_) rfl (by kernel_rfl) (by kernel_rfl) (by kernel_rfl) (fun _ _ _ h => h) (Or.inl ⟨by rfl, ?_⟩) ?_; rotate_left; focus (intro w; go_simp; try with_reducible rfl)
 refine wpAny_take (i := 17) (v := ?_) rfl (by kernel_rfl) (by kernel_rfl) (by kernel_rfl) (fun _ _ _ h => h) (Or.inl ⟨by rfl, ?_⟩) ?_; rotate_left; focus (intro w; go_simp; try with_reducible rfl)
 refine wpAny_take (i := 19) (v := ?_) rfl (by kernel_rfl) (by kernel_rfl) (by kernel_rfl) (fun _ _ _ h => h) (Or.inl ⟨by rfl, ?_⟩) ?_; rotate_left; focus (intro w; go_simp; try with_reducible rfl)
 refine wpAny_take (i := 21) (v := ?_) rfl (by kernel_rfl) (by kernel_rfl) (by kernel_rfl) (fun _ _ _ h => h) (Or.inl ⟨by rfl, ?_⟩) ?_; rotate_left; focus (intro w; go_simp; try with_reducible rfl)
 refine wpAny_take (i := 23) (v := ?_) rfl (by kernel_rfl) (by kernel_rfl) (by kernel_rfl) (fun _ _ _ h => h) (Or.inl ⟨by rfl, ?_⟩) ?_; rotate_left; focus (intro w; go_simp; try with_reducible rfl)
 refine wpAny_take (i := 25) (v := ?_) rfl (by kernel_rfl) (by kernel_rfl) (by kernel_rfl) (fun _ _ _ h => h) (Or.inl ⟨by rfl, ?_⟩) ?_; rotate_left; focus (intro w; go_simp; try with_reducible rfl)
 refine wpAny_take (i := 27) (v := ?_) rfl (by kernel_rfl) (by kernel_rfl) (by kernel_rfl) (fun _ _ _ h => h) (Or.inl ⟨by rfl, ?_⟩) ?_; rotate_left; focus (intro w; go_simp; try with_reducible rfl)
 refine wpAny_take (i := 29) (v := ?_) rfl (by kernel_rfl) (by kernel_rfl) (by kernel_rfl) (fun _ _ _ h => h) (Or.inl ⟨by rfl, ?_⟩) ?_; rotate_left; focus (intro w; go_simp; try with_reducible rfl)
 refine wpAny_ready (rs := [0]) (by kernel_rfl) (by simp) ?_; refine AllReady.cons rfl (fun K hK => ?_) AllReady.nil
 go_simp; refine hK _ _ ?_; clear hK K
 refine Ni (fun (l : Array Bool) (a : Act) (u : World) => ((l.getD 31 false = false ∧ l.getD 32 false = false ∧ a = ⟨#[.map none, .map (some w.heap.size), .agg #[.int .i64 0, .int .i64 1], .agg #[.int .i64 1, .int .i64 6], .agg #[.int .i64 1, .int .i64 7], .agg #[.int .i64 1, .int .i64 2], .agg #[.int .i64 1, .int .i64 3], .agg #[.int .i64 1, .int .i64 4], .agg #[.int .i64 1, .int .i64 5], .agg #[.int .i64 2, .int .i64 7], .agg #[.int .i64 2, .int .i64 3], .agg #[.int .i64 2, .int .i64 4], .agg #[.int .i64 2, .int .i64 5], .agg #[.int .i64 3, .int .i64 6], .agg #[.int .i64 3, .int .i64 2], .agg #[.int .i64 3, .int .i64 4], .agg #[.int .i64 3, .int .i64 5], undef], []⟩) ∨ (l.getD 31 false = true ∧ l.getD 32 false = false ∧ a = ⟨#[.map none, .map (some w.heap.size), .agg #[.int .i64 0, .int .i64 1], .agg #[.int .i64 1, .int .i64 6], .agg #[.int .i64 1, .int .i64 7], .agg #[.int .i64 1, .int .i64 2], .agg #[.int .i64 1, .int .i64 3], .agg #[.int .i64 1, .int .i64 4], .agg #[.int .i64 1, .int .i64 5], .agg #[.int .i64 2, .int .i64 7], .agg #[.int .i64 2, .int .i64 3], .agg #[.int .i64 2, .int .i64 4], .agg #[.int .i64 2, .int .i64 5], .agg #[.int .i64 3, .int .i64 6], .agg #[.int .i64 3, .int .i64 2], .agg #[.int .i64 3, .int .i64 4], .agg #[.int .i64 3, .int .i64 5], .map (some w.heap.size)], []⟩) ∨ (l.getD 31 false = true ∧ l.getD 32 false = true ∧ a = ⟨#[.map (some w.heap.size), .map (some w.heap.size), .agg #[.int .i64 0, .int .i64 1], .agg #[.int .i64 1, .int .i64 6], .agg #[.int .i64 1, .int .i64 7], .agg #[.int .i64 1, .int .i64 2], .agg #[.int .i64 1, .int .i64 3], .agg #[.int .i64 1, .int .i64 4], .agg #[.int .i64 1, .int .i64 5], .agg #[.int .i64 2, .int .i64 7], .agg #[.int .i64 2, .int .i64 3], .agg #[.int .i64 2, .int .i64 4], .agg #[.int .i64 2, .int .i64 5], .agg #[.int .i64 3, .int .i64 6], .agg #[.int .i64 3, .int .i64 2], .agg #[.int .i64 3, .int .i64 4], .agg #[.int .i64 3, .int .i64 5], .map (some w.heap.size)], []⟩)) ∧ (∀ j ∈ [0, 1, 3, 5, 7, 9, 11, 13, 15, 17, 19, 21, 23, 25, 27, 29], l.getD j false = true) ∧ (l.getD 31 false = true → ∀ j, j < 31 → l.getD j false = true) ∧ gU u w.heap.size (fL l) ∧ Below w.heap.size w u) ?hs ?he _ _ _ _ (by kernel_rfl) (by decide) ?h0
 case h0 =>
  refine ⟨Or.inl ⟨by kernel_rfl, by kernel_rfl, rfl⟩, by decide, by decide, (Wi _).ext (fun s e => ?_), (Below.refl _ _).drew.alloc (Nat.le_refl _) _⟩
  unfold fL
  cases hf : jB.find? fun t => decide (t.2.1 = s) && decide (t.2.2.1 = e) with
  | none => rfl
  | some t =>
   have hm := List.mem_of_find?_eq_some hf
   clear hf
   simp only [Option.bind_some]
   revert t
   decide
 case he =>
  rintro l a u ⟨hA, h0, h31, hM, hB⟩ hl hr
  have hall := VZ hl (by kernel_rfl) hr
  have hM2 := hM.ext (Xh (fun t ht => by
   have : ∀ t ∈ jB, t.1 < 33 := by decide
   exact hall t.1 (this t ht)))
  rcases hA with ⟨_, h2, _⟩ | ⟨_, h2, _⟩ | ⟨_, _, rfl⟩
  ·rw [hall 32 (by decide)] at h2; cases h2
  ·rw [hall 32 (by decide)] at h2; cases h2
  ·clear hall hM h0 h31 hr
   go_wp2_with fail
   refine bodyPost_ret (v := .map (some w.heap.size)) (by simp [results, Tryz.results149, go_sem, *]) rfl ?_
   exact ⟨rfl, hM2, hB⟩
 case hs =>
  rintro l a u io ⟨hA, h0, h31, hM, hB⟩ hl hr
  have hlt := kD hr
  match io, hlt, hr with
  | 0, _, hr => have := (eO hr hl).1; rw [h0 0 (by decide)] at this; cases this
  | 1, _, hr => have := (eO hr hl).1; rw [h0 1 (by decide)] at this; cases this
  | 2, _, hr =>
   have hnew := (eO hr hl).1
   obtain ⟨w2, hrun, hM2, hg2⟩ := kM hM 0 1 1 (lZ (t := (2, 0, 1, 1)) (by decide) hnew)
   have hB2 : Below w.heap.size w w2 := hB.grown hg2 hB.size (fun q hq => by cases hq; exact Nat.le_refl _)
   have gG := hM2.ext (lY (l := l) (t := (2, 0, 1, 1)) (by decide) (by rw [hl]; exact kD hr))
   rcases hA with ⟨h1, h2, rfl⟩ | ⟨h1, _, _⟩ | ⟨h1, _, _⟩
   ·refine wpOp_step (o := _) rfl (fun K hK => ?_)
    go_simp
    refine hK _ _ ?_; clear hK K
    exact ⟨Or.inl ⟨(getD_set_ne false (by decide)).trans h1, (getD_set_ne false (by decide)).trans h2, rfl⟩, fun j hj => getD_set_true (h0 j hj), lW hr hl h31 (by decide), gG, hB2⟩
   all_goals (rw [lg hr hl h31 (by decide)] at h1; cases h1)
  | 3, _, hr => have := (eO hr hl).1; rw [h0 3 (by decide)] at this; cases this
  | 4, _, hr =>
   have hnew := (eO hr hl).1
   obtain ⟨w2, hrun, hM2, hg2⟩ := kM hM 1 6 1 (lZ (t := (4, 1, 6, 1)) (by decide) hnew)
   have hB2 : Below w.heap.size w w2 := hB.grown hg2 hB.size (fun q hq => by cases hq; exact Nat.le_refl _)
   have gG := hM2.ext (lY (l := l) (t := (4, 1, 6, 1)) (by decide) (by rw [hl]; exact kD hr))
   rcases hA with ⟨h1, h2, rfl⟩ | ⟨h1, _, _⟩ | ⟨h1, _, _⟩
   ·refine wpOp_step (o := _) rfl (fun K hK => ?_)
    go_simp
    refine hK _ _ ?_; clear hK K
    exact ⟨Or.inl ⟨(getD_set_ne false (by decide)).trans h1, (getD_set_ne false (by decide)).trans h2, rfl⟩, fun j hj => getD_set_true (h0 j hj), lW hr hl h31 (by decide), gG, hB2⟩
   all_goals (rw [lg hr hl h31 (by decide)] at h1; cases h1)
  | 5, _, hr => have := (eO hr hl).1; rw [h0 5 (by decide)] at this; cases this
  | 6, _, hr =>
   have hnew := (eO hr hl).1
   obtain ⟨w2, hrun, hM2, hg2⟩ := kM hM 1 7 1 (lZ (t := (6, 1, 7, 1)) (by decide) hnew)
   have hB2 : Below w.heap.size w w2 := hB.grown hg2 hB.size (fun q hq => by cases hq; exact Nat.le_refl _)
   have gG := hM2.ext (lY (l := l) (t := (6, 1, 7, 1)) (by decide) (by rw [hl]; exact kD hr))
   rcases hA with ⟨h1, h2, rfl⟩ | ⟨h1, _, _⟩ | ⟨h1, _, _⟩
   ·refine wpOp_step (o := _) rfl (fun K hK => ?_)
    go_simp
    refine hK _ _ ?_; clear hK K
    exact ⟨Or.inl ⟨(getD_set_ne false (by decide)).trans h1, (getD_set_ne false (by decide)).trans h2, rfl⟩, fun j hj => getD_set_true (h0 j hj), lW hr hl h31 (by decide), gG, hB2⟩
   all_goals (rw [lg hr hl h31 (by decide)] at h1; cases h1)
  | 7, _, hr => have := (eO hr hl).1; rw [h0 7 (by decide)] at this; cases this
  | 8, _, hr =>
   have hnew := (eO hr hl).1
   obtain ⟨w2, hrun, hM2, hg2⟩ := kM hM 1 2 2 (lZ (t := (8, 1, 2, 2)) (by decide) hnew)
   have hB2 : Below w.heap.size w w2 := hB.grown hg2 hB.size (fun q hq => by cases hq; exact Nat.le_refl _)
   have gG := hM2.ext (lY (l := l) (t := (8, 1, 2, 2)) (by decide) (by rw [hl]; exact kD hr))
   rcases hA with ⟨h1, h2, rfl⟩ | ⟨h1, _, _⟩ | ⟨h1, _, _⟩
   ·refine wpOp_step (o := _) rfl (fun K hK => ?_)
    go_simp
    refine hK _ _ ?_; clear hK K
    exact ⟨Or.inl ⟨(getD_set_ne false (by decide)).trans h1, (getD_set_ne false (by decide)).trans h2, rfl⟩, fun j hj => getD_set_true (h0 j hj), lW hr hl h31 (by decide), gG, hB2⟩
   all_goals (rw [lg hr hl h31 (by decide)] at h1; cases h1)
  | 9, _, hr => have := (eO hr hl).1; rw [h0 9 (by decide)] at this; cases this
  | 10, _, hr =>
   have hnew := (eO hr hl).1
   obtain ⟨w2, hrun, hM2, hg2⟩ := kM hM 1 3 3 (lZ (t := (10, 1, 3, 3)) (by decide) hnew)
   have hB2 : Below w.heap.size w w2 := hB.grown hg2 hB.size (fun q hq => by cases hq; exact Nat.le_refl _)
   have gG := hM2.ext (lY (l := l) (t := (10, 1, 3, 3)) (by decide) (by rw [hl]; exact kD hr))
   rcases hA with ⟨h1, h2, rfl⟩ | ⟨h1, _, _⟩ | ⟨h1, _, _⟩
   ·refine wpOp_step (o := _) rfl (fun K hK => ?_)
    go_simp
    refine hK _ _ ?_; clear hK K
    exact ⟨Or.inl ⟨(getD_set_ne false (by decide)).trans h1, (getD_set_ne false (by decide)).trans h2, rfl⟩, fun j hj => getD_set_true (h0 j hj), lW hr hl h31 (by decide), gG, hB2⟩
   all_goals (rw [lg hr hl h31 (by decide)] at h1; cases h1)
  | 11, _, hr => have := (eO hr hl).1; rw [h0 11 (by decide)] at this; cases this
  | 12, _, hr =>
   have hnew := (eO hr hl).1
   obtain ⟨w2, hrun, hM2, hg2⟩ := kM hM 1 4 4 (lZ (t := (12, 1, 4, 4)) (by decide) hnew)
   have hB2 : Below w.heap.size w w2 := hB.grown hg2 hB.size (fun q hq => by cases hq; exact Nat.le_refl _)
   have gG := hM2.ext (lY (l := l) (t := (12, 1, 4, 4)) (by decide) (by rw [hl]; exact kD hr))
   rcases hA with ⟨h1, h2, rfl⟩ | ⟨h1, _, _⟩ | ⟨h1, _, _⟩
   ·refine wpOp_step (o := _) rfl (fun K hK => ?_)
    go_simp
    refine hK _ _ ?_; clear hK K
    exact ⟨Or.inl ⟨(getD_set_ne false (by decide)).trans h1, (getD_set_ne false (by decide)).trans h2, rfl⟩, fun j hj => getD_set_true (h0 j hj), lW hr hl h31 (by decide), gG, hB2⟩
   all_goals (rw [lg hr hl h31 (by decide)] at h1; cases h1)
  | 13, _, hr => have := (eO hr hl).1; rw [h0 13 (by decide)] at this; cases this
  | 14, _, hr =>
   have hnew := (eO hr hl).1
   obtain ⟨w2, hrun, hM2, hg2⟩ := kM hM 1 5 4 (lZ (t := (14, 1, 5, 4)) (by decide) hnew)
   have hB2 : Below w.heap.size w w2 := hB.grown hg2 hB.size (fun q hq => by cases hq; exact Nat.le_refl _)
   have gG := hM2.ext (lY (l := l) (t := (14, 1, 5, 4)) (by decide) (by rw [hl]; exact kD hr))
   rcases hA with ⟨h1, h2, rfl⟩ | ⟨h1, _, _⟩ | ⟨h1, _, _⟩
   ·refine wpOp_step (o := _) rfl (fun K hK => ?_)
    go_simp
    refine hK _ _ ?_; clear hK K
    exact ⟨Or.inl ⟨(getD_set_ne false (by decide)).trans h1, (getD_set_ne false (by decide)).trans h2, rfl⟩, fun j hj => getD_set_true (h0 j hj), lW hr hl h31 (by decide), gG, hB2⟩
   all_goals (rw [lg hr hl h31 (by decide)] at h1; cases h1)
  | 15, _, hr => have := (eO hr hl).1; rw [h0 15 (by decide)] at this; cases this
  | 16, _, hr =>
   have hnew := (eO hr hl).1
   obtain ⟨w2, hrun, hM2, hg2⟩ := kM hM 2 7 2 (lZ (t := (16, 2, 7, 2)) (by decide) hnew)
   have hB2 : Below w.heap.size w w2 := hB.grown hg2 hB.size (fun q hq => by cases hq; exact Nat.le_refl _)
   have gG := hM2.ext (lY (l := l) (t := (16, 2, 7, 2)) (by decide) (by rw [hl]; exact kD hr))
   rcases hA with ⟨h1, h2, rfl⟩ | ⟨h1, _, _⟩ | ⟨h1, _, _⟩
   ·refine wpOp_step (o := _) rfl (fun K hK => ?_)
    go_simp
    refine hK _ _ ?_; clear hK K
    exact ⟨Or.inl ⟨(getD_set_ne false (by decide)).trans h1, (getD_set_ne false (by decide)).trans h2, rfl⟩, fun j hj => getD_set_true (h0 j hj), lW hr hl h31 (by decide), gG, hB2⟩
   all_goals (rw [lg hr hl h31 (by decide)] at h1; cases h1)
  | 17, _, hr => have := (eO hr hl).1; rw [h0 17 (by decide)] at this; cases this
  | 18, _, hr =>
   have hnew := (eO hr hl).1
   obtain ⟨w2, hrun, hM2, hg2⟩ := kM hM 2 3 4 (lZ (t := (18, 2, 3, 4)) (by decide) hnew)
   have hB2 : Below w.heap.size w w2 := hB.grown hg2 hB.size (fun q hq => by cases hq; exact Nat.le_refl _)
   have gG := hM2.ext (lY (l := l) (t := (18, 2, 3, 4)) (by decide) (by rw [hl]; exact kD hr))
   rcases hA with ⟨h1, h2, rfl⟩ | ⟨h1, _, _⟩ | ⟨h1, _, _⟩
   ·refine wpOp_step (o := _) rfl (fun K hK => ?_)
    go_simp
    refine hK _ _ ?_; clear hK K
    exact ⟨Or.inl ⟨(getD_set_ne false (by decide)).trans h1, (getD_set_ne false (by decide)).trans h2, rfl⟩, fun j hj => getD_set_true (h0 j hj), lW hr hl h31 (by decide), gG, hB2⟩
   all_goals (rw [lg hr hl h31 (by decide)] at h1; cases h1)
  | 19, _, hr => have := (eO hr hl).1; rw [h0 19 (by decide)] at this; cases this
  | 20, _, hr =>
   have hnew := (eO hr hl).1
   obtain ⟨w2, hrun, hM2, hg2⟩ := kM hM 2 4 4 (lZ (t := (20, 2, 4, 4)) (by decide) hnew)
   have hB2 : Below w.heap.size w w2 := hB.grown hg2 hB.size (fun q hq => by cases hq; exact Nat.le_refl _)
   have gG := hM2.ext (lY (l := l) (t := (20, 2, 4, 4)) (by decide) (by rw [hl]; exact kD hr))
   rcases hA with ⟨h1, h2, rfl⟩ | ⟨h1, _, _⟩ | ⟨h1, _, _⟩
   ·refine wpOp_step (o := _) rfl (fun K hK => ?_)
    go_simp
    refine hK _ _ ?_; clear hK K
    exact ⟨Or.inl ⟨(getD_set_ne false (by decide)).trans h1, (getD_set_ne false (by decide)).trans h2, rfl⟩, fun j hj => getD_set_true (h0 j hj), lW hr hl h31 (by decide), gG, hB2⟩
   all_goals (rw [lg hr hl h31 (by decide)] at h1; cases h1)
  | 21, _, hr => have := (eO hr hl).1; rw [h0 21 (by decide)] at this; cases this
  | 22, _, hr =>
   have hnew := (eO hr hl).1
   obtain ⟨w2, hrun, hM2, hg2⟩ := kM hM 2 5 4 (lZ (t := (22, 2, 5, 4)) (by decide) hnew)
   have hB2 : Below w.heap.size w w2 := hB.grown hg2 hB.size (fun q hq => by cases hq; exact Nat.le_refl _)
   have gG := hM2.ext (lY (l := l) (t := (22, 2, 5, 4)) (by decide) (by rw [hl]; exact kD hr))
   rcases hA with ⟨h1, h2, rfl⟩ | ⟨h1, _, _⟩ | ⟨h1, _, _⟩
   ·refine wpOp_step (o := _) rfl (fun K hK => ?_)
    go_simp
    refine hK _ _ ?_; clear hK K
    exact ⟨Or.inl ⟨(getD_set_ne false (by decide)).trans h1, (getD_set_ne false (by decide)).trans h2, rfl⟩, fun j hj => getD_set_true (h0 j hj), lW hr hl h31 (by decide), gG, hB2⟩
   all_goals (rw [lg hr hl h31 (by decide)] at h1; cases h1)
  | 23, _, hr => have := (eO hr hl).1; rw [h0 23 (by decide)] at this; cases this
  | 24, _, hr =>
   have hnew := (eO hr hl).1
   obtain ⟨w2, hrun, hM2, hg2⟩ := kM hM 3 6 3 (lZ (t := (24, 3, 6, 3)) (by decide) hnew)
   have hB2 : Below w.heap.size w w2 := hB.grown hg2 hB.size (fun q hq => by cases hq; exact Nat.le_refl _)
   have gG := hM2.ext (lY (l := l) (t := (24, 3, 6, 3)) (by decide) (by rw [hl]; exact kD hr))
   rcases hA with ⟨h1, h2, rfl⟩ | ⟨h1, _, _⟩ | ⟨h1, _, _⟩
   ·refine wpOp_step (o := _) rfl (fun K hK => ?_)
    go_simp
    refine hK _ _ ?_; clear hK K
    exact ⟨Or.inl ⟨(getD_set_ne false (by decide)).trans h1, (getD_set_ne false (by decide)).trans h2, rfl⟩, fun j hj => getD_set_true (h0 j hj), lW hr hl h31 (by decide), gG, hB2⟩
   all_goals (rw [lg hr hl h31 (by decide)] at h1; cases h1)
  | 25, _, hr => have := (eO hr hl).1; rw [h0 25 (by decide)] at this; cases this
  | 26, _, hr =>
   have hnew := (eO hr hl).1
   obtain ⟨w2, hrun, hM2, hg2⟩ := kM hM 3 2 4 (lZ (t := (26, 3, 2, 4)) (by decide) hnew)
   have hB2 : Below w.heap.size w w2 := hB.grown hg2 hB.size (fun q hq => by cases hq; exact Nat.le_refl _)
   have gG := hM2.ext (lY (l := l) (t := (26, 3, 2, 4)) (by decide) (by rw [hl]; exact kD hr))
   rcases hA with ⟨h1, h2, rfl⟩ | ⟨h1, _, _⟩ | ⟨h1, _, _⟩
   ·refine wpOp_step (o := _) rfl (fun K hK => ?_)
    go_simp
    refine hK _ _ ?_; clear hK K
    exact ⟨Or.inl ⟨(getD_set_ne false (by decide)).trans h1, (getD_set_ne false (by decide)).trans h2, rfl⟩, fun j hj => getD_set_true (h0 j hj), lW hr hl h31 (by decide), gG, hB2⟩
   all_goals (rw [lg hr hl h31 (by decide)] at h1; cases h1)
  | 27, _, hr => have := (eO hr hl).1; rw [h0 27 (by decide)] at this; cases this
  | 28, _, hr =>
   have hnew := (eO hr hl).1
   obtain ⟨w2, hrun, hM2, hg2⟩ := kM hM 3 4 4 (lZ (t := (28, 3, 4, 4)) (by decide) hnew)
   have hB2 : Below w.heap.size w w2 := hB.grown hg2 hB.size (fun q hq => by cases hq; exact Nat.le_refl _)
   have gG := hM2.ext (lY (l := l) (t := (28, 3, 4, 4)) (by decide) (by rw [hl]; exact kD hr))
   rcases hA with ⟨h1, h2, rfl⟩ | ⟨h1, _, _⟩ | ⟨h1, _, _⟩
   ·refine wpOp_step (o := _) rfl (fun K hK => ?_)
    go_simp
    refine hK _ _ ?_; clear hK K
    exact ⟨Or.inl ⟨(getD_set_ne false (by decide)).trans h1, (getD_set_ne false (by decide)).trans h2, rfl⟩, fun j hj => getD_set_true (h0 j hj), lW hr hl h31 (by decide), gG, hB2⟩
   all_goals (rw [lg hr hl h31 (by decide)] at h1; cases h1)
  | 29, _, hr => have := (eO hr hl).1; rw [h0 29 (by decide)] at this; cases this
  | 30, _, hr =>
   have hnew := (eO hr hl).1
   obtain ⟨w2, hrun, hM2, hg2⟩ := kM hM 3 5 4 (lZ (t := (30, 3, 5, 4)) (by decide) hnew)
   have hB2 : Below w.heap.size w w2 := hB.grown hg2 hB.size (fun q hq => by cases hq; exact Nat.le_refl _)
   have gG := hM2.ext (lY (l := l) (t := (30, 3, 5, 4)) (by decide) (by rw [hl]; exact kD hr))
   rcases hA with ⟨h1, h2, rfl⟩ | ⟨h1, _, _⟩ | ⟨h1, _, _⟩
   ·refine wpOp_step (o := _) rfl (fun K hK => ?_)
    go_simp
    refine hK _ _ ?_; clear hK K
    exact ⟨Or.inl ⟨(getD_set_ne false (by decide)).trans h1, (getD_set_ne false (by decide)).trans h2, rfl⟩, fun j hj => getD_set_true (h0 j hj), lW hr hl h31 (by decide), gG, hB2⟩
   all_goals (rw [lg hr hl h31 (by decide)] at h1; cases h1)
  | 31, _, hr =>
   have hnew := (eO hr hl).1
   rcases hA with ⟨h1, h2, rfl⟩ | ⟨h1, _, _⟩ | ⟨h1, _, _⟩
   ·refine wpOp_step (o := _) rfl (fun K hK => ?_)
    go_simp
    refine hK _ _ ?_; clear hK K
    exact ⟨Or.inr (Or.inl ⟨Nh (by rw [hl]; exact kD hr), (getD_set_ne false (by decide)).trans h2, rfl⟩), fun j hj => getD_set_true (h0 j hj), VX hr (by kernel_rfl), hM.ext (NA (by decide)), hB⟩
   all_goals (rw [hnew] at h1; cases h1)
  | 32, _, hr =>
   have hnew := (eO hr hl).1
   have Xj := Ng hr (j := 31) (by kernel_rfl)
   rcases hA with ⟨h1, _, _⟩ | ⟨h1, h2, rfl⟩ | ⟨_, h1, _⟩
   ·rw [Xj] at h1; cases h1
   ·refine wpOp_step (o := _) rfl (fun K hK => ?_)
    go_simp
    refine hK _ _ ?_; clear hK K
    exact ⟨Or.inr (Or.inr ⟨getD_set_true h1, Nh (by rw [hl]; exact kD hr), rfl⟩), fun j hj => getD_set_true (h0 j hj), fun _ j hj => getD_set_true (h31 h1 j hj), hM.ext (NA (by decide)), hB⟩
   ·rw [hnew] at h1; cases h1
  | n + 33, h, _ => exact absurd h (by show ¬ n + 33 < 33; omega)
def cF : Int → Int → Option Int := qD (qD (fun _ _ => none) 4 4 4) 4 5 4
def mF (s : Int) : Int → Int → Option Int := if s = 4 then cF else mM
theorem Xk (s e : Int) : fQ s e = (((mF s s e).getD s), (mF s s e).isSome) := by
 rcases DR s with rfl | rfl | rfl | rfl | rfl | hs
 rotate_left 5
 ·rw [G5 hs]
  obtain ⟨h0, h1, h2, h3, h4⟩ := hs
  have : mF s s e = none := by
   simp only [mF, h4, if_false, mM, jB, List.find?]
   simp [Ne.symm h0, Ne.symm h1, Ne.symm h2, Ne.symm h3]
  rw [this]; rfl
 ·rcases wK e with rfl | rfl | rfl | rfl | rfl | rfl | rfl | he
  rotate_left 7
  ·rw [yD he]
   obtain ⟨e1, e2, e3, e4, e5, e6, e7⟩ := he
   have h : mF 0 0 e = none := by
    show mM 0 e = none
    unfold mM jB
    simp [List.find?, Ne.symm e1, Ne.symm e2, Ne.symm e3, Ne.symm e4, Ne.symm e5, Ne.symm e6, Ne.symm e7]
   rw [h]; rfl
  all_goals decide
 ·rcases wK e with rfl | rfl | rfl | rfl | rfl | rfl | rfl | he
  rotate_left 7
  ·rw [yD he]
   obtain ⟨e1, e2, e3, e4, e5, e6, e7⟩ := he
   have h : mF 1 1 e = none := by
    show mM 1 e = none
    unfold mM jB
    simp [List.find?, Ne.symm e1, Ne.symm e2, Ne.symm e3, Ne.symm e4, Ne.symm e5, Ne.symm e6, Ne.symm e7]
   rw [h]; rfl
  all_goals decide
 ·rcases wK e with rfl | rfl | rfl | rfl | rfl | rfl | rfl | he
  rotate_left 7
  ·rw [yD he]
   obtain ⟨e1, e2, e3, e4, e5, e6, e7⟩ := he
   have h : mF 2 2 e = none := by
    show mM 2 e = none
    unfold mM jB
    simp [List.find?, Ne.symm e1, Ne.symm e2, Ne.symm e3, Ne.symm e4, Ne.symm e5, Ne.symm e6, Ne.symm e7]
   rw [h]; rfl
  all_goals decide
 ·rcases wK e with rfl | rfl | rfl | rfl | rfl | rfl | rfl | he
  rotate_left 7
  ·rw [yD he]
   obtain ⟨e1, e2, e3, e4, e5, e6, e7⟩ := he
   have h : mF 3 3 e = none := by
    show mM 3 e = none
    unfold mM jB
    simp [List.find?, Ne.symm e1, Ne.symm e2, Ne.symm e3, Ne.symm e4, Ne.symm e5, Ne.symm e6, Ne.symm e7]
   rw [h]; rfl
  all_goals decide
 ·rcases wK e with rfl | rfl | rfl | rfl | rfl | rfl | rfl | he
  rotate_left 7
  ·rw [yD he]
   obtain ⟨e1, e2, e3, e4, e5, e6, e7⟩ := he
   have h : mF 4 4 e = none := by
    show cF 4 e = none
    simp [cF, qD, e4, e5]
   rw [h]; rfl
  all_goals decide
set_option maxHeartbeats 1000000 in
theorem NC (B0 b g : Nat) (s0 s : Int) (f : Int → Int → Option Int) (w : World) (R : aj w b 182 [.int .i64 s0, .map (some g)]) (M : gU w g f) (hbg : b ≠ g) (h1 : B0 ≤ b) (h2 : B0 ≤ g) :
  Calls Tryz.prog 150 #[.pointer (some ⟨b, 0, none⟩), .int .i64 s] w fun x w' => x = .returned (.tuple #[]) ∧ aj w' b 182 [.int .i64 s, .map (some g)] ∧ gU w' g (if s = 4 then cF else f) ∧ Below B0 w w' := by
 have k0 := ak 0 R rfl
 have k1 := ak 1 R rfl
 have k9 := fun j => aj.frozen R j
 have Xl := R.lt
 have R1 := hide (R.set 0 (.int .i64 s))
 have M1 := hide (M.setCell (a := ⟨b, 0, none⟩) (fun e => hbg e.symm) (.int .i64 s))
 have hb1 := hide ((Below.refl B0 w).setCell (p := ⟨b, 0, none⟩) h1 (.int .i64 s))
 clear R M
 by_cases hs : s = 4
 ·subst hs
  rw [if_pos rfl]
  obtain ⟨W1, hW1⟩ : ∃ W, w.setCell ⟨b, 0, none⟩ (.int .i64 4) = W := ⟨_, rfl⟩
  rw [hW1] at R1 M1 hb1
  obtain ⟨w2, hr2, M2, g2⟩ := Wh M1.out 0
  obtain ⟨w3, hr3, M3, g3⟩ := kM M2 4 4 4 rfl
  obtain ⟨w4, hr4, M4, g4⟩ := kM M3 4 5 4 (by simp [qD])
  have Xm : b < W1.heap.size := R1.out.lt
  have R2 := R1.out.kept (g2.block b Xm (fun e => hbg (by injection e)))
  have R3 := R2.kept (g3.block b R2.lt (fun e => hbg (by injection e)))
  have R4 := R3.kept (g4.block b R3.lt (fun e => hbg (by injection e)))
  have c1 := ak 1 R1.out rfl
  have c2 := ak 1 R2 rfl
  have c3 := ak 1 R3 rfl
  have l2 := R2.lt
  have l3 := R3.lt
  have hz1 := hb1.out.size
  have B2 : Below B0 w w2 := hb1.out.grown g2 (by omega) (fun q hq => by cases hq; exact h2)
  have B3 : Below B0 w w3 := B2.grown g3 (by omega) (fun q hq => by cases hq; exact h2)
  have B4 := hide (B3.grown g4 (by omega) (fun q hq => by cases hq; exact h2))
  replace R4 := hide R4
  replace M4 := hide M4
  clear R1 M1 hb1 M2 M3 g2 g3 g4 R2 R3 B2 B3
  go_enter Tryz.func150, Tryz.ntmps150
  go_wp2_with fail
  refine bodyPost_end (v := .tuple #[]) (by simp [results, Tryz.results150, go_sem]) rfl ?_
  exact ⟨rfl, R4.out, M4.out, B4.out⟩
 ·rw [if_neg hs]
  have hs' : (s == 4) = false := by simpa using hs
  go_enter Tryz.func150, Tryz.ntmps150
  go_wp2_with fail
  refine bodyPost_ret (v := .tuple #[]) (by simp [results, Tryz.results150, go_sem, *]) rfl ?_
  exact ⟨rfl, R1.out, M1.out, hb1.out⟩
set_option maxHeartbeats 1000000 in
theorem Xn (s : Int) (w : World) : Calls Tryz.prog 121 #[.int .i64 s] w fun x w' => ∃ g : Nat, x = .returned (.agg #[.int .i64 s, .map (some g)]) ∧ w.heap.size ≤ g ∧ gU w' g (mF s) ∧ Below w.heap.size w w' := by
 go_enter Tryz.func121, Tryz.ntmps121
 go_wp2_with fail
 refine (Xi _).mono ?_; rintro e w1 ⟨rfl, M1, hb1⟩
 have R2 := (aB w 182 [.int .i64 0, .map none]).new hb1
 have b1 : Below w.heap.size w w1 := ((Below.refl _ w).alloc (Nat.le_refl _) _).trans (hb1.mono (by simp))
 have z1 := M1.lt
 simp at z1 M1 R2
 go_simp
 obtain ⟨g, hg⟩ : ∃ g, g = w.heap.size + 1 := ⟨_, rfl⟩
 rw [← hg] at z1 M1 ⊢
 have hgw : w.heap.size < g := by omega
 clear hg hb1
 go_wp2_with fail
 have R3 := aB w1 182 [.int .i64 0, .map (some g)]
 have M3 := M1.kept (World.grownBy_alloc w1 (.cells #[.int .i64 0, .map (some g)] 182) none) (by simp)
 have R5 := R2.alloc (.cells #[.int .i64 0, .map (some g)] 182)
 have b3 : Below w.heap.size w (w1.alloc (.cells #[.int .i64 0, .map (some g)] 182)) := b1.alloc (by omega) _
 refine (NC (w.heap.size + 1) w1.heap.size g 0 s mM _ R3 M3 (by omega) (by omega) (by omega)).mono ?_; rintro e w2 ⟨rfl, R4, M4, hb4⟩
 replace R5 := R5.kept (hb4.block w.heap.size (by omega))
 have b4 : Below w.heap.size w w2 := b3.trans (hb4.mono (by omega))
 have x0 := ak 0 R4 rfl
 have x1 := ak 1 R4 rfl
 have xl := R4.lt
 have y0 := ak 0 R5 rfl
 have y1 := ak 1 R5 rfl
 have y9 := fun j => aj.frozen R5 j
 have yl := R5.lt
 have M5 := hide M4
 have b5 := hide b4
 clear M4 b4 R4 R5 hb4 b3 R3 M3 b1 M1 R2
 go_wp2_with fail
 refine bodyPost_ret (v := .agg #[.int .i64 s, .map (some g)]) (by simp [results, Tryz.results121, go_sem, *]) rfl ?_
 refine ⟨g, rfl, by omega, ?_, ?_⟩
 ·exact ((M5.out.setCell (a := ⟨w.heap.size, 0, none⟩) (by show g ≠ w.heap.size; omega) _).setCell (a := ⟨w.heap.size, 1, none⟩) (by show g ≠ w.heap.size; omega) _)
 ·repeat' (first | (with_reducible exact b5.out) | (with_reducible refine Below.setCell ?_ ?_ _) | (with_reducible refine Below.alloc ?_ ?_ _) | (with_reducible refine Below.drew ?_) | (with_reducible refine ay _ ?_) | omega | (simp; done) | (simp; omega))
set_option maxHeartbeats 1000000 in
theorem Xo (B0 b g : Nat) (s e : Int) (w : World) (R : aj w b 182 [.int .i64 s, .map (some g)]) (M : gU w g (mF s)) (hbg : b ≠ g) (h1 : B0 ≤ b) (h2 : B0 ≤ g) :
  Calls Tryz.prog 122 #[.pointer (some ⟨b, 0, none⟩), .int .i64 e] w fun x w' => x = .returned (.bool (fQ s e).2) ∧ aj w' b 182 [.int .i64 (fQ s e).1, .map (some g)] ∧ gU w' g (mF (fQ s e).1) ∧ Below B0 w w' := by
 have k0 := ak 0 R rfl
 have k1 := ak 1 R rfl
 have Xl := R.lt
 have hlk := Wd (w := w.drew) M s e
 have hn := Xk s e
 obtain ⟨o, ho⟩ : ∃ o, mF s s e = o := ⟨_, rfl⟩
 rw [ho] at hlk hn
 clear ho
 rw [hn]
 dsimp only
 go_enter Tryz.func122, Tryz.ntmps122
 go_wp2_with fail
 refine wp_region_held_drew (S := (fun u => u.cell? ⟨b, 0, none⟩ = some (.int .i64 s) ∧ u.cell? ⟨b, 1, none⟩ = some (.map (some g)) ∧ (Instr.lookup 180 (.map (some g)) (.agg #[.int .i64 s, .int .i64 e]) true).run Tryz.prog u = .ok (.tuple #[.int .i64 (o.getD 0), .bool o.isSome]) u)) (by kernel_rfl) (And.intro k0 (And.intro k1 hlk)) (fun hS => ?_)
 refine wpAnyH_take (i := 0) (v := ?_) rfl (by kernel_rfl) (by kernel_rfl) (by kernel_rfl) (fun _ _ _ h => h) (Or.inl ⟨by rfl, ?_⟩) hS ?_; rotate_left; focus (intro w hw; clear hw; go_simp; try with_reducible rfl)
 refine wpAnyH_take (i := 1) (v := ?_) rfl (by kernel_rfl) (by kernel_rfl) (by kernel_rfl) (fun _ _ _ h => h) (Or.inl ⟨by rfl, ?_⟩) hS ?_; rotate_left; focus (intro w hw; clear hw; go_simp; try with_reducible rfl)
 refine wpAnyH_take (i := 2) (v := ?_) rfl (by kernel_rfl) (by kernel_rfl) (by kernel_rfl) (fun _ _ _ h => h) (Or.inl ⟨by rfl, ?_⟩) hS ?_; rotate_left; focus (intro w hw; clear hw; go_simp; try with_reducible rfl)
 refine wpAnyH_take (i := 3) (v := ?_) rfl (by kernel_rfl) (by kernel_rfl) (by kernel_rfl) (fun _ _ _ h => h) (Or.inl ⟨by rfl, ?_⟩) hS ?_; rotate_left; focus (intro w hw; obtain ⟨l0, l1, l2⟩ := hw; go_simp; try with_reducible rfl)
 refine wpAnyH_take (i := 4) (v := ?_) rfl (by kernel_rfl) (by kernel_rfl) (by kernel_rfl) (fun _ _ _ h => h) (Or.inl ⟨by rfl, ?_⟩) hS ?_; rotate_left; focus (intro w hw; clear hw; go_simp; try with_reducible rfl)
 refine wpAnyH_take (i := 5) (v := ?_) rfl (by kernel_rfl) (by kernel_rfl) (by kernel_rfl) (fun _ _ _ h => h) (Or.inl ⟨by rfl, ?_⟩) hS ?_; rotate_left; focus (intro w hw; clear hw; go_simp; try with_reducible rfl)
 refine wpAnyH_take (i := 6) (v := ?_) rfl (by kernel_rfl) (by kernel_rfl) (by kernel_rfl) (fun _ _ _ h => h) (Or.inl ⟨by rfl, ?_⟩) hS ?_; rotate_left; focus (intro w hw; clear hw; go_simp; try with_reducible rfl)
 refine wpAnyH_take (i := 7) (v := ?_) rfl (by kernel_rfl) (by kernel_rfl) (by kernel_rfl) (fun _ _ _ h => h) (Or.inl ⟨by rfl, ?_⟩) hS ?_; rotate_left; focus (intro w hw; obtain ⟨l0, l1, l2⟩ := hw; go_simp; try with_reducible rfl)
 refine wpAnyH_take (i := 8) (v := ?_) rfl (by kernel_rfl) (by kernel_rfl) (by kernel_rfl) (fun _ _ _ h => h) (Or.inl ⟨by rfl, ?_⟩) hS ?_; rotate_left; focus (intro w hw; clear hw; go_simp; try with_reducible rfl)
 refine wpAnyH_take (i := 9) (v := ?_) rfl (by kernel_rfl) (by kernel_rfl) (by kernel_rfl) (fun _ _ _ h => h) (Or.inl ⟨by rfl, ?_⟩) hS ?_; rotate_left; focus (intro w hw; clear hw; go_simp; try with_reducible rfl)
 refine wpAnyH_take (i := 10) (v := ?_) rfl (by kernel_rfl) (by kernel_rfl) (by kernel_rfl) (fun _ _ _ h => h) (Or.inl ⟨by rfl, ?_⟩) hS ?_; rotate_left; focus (intro w hw; obtain ⟨l0, l1, l2⟩ := hw; go_simp; try with_reducible rfl)
 refine wpAnyH_take (i := 11) (v := ?_) rfl (by kernel_rfl) (by kernel_rfl) (by kernel_rfl) (fun _ _ _ h => h) (Or.inl ⟨by rfl, ?_⟩) hS ?_; rotate_left; focus (intro w hw; clear hw; go_simp; try with_reducible rfl)
 refine wpAnyH_take (i := 12) (v := ?_) rfl (by kernel_rfl) (by kernel_rfl) (by kernel_rfl) (fun _ _ _ h => h) (Or.inl ⟨by rfl, ?_⟩) hS ?_; rotate_left; focus (intro w hw; clear hw; go_simp; try with_reducible rfl)
 refine wpAnyH_take (i := 13) (v := ?_) rfl (by kernel_rfl) (by kernel_rfl) (by kernel_rfl) (fun _ _ _ h => h) (Or.inl ⟨by rfl, ?_⟩) hS ?_; rotate_left; focus (intro w hw; clear hw; go_simp; try with_reducible rfl)
 refine wpAnyH_take (i := 14) (v := ?_) rfl (by kernel_rfl) (by kernel_rfl) (by kernel_rfl) (fun _ _ _ h => h) (Or.inl ⟨by rfl, ?_⟩) hS ?_; rotate_left; focus (intro w hw; clear hw; go_simp; try with_reducible rfl)
 refine wpAnyH_take (i := 15) (v := ?_) rfl (by kernel_rfl) (by kernel_rfl) (by kernel_rfl) (fun _ _ _ h => h) (Or.inl ⟨by rfl, ?_⟩) hS ?_; rotate_left; focus (intro w hw; clear hw; go_simp; try with_reducible rfl)
 refine wpAnyH_done (by kernel_rfl) ?_ _
 clear hS
 have R0 : aj w.drew b 182 [.int .i64 s, .map (some g)] := R
 have M0 : gU w.drew g (mF s) := M
 have hb0 : Below B0 w w.drew := (Below.refl _ _).drew
 cases o with
 | none =>
  clear hn hlk
  go_wp2_with fail
  refine bodyPost_ret (v := .bool false) (by simp [results, Tryz.results122, go_sem, *]) rfl ?_
  exact ⟨rfl, R0, M0, hb0⟩
 | some v =>
  have hM : ∀ u, gU u g (if v = 4 then cF else mF s) → gU u g (mF v) := fun u hu => by
   unfold mF
   by_cases h4 : v = 4
   ·rw [if_pos h4] at hu ⊢; exact hu
   ·rw [if_neg h4] at hu ⊢
    have hs4 : s ≠ 4 := fun e4 => by
     subst e4
     exact h4 (VN hn)
    unfold mF at hu
    rw [if_neg hs4] at hu
    exact hu
  clear hn hlk
  go_wp2_with fail
  refine (NC B0 b g s v (mF s) _ R0 M0 hbg h1 h2).mono ?_; rintro e w1 ⟨rfl, R1, M1, hb1⟩
  go_wp2_with fail
  refine bodyPost_ret (v := .bool true) (by simp [results, Tryz.results122, go_sem, *]) rfl ?_
  exact ⟨rfl, R1, hM _ M1, hb0.trans hb1⟩
set_option maxHeartbeats 1000000 in
theorem ND (s e : Int) (w : World) : Calls Tryz.prog 97 #[.int .i64 s, .int .i64 e] w fun x w' => x = .returned (.tuple #[.int .i64 (fQ s e).1, .bool (fQ s e).2]) ∧ Below w.heap.size w w' := by
 obtain ⟨⟨n, is⟩, hn⟩ : ∃ y, fQ s e = y := ⟨_, rfl⟩
 rw [hn]
 dsimp only
 go_enter Tryz.func97, Tryz.ntmps97
 go_wp2_with fail
 refine (Xn s _).mono ?_; rintro x w1 ⟨g, rfl, hg, M1, hb1⟩
 have z1 := M1.lt
 have z2 := hb1.size
 go_wp2_with fail
 have R3 := aB w1 182 [.int .i64 s, .map (some g)]
 have M3 := M1.kept (World.grownBy_alloc w1 (.cells #[.int .i64 s, .map (some g)] 182) none) (by simp)
 have b3 : Below w.heap.size w (w1.alloc (.cells #[.int .i64 s, .map (some g)] 182)) := hb1.alloc (by omega) _
 refine (Xo w.heap.size w1.heap.size g s e _ R3 M3 (by omega) (by omega) (by omega)).mono ?_; rintro x w2 ⟨rfl, R4, M4, hb4⟩
 have b4 := hide (b3.trans hb4)
 have x0 := ak 0 R4 rfl
 have xl := R4.lt
 rw [hn] at x0 ⊢
 dsimp only at x0 ⊢
 clear hn M4 R4 hb4 b3 M3 R3 M1 hb1
 go_wp2_with fail
 go_ret2
 exact ⟨rfl, b4.out⟩
theorem Xp (s : Int) : (fQ s 7).2 = jM s := by
 rcases DR s with rfl | rfl | rfl | rfl | rfl | hs
 rotate_left 5
 ·rw [G5 hs]
  obtain ⟨h0, h1, h2, h3, h4⟩ := hs
  simp [jM, h1, h2]
 all_goals decide
theorem Xq (s : Int) (w : World) : Calls Tryz.prog 59 #[.int .i64 s] w fun x w' => x = .returned (.bool (jM s)) ∧ Below w.heap.size w w' := by
 rw [← Xp]
 go_enter Tryz.func59, Tryz.ntmps59
 go_wp2_with fail
 refine (ND s 7 _).mono ?_; rintro x w1 ⟨rfl, hb1⟩
 go_wp2_with fail
 go_ret
 exact ⟨rfl, hb1⟩
abbrev yE (t : jh) : Value := .agg #[.int .i64 t.up.r, .string t.up.b, .bool t.up.e, .bool t.up.k, .int .i64 t.went, .int .i64 t.dn.r, .string t.dn.b, .bool t.dn.e, .bool t.dn.k, .int .i64 t.came]
set_option maxHeartbeats 1000000 in
theorem NG (t : jh) (w : World) : Calls Tryz.prog 146 #[kI t] w fun x w' => x = .returned (yE t) ∧ Below w.heap.size w w' := by
 obtain ⟨⟨r, b, e, k⟩, ⟨r2, b2, e2, k2⟩, wt, cm⟩ := t
 dsimp only [kI, yE] at *
 obtain ⟨W, hW⟩ : ∃ W, ((w.alloc (.cells #[.int .i64 r, .string b, .bool e, .bool k, .int .i64 r2, .string b2, .bool e2, .bool k2, .int .i64 wt, .int .i64 cm] 90)).alloc (.cells #[.int .i64 0, .string ⟨#[]⟩, .bool false, .bool false, .int .i64 0, .int .i64 0, .string ⟨#[]⟩, .bool false, .bool false, .int .i64 0] 208)) = W := ⟨_, rfl⟩
 have RX : aj W w.heap.size 90 [.int .i64 r, .string b, .bool e, .bool k, .int .i64 r2, .string b2, .bool e2, .bool k2, .int .i64 wt, .int .i64 cm] := by rw [← hW]; exact (aB w 90 [.int .i64 r, .string b, .bool e, .bool k, .int .i64 r2, .string b2, .bool e2, .bool k2, .int .i64 wt, .int .i64 cm]).alloc _
 have RY : aj W (w.heap.size + 1) 208 [.int .i64 0, .string ⟨#[]⟩, .bool false, .bool false, .int .i64 0, .int .i64 0, .string ⟨#[]⟩, .bool false, .bool false, .int .i64 0] := by have := aB (w.alloc (.cells #[.int .i64 r, .string b, .bool e, .bool k, .int .i64 r2, .string b2, .bool e2, .bool k2, .int .i64 wt, .int .i64 cm] 90)) 208 [.int .i64 0, .string ⟨#[]⟩, .bool false, .bool false, .int .i64 0, .int .i64 0, .string ⟨#[]⟩, .bool false, .bool false, .int .i64 0]; rw [hW] at this; simpa using this
 have HB : Below w.heap.size w W := by rw [← hW]; exact (((Below.refl _ _).alloc (Nat.le_refl _) _).alloc (by simp) _)
 go_enter Tryz.func146, Tryz.ntmps146
 obtain ⟨x0, x1, x2, x3, x4, x5, x6, x7, x8, x9⟩ := fF RX
 have xf := fun j => aj.frozen RX j
 have xl := RX.lt
 go_wp2_with (refine wpList_store_row (by rfl) 208 _ _ (by rfl) (w.heap.size + 1) [.int .i64 r, .string b, .bool e, .bool k, .int .i64 wt, .int .i64 r2, .string b2, .bool e2, .bool k2, .int .i64 cm] (by rfl) (by rfl) 208 [.int .i64 0, .string ⟨#[]⟩, .bool false, .bool false, .int .i64 0, .int .i64 0, .string ⟨#[]⟩, .bool false, .bool false, .int .i64 0] RY (by kernel_rfl) rfl (by intro u hu; simp at hu; rcases hu with rfl | rfl | rfl | rfl | rfl | rfl | rfl | rfl | rfl | rfl <;> rfl) ?_)
 clear x0 x1 x2 x3 x4 x5 x6 x7 x8 x9 xf xl
 clear hW
 have bX := RX.kept (setRow_other W (w.heap.size + 1) #[.int .i64 r, .string b, .bool e, .bool k, .int .i64 wt, .int .i64 r2, .string b2, .bool e2, .bool k2, .int .i64 cm] w.heap.size (by omega))
 have bY : aj (W.setRow (w.heap.size + 1) #[.int .i64 r, .string b, .bool e, .bool k, .int .i64 wt, .int .i64 r2, .string b2, .bool e2, .bool k2, .int .i64 cm]) (w.heap.size + 1) 208 [.int .i64 r, .string b, .bool e, .bool k, .int .i64 wt, .int .i64 r2, .string b2, .bool e2, .bool k2, .int .i64 cm] := dW (cs' := [.int .i64 r, .string b, .bool e, .bool k, .int .i64 wt, .int .i64 r2, .string b2, .bool e2, .bool k2, .int .i64 cm]) RY
 have bD := below_setRow HB (show w.heap.size ≤ (w.heap.size + 1) by omega) #[.int .i64 r, .string b, .bool e, .bool k, .int .i64 wt, .int .i64 r2, .string b2, .bool e2, .bool k2, .int .i64 cm]
 generalize hV : W.setRow (w.heap.size + 1) #[.int .i64 r, .string b, .bool e, .bool k, .int .i64 wt, .int .i64 r2, .string b2, .bool e2, .bool k2, .int .i64 cm] = V1 at *
 clear hV
 clear RX
 have RX := bX
 clear bX
 clear RY
 have RY := bY
 clear bY
 clear HB
 have HB := bD
 clear bD
 obtain ⟨y0, y1, y2, y3, y4, y5, y6, y7, y8, y9⟩ := fF RY
 have yf := fun j => aj.frozen RY j
 have yl := RY.lt
 refine bodyPost_ret (v := .agg #[.int .i64 r, .string b, .bool e, .bool k, .int .i64 wt, .int .i64 r2, .string b2, .bool e2, .bool k2, .int .i64 cm]) (by simp [results, Tryz.results146, go_sem, *]) rfl ?_
 exact ⟨rfl, HB⟩
set_option maxHeartbeats 1000000 in
theorem Xr (t : jh) (w : World) (h1 : t.up.b.size ≤ maxLen) (h2 : t.dn.b.size ≤ maxLen) : Calls Tryz.prog 147 #[yE t] w fun x w' => x = .returned (.bool (jJ t)) ∧ Below w.heap.size w w' := by
 obtain ⟨⟨r, b, e, k⟩, ⟨r2, b2, e2, k2⟩, wt, cm⟩ := t
 unfold jJ
 dsimp only [yE] at *
 have RX := aB w 208 [.int .i64 r, .string b, .bool e, .bool k, .int .i64 wt, .int .i64 r2, .string b2, .bool e2, .bool k2, .int .i64 cm]
 have HB : Below w.heap.size w (w.alloc (.cells #[.int .i64 r, .string b, .bool e, .bool k, .int .i64 wt, .int .i64 r2, .string b2, .bool e2, .bool k2, .int .i64 cm] 208)) := (Below.refl _ _).alloc (Nat.le_refl _) _
 cases hu : lU ⟨r, b, e, k⟩
 ·go_enter Tryz.func147, Tryz.ntmps147
  go_wp2_with fail
  refine (right r b e k _ h1).mono ?_; rw [show okB r b k = _ from hu]; rintro x w1 ⟨rfl, hb⟩
  replace RX := RX.new hb
  replace HB := ah HB hb
  clear hb
  obtain ⟨x0, x1, x2, x3, x4, x5, x6, x7, x8, x9⟩ := fF RX
  have xf := fun j => aj.frozen RX j
  have xl := RX.lt
  go_wp2_with fail
  go_ret
  exact ⟨rfl, HB⟩
 cases hd : lU ⟨r2, b2, e2, k2⟩
 ·go_enter Tryz.func147, Tryz.ntmps147
  go_wp2_with fail
  refine (right r b e k _ h1).mono ?_; rw [show okB r b k = _ from hu]; rintro x w1 ⟨rfl, hb⟩
  replace RX := RX.new hb
  replace HB := ah HB hb
  clear hb
  obtain ⟨x0, x1, x2, x3, x4, x5, x6, x7, x8, x9⟩ := fF RX
  have xf := fun j => aj.frozen RX j
  have xl := RX.lt
  go_wp2_with fail
  clear x0 x1 x2 x3 x4 x5 x6 x7 x8 x9 xf xl
  refine (right r2 b2 e2 k2 _ h2).mono ?_; rw [show okB r2 b2 k2 = _ from hd]; rintro x w2 ⟨rfl, hb⟩
  replace RX := RX.new hb
  replace HB := ah HB hb
  clear hb
  obtain ⟨x0, x1, x2, x3, x4, x5, x6, x7, x8, x9⟩ := fF RX
  have xf := fun j => aj.frozen RX j
  have xl := RX.lt
  go_wp2_with fail
  go_ret
  exact ⟨rfl, HB⟩
 cases hw : aQ wt 0 1000000
 ·go_enter Tryz.func147, Tryz.ntmps147
  go_wp2_with fail
  refine (right r b e k _ h1).mono ?_; rw [show okB r b k = _ from hu]; rintro x w1 ⟨rfl, hb⟩
  replace RX := RX.new hb
  replace HB := ah HB hb
  clear hb
  obtain ⟨x0, x1, x2, x3, x4, x5, x6, x7, x8, x9⟩ := fF RX
  have xf := fun j => aj.frozen RX j
  have xl := RX.lt
  go_wp2_with fail
  clear x0 x1 x2 x3 x4 x5 x6 x7 x8 x9 xf xl
  refine (right r2 b2 e2 k2 _ h2).mono ?_; rw [show okB r2 b2 k2 = _ from hd]; rintro x w2 ⟨rfl, hb⟩
  replace RX := RX.new hb
  replace HB := ah HB hb
  clear hb
  obtain ⟨x0, x1, x2, x3, x4, x5, x6, x7, x8, x9⟩ := fF RX
  have xf := fun j => aj.frozen RX j
  have xl := RX.lt
  go_wp2_with fail
  refine (iX _ _ _ _).mono ?_; rw [hw]; rintro e w7 ⟨rfl, hsame⟩; obtain rfl := hsame.symm; clear hsame
  go_wp2_with fail
  go_ret
  exact ⟨rfl, HB⟩
 cases hm : aQ cm 0 1000000
 ·go_enter Tryz.func147, Tryz.ntmps147
  go_wp2_with fail
  refine (right r b e k _ h1).mono ?_; rw [show okB r b k = _ from hu]; rintro x w1 ⟨rfl, hb⟩
  replace RX := RX.new hb
  replace HB := ah HB hb
  clear hb
  obtain ⟨x0, x1, x2, x3, x4, x5, x6, x7, x8, x9⟩ := fF RX
  have xf := fun j => aj.frozen RX j
  have xl := RX.lt
  go_wp2_with fail
  clear x0 x1 x2 x3 x4 x5 x6 x7 x8 x9 xf xl
  refine (right r2 b2 e2 k2 _ h2).mono ?_; rw [show okB r2 b2 k2 = _ from hd]; rintro x w2 ⟨rfl, hb⟩
  replace RX := RX.new hb
  replace HB := ah HB hb
  clear hb
  obtain ⟨x0, x1, x2, x3, x4, x5, x6, x7, x8, x9⟩ := fF RX
  have xf := fun j => aj.frozen RX j
  have xl := RX.lt
  go_wp2_with fail
  refine (iX _ _ _ _).mono ?_; rw [hw]; rintro e w7 ⟨rfl, hsame⟩; obtain rfl := hsame.symm; clear hsame
  go_wp2_with fail
  refine (iX _ _ _ _).mono ?_; rw [hm]; rintro e w8 ⟨rfl, hsame⟩; obtain rfl := hsame.symm; clear hsame
  go_wp2_with fail
  go_ret
  exact ⟨rfl, HB⟩
 go_enter Tryz.func147, Tryz.ntmps147
 go_wp2_with fail
 refine (right r b e k _ h1).mono ?_; rw [show okB r b k = _ from hu]; rintro x w1 ⟨rfl, hb⟩
 replace RX := RX.new hb
 replace HB := ah HB hb
 clear hb
 obtain ⟨x0, x1, x2, x3, x4, x5, x6, x7, x8, x9⟩ := fF RX
 have xf := fun j => aj.frozen RX j
 have xl := RX.lt
 go_wp2_with fail
 clear x0 x1 x2 x3 x4 x5 x6 x7 x8 x9 xf xl
 refine (right r2 b2 e2 k2 _ h2).mono ?_; rw [show okB r2 b2 k2 = _ from hd]; rintro x w2 ⟨rfl, hb⟩
 replace RX := RX.new hb
 replace HB := ah HB hb
 clear hb
 obtain ⟨x0, x1, x2, x3, x4, x5, x6, x7, x8, x9⟩ := fF RX
 have xf := fun j => aj.frozen RX j
 have xl := RX.lt
 go_wp2_with fail
 refine (iX _ _ _ _).mono ?_; rw [hw]; rintro e w7 ⟨rfl, hsame⟩; obtain rfl := hsame.symm; clear hsame
 go_wp2_with fail
 refine (iX _ _ _ _).mono ?_; rw [hm]; rintro e w8 ⟨rfl, hsame⟩; obtain rfl := hsame.symm; clear hsame
 go_wp2_with fail
 go_ret
 exact ⟨rfl, HB⟩
set_option maxHeartbeats 1000000 in
theorem Xt (t : jh) (w : World) (h1 : t.up.b.size ≤ 281474976710656) (h2 : t.dn.b.size ≤ 281474976710656) : Calls Tryz.prog 197 #[yE t] w fun x w' => x = .returned (kI t) ∧ Below w.heap.size w w' := by
 obtain ⟨⟨r, b, e, k⟩, ⟨r2, b2, e2, k2⟩, wt, cm⟩ := t
 dsimp only [kI, yE] at *
 obtain ⟨W, hW⟩ : ∃ W, ((w.alloc (.cells #[.int .i64 r, .string b, .bool e, .bool k, .int .i64 wt, .int .i64 r2, .string b2, .bool e2, .bool k2, .int .i64 cm] 208)).alloc (.cells #[.int .i64 0, .string ⟨#[]⟩, .bool false, .bool false, .int .i64 0, .string ⟨#[]⟩, .bool false, .bool false, .int .i64 0, .int .i64 0] 90)) = W := ⟨_, rfl⟩
 have RX : aj W w.heap.size 208 [.int .i64 r, .string b, .bool e, .bool k, .int .i64 wt, .int .i64 r2, .string b2, .bool e2, .bool k2, .int .i64 cm] := by rw [← hW]; exact (aB w 208 [.int .i64 r, .string b, .bool e, .bool k, .int .i64 wt, .int .i64 r2, .string b2, .bool e2, .bool k2, .int .i64 cm]).alloc _
 have RY : aj W (w.heap.size + 1) 90 [.int .i64 0, .string ⟨#[]⟩, .bool false, .bool false, .int .i64 0, .string ⟨#[]⟩, .bool false, .bool false, .int .i64 0, .int .i64 0] := by have := aB (w.alloc (.cells #[.int .i64 r, .string b, .bool e, .bool k, .int .i64 wt, .int .i64 r2, .string b2, .bool e2, .bool k2, .int .i64 cm] 208)) 90 [.int .i64 0, .string ⟨#[]⟩, .bool false, .bool false, .int .i64 0, .string ⟨#[]⟩, .bool false, .bool false, .int .i64 0, .int .i64 0]; rw [hW] at this; simpa using this
 have HB : Below w.heap.size w W := by rw [← hW]; exact (((Below.refl _ _).alloc (Nat.le_refl _) _).alloc (by simp) _)
 go_enter Tryz.func197, Tryz.ntmps197
 go_upto_region 1 with fail
 try rw [hW]
 clear hW
 refine wp_region_held_drew (S := (fun u => aj u w.heap.size 208 [.int .i64 r, .string b, .bool e, .bool k, .int .i64 wt, .int .i64 r2, .string b2, .bool e2, .bool k2, .int .i64 cm])) (by kernel_rfl) (show aj (World.drew W) w.heap.size 208 [.int .i64 r, .string b, .bool e, .bool k, .int .i64 wt, .int .i64 r2, .string b2, .bool e2, .bool k2, .int .i64 cm] from RX) (fun hS => ?_)
 replace RY : aj (World.drew W) (w.heap.size + 1) 90 [.int .i64 0, .string ⟨#[]⟩, .bool false, .bool false, .int .i64 0, .string ⟨#[]⟩, .bool false, .bool false, .int .i64 0, .int .i64 0] := RY
 replace HB := HB.drew
 clear RX
 generalize World.drew W = u0 at *
 refine wpAnyH_take (i := 0) (v := ?_) rfl (by kernel_rfl) (by kernel_rfl) (by kernel_rfl) (fun _ _ _ h => h) (Or.inl ⟨by kernel_rfl, ?_⟩) hS ?_; rotate_left; focus (intro uu hu; clear hu; go_simp; try with_reducible rfl)
 try simp only [Act.put, aI, aJ, aK, aL, aM, aN]
 refine wpAnyH_take (i := 1) (v := ?_) rfl (by kernel_rfl) (by kernel_rfl) (by kernel_rfl) (fun _ _ _ h => h) (Or.inl ⟨by kernel_rfl, ?_⟩) hS ?_; rotate_left; focus (intro uu hu; clear hu; go_simp; try with_reducible rfl)
 try simp only [Act.put, aI, aJ, aK, aL, aM, aN]
 refine wpAnyH_take (i := 2) (v := .agg #[.int .i64 r, .string b, .bool e, .bool k]) rfl (by kernel_rfl) (by kernel_rfl) (by kernel_rfl) (fun _ _ _ h => h) (Or.inl ⟨by kernel_rfl, ?ld⟩) hS ?_; case ld => (intro uu hu; obtain ⟨l0, l1, l2, l3⟩ := wu hu; have ll := hu.lt; clear hu; go_simp)
 try simp only [Act.put, aI, aJ, aK, aL, aM, aN]
 refine wpAnyH_take (i := 4) (v := ?_) rfl (by kernel_rfl) (by kernel_rfl) (by kernel_rfl) (fun _ _ _ h => h) (Or.inl ⟨by kernel_rfl, ?_⟩) hS ?_; rotate_left; focus (intro uu hu; clear hu; go_simp; try with_reducible rfl)
 try simp only [Act.put, aI, aJ, aK, aL, aM, aN]
 refine wpAnyH_take (i := 5) (v := ?_) rfl (by kernel_rfl) (by kernel_rfl) (by kernel_rfl) (fun _ _ _ h => h) (Or.inl ⟨by kernel_rfl, ?_⟩) hS ?_; rotate_left; focus (intro uu hu; clear hu; go_simp; try with_reducible rfl)
 try simp only [Act.put, aI, aJ, aK, aL, aM, aN]
 refine wpAnyH_take (i := 6) (v := .agg #[.int .i64 r2, .string b2, .bool e2, .bool k2]) rfl (by kernel_rfl) (by kernel_rfl) (by kernel_rfl) (fun _ _ _ h => h) (Or.inl ⟨by kernel_rfl, ?ld⟩) hS ?_; case ld => (intro uu hu; have l5 := ak 5 hu rfl; have l6 := ak 6 hu rfl; have l7 := ak 7 hu rfl; have l8 := ak 8 hu rfl; have ll := hu.lt; clear hu; go_simp)
 try simp only [Act.put, aI, aJ, aK, aL, aM, aN]
 refine wpAnyH_take (i := 8) (v := ?_) rfl (by kernel_rfl) (by kernel_rfl) (by kernel_rfl) (fun _ _ _ h => h) (Or.inl ⟨by kernel_rfl, ?_⟩) hS ?_; rotate_left; focus (intro uu hu; clear hu; go_simp; try with_reducible rfl)
 try simp only [Act.put, aI, aJ, aK, aL, aM, aN]
 refine wpAnyH_take (i := 9) (v := ?_) rfl (by kernel_rfl) (by kernel_rfl) (by kernel_rfl) (fun _ _ _ h => h) (Or.inl ⟨by kernel_rfl, ?_⟩) hS ?_; rotate_left; focus (intro uu hu; clear hu; go_simp; try with_reducible rfl)
 try simp only [Act.put, aI, aJ, aK, aL, aM, aN]
 refine wpAnyH_take (i := 10) (v := .int .i64 wt) rfl (by kernel_rfl) (by kernel_rfl) (by kernel_rfl) (fun _ _ _ h => h) (Or.inl ⟨by kernel_rfl, ?ld⟩) hS ?_; case ld => (intro uu hu; have l4 := ak 4 hu rfl; have ll := hu.lt; clear hu; go_simp)
 try simp only [Act.put, aI, aJ, aK, aL, aM, aN]
 refine wpAnyH_take (i := 11) (v := ?_) rfl (by kernel_rfl) (by kernel_rfl) (by kernel_rfl) (fun _ _ _ h => h) (Or.inl ⟨by kernel_rfl, ?_⟩) hS ?_; rotate_left; focus (intro uu hu; clear hu; go_simp; try with_reducible rfl)
 try simp only [Act.put, aI, aJ, aK, aL, aM, aN]
 refine wpAnyH_take (i := 12) (v := ?_) rfl (by kernel_rfl) (by kernel_rfl) (by kernel_rfl) (fun _ _ _ h => h) (Or.inl ⟨by kernel_rfl, ?_⟩) hS ?_; rotate_left; focus (intro uu hu; clear hu; go_simp; try with_reducible rfl)
 try simp only [Act.put, aI, aJ, aK, aL, aM, aN]
 refine wpAnyH_take (i := 13) (v := .int .i64 cm) rfl (by kernel_rfl) (by kernel_rfl) (by kernel_rfl) (fun _ _ _ h => h) (Or.inl ⟨by kernel_rfl, ?ld⟩) hS ?_; case ld => (intro uu hu; have l9 := ak 9 hu rfl; have ll := hu.lt; clear hu; go_simp)
 try simp only [Act.put, aI, aJ, aK, aL, aM, aN]
 refine wpAnyH_ready (rs := [3]) (by kernel_rfl) (by simp) ?_; refine AllReadyH.cons rfl (fun K hK => ?_) AllReadyH.nil; rw [if_pos (by kernel_rfl)]; go_simp
 refine (apart r b e k _ (by omega)).mono ?_; rintro x u1 ⟨rfl, hb⟩
 replace RY := RY.new hb
 replace HB := ah HB hb
 refine hK.out _ _ (hS.new hb) (fun hS => ?_)
 clear hK K hb
 try simp only [Act.put, aI, aJ, aK, aL, aM, aN]
 refine wpAnyH_ready (rs := [7]) (by kernel_rfl) (by simp) ?_; refine AllReadyH.cons rfl (fun K hK => ?_) AllReadyH.nil; rw [if_pos (by kernel_rfl)]; go_simp
 refine (apart r2 b2 e2 k2 _ (by omega)).mono ?_; rintro x u2 ⟨rfl, hb⟩
 replace RY := RY.new hb
 replace HB := ah HB hb
 refine hK.out _ _ (hS.new hb) (fun hS => ?_)
 clear hK K hb
 try simp only [Act.put, aI, aJ, aK, aL, aM, aN]
 refine wpAnyH_take (i := 14) (v := ?_) rfl (by kernel_rfl) (by kernel_rfl) (by kernel_rfl) (fun _ _ _ h => h) (Or.inl ⟨by kernel_rfl, ?_⟩) hS ?_; rotate_left; focus (intro uu hu; clear hu; go_simp; try with_reducible rfl)
 try simp only [Act.put, aI, aJ, aK, aL, aM, aN]
 refine wpAnyH_ready (rs := [15]) (by kernel_rfl) (by simp) ?_; refine AllReadyH.cons rfl (fun K hK => ?_) AllReadyH.nil; rw [if_pos (by kernel_rfl)]
 refine wp_store_row 90 (.tmp 2) (.tmp 17) rfl (w.heap.size + 1) #[.int .i64 r, .string b, .bool e, .bool k, .int .i64 r2, .string b2, .bool e2, .bool k2, .int .i64 wt, .int .i64 cm] rfl rfl 90 #[.int .i64 0, .string ⟨#[]⟩, .bool false, .bool false, .int .i64 0, .string ⟨#[]⟩, .bool false, .bool false, .int .i64 0, .int .i64 0] RY (by kernel_rfl) rfl (by simp [Value.oneCell']) ?_
 have NY : aj (u2.setRow (w.heap.size + 1) #[.int .i64 r, .string b, .bool e, .bool k, .int .i64 r2, .string b2, .bool e2, .bool k2, .int .i64 wt, .int .i64 cm]) (w.heap.size + 1) 90 [.int .i64 r, .string b, .bool e, .bool k, .int .i64 r2, .string b2, .bool e2, .bool k2, .int .i64 wt, .int .i64 cm] := dW (cs' := [.int .i64 r, .string b, .bool e, .bool k, .int .i64 r2, .string b2, .bool e2, .bool k2, .int .i64 wt, .int .i64 cm]) RY
 replace HB := below_setRow HB (show w.heap.size ≤ w.heap.size + 1 by omega) #[.int .i64 r, .string b, .bool e, .bool k, .int .i64 r2, .string b2, .bool e2, .bool k2, .int .i64 wt, .int .i64 cm]
 have hS2 := hS.kept (setRow_other u2 (w.heap.size + 1) #[.int .i64 r, .string b, .bool e, .bool k, .int .i64 r2, .string b2, .bool e2, .bool k2, .int .i64 wt, .int .i64 cm] w.heap.size (by omega))
 clear RY
 generalize hV : u2.setRow (w.heap.size + 1) #[.int .i64 r, .string b, .bool e, .bool k, .int .i64 r2, .string b2, .bool e2, .bool k2, .int .i64 wt, .int .i64 cm] = V9 at *
 clear hV
 refine hK.out _ _ hS2 (fun hS => ?_)
 clear hK K hS2
 try simp only [Act.put, aI, aJ, aK, aL, aM, aN]
 refine wpAnyH_done (by kernel_rfl) ?_ _
 clear hS
 have RY := NY
 go_wp2_with fail
 obtain ⟨y0, y1, y2, y3, y4, y5, y6, y7, y8, y9⟩ := fF RY
 have yf := fun j => aj.frozen RY j
 have yl := RY.lt
 refine bodyPost_ret (v := .agg #[.int .i64 r, .string b, .bool e, .bool k, .int .i64 r2, .string b2, .bool e2, .bool k2, .int .i64 wt, .int .i64 cm]) (by simp [results, Tryz.results197, go_sem, *]) rfl ?_
 exact ⟨rfl, HB⟩
set_option maxHeartbeats 1000000 in
theorem NH (t : jh) (w : World) (h1 : t.up.b.size ≤ maxLen) (h2 : t.dn.b.size ≤ maxLen) : Calls Tryz.prog 116 #[kI t] w fun x w' => x = .returned (.bool (jJ t)) ∧ Below w.heap.size w w' := by
 obtain ⟨⟨r, b, e, k⟩, ⟨r2, b2, e2, k2⟩, wt, cm⟩ := t
 dsimp only [kI] at *
 obtain ⟨W, hW⟩ : ∃ W, (w.alloc (.cells #[.int .i64 r, .string b, .bool e, .bool k, .int .i64 r2, .string b2, .bool e2, .bool k2, .int .i64 wt, .int .i64 cm] 90)) = W := ⟨_, rfl⟩
 have RX : aj W w.heap.size 90 [.int .i64 r, .string b, .bool e, .bool k, .int .i64 r2, .string b2, .bool e2, .bool k2, .int .i64 wt, .int .i64 cm] := by rw [← hW]; exact aB w 90 [.int .i64 r, .string b, .bool e, .bool k, .int .i64 r2, .string b2, .bool e2, .bool k2, .int .i64 wt, .int .i64 cm]
 have HB : Below w.heap.size w W := by rw [← hW]; exact (Below.refl _ _).alloc (Nat.le_refl _) _
 have Xu := fun (u : World) => Xr ⟨⟨r, b, e, k⟩, ⟨r2, b2, e2, k2⟩, wt, cm⟩ u h1 h2
 go_enter Tryz.func116, Tryz.ntmps116
 go_wp2_with (refine wpList_load_row (by rfl) 90 _ (by rfl) w.heap.size (by rfl) [.int .i64 r, .string b, .bool e, .bool k, .int .i64 r2, .string b2, .bool e2, .bool k2, .int .i64 wt, .int .i64 cm] _ 90 RX Tryz.underlying90 rfl (by kernel_rfl) ?_)
 clear hW
 refine (NG ⟨⟨r, b, e, k⟩, ⟨r2, b2, e2, k2⟩, wt, cm⟩ _).mono ?_; rintro x w1 ⟨rfl, hb⟩
 replace RX := RX.new hb
 replace HB := ah HB hb
 clear hb
 go_wp2_with fail
 refine (Xu _).mono ?_; rintro x w2 ⟨rfl, hb⟩
 replace RX := RX.new hb
 replace HB := ah HB hb
 clear hb
 go_wp2_with fail
 go_ret
 exact ⟨rfl, HB⟩
theorem Xv (n : Nat) : (Lib.decDigits n).map (fun c => (c.toNat : Int)) = iK n := by
 induction n using Nat.strongRecOn with
 | _ n ih =>
  by_cases h : n < 10
  ·rw [Lib.decDigits, dif_pos h, DK h]
   simp [UInt8.toNat_ofNat']; omega
  ·rw [Lib.decDigits, dif_neg h, List.map_append, ih (n / 10) (by omega), DJ h]
   congr 1
   simp [UInt8.toNat_ofNat']; omega
theorem Xw (l : List UInt8) : cB (⟨l.toArray⟩ : ByteArray) = l.map (fun c => (c.toNat : Int)) := by simp [cB]
theorem Va (n : Nat) : (⟨(Lib.itoa (n : Int)).toArray⟩ : ByteArray) = strOf (iK n) := by
 refine qC ?_
 rw [uF (fun x hx => by have := Vv n x hx; omega), Xw, Lib.itoa, if_neg (by omega), Int.toNat_natCast, Xv]
end Go.Proofs.YtlpbnkideaojeaaGreatDoor
