/- Lemmas. -/
import Derived.Test.YtlpbnkideaojeaaGreatDoorQRpG13
namespace Go.Proofs.YtlpbnkideaojeaaGreatDoor
open Go.RowKit
set_option maxRecDepth 100000
set_option linter.unusedSimpArgs false
set_option linter.unusedVariables false
def alike (f r : Fd) : Bool := (r.n.toList == f.n.toList) && (r.v.toList == f.v.toList)
def named (f r : Fd) : Bool := r.n.toList == f.n.toList
def numOf (p : Fd → Bool) : List Fd → Nat
 | [] => 0
 | r :: L => if p r then 1 else (if numOf p L = 0 then 0 else numOf p L + 1)
def bn (L : List Fd) (f : Fd) : Int × Bool := if numOf (alike f) L = 0 then ((numOf (named f) L : Int), false) else ((numOf (alike f) L : Int), true)
def wY (room : Int) (L : List Fd) (f : Fd) : Int × Bool := if bI room L then bn L f else (0, false)
theorem OU (p : Fd → Bool) (A B : List Fd) : numOf p (A ++ B) = if numOf p A = 0 then (if numOf p B = 0 then 0 else A.length + numOf p B) else numOf p A := by
 induction A with
 | nil => simp [numOf]
 | cons r A ih =>
  simp only [List.cons_append, numOf, ih]
  by_cases h : p r
  ·simp [h]
  ·simp only [h, if_false, Bool.false_eq_true]
   by_cases h2 : numOf p A = 0
   ·simp only [h2, if_true]
    by_cases h3 : numOf p B = 0
    ·simp [h3]
    ·simp only [h3, if_false]; rw [if_neg (by omega)]; simp; omega
   ·simp [h2]
theorem Ja (p : Fd → Bool) (L : List Fd) (k : Nat) (hk : k < L.length) : numOf p (L.take (k + 1)) = if numOf p (L.take k) = 0 then (if p L[k] then k + 1 else 0) else numOf p (L.take k) := by
 rw [List.take_succ_eq_append_getElem hk, OU]
 have h1 : (L.take k).length = k := by rw [List.length_take]; omega
 simp only [h1, numOf]
 by_cases h : p L[k] <;> simp [h]
theorem Jb (p : Fd → Bool) (L : List Fd) (k : Nat) (hk : k < L.length) (h0 : numOf p (L.take k) = 0) (h1 : p L[k] = true) : numOf p L = k + 1 := by
 have h := Ja p L k hk
 rw [if_pos h0, if_pos h1] at h
 conv => lhs; rw [← List.take_append_drop (k + 1) L]
 rw [OU, h]; simp
theorem Jc (p : Fd → Bool) (L : List Fd) (k : Nat) (hk : k < L.length) (h0 : numOf p (L.take k) = 0) (h1 : p L[k] = false) : numOf p (L.take (k + 1)) = 0 := by
 rw [Ja p L k hk, if_pos h0, h1]; rfl
theorem Ht (p : Fd → Bool) (L : List Fd) : numOf p L ≤ L.length := by
 induction L with
 | nil => simp [numOf]
 | cons r L ih => simp only [numOf, List.length_cons]; split; omega; split <;> omega
set_option maxHeartbeats 1000000 in
theorem Zd (L : List Fd) (room : Int) (v : Value) (f : Fd) (w : World) (hr0 : Reads w v L.length 2 (fv L)) (hL : L.length ≤ 111) :
  Calls Tryz.prog 81 #[.agg #[.int .i64 room, v], .agg #[.string f.n, .string f.v]] w fun x w' => x = .returned (.tuple #[.int .i64 (bn L f).1, .bool (bn L f).2]) ∧ Below w.heap.size w w' := by
 obtain ⟨D, hD⟩ : ∃ D, D = bn L f := ⟨_, rfl⟩
 rw [← hD]
 have HD := hide hD
 obtain ⟨hl, ad, cap, rfl, h1, h2, h3⟩ := hr0
 have H3 := hide h3
 unfold maxLen at h2
 clear h3 hD
 go_enter Tryz.func81, Tryz.ntmps81
 go_wp2_with fail
 generalize hV : (w.alloc (.cells #[.int .i64 room, .slice ad L.length cap] 37)).alloc (.cells #[.string f.n, .string f.v] 104) = V
 have aC : Hid (Below w.heap.size w V) := by show Below _ _ _; rw [← hV]; exact aA ((Below.refl _ _).alloc (Nat.le_refl _) _) _
 have HX : Hid (aj V w.heap.size 37 [.int .i64 room, .slice ad L.length cap]) := by show aj _ _ _ _; rw [← hV]; exact (aB w 37 [.int .i64 room, .slice ad L.length cap]).alloc _
 have HY : Hid (aj V (w.heap.size + 1) 104 [.string f.n, .string f.v]) := by show aj _ _ _ _; rw [← hV]; simpa using aB (w.alloc (.cells #[.int .i64 room, .slice ad L.length cap] 37)) 104 [.string f.n, .string f.v]
 clear hV
 go_loopw [6] (fun i wr => ∃ (k : Nat), i = .int .i64 k ∧ k ≤ L.length ∧ numOf (alike f) (L.take k) = 0 ∧ Below V.heap.size V wr) (fun i _ => L.length - (intOf i).toNat)
 case atStart => exact ⟨0, rfl, Nat.zero_le _, rfl, Below.refl _ _⟩
 case round =>
  obtain ⟨k, rfl, hk, hno, hbr⟩ := hrel
  have x0 := (HX.out.new hbr).cell (j := 0) rfl
  have x1 := (HX.out.new hbr).cell (j := 1) rfl
  have y0 := (HY.out.new hbr).cell (j := 0) rfl
  have y1 := (HY.out.new hbr).cell (j := 1) rfl
  by_cases hlt : k < L.length
  ·obtain ⟨b, o, rfl, hbw, hc⟩ := H3.out (by omega)
   obtain ⟨s0, s1⟩ := kK L k hlt
   have hbx := ah aC.out hbr
   have c0 : wr.cell? ⟨b, o + k * 2, none⟩ = some (.string L[k].n) := by rw [hbx.cell (p := ⟨b, o + k * 2, none⟩) hbw]; exact hc _ _ s0
   have c1 : wr.cell? ⟨b, o + k * 2 + 1, none⟩ = some (.string L[k].v) := by rw [hbx.cell (p := ⟨b, o + k * 2 + 1, none⟩) hbw]; exact hc _ _ s1
   have mh := hide hbx
   clear hc s0 s1 hbx
   have o8 := hide (Jb (alike f) L k hlt hno)
   have o9 := hide (Jc (alike f) L k hlt hno)
   generalize L[k] = r at *
   have yN : (k : Int) < L.length := by omega
   cases hp : alike f r
   ·have tq := hide (o9.out hp)
    have yQ := hide hbr
    have hpf : (r.n.toList == f.n.toList) = false ∨ ((r.n.toList == f.n.toList) = true ∧ (r.v.toList == f.v.toList) = false) := by unfold alike at hp; revert hp; cases (r.n.toList == f.n.toList) <;> simp
    clear o8 o9 hno hbr hp
    rcases hpf with hn | ⟨hn, hv⟩
    ·go_wp2_with fail
     go_quiet (fail)
     go_wp2_with fail
     go_roundw
     case rel => exact ⟨k + 1, by go_num, by omega, tq.out, ay _ yQ.out⟩
     case measure => simp [intOf]; omega
    ·go_wp2_with fail
     go_quiet (fail)
     go_wp2_with fail
     go_roundw
     case rel => exact ⟨k + 1, by go_num, by omega, tq.out, ay _ yQ.out⟩
     case measure => simp [intOf]; omega
   ·have hn : (r.n.toList == f.n.toList) = true ∧ (r.v.toList == f.v.toList) = true := by unfold alike at hp; simpa using hp
    obtain ⟨hn, hv⟩ := hn
    have dL : Hid (D = ((k : Int) + 1, true)) := by show _ = _; rw [HD.out]; have h9 := o8.out hp; simp [bn, h9]
    clear o8 o9 hno hp
    go_wp2_with fail
    go_quiet (fail)
    go_wp2_with fail
    refine bodyPost_ret (v := (.tuple #[.int .i64 ((k : Int) + 1), .bool true])) (by simp [results, Tryz.results81, go_sem, *]) rfl ?_
    rw [dL.out]
    exact ⟨rfl, ay _ mh.out⟩
  ·obtain rfl : k = L.length := by omega
   rw [List.take_length] at hno
   have Er := hide hno
   have Bt := hide (ah aC.out hbr)
   have yO := hide (HX.out.new hbr); have Es := hide (HY.out.new hbr)
   clear hno HX HY aC
   go_wp2_with fail
   clear x0 x1 y0 y1 hbr
   obtain ⟨V1, rfl⟩ : ∃ x : World, x = wr := ⟨_, rfl⟩
   go_loopw [7] (fun i wr => ∃ (k : Nat), i = .int .i64 k ∧ k ≤ L.length ∧ numOf (named f) (L.take k) = 0 ∧ Below V1.heap.size V1 wr) (fun i _ => L.length - (intOf i).toNat)
   case atStart => exact ⟨0, rfl, Nat.zero_le _, rfl, Below.refl _ _⟩
   case round =>
    obtain ⟨k, rfl, hk, hno, hbr⟩ := hrel
    have x0 := (yO.out.new hbr).cell (j := 0) rfl
    have x1 := (yO.out.new hbr).cell (j := 1) rfl
    have y0 := (Es.out.new hbr).cell (j := 0) rfl
    have y1 := (Es.out.new hbr).cell (j := 1) rfl
    by_cases hlt : k < L.length
    ·obtain ⟨b, o, rfl, hbw, hc⟩ := H3.out (by omega)
     obtain ⟨s0, s1⟩ := kK L k hlt
     have hbx := ah Bt.out hbr
     have c0 : wr.cell? ⟨b, o + k * 2, none⟩ = some (.string L[k].n) := by rw [hbx.cell (p := ⟨b, o + k * 2, none⟩) hbw]; exact hc _ _ s0
     have c1 : wr.cell? ⟨b, o + k * 2 + 1, none⟩ = some (.string L[k].v) := by rw [hbx.cell (p := ⟨b, o + k * 2 + 1, none⟩) hbw]; exact hc _ _ s1
     have mh := hide hbx
     clear hc s0 s1 hbx
     have o8 := hide (Jb (named f) L k hlt hno)
     have o9 := hide (Jc (named f) L k hlt hno)
     generalize L[k] = r at *
     have yN : (k : Int) < L.length := by omega
     cases hp : named f r
     ·have tq := hide (o9.out hp)
      have yQ := hide hbr
      have hn : (r.n.toList == f.n.toList) = false := hp
      clear o8 o9 hno hbr hp
      go_wp2_with fail
      go_quiet (fail)
      go_wp2_with fail
      go_roundw
      case rel => exact ⟨k + 1, by go_num, by omega, tq.out, ay _ yQ.out⟩
      case measure => simp [intOf]; omega
     ·have hn : (r.n.toList == f.n.toList) = true := hp
      have dL : Hid (D = ((k : Int) + 1, false)) := by show _ = _; rw [HD.out]; have h9 := o8.out hp; simp [bn, Er.out, h9]
      clear o8 o9 hno hp
      go_wp2_with fail
      go_quiet (fail)
      go_wp2_with fail
      refine bodyPost_ret (v := (.tuple #[.int .i64 ((k : Int) + 1), .bool false])) (by simp [results, Tryz.results81, go_sem, *]) rfl ?_
      rw [dL.out]
      exact ⟨rfl, ay _ mh.out⟩
    ·obtain rfl : k = L.length := by omega
     rw [List.take_length] at hno
     have dL : Hid (D = (0, false)) := by show _ = _; rw [HD.out]; simp [bn, Er.out, hno]
     have mh := hide (ah Bt.out hbr)
     clear hno
     go_wp2_with fail
     refine bodyPost_ret (v := (.tuple #[.int .i64 0, .bool false])) (by simp [results, Tryz.results81, go_sem, *]) rfl ?_
     rw [dL.out]
     exact ⟨rfl, mh.out⟩
set_option maxHeartbeats 1000000 in
theorem Jd (L : List Fd) (room : Int) (v : Value) (f : Fd) (w : World) (hr0 : Reads w v L.length 2 (fv L)) (hf : ∀ f ∈ L, f.fine) (bK : f.fine) --@OKF@
  : Calls Tryz.prog 152 #[.agg #[.int .i64 room, v], .agg #[.string f.n, .string f.v]] w fun x w' => x = .returned (.tuple #[.int .i64 (wY room L f).1, .bool (wY room L f).2]) ∧ Below w.heap.size w w' := by
 obtain ⟨D, hD⟩ : ∃ D, D = wY room L f := ⟨_, rfl⟩
 rw [← hD]
 have HD := hide hD
 have HR := hide hr0
 obtain ⟨hl, ad, cap, rfl, h1, h2, h3⟩ := hr0
 have H3 := hide h3
 unfold maxLen at h2
 clear h3 hD
 go_enter Tryz.func152, Tryz.ntmps152
 go_wp2_with fail
 generalize hV : (w.alloc (.cells #[.int .i64 room, .slice ad L.length cap] 37)).alloc (.cells #[.string f.n, .string f.v] 104) = V
 have aC : Hid (Below w.heap.size w V) := by show Below _ _ _; rw [← hV]; exact aA ((Below.refl _ _).alloc (Nat.le_refl _) _) _
 have HX : Hid (aj V w.heap.size 37 [.int .i64 room, .slice ad L.length cap]) := by show aj _ _ _ _; rw [← hV]; exact (aB w 37 [.int .i64 room, .slice ad L.length cap]).alloc _
 have HY : Hid (aj V (w.heap.size + 1) 104 [.string f.n, .string f.v]) := by show aj _ _ _ _; rw [← hV]; simpa using aB (w.alloc (.cells #[.int .i64 room, .slice ad L.length cap] 37)) 104 [.string f.n, .string f.v]
 clear hV
 refine (IW L room _ _ (HR.out.new aC.out) hf).mono ?_
 rintro x w1 ⟨rfl, hb1⟩
 replace HX := hide (HX.out.new hb1)
 replace HY := hide (HY.out.new hb1)
 replace aC := hide (ah aC.out hb1)
 have x1 := HX.out.cell (j := 1) rfl
 have y0 := HY.out.cell (j := 0) rfl
 have y1 := HY.out.cell (j := 1) rfl
 clear hb1
 cases hR : bI room L
 ·have dL : Hid (D = (0, false)) := by show _ = _; rw [HD.out]; simp [wY, hR]
  go_wp2_with fail
  refine bodyPost_ret (v := (.tuple #[.int .i64 0, .bool false])) (by simp [results, Tryz.results152, go_sem, *]) rfl ?_
  rw [dL.out]
  exact ⟨rfl, aC.out⟩
 have dL : Hid (D = bn L f) := by show _ = _; rw [HD.out]; simp [wY, hR]
 have hlen := (mE hR).2.2.2.2
 go_wp2_with fail
 clear x1 y0 y1
 obtain ⟨V1, rfl⟩ : ∃ x : World, x = w1 := ⟨_, rfl⟩
 have yO := HX; have Es := HY; have Bt := aC
 clear HX HY aC
 go_loopw [6, 15] (fun nm i wr => ∃ (k : Nat), i = .int .i64 k ∧ nm = .int .i64 (numOf (named f) (L.take k) : Nat) ∧ k ≤ L.length ∧ numOf (alike f) (L.take k) = 0 ∧ Below V1.heap.size V1 wr) (fun _ i _ => L.length - (intOf i).toNat)
 case atStart => exact ⟨0, rfl, rfl, Nat.zero_le _, rfl, Below.refl _ _⟩
 case round =>
  obtain ⟨k, rfl, rfl, hk, hno, hbr⟩ := hrel
  have Et := Es.out.new hbr
  have y0 := Et.cell (j := 0) rfl
  have y1 := Et.cell (j := 1) rfl
  have hyl := Et.lt
  clear Et
  by_cases hlt : k < L.length
  ·obtain ⟨b, o, rfl, hbw, hc⟩ := H3.out (by omega)
   obtain ⟨s0, s1⟩ := kK L k hlt
   have hbx := ah Bt.out hbr
   have c0 : wr.cell? ⟨b, o + k * 2, none⟩ = some (.string L[k].n) := by rw [hbx.cell (p := ⟨b, o + k * 2, none⟩) hbw]; exact hc _ _ s0
   have c1 : wr.cell? ⟨b, o + k * 2 + 1, none⟩ = some (.string L[k].v) := by rw [hbx.cell (p := ⟨b, o + k * 2 + 1, none⟩) hbw]; exact hc _ _ s1
   have mh := hide hbx
   have yQ := hide hbr
   clear hc s0 s1 hbx hbr
   have o8 := hide (Jb (alike f) L k hlt hno)
   have o9 := hide (Jc (alike f) L k hlt hno)
   have Je := hide (Ja (named f) L k hlt)
   have hnr : numOf (named f) (L.take k) ≤ k := by have := Ht (named f) (L.take k); rw [List.length_take] at this; omega
   generalize L[k] = r at *
   generalize numOf (named f) (L.take k) = nm at *
   have yN : (k : Int) < L.length := by omega
   have hne : ¬ wr.heap.size = w.heap.size + 1 := by omega
   have hne' : ¬ w.heap.size + 1 = wr.heap.size := by omega
   go_upto_region 7 with fail
   have aP : Below wr.heap.size wr (wr.alloc (.cells #[.string r.n, .string r.v] 104)) := (Below.refl _ _).alloc (Nat.le_refl _) _
   have hz := aB wr 104 [.string r.n, .string r.v]
   have z0 := hz.cell (j := 0) rfl
   have z1 := hz.cell (j := 1) rfl
   have y0' := (aP.cell (p := ⟨w.heap.size + 1, 0, none⟩) hyl).trans y0
   have y1' := (aP.cell (p := ⟨w.heap.size + 1, 1, none⟩) hyl).trans y1
   have Eu := hide (ah yQ.out aP)
   have Ze := hide (ah mh.out aP)
   clear y0 y1 c0 c1 hz aP
   change World.cell? (wr.alloc (.cells #[.string r.n, .string r.v] 104)) _ = _ at z0 z1
   generalize wr.alloc (.cells #[.string r.n, .string r.v] 104) = VR at *
   cases hp : alike f r
   ·have tq := hide (o9.out hp)
    have hpf : (r.n.toList == f.n.toList) = false ∨ ((r.n.toList == f.n.toList) = true ∧ (r.v.toList == f.v.toList) = false) := by unfold alike at hp; revert hp; cases (r.n.toList == f.n.toList) <;> simp
    clear o8 o9 hno hp
    by_cases hz0 : nm = 0
    ·subst hz0
     rcases hpf with hn | ⟨hn, hv⟩
     ·have yR : Hid (numOf (named f) (L.take (k + 1)) = 0) := by show _ = _; rw [Je.out]; simp [named, hn]
      go_wp2_with fail
      go_roundw
      case rel => exact ⟨k + 1, by go_num, by rw [yR.out], by omega, tq.out, Eu.out⟩
      case measure => simp [intOf]; omega
     ·have yR : Hid (numOf (named f) (L.take (k + 1)) = k + 1) := by show _ = _; rw [Je.out]; simp [named, hn]
      go_wp2_with fail
      go_roundw
      case rel => exact ⟨k + 1, by go_num, by rw [yR.out]; simp, by omega, tq.out, Eu.out⟩
      case measure => simp [intOf]; omega
    ·have yR : Hid (numOf (named f) (L.take (k + 1)) = nm) := by show _ = _; rw [Je.out, if_neg hz0]
     have hzI : ¬ (nm : Int) = 0 := by omega
     rcases hpf with hn | ⟨hn, hv⟩
     ·go_wp2_with fail
      go_roundw
      case rel => exact ⟨k + 1, by go_num, by rw [yR.out], by omega, tq.out, Eu.out⟩
      case measure => simp [intOf]; omega
     ·go_wp2_with fail
      go_roundw
      case rel => exact ⟨k + 1, by go_num, by rw [yR.out], by omega, tq.out, Eu.out⟩
      case measure => simp [intOf]; omega
   ·have hn : (r.n.toList == f.n.toList) = true ∧ (r.v.toList == f.v.toList) = true := by unfold alike at hp; simpa using hp
    obtain ⟨hn, hv⟩ := hn
    have HD3 : Hid (D = ((k : Int) + 1, true)) := by show _ = _; rw [dL.out]; have h9 := o8.out hp; simp [bn, h9]
    clear o8 o9 hno hp
    go_wp2_with fail
    refine bodyPost_ret (v := (.tuple #[.int .i64 ((k : Int) + 1), .bool true])) (by simp [results, Tryz.results152, go_sem, *]) rfl ?_
    rw [HD3.out]
    exact ⟨rfl, Ze.out⟩
  ·obtain rfl : k = L.length := by omega
   rw [List.take_length] at hno
   rw [List.take_length]
   have HD3 : Hid (D = (((numOf (named f) L : Nat) : Int), false)) := by show _ = _; rw [dL.out]; simp [bn, hno]
   have mh := hide (ah Bt.out hbr)
   clear hno
   go_wp2_with fail
   refine bodyPost_ret (v := (.tuple #[.int .i64 (numOf (named f) L : Nat), .bool false])) (by simp [results, Tryz.results152, go_sem, *]) rfl ?_
   rw [HD3.out]
   exact ⟨rfl, mh.out⟩
theorem Zf (b first : Nat) (L : List Fd) (f : Fd) (w : World) (h : RingAt w b first L) (hl : L.length ≤ 111) (hf : f.fine) :
  Calls Tryz.prog 153 #[.pointer (some ⟨b, 0, none⟩), .agg #[.string f.n, .string f.v]] w fun x w' => x = .returned (.tuple #[]) ∧ RingAt w' b ((first + 111) % 112) (f :: L) ∧ Turn b (b + 1) w w' := by
 have hrg := Au L
 refine (Zc b first L.length (cu first L) (aS L) f w (gX _ _) h.row h.fst (by omega) hf hrg.1 (by omega)).mono ?_
 rintro x w' ⟨rfl, hr', ht⟩
 refine ⟨rfl, ⟨Nat.mod_lt _ (by omega), by simp only [List.length_cons]; omega, ?_⟩, ht⟩
 rw [← UW f h.fst (by omega)]
 simp only [List.length_cons, aS]
 rw [Int.add_comm (wt f)]
 exact hr'
set_option maxRecDepth 100000 in
set_option maxHeartbeats 4000000 in
theorem OV (L : List Fd) (room : Int) (v : Value) (f : Fd) (w : World) (hr0 : Reads w v L.length 2 (fv L)) (hf : ∀ f ∈ L, f.fine) (bK : f.fine) :
  Calls Tryz.prog 126 #[.agg #[.int .i64 room, v], .agg #[.string f.n, .string f.v]] w fun x w' => ∃ v', x = .returned (.tuple #[.agg #[.int .i64 (lS room L f).1.1, v'], .bool (lS room L f).2]) ∧ w'.ownsRow w.heap.size 104 2 v' (lS room L f).1.2.length (fv (lS room L f).1.2) ∧ Below w.heap.size w w' := by
 obtain ⟨D, hD⟩ : ∃ D, D = lS room L f := ⟨_, rfl⟩
 rw [← hD]
 have HD := hide hD
 have HR := hide hr0
 obtain ⟨hl, ad, cap, rfl, h1, h2, h3⟩ := hr0
 clear h3 hD
 go_enter Tryz.func126, Tryz.ntmps126
 go_wp2_with fail
 generalize hV : ((w.alloc (.cells #[.int .i64 room, .slice ad L.length cap] 37)).alloc (.cells #[.string f.n, .string f.v] 104)).alloc (.cells #[.int .i64 0, .slice none 0 0] 37) = V
 have aC : Hid (Below w.heap.size w V) := by show Below _ _ _; rw [← hV]; exact aA (aA ((Below.refl _ _).alloc (Nat.le_refl _) _) _) _
 have HX : Hid (aj V w.heap.size 37 [.int .i64 room, .slice ad L.length cap]) := by show aj _ _ _ _; rw [← hV]; exact ((aB w 37 [.int .i64 room, .slice ad L.length cap]).alloc _).alloc _
 have HY : Hid (aj V (w.heap.size + 1) 104 [.string f.n, .string f.v]) := by show aj _ _ _ _; rw [← hV]; exact (by simpa using aB (w.alloc (.cells #[.int .i64 room, .slice ad L.length cap] 37)) 104 [.string f.n, .string f.v] : aj _ (w.heap.size + 1) _ _).alloc _
 have HRR : Hid (aj V (w.heap.size + 1 + 1) 37 [.int .i64 0, .slice none 0 0]) := by show aj _ _ _ _; rw [← hV]; simpa using aB ((w.alloc (.cells #[.int .i64 room, .slice ad L.length cap] 37)).alloc (.cells #[.string f.n, .string f.v] 104)) 37 [.int .i64 0, .slice none 0 0]
 have jy := HRR.out.lt
 clear hV
 refine (IX L room _ _ (HR.out.new aC.out) hf).mono ?_
 rintro x w1 ⟨cs, hcl, hone, rfl, hcs, hb1⟩
 have kP := hide hone
 have Bu := hide hcs
 have hb6 := hb1.size
 replace HX := hide (HX.out.new hb1)
 replace HY := hide (HY.out.new hb1)
 replace HRR := hide (HRR.out.new hb1)
 replace aC := hide (ah aC.out hb1)
 clear hone hcs hb1
 have iy : Below w1.heap.size w1 ((w1.alloc (.cells bR.toArray 172)).setRow w1.heap.size cs.toArray) := below_setRow ((Below.refl _ _).alloc (Nat.le_refl _) _) (Nat.le_refl _) _
 have dS : aj ((w1.alloc (.cells bR.toArray 172)).setRow w1.heap.size cs.toArray) w1.heap.size 172 cs := dW (aB w1 172 bR)
 have iO := hide dS
 have wZ := hide iy
 clear dS iy
 cases hR : bI room L
 ·have dL : Hid (D = ((0, []), false)) := by show _ = _; rw [HD.out]; simp [lS, hR]
  go_upto_region 2 with (first | (refine wJ (by rfl) 172 (by rfl) bR jd.1 ?_) | (refine wpList_store_row (by rfl) 172 _ _ (by rfl) (w1.heap.size) (cs) (by rfl) (by rfl) 172 (bR) (aB w1 172 bR) (by rw [hcl]; exact jd.2) (Eq.trans jD (Eq.symm hcl)) (kP.out) ?_))
  generalize (w1.alloc (.cells bR.toArray 172)).setRow w1.heap.size cs.toArray = w2 at *
  have iy := wZ.out
  replace HX := hide (HX.out.new iy)
  replace HY := hide (HY.out.new iy)
  replace HRR := hide (HRR.out.new iy)
  replace aC := hide (ah aC.out iy)
  have r0 := HRR.out.cell (j := 0) rfl
  have r1 := HRR.out.cell (j := 1) rfl
  have r2 := HRR.out.frozen 0
  have r3 := HRR.out.frozen 1
  go_wp2_with fail
  refine bodyPost_ret (v := (.tuple #[.agg #[.int .i64 0, .slice none 0 0], .bool false])) (by simp [results, Tryz.results126, go_sem, *]) rfl ?_
  rw [dL.out]
  exact ⟨_, rfl, Gq _ _ _, (aC.out.setCell (show w.heap.size ≤ w.heap.size + 1 + 1 by omega) _).setCell (show w.heap.size ≤ w.heap.size + 1 + 1 by omega) _⟩
 obtain ⟨OW, hrm1, hall, hsum, hlen⟩ := mE hR
 have kF := hide hall
 have hcs := Bu.out hR
 subst hcs
 clear hall
 go_upto_region 2 with (first | (refine wJ (by rfl) 172 (by rfl) bR jd.1 ?_) | (refine wpList_store_row (by rfl) 172 _ _ (by rfl) (w1.heap.size) ((rC (cu 0 L) 0 L.length (aS L))) (by rfl) (by rfl) 172 (bR) (aB w1 172 bR) (by rw [hcl]; exact jd.2) (Eq.trans jD (Eq.symm hcl)) (kP.out) ?_))
 generalize (w1.alloc (.cells bR.toArray 172)).setRow w1.heap.size (rC (cu 0 L) 0 L.length (aS L)).toArray = w2 at *
 have iy := wZ.out
 have dA : Hid (RingAt w2 w1.heap.size 0 L) := ⟨by omega, by omega, iO.out⟩
 replace HX := hide (HX.out.new iy)
 replace HY := hide (HY.out.new iy)
 replace HRR := hide (HRR.out.new iy)
 replace aC := hide (ah aC.out iy)
 clear iy wZ iO kP Bu hcl
 have x0 := HX.out.cell (j := 0) rfl
 have x1 := HX.out.cell (j := 1) rfl
 have y0 := HY.out.cell (j := 0) rfl
 have y1 := HY.out.cell (j := 1) rfl
 have r0 := HRR.out.cell (j := 0) rfl
 have r1 := HRR.out.cell (j := 1) rfl
 have r2 := HRR.out.frozen 0
 have r3 := HRR.out.frozen 1
 cases hok : okF f
 ·have dL : Hid (D = ((room, L), false)) := by show _ = _; rw [HD.out]; simp [lS, hR, hok]
  go_wp2_with fail
  refine (yu f _ bK).mono ?_; rw [hok]; rintro x w3 ⟨rfl, hb3⟩
  replace HX := hide (HX.out.new hb3)
  replace HY := hide (HY.out.new hb3)
  replace HRR := hide (HRR.out.new hb3)
  replace aC := hide (ah aC.out hb3)
  replace dA := hide (dA.out.new hb3)
  clear x0 x1 y0 y1 r0 r1 r2 r3
  clear hb3
  have x0 := HX.out.cell (j := 0) rfl
  have x1 := HX.out.cell (j := 1) rfl
  have y0 := HY.out.cell (j := 0) rfl
  have y1 := HY.out.cell (j := 1) rfl
  have r0 := HRR.out.cell (j := 0) rfl
  have r1 := HRR.out.cell (j := 1) rfl
  have r2 := HRR.out.frozen 0
  have r3 := HRR.out.frozen 1
  go_wp2_with fail
  clear x0 x1 y0 y1 r0 r1 r2 r3
  refine (Ep w1.heap.size 0 L room _ dA.out kF.out).mono ?_
  rintro x w9 ⟨v9, rfl, eF, bV⟩
  obtain ⟨a9, p9, rfl, _⟩ := bW eF
  have hov : ∀ q, (Value.slice a9 (L).length p9).ownBlock = some q → w.heap.size + 1 + 1 + 1 ≤ q := fun q hq => by have h1 := (eF.lt q hq).1; have h2 := HRR.out.lt; omega
  have HO := hide eF
  clear eF
  replace HX := hide (HX.out.new bV)
  replace HY := hide (HY.out.new bV)
  replace HRR := hide (HRR.out.new bV)
  replace aC := hide (ah aC.out bV)
  clear bV
  have r0 := HRR.out.cell (j := 0) rfl
  have r1 := HRR.out.cell (j := 1) rfl
  have r2 := HRR.out.frozen 0
  have r3 := HRR.out.frozen 1
  generalize hgl : (L).length = gl at *
  go_wp2_with fail
  refine bodyPost_ret (v := (.tuple #[.agg #[.int .i64 (room), .slice a9 gl p9], .bool false])) (by simp [results, Tryz.results126, go_sem, *]) rfl ?_
  rw [dL.out]
  subst hgl
  exact ⟨_, rfl, (eG (iq (w.heap.size + 1 + 1 + 1) (iq (w.heap.size + 1 + 1 + 1) HO.out hov _ _ (show w.heap.size + 1 + 1 < w.heap.size + 1 + 1 + 1 by omega)) hov _ _ (show w.heap.size + 1 + 1 < w.heap.size + 1 + 1 + 1 by omega)) (fun q hq => by have := hov q hq; omega)), (aC.out.setCell (show w.heap.size ≤ w.heap.size + 1 + 1 by omega) _).setCell (show w.heap.size ≤ w.heap.size + 1 + 1 by omega) _⟩
 ·have dL : Hid (D = ((room, shr room (f :: L)), true)) := by show _ = _; rw [HD.out]; simp [lS, hR, hok]
  go_wp2_with fail
  refine (yu f _ bK).mono ?_; rw [hok]; rintro x w3 ⟨rfl, hb3⟩
  replace HX := hide (HX.out.new hb3)
  replace HY := hide (HY.out.new hb3)
  replace HRR := hide (HRR.out.new hb3)
  replace aC := hide (ah aC.out hb3)
  replace dA := hide (dA.out.new hb3)
  clear x0 x1 y0 y1 r0 r1 r2 r3
  clear hb3
  have x0 := HX.out.cell (j := 0) rfl
  have x1 := HX.out.cell (j := 1) rfl
  have y0 := HY.out.cell (j := 0) rfl
  have y1 := HY.out.cell (j := 1) rfl
  have r0 := HRR.out.cell (j := 0) rfl
  have r1 := HRR.out.cell (j := 1) rfl
  have r2 := HRR.out.frozen 0
  have r3 := HRR.out.frozen 1
  go_wp2_with fail
  refine (Zf w1.heap.size 0 L f _ dA.out hlen bK).mono ?_; rintro x w4 ⟨rfl, Bh, gZ⟩
  replace HX := hide (HX.out.kept (gZ.block _ HX.out.lt (by omega)))
  replace HY := hide (HY.out.kept (gZ.block _ HY.out.lt (by omega)))
  replace HRR := hide (HRR.out.kept (gZ.block _ HRR.out.lt (by omega)))
  replace aC := hide (aC.out.trans (gZ.below (by omega) aC.out.size))
  clear x0 x1 y0 y1 r0 r1 r2 r3
  have Zg := hide Bh
  clear Bh gZ
  have OX : Hid (∀ g ∈ f :: L, okF g = true) := fun g hg => by rcases List.mem_cons.1 hg with rfl | hg; exact hok; exact kF.out g hg
  have x0 := HX.out.cell (j := 0) rfl
  have x1 := HX.out.cell (j := 1) rfl
  have y0 := HY.out.cell (j := 0) rfl
  have y1 := HY.out.cell (j := 1) rfl
  have r0 := HRR.out.cell (j := 0) rfl
  have r1 := HRR.out.cell (j := 1) rfl
  have r2 := HRR.out.frozen 0
  have r3 := HRR.out.frozen 1
  go_wp2_with fail
  refine (Iw w1.heap.size _ (f :: L) room _ Zg.out OX.out OW).mono ?_; rintro x w5 ⟨rfl, uQ, fM⟩
  replace HX := hide (HX.out.kept (fM.block _ HX.out.lt (by omega)))
  replace HY := hide (HY.out.kept (fM.block _ HY.out.lt (by omega)))
  replace HRR := hide (HRR.out.kept (fM.block _ HRR.out.lt (by omega)))
  replace aC := hide (aC.out.trans (fM.below (by omega) aC.out.size))
  clear x0 x1 y0 y1 r0 r1 r2 r3
  have Jf := hide uQ
  clear uQ fM
  have x0 := HX.out.cell (j := 0) rfl
  have x1 := HX.out.cell (j := 1) rfl
  have y0 := HY.out.cell (j := 0) rfl
  have y1 := HY.out.cell (j := 1) rfl
  have r0 := HRR.out.cell (j := 0) rfl
  have r1 := HRR.out.cell (j := 1) rfl
  have r2 := HRR.out.frozen 0
  have r3 := HRR.out.frozen 1
  go_wp2_with fail
  clear x0 x1 y0 y1 r0 r1 r2 r3
  refine (Ep w1.heap.size _ (shr room (f :: L)) room _ Jf.out (DW OX.out)).mono ?_
  rintro x w9 ⟨v9, rfl, eF, bV⟩
  obtain ⟨a9, p9, rfl, _⟩ := bW eF
  have hov : ∀ q, (Value.slice a9 ((shr room (f :: L))).length p9).ownBlock = some q → w.heap.size + 1 + 1 + 1 ≤ q := fun q hq => by have h1 := (eF.lt q hq).1; have h2 := HRR.out.lt; omega
  have HO := hide eF
  clear eF
  replace HX := hide (HX.out.new bV)
  replace HY := hide (HY.out.new bV)
  replace HRR := hide (HRR.out.new bV)
  replace aC := hide (ah aC.out bV)
  clear bV
  have r0 := HRR.out.cell (j := 0) rfl
  have r1 := HRR.out.cell (j := 1) rfl
  have r2 := HRR.out.frozen 0
  have r3 := HRR.out.frozen 1
  generalize hgl : ((shr room (f :: L))).length = gl at *
  go_wp2_with fail
  refine bodyPost_ret (v := (.tuple #[.agg #[.int .i64 (room), .slice a9 gl p9], .bool true])) (by simp [results, Tryz.results126, go_sem, *]) rfl ?_
  rw [dL.out]
  subst hgl
  exact ⟨_, rfl, (eG (iq (w.heap.size + 1 + 1 + 1) (iq (w.heap.size + 1 + 1 + 1) HO.out hov _ _ (show w.heap.size + 1 + 1 < w.heap.size + 1 + 1 + 1 by omega)) hov _ _ (show w.heap.size + 1 + 1 < w.heap.size + 1 + 1 + 1 by omega)) (fun q hq => by have := hov q hq; omega)), (aC.out.setCell (show w.heap.size ≤ w.heap.size + 1 + 1 by omega) _).setCell (show w.heap.size ≤ w.heap.size + 1 + 1 by omega) _⟩
set_option maxRecDepth 100000 in
set_option maxHeartbeats 4000000 in
theorem Zh (L : List Fd) (room : Int) (v : Value) (r : Int) (w : World) (hr0 : Reads w v L.length 2 (fv L)) (hf : ∀ f ∈ L, f.fine) :
  Calls Tryz.prog 119 #[.agg #[.int .i64 room, v], .int .i64 r] w fun x w' => ∃ v', x = .returned (.tuple #[.agg #[.int .i64 (jH room L r).1.1, v'], .bool (jH room L r).2]) ∧ w'.ownsRow w.heap.size 104 2 v' (jH room L r).1.2.length (fv (jH room L r).1.2) ∧ Below w.heap.size w w' := by
 obtain ⟨D, hD⟩ : ∃ D, D = jH room L r := ⟨_, rfl⟩
 rw [← hD]
 have HD := hide hD
 have HR := hide hr0
 obtain ⟨hl, ad, cap, rfl, h1, h2, h3⟩ := hr0
 clear h3 hD
 go_enter Tryz.func119, Tryz.ntmps119
 go_wp2_with fail
 generalize hV : (w.alloc (.cells #[.int .i64 room, .slice ad L.length cap] 37)).alloc (.cells #[.int .i64 0, .slice none 0 0] 37) = V
 have aC : Hid (Below w.heap.size w V) := by show Below _ _ _; rw [← hV]; exact aA ((Below.refl _ _).alloc (Nat.le_refl _) _) _
 have HX : Hid (aj V w.heap.size 37 [.int .i64 room, .slice ad L.length cap]) := by show aj _ _ _ _; rw [← hV]; exact (aB w 37 [.int .i64 room, .slice ad L.length cap]).alloc _
 have HRR : Hid (aj V (w.heap.size + 1) 37 [.int .i64 0, .slice none 0 0]) := by show aj _ _ _ _; rw [← hV]; simpa using aB (w.alloc (.cells #[.int .i64 room, .slice ad L.length cap] 37)) 37 [.int .i64 0, .slice none 0 0]
 have jy := HRR.out.lt
 clear hV
 refine (IX L room _ _ (HR.out.new aC.out) hf).mono ?_
 rintro x w1 ⟨cs, hcl, hone, rfl, hcs, hb1⟩
 have kP := hide hone
 have Bu := hide hcs
 have hb6 := hb1.size
 replace HX := hide (HX.out.new hb1)
 replace HRR := hide (HRR.out.new hb1)
 replace aC := hide (ah aC.out hb1)
 clear hone hcs hb1
 have iy : Below w1.heap.size w1 ((w1.alloc (.cells bR.toArray 172)).setRow w1.heap.size cs.toArray) := below_setRow ((Below.refl _ _).alloc (Nat.le_refl _) _) (Nat.le_refl _) _
 have dS : aj ((w1.alloc (.cells bR.toArray 172)).setRow w1.heap.size cs.toArray) w1.heap.size 172 cs := dW (aB w1 172 bR)
 have iO := hide dS
 have wZ := hide iy
 clear dS iy
 cases hR : bI room L
 ·have dL : Hid (D = ((0, []), false)) := by show _ = _; rw [HD.out]; simp [jH, hR]
  go_upto_region 2 with (first | (refine wJ (by rfl) 172 (by rfl) bR jd.1 ?_) | (refine wpList_store_row (by rfl) 172 _ _ (by rfl) (w1.heap.size) (cs) (by rfl) (by rfl) 172 (bR) (aB w1 172 bR) (by rw [hcl]; exact jd.2) (Eq.trans jD (Eq.symm hcl)) (kP.out) ?_))
  generalize (w1.alloc (.cells bR.toArray 172)).setRow w1.heap.size cs.toArray = w2 at *
  have iy := wZ.out
  replace HX := hide (HX.out.new iy)
  replace HRR := hide (HRR.out.new iy)
  replace aC := hide (ah aC.out iy)
  have r0 := HRR.out.cell (j := 0) rfl
  have r1 := HRR.out.cell (j := 1) rfl
  have r2 := HRR.out.frozen 0
  have r3 := HRR.out.frozen 1
  go_wp2_with fail
  refine bodyPost_ret (v := (.tuple #[.agg #[.int .i64 0, .slice none 0 0], .bool false])) (by simp [results, Tryz.results119, go_sem, *]) rfl ?_
  rw [dL.out]
  exact ⟨_, rfl, Gq _ _ _, (aC.out.setCell (show w.heap.size ≤ w.heap.size + 1 by omega) _).setCell (show w.heap.size ≤ w.heap.size + 1 by omega) _⟩
 obtain ⟨OW, hrm1, hall, hsum, hlen⟩ := mE hR
 have kF := hide hall
 have hcs := Bu.out hR
 subst hcs
 clear hall
 go_upto_region 2 with (first | (refine wJ (by rfl) 172 (by rfl) bR jd.1 ?_) | (refine wpList_store_row (by rfl) 172 _ _ (by rfl) (w1.heap.size) ((rC (cu 0 L) 0 L.length (aS L))) (by rfl) (by rfl) 172 (bR) (aB w1 172 bR) (by rw [hcl]; exact jd.2) (Eq.trans jD (Eq.symm hcl)) (kP.out) ?_))
 generalize (w1.alloc (.cells bR.toArray 172)).setRow w1.heap.size (rC (cu 0 L) 0 L.length (aS L)).toArray = w2 at *
 have iy := wZ.out
 have dA : Hid (RingAt w2 w1.heap.size 0 L) := ⟨by omega, by omega, iO.out⟩
 replace HX := hide (HX.out.new iy)
 replace HRR := hide (HRR.out.new iy)
 replace aC := hide (ah aC.out iy)
 clear iy wZ iO kP Bu hcl
 have x0 := HX.out.cell (j := 0) rfl
 have x1 := HX.out.cell (j := 1) rfl
 have r0 := HRR.out.cell (j := 0) rfl
 have r1 := HRR.out.cell (j := 1) rfl
 have r2 := HRR.out.frozen 0
 have r3 := HRR.out.frozen 1
 cases hok : aQ r 0 1000
 ·have dL : Hid (D = ((room, L), false)) := by show _ = _; rw [HD.out]; simp [jH, hR, hok]
  go_wp2_with fail
  refine (Av r _).mono ?_; rw [hok]; rintro x w3 ⟨rfl, rfl⟩
  go_wp2_with fail
  clear x0 x1 r0 r1 r2 r3
  refine (Ep w1.heap.size 0 L room _ dA.out kF.out).mono ?_
  rintro x w9 ⟨v9, rfl, eF, bV⟩
  obtain ⟨a9, p9, rfl, _⟩ := bW eF
  have hov : ∀ q, (Value.slice a9 (L).length p9).ownBlock = some q → w.heap.size + 1 + 1 ≤ q := fun q hq => by have h1 := (eF.lt q hq).1; have h2 := HRR.out.lt; omega
  have HO := hide eF
  clear eF
  replace HX := hide (HX.out.new bV)
  replace HRR := hide (HRR.out.new bV)
  replace aC := hide (ah aC.out bV)
  clear bV
  have r0 := HRR.out.cell (j := 0) rfl
  have r1 := HRR.out.cell (j := 1) rfl
  have r2 := HRR.out.frozen 0
  have r3 := HRR.out.frozen 1
  generalize hgl : (L).length = gl at *
  go_wp2_with fail
  refine bodyPost_ret (v := (.tuple #[.agg #[.int .i64 (room), .slice a9 gl p9], .bool false])) (by simp [results, Tryz.results119, go_sem, *]) rfl ?_
  rw [dL.out]
  subst hgl
  exact ⟨_, rfl, (eG (iq (w.heap.size + 1 + 1) (iq (w.heap.size + 1 + 1) HO.out hov _ _ (show w.heap.size + 1 < w.heap.size + 1 + 1 by omega)) hov _ _ (show w.heap.size + 1 < w.heap.size + 1 + 1 by omega)) (fun q hq => by have := hov q hq; omega)), (aC.out.setCell (show w.heap.size ≤ w.heap.size + 1 by omega) _).setCell (show w.heap.size ≤ w.heap.size + 1 by omega) _⟩
 ·have dL : Hid (D = ((r, shr r L), true)) := by show _ = _; rw [HD.out]; simp [jH, hR, hok]
  go_wp2_with fail
  refine (Av r _).mono ?_; rw [hok]; rintro x w3 ⟨rfl, rfl⟩
  go_wp2_with fail
  refine (Iw w1.heap.size _ L r _ dA.out kF.out (jm hok).1).mono ?_; rintro x w5 ⟨rfl, uQ, fM⟩
  replace HX := hide (HX.out.kept (fM.block _ HX.out.lt (by omega)))
  replace HRR := hide (HRR.out.kept (fM.block _ HRR.out.lt (by omega)))
  replace aC := hide (aC.out.trans (fM.below (by omega) aC.out.size))
  clear x0 x1 r0 r1 r2 r3
  have Jf := hide uQ
  clear uQ fM
  have x0 := HX.out.cell (j := 0) rfl
  have x1 := HX.out.cell (j := 1) rfl
  have r0 := HRR.out.cell (j := 0) rfl
  have r1 := HRR.out.cell (j := 1) rfl
  have r2 := HRR.out.frozen 0
  have r3 := HRR.out.frozen 1
  go_wp2_with fail
  clear x0 x1 r0 r1 r2 r3
  refine (Ep w1.heap.size _ (shr r L) r _ Jf.out (DW kF.out)).mono ?_
  rintro x w9 ⟨v9, rfl, eF, bV⟩
  obtain ⟨a9, p9, rfl, _⟩ := bW eF
  have hov : ∀ q, (Value.slice a9 ((shr r L)).length p9).ownBlock = some q → w.heap.size + 1 + 1 ≤ q := fun q hq => by have h1 := (eF.lt q hq).1; have h2 := HRR.out.lt; omega
  have HO := hide eF
  clear eF
  replace HX := hide (HX.out.new bV)
  replace HRR := hide (HRR.out.new bV)
  replace aC := hide (ah aC.out bV)
  clear bV
  have r0 := HRR.out.cell (j := 0) rfl
  have r1 := HRR.out.cell (j := 1) rfl
  have r2 := HRR.out.frozen 0
  have r3 := HRR.out.frozen 1
  generalize hgl : ((shr r L)).length = gl at *
  go_wp2_with fail
  refine bodyPost_ret (v := (.tuple #[.agg #[.int .i64 (r), .slice a9 gl p9], .bool true])) (by simp [results, Tryz.results119, go_sem, *]) rfl ?_
  rw [dL.out]
  subst hgl
  exact ⟨_, rfl, (eG (iq (w.heap.size + 1 + 1) (iq (w.heap.size + 1 + 1) HO.out hov _ _ (show w.heap.size + 1 < w.heap.size + 1 + 1 by omega)) hov _ _ (show w.heap.size + 1 < w.heap.size + 1 + 1 by omega)) (fun q hq => by have := hov q hq; omega)), (aC.out.setCell (show w.heap.size ≤ w.heap.size + 1 by omega) _).setCell (show w.heap.size ≤ w.heap.size + 1 by omega) _⟩
end Go.Proofs.YtlpbnkideaojeaaGreatDoor
