/- Lemmas. -/
import Derived.Test.YtlpbnkideaojeaaGreatDoorQRpG9
namespace Go.Proofs.YtlpbnkideaojeaaGreatDoor
open Go.RowKit
set_option maxRecDepth 100000
set_option linter.unusedSimpArgs false
set_option linter.unusedVariables false
def gP (b : Int) : Int := if 97 ≤ b ∧ b ≤ 122 then b - 97 else if b = 45 then 26 else if b = 46 then 27 else if b = 47 then 28 else if b = 58 then 29 else if b = 61 then 30 else -1
def oV (n : Int) : Int := if n < 26 then 97 + n else if n = 26 then 45 else if n = 27 then 46 else if n = 28 then 47 else if n = 29 then 58 else 61
theorem Ii (b : Int) : -1 ≤ gP b ∧ gP b ≤ 30 := by unfold gP; repeat' split <;> omega
theorem Yd {n : Int} (h0 : 0 ≤ n) (h1 : n ≤ 30) : 0 ≤ oV n ∧ oV n ≤ 255 := by unfold oV; repeat' split <;> omega
theorem X6 {b : Int} (h : 0 ≤ gP b) : oV (gP b) = b := by
 unfold gP at h ⊢
 unfold oV
 repeat' split at h
 all_goals (repeat' split) <;> omega
theorem Ye {b : Int} (h : 97 ≤ b) (h2 : b ≤ 122) : gP b = b - 97 := by simp [gP, h, h2]
theorem nZ (b : Nat) (w : World) (h : b ≤ 12) : Calls Tryz.prog 167 #[.int .i64 b] w fun e w' => e = .returned (.int .i64 (tw b - 1)) ∧ w' = w := by
 have : b = 0 ∨ b = 1 ∨ b = 2 ∨ b = 3 ∨ b = 4 ∨ b = 5 ∨ b = 6 ∨ b = 7 ∨ b = 8 ∨ b = 9 ∨ b = 10 ∨ b = 11 ∨ b = 12 := by omega
 rcases this with rfl | rfl | rfl | rfl | rfl | rfl | rfl | rfl | rfl | rfl | rfl | rfl | rfl
 all_goals
  go_enter Tryz.func167, Tryz.ntmps167
  go_wp2_with fail
  go_ret
  exact ⟨rfl, rfl⟩
set_option maxHeartbeats 1000000 in
theorem sH (b : Int) (w : World) (h0 : 0 ≤ b) (h1 : b ≤ 255) : Calls Tryz.prog 137 #[.int .u8 b] w fun e w' => e = .returned (.int .i64 (gP b)) ∧ w' = w := by
 by_cases h : 97 ≤ b ∧ b ≤ 122
 ·rw [Ye h.1 h.2]
  obtain ⟨ha, hb⟩ := h
  go_enter Tryz.func137, Tryz.ntmps137
  go_wp2_with fail
  go_ret
  exact ⟨by go_num, rfl⟩
 have hab : ¬ 97 ≤ b ∨ (97 ≤ b ∧ ¬ b ≤ 122) := by omega
 clear h
 rcases hab with ha | ⟨ha, hb⟩
 all_goals
  go_enter Tryz.func137, Tryz.ntmps137
  go_wp2_with fail
  go_loop [4] (fun v => ∃ k : Nat, v = .int .i64 k ∧ k ≤ 5 ∧ Hid ((1 ≤ k → b ≠ 45) ∧ (2 ≤ k → b ≠ 46) ∧ (3 ≤ k → b ≠ 47) ∧ (4 ≤ k → b ≠ 58) ∧ (5 ≤ k → b ≠ 61))) (fun v => 5 - (intOf v).toNat)
  case atStart => exact ⟨0, rfl, by omega, ⟨by omega, by omega, by omega, by omega, by omega⟩⟩
  case round =>
   obtain ⟨k, rfl, hk, hm⟩ := hrel
   by_cases k5 : k = 5
   ·subst k5
    have HS : Hid (gP b = -1) := by
     have hm := hm.out
     show _ = _
     unfold gP
     repeat' split <;> omega
    clear hm
    go_wp2_with fail
    go_ret
    rw [HS.out]
    exact ⟨rfl, rfl⟩
   have : k = 0 ∨ k = 1 ∨ k = 2 ∨ k = 3 ∨ k = 4 := by omega
   clear k5
   rcases this with rfl | rfl | rfl | rfl | rfl
   ·go_wp2_with fail
    ·rename_i he _
     have e : b = 45 := (eq_of_beq he).symm.trans rfl
     subst e
     go_ret
     exact ⟨rfl, rfl⟩
    ·rename_i he
     have e : b ≠ 45 := by intro q; subst q; revert he; decide
     go_round
     case rel => exact ⟨1, by go_num, by omega, by have hm := hm.out; exact ⟨by omega, by omega, by omega, by omega, by omega⟩⟩
     case measure => simp [intOf]
   ·go_wp2_with fail
    ·rename_i he _
     have e : b = 46 := (eq_of_beq he).symm.trans rfl
     subst e
     go_ret
     exact ⟨rfl, rfl⟩
    ·rename_i he
     have e : b ≠ 46 := by intro q; subst q; revert he; decide
     go_round
     case rel => exact ⟨2, by go_num, by omega, by have hm := hm.out; exact ⟨by omega, by omega, by omega, by omega, by omega⟩⟩
     case measure => simp [intOf]
   ·go_wp2_with fail
    ·rename_i he _
     have e : b = 47 := (eq_of_beq he).symm.trans rfl
     subst e
     go_ret
     exact ⟨rfl, rfl⟩
    ·rename_i he
     have e : b ≠ 47 := by intro q; subst q; revert he; decide
     go_round
     case rel => exact ⟨3, by go_num, by omega, by have hm := hm.out; exact ⟨by omega, by omega, by omega, by omega, by omega⟩⟩
     case measure => simp [intOf]
   ·go_wp2_with fail
    ·rename_i he _
     have e : b = 58 := (eq_of_beq he).symm.trans rfl
     subst e
     go_ret
     exact ⟨rfl, rfl⟩
    ·rename_i he
     have e : b ≠ 58 := by intro q; subst q; revert he; decide
     go_round
     case rel => exact ⟨4, by go_num, by omega, by have hm := hm.out; exact ⟨by omega, by omega, by omega, by omega, by omega⟩⟩
     case measure => simp [intOf]
   ·go_wp2_with fail
    ·rename_i he _
     have e : b = 61 := (eq_of_beq he).symm.trans rfl
     subst e
     go_ret
     exact ⟨rfl, rfl⟩
    ·rename_i he
     have e : b ≠ 61 := by intro q; subst q; revert he; decide
     go_round
     case rel => exact ⟨5, by go_num, by omega, by have hm := hm.out; exact ⟨by omega, by omega, by omega, by omega, by omega⟩⟩
     case measure => simp [intOf]
def signs : ByteArray := ⟨#[97, 98, 99, 100, 101, 102, 103, 104, 105, 106, 107, 108, 109, 110, 111, 112, 113, 114, 115, 116, 117, 118, 119, 120, 121, 122, 45, 46, 47, 58, 61]⟩
theorem Yf : ∀ k : Fin 256, Lib.indexByte signs.data.toList (UInt8.ofNat k.val) = gP (k.val : Int) := by decide +kernel
theorem Yg {b : Int} (h0 : 0 ≤ b) (h1 : b ≤ 255) : Lib.indexByte signs.data.toList b.toNat.toUInt8 = gP b := by
 obtain ⟨k, rfl⟩ := Int.eq_ofNat_of_zero_le h0
 exact Yf ⟨k, by omega⟩
theorem sG (b : Int) (w : World) (h0 : 0 ≤ b) (h1 : b ≤ 255) : Calls Tryz.prog 175 #[.string signs, .int .u8 b] w fun e w' => e = .returned (.int .i64 (gP b)) ∧ w' = w := by
 rw [← Yg h0 h1]; exact indexByte signs b w
structure Ee (w : World) (g : Nat) (ty : TypeId) (A C : List Value) (o : Nat) (d : bZ) (v : Value) : Prop where
 mid : bL w g ty A C o [.int .i64 d.lim, .int .i64 d.top, v]
 own : w.ownsRow 0 94 2 v d.es.length (ev d.es)
 ne : v.ownBlock ≠ some g
set_option maxHeartbeats 2000000 in
theorem Yh (g o : Nat) (ty : TypeId) (A C : List Value) (vE : Value) (r : bZ) (id iN : Int) (w : World) (h : Ee w g ty A C o r vE) :
  Calls Tryz.prog 53 #[.pointer (some ⟨g, o, none⟩), .int .i64 id, .int .i64 iN] w fun x w' => ∃ Ob, x = .returned (.bool (gq r id iN).2) ∧ Ee w' g ty A C o (gq r id iN).1 Ob ∧ aG (g :: vE.ownBlock.toList) w w' ∧ qB w vE Ob := by
 obtain ⟨hrow, hown, hne⟩ := h
 obtain ⟨ad, cap, rfl, _, _⟩ := bW hown
 have x0 := hrow.cell0 rfl
 have x1 := hrow.cell (j := 1) rfl
 have x2 := hrow.cell (j := 2) rfl
 have fC := hide hrow; have HOWN := hide hown; have sI := hide hne
 have Ij := hrow.lt
 clear hrow hown hne
 have hat := fun w h => Oc r id (.slice ad r.es.length cap) w h
 cases hq : dI r.es id with
 | none =>
  have hI : iF r.es id = -1 := by unfold iF; rw [hq]
  rw [hI] at hat
  rw [Dm hq]
  clear hI hq
  go_enter Tryz.func53, Tryz.ntmps53
  go_wp2_with fail
  refine (hat _ (Ik (eP HOWN.out))).mono ?_; rintro x w1 ⟨rfl, hb1⟩
  go_wp2_with fail
  go_ret
  exact ⟨_, rfl, ⟨fC.out.new hb1, aX HOWN.out hb1, sI.out⟩, aG.new hb1, qB.refl _ _⟩
 | some k =>
  obtain ⟨hk, _, _⟩ := mH hq
  have hI : iF r.es id = k := AJ hq
  rw [hI] at hat
  rw [zU hq hk]
  have hes := Od r.es k hk
  obtain ⟨AL, wR⟩ := Og r.es k hk
  obtain ⟨e, he⟩ : ∃ e, r.es[k] = e := ⟨_, rfl⟩
  rw [he] at AL wR hes ⊢
  clear hI hq he
  obtain ⟨n, b, hn⟩ : ∃ n b, fQ e.state iN = (n, b) := ⟨_, _, rfl⟩
  have hnx := fun w => WW e.state iN w
  rw [hn] at hnx ⊢
  dsimp only at hnx ⊢
  clear hn
  go_enter Tryz.func53, Tryz.ntmps53
  go_wp2_with fail
  refine (hat _ (Ik (eP HOWN.out))).mono ?_; rintro x w1 ⟨rfl, hb1⟩
  clear x0 x1 x2
  replace fC := hide (fC.out.new hb1)
  replace HOWN := hide (aX HOWN.out hb1)
  have x2 := fC.out.cell (j := 2) rfl
  have hlg1 := fC.out.lt
  obtain ⟨gb, Yi, hsl, hg0, hg1, hg2, _, _, hc, hf⟩ := qx HOWN.out (by omega)
  simp only [Value.slice.injEq] at hsl
  obtain ⟨rfl, -, -⟩ := hsl
  have c1 := hc _ _ wR
  have f1 := hf (k * 2 + 1)
  have hgg : gb ≠ g := fun e => sI.out (by rw [hg0, e])
  have Yj := hide (mI HOWN.out hg0 (k * 2 + 1) (.int .i64 n))
  have HB1 : Hid (aG (g :: (Value.slice (some ⟨gb, 0, none⟩) r.es.length cap).ownBlock.toList) w w1) := aG.new hb1
  have Ef := hide hes
  have Il := hide hg0
  clear hc hf AL wR hb1 hat hes hg0
  go_wp2_with fail
  refine (hnx _).mono ?_; rintro e w2 ⟨rfl, hsame⟩; obtain rfl := hsame.symm; clear hsame
  go_wp2_with fail
  go_ret
  refine ⟨.slice (some ⟨gb, 0, none⟩) r.es.length cap, rfl, ⟨?_, ?_, ?_⟩, HB1.out.set _ _ (by rw [Il.out]; simp), qB.refl _ _⟩
  ·have := fC.out.far ⟨gb, k * 2 + 1, none⟩ (.int .i64 n) hgg
   simpa using this
  ·have := Yj.out
   rw [Ef.out n] at this
   simpa using this
  ·simpa [Value.ownBlock] using hgg
def uL (x m : Int) : Bool := decide (1 ≤ x ∧ x ≤ m ∧ x % 2 = 1)
theorem Im (x m : Int) (w : World) : Calls Tryz.prog 123 #[.int .i64 x, .int .i64 m] w fun e w' => e = .returned (.bool (uL x m)) ∧ w' = w := by
 cases h : aQ x 1 m
 ·have hv : uL x m = false := by unfold uL; refine decide_eq_false fun c => ?_; exact rX h ⟨c.1, c.2.1⟩
  rw [hv]
  go_enter Tryz.func123, Tryz.ntmps123
  go_wp2_with fail
  refine (iX _ _ _ _).mono ?_; rw [h]; rintro e w1 ⟨rfl, hsame⟩; obtain rfl := hsame.symm; clear hsame
  go_wp2_with fail
  go_ret
  exact ⟨rfl, rfl⟩
 ·obtain ⟨h0, h1⟩ := jm h
  have ht : x.tmod 2 = x % 2 := Int.tmod_eq_emod_of_nonneg (by omega)
  have hv : uL x m = decide (x % 2 = 1) := by unfold uL; congr 1; exact propext ⟨fun c => c.2.2, fun c => ⟨h0, h1, c⟩⟩
  rw [hv]
  go_enter Tryz.func123, Tryz.ntmps123
  go_wp2_with fail
  refine (iX _ _ _ _).mono ?_; rw [h]; rintro e w1 ⟨rfl, hsame⟩; obtain rfl := hsame.symm; clear hsame
  go_wp2_with fail
  go_ret
  exact ⟨by rfl, rfl⟩
theorem Eh (x : Int) (w : World) : Calls Tryz.prog 123 #[.int .i64 x, .int .i64 100000] w fun e w' => e = .returned (.bool (fI x)) ∧ w' = w := Im x 100000 w
def sJ (e : aF) : Bool := !decide (e.state = 4)
def sK (e : aF) : Bool := fI e.id && aQ e.state 1 4
theorem Yk (e : aF) (w : World) : Calls Tryz.prog 162 #[.agg #[.int .i64 e.id, .int .i64 e.state]] w fun x w' => x = .returned (.bool (sJ e)) ∧ Below w.heap.size w w' := by
 by_cases h : e.state = 4
 ·have hv : sJ e = false := by unfold sJ; simp [h]
  rw [hv, h]
  go_enter Tryz.func162, Tryz.ntmps162
  go_wp2_with fail
  go_ret
  exact ⟨rfl, (by repeat' (first | (with_reducible exact Below.refl _ _) | (with_reducible refine Below.drew ?_) | (with_reducible refine ay _ ?_) | (with_reducible refine aA ?_ _) | (refine ah ?_ (by with_reducible assumption)) | (with_reducible refine Below.setCell ?_ ?_ _) | go_size))⟩
 ·have hv : sJ e = true := by unfold sJ; simp [h]
  rw [hv]
  have h4 : (e.state != 4) = true := by simpa using h
  clear h hv
  go_enter Tryz.func162, Tryz.ntmps162
  go_wp2_with fail
  go_ret
  exact ⟨rfl, (by repeat' (first | (with_reducible exact Below.refl _ _) | (with_reducible refine Below.drew ?_) | (with_reducible refine ay _ ?_) | (with_reducible refine aA ?_ _) | (refine ah ?_ (by with_reducible assumption)) | (with_reducible refine Below.setCell ?_ ?_ _) | go_size))⟩
theorem Yl (e : aF) (w : World) : Calls Tryz.prog 138 #[.agg #[.int .i64 e.id, .int .i64 e.state]] w fun x w' => x = .returned (.bool (sK e)) ∧ Below w.heap.size w w' := by
 cases h : fI e.id
 ·have hv : sK e = false := by unfold sK; rw [h]; rfl
  rw [hv]
  go_enter Tryz.func138, Tryz.ntmps138
  go_wp2_with fail
  refine (Eh _ _).mono ?_; rw [h]; rintro e w1 ⟨rfl, hsame⟩; obtain rfl := hsame.symm; clear hsame
  go_wp2_with fail
  go_ret
  exact ⟨rfl, (by repeat' (first | (with_reducible exact Below.refl _ _) | (with_reducible refine Below.drew ?_) | (with_reducible refine ay _ ?_) | (with_reducible refine aA ?_ _) | (refine ah ?_ (by with_reducible assumption)) | (with_reducible refine Below.setCell ?_ ?_ _) | go_size))⟩
 ·have hv : sK e = aQ e.state 1 4 := by unfold sK; rw [h]; rfl
  rw [hv]
  go_enter Tryz.func138, Tryz.ntmps138
  go_wp2_with fail
  refine (Eh _ _).mono ?_; rw [h]; rintro e w1 ⟨rfl, hsame⟩; obtain rfl := hsame.symm; clear hsame
  go_wp2_with fail
  refine (iX _ _ _ _).mono ?_; rintro e w1 ⟨rfl, hsame⟩; obtain rfl := hsame.symm; clear hsame
  go_wp2_with fail
  go_ret
  exact ⟨rfl, (by repeat' (first | (with_reducible exact Below.refl _ _) | (with_reducible refine Below.drew ?_) | (with_reducible refine ay _ ?_) | (with_reducible refine aA ?_ _) | (refine ah ?_ (by with_reducible assumption)) | (with_reducible refine Below.setCell ?_ ?_ _) | go_size))⟩
theorem Ym (l t : Int) (v : Value) (e : aF) (w : World) (hv : ∃ ad n cap, v = .slice ad n cap) : Calls Tryz.prog 139 #[.agg #[.int .i64 l, .int .i64 t, v], .agg #[.int .i64 e.id, .int .i64 e.state]] w fun x w' => x = .returned (.bool (decide (e.id ≤ t))) ∧ Below w.heap.size w w' := by
 obtain ⟨ad, n, cap, rfl⟩ := hv
 go_enter Tryz.func139, Tryz.ntmps139
 go_wp2_with fail
 go_ret
 exact ⟨rfl, (by repeat' (first | (with_reducible exact Below.refl _ _) | (with_reducible refine Below.drew ?_) | (with_reducible refine ay _ ?_) | (with_reducible refine aA ?_ _) | (refine ah ?_ (by with_reducible assumption)) | (with_reducible refine Below.setCell ?_ ?_ _) | go_size))⟩
theorem Yn (a b : aF) (w : World) : Calls Tryz.prog 141 #[.agg #[.int .i64 a.id, .int .i64 a.state], .agg #[.int .i64 b.id, .int .i64 b.state]] w fun x w' => x = .returned (.bool (decide (a.id < b.id))) ∧ Below w.heap.size w w' := by
 go_enter Tryz.func141, Tryz.ntmps141
 go_wp2_with fail
 go_ret
 exact ⟨rfl, (by repeat' (first | (with_reducible exact Below.refl _ _) | (with_reducible refine Below.drew ?_) | (with_reducible refine ay _ ?_) | (with_reducible refine aA ?_ _) | (refine ah ?_ (by with_reducible assumption)) | (with_reducible refine Below.setCell ?_ ?_ _) | go_size))⟩
theorem Io (d : bZ) (v : Value) (w : World) (hr : aT bE w v d.es) : Calls Tryz.prog 117 #[.agg #[.int .i64 d.lim, .int .i64 d.top, v]] w fun x w' => x = .returned v ∧ Below w.heap.size w w' := by
 obtain ⟨ad, cap, rfl, h1, h2⟩ := hr.form
 go_enter Tryz.func117, Tryz.ntmps117
 go_wp2_with fail
 go_ret
 exact ⟨rfl, (by repeat' (first | (with_reducible exact Below.refl _ _) | (with_reducible refine Below.drew ?_) | (with_reducible refine ay _ ?_) | (with_reducible refine aA ?_ _) | (refine ah ?_ (by with_reducible assumption)) | (with_reducible refine Below.setCell ?_ ?_ _) | go_size))⟩
abbrev Wn := Bool ⊕ (Int × Int × Option Addr × Nat × Nat)
def uM : Wn → Value
 | .inl false => .func (.func 162) #[] #[]
 | .inl true => .func (.func 138) #[] #[]
 | .inr (l, t, a, n, c) => .func (.func 139) #[.agg #[.int .i64 l, .int .i64 t, .slice a n c]] #[]
def jo : Wn → aF → Bool
 | .inl false, e => sJ e
 | .inl true, e => sK e
 | .inr (_, t, _), e => decide (e.id ≤ t)
def keep (ws : List Wn) (L : List aF) : List aF := L.filter fun e => ws.all fun x => jo x e
theorem Yo {ws : List Wn} {L : List aF} {k : Nat} (hk : k < L.length) (h : (ws.all fun x => jo x L[k]) = true) : keep ws (L.take (k + 1)) = keep ws (L.take k) ++ [L[k]] := by
 unfold keep
 rw [List.take_add_one, List.filter_append, List.getElem?_eq_getElem hk]
 simp only [Option.toList]
 rw [List.filter_cons_of_pos (p := fun e => ws.all fun x => jo x e) h]; rfl
theorem Yp {ws : List Wn} {L : List aF} {k : Nat} (hk : k < L.length) (h : (ws.all fun x => jo x L[k]) = false) : keep ws (L.take (k + 1)) = keep ws (L.take k) := by
 unfold keep
 rw [List.take_add_one, List.filter_append, List.getElem?_eq_getElem hk]
 simp only [Option.toList]
 rw [List.filter_cons_of_neg (p := fun e => ws.all fun x => jo x e) (by rw [h]; simp)]; simp
theorem Ip (ws : List Wn) (L : List aF) : (keep ws L).length ≤ L.length := List.length_filter_le _ _
set_option maxHeartbeats 4000000 in
theorem Iq (L : List aF) (ws : List Wn) (v : Value) (fa : Option Addr) (fc : Nat) (w : World) (hr : aT bE w v L) (hf : Reads w (.slice fa ws.length fc) ws.length 1 (ws.map uM)) (hL : L.length ≤ 60) (hW : ws.length ≤ 5) :
  Calls Tryz.prog 118 #[v, .slice fa ws.length fc] w fun x w' => ∃ v', x = .returned v' ∧ w'.ownsRow w.heap.size 94 2 v' (keep ws L).length (ev (keep ws L)) ∧ Below w.heap.size w w' := by
 obtain ⟨ad, cap, rfl, h1, h2⟩ := hr.form
 have HR := hide hr
 have HF := hide hf
 clear hr hf
 go_enter Tryz.func118, Tryz.ntmps118
 go_wp2_with fail
 go_step3
 go_wp2_with fail
 go_step3
 go_wp2_with fail
 go_loopg [5, 12] L.length (fun g s i wr => ∃ (k : Nat) (a : Option Addr) (p : Nat) (M : List aF), k + g = L.length ∧ i = .int .i64 k ∧ s = .slice a M.length p ∧ Hid (keep ws (L.take k) = M) ∧ Hid (wr.ownsRow w.heap.size 94 2 (.slice a M.length p) M.length (ev M)) ∧ Hid (Below w.heap.size w wr))
 case atStart => exact ⟨0, none, 0, [], by omega, rfl, rfl, rfl, World.ownsRow_nil w w.heap.size 94 2, Below.refl _ _⟩
 case round =>
  obtain ⟨k, a, p, M, hkg, rfl, rfl, HM, HO, HB⟩ := hrel
  cases gk with
  | zero =>
   have hkz : ¬ ((k : Int) < (L.length : Int)) := by omega
   have Yq : Hid (M = keep ws L) := by show M = _; rw [← HM.out, List.take_of_length_le (by omega)]
   clear hkg
   go_wp2_with fail
   try rw [Exit.noGoto_ret]
   go_ret
   have := Yq.out
   subst this
   exact ⟨_, rfl, HO.out, HB.out⟩
  | succ go1 =>
   have hlt : k < L.length := by omega
   obtain ⟨b, o, cs, rfl, hbw, rfl, hc⟩ := (HR.out.new HB.out).at k hlt
   have c0 : wr.cell? ⟨b, o + k * 2, none⟩ = some (.int .i64 L[k].id) := hc 0 _ rfl
   have c1 : wr.cell? ⟨b, o + k * 2 + 1, none⟩ = some (.int .i64 L[k].state) := hc 1 _ rfl
   clear hc
   obtain ⟨e, he⟩ : ∃ e, L[k] = e := ⟨_, rfl⟩
   rw [he] at c0 c1
   have HY : Hid ((ws.all fun x => jo x e) = true → keep ws (L.take (k + 1)) = M ++ [e]) := by rw [← he, ← HM.out]; exact Yo hlt
   have HN : Hid ((ws.all fun x => jo x e) = false → keep ws (L.take (k + 1)) = M) := by rw [← he, ← HM.out]; exact Yp hlt
   have hkl : M.length ≤ k := by have := Ip ws (L.take k); rw [List.length_take, HM.out] at this; omega
   clear he HM
   go_upto_region 5 with fail
   have hbe : Below wr.heap.size wr (wr.alloc (.cells #[.int .i64 e.id, .int .i64 e.state] 94)) := (Below.refl _ _).alloc (Nat.le_refl _) _
   have HE : Hid (aj (wr.alloc (.cells #[.int .i64 e.id, .int .i64 e.state] 94)) wr.heap.size 94 [.int .i64 e.id, .int .i64 e.state]) := aB wr 94 [.int .i64 e.id, .int .i64 e.state]
   generalize wr.alloc (.cells #[.int .i64 e.id, .int .i64 e.state] 94) = X at *
   have Oh := hide (aX HO.out hbe)
   have mh := hide (ah HB.out hbe)
   have hne : (Value.slice a M.length p).ownBlock ≠ some wr.heap.size := fun hq => by have := (HO.out.lt _ hq).2; omega
   have sI := hide hne
   have HGB : Hid (w.heap.size ≤ wr.heap.size) := HB.out.size
   generalize wr.heap.size = go at *
   clear c0 c1 hbe HO hne HB
   go_wp2_with fail
   go_loopg [18] ws.length (fun g i wi => ∃ (j : Nat), j + g = ws.length ∧ i = .int .i64 j ∧ Hid (∀ x ∈ ws.take j, jo x e = true) ∧ Hid (aj wi go 94 [.int .i64 e.id, .int .i64 e.state]) ∧ Hid (wi.ownsRow w.heap.size 94 2 (.slice a M.length p) M.length (ev M)) ∧ Hid (Below w.heap.size w wi))
   case atStart => exact ⟨0, by omega, rfl, by show ∀ x ∈ ws.take 0, _; simp, HE, Oh, mh⟩
   case round =>
    clear HE Oh mh
    obtain ⟨j, Yr, rfl, HA, HE, HO, HB⟩ := hrel
    have qJ := HE.out.lt
    have e0 := HE.out.cell (j := 0) rfl
    have e1 := HE.out.cell (j := 1) rfl
    cases gk with
    | zero =>
     have hjz : ¬ ((j : Int) < (ws.length : Int)) := by omega
     have HQ : Hid ((ws.all fun x => jo x e) = true) := by
      show _ = true
      refine List.all_eq_true.2 fun x hx => HA.out x ?_
      rw [List.take_of_length_le (by omega)]; exact hx
     have wS := hide (HY.out HQ.out)
     clear Yr
     have hX : Below wr.heap.size wr (wr.alloc (.cells #[.int .i64 e.id, .int .i64 e.state] 94)) := (Below.refl _ _).alloc (Nat.le_refl _) _
     have Ir := aX HO.out hX
     have AO : Reads (wr.alloc (.cells #[.int .i64 e.id, .int .i64 e.state] 94)) (.slice (some ⟨wr.heap.size, 0, none⟩) 1 1) 1 2 (ev [e]) := eP (kW wr 94 2 1 #[.int .i64 e.id, .int .i64 e.state] rfl (by omega))
     have mh := hide (ah HB.out hX)
     have hbs := mh.out.size
     go_wp2_with (at_builtin; refine yC _ (by rfl) _ _ 175 (by rfl) 94 (.agg #[.int .i64 0, .int .i64 0]) 2 16 Tryz.underlying175 (by kernel_rfl) rfl (by decide) w.heap.size _ M.length (ev M) (by rfl) Ir _ 1 (ev [e]) (by rfl) AO (Oj _) (by omega) (by decide) hbs ?_)
     intro fV AP w7 kN jT qK
     have Yt : Hid (Below w.heap.size w w7) := by
      have hb := mh.out
      exact ⟨jT.os.trans hb.os, jT.tape.trans hb.tape, jT.output.trans hb.output, Nat.le_trans hb.size jT.size, fun k hk => (jT.block k (by have := hb.size; omega) (fun e => by have := (Ir.lt k e.symm).1; omega)).trans (hb.block k hk)⟩
     have wT : Hid (w7.ownsRow w.heap.size 94 2 (.slice fV (M ++ [e]).length AP) (M ++ [e]).length (ev (M ++ [e]))) := by
      show World.ownsRow _ _ _ _ _ _ _
      have := kN
      rw [← Yu] at this
      simpa using this
     clear kN jT qK Ir AO hX hbs
     go_wp2_with fail
     go_roundg go1
     case measure => omega
     case rel => exact ⟨k + 1, fV, AP, M ++ [e], by omega, by go_num, by simp, wS, wT, Yt⟩
    | succ gj =>
     have hj : j < ws.length := by omega
     obtain ⟨_, fa', fc', hfe, _, _, AQ⟩ := HF.out.new HB.out
     obtain ⟨fb, fo, hfa, hfb, hfc⟩ := AQ (by omega)
     simp only [Value.slice.injEq] at hfe
     obtain ⟨rfl, -, rfl⟩ := hfe
     subst hfa
     obtain ⟨x, hxj⟩ : ∃ x, ws[j] = x := ⟨_, rfl⟩
     have hcx : wr.cell? ⟨fb, fo + j, none⟩ = some (uM x) := hfc j _ (by rw [List.getElem?_map, List.getElem?_eq_getElem hj, hxj]; rfl)
     clear hfc AQ
     rcases x with (_ | _) | ⟨l, t, xa, xn, xc⟩
     ·simp only [uM] at hcx
      go_wp2_with fail
      refine (Yk e _).mono ?_; rintro z w5 ⟨rfl, hb5⟩
      replace HE := hide (HE.out.new hb5)
      replace HO := hide (aX HO.out hb5)
      replace HB := hide (ah HB.out hb5)
      clear hb5 e0 e1 hcx
      cases hq : jo (.inl false) e
      ·have HQ : Hid ((ws.all fun x => jo x e) = false) := by
        show _ = false
        refine List.all_eq_false.2 ⟨ws[j], List.getElem_mem hj, ?_⟩
        rw [hxj, hq]; simp
       have wS := hide (HN.out HQ.out)
       change sJ e = _ at hq
       rw [hq]
       clear hxj hq
       go_wp2_with fail
       go_roundg go1
       case measure => omega
       case rel => exact ⟨k + 1, a, p, M, by omega, by go_num, rfl, wS, HO, HB⟩
      ·have HA2 : Hid (∀ x ∈ ws.take (j + 1), jo x e = true) := by
        show ∀ x ∈ _, _
        intro x hx
        rw [List.take_add_one, List.getElem?_eq_getElem hj, hxj] at hx
        rcases List.mem_append.1 hx with hx | hx
        ·exact HA.out x hx
        ·simp at hx; subst hx; exact hq
       change sJ e = _ at hq
       rw [hq]
       clear hxj hq
       go_wp2_with fail
       go_roundg gj
       case measure => omega
       case rel => exact ⟨j + 1, by omega, by go_num, HA2, HE, HO, HB⟩
     ·simp only [uM] at hcx
      go_wp2_with fail
      refine (Yl e _).mono ?_; rintro z w5 ⟨rfl, hb5⟩
      replace HE := hide (HE.out.new hb5)
      replace HO := hide (aX HO.out hb5)
      replace HB := hide (ah HB.out hb5)
      clear hb5 e0 e1 hcx
      cases hq : jo (.inl true) e
      ·have HQ : Hid ((ws.all fun x => jo x e) = false) := by
        show _ = false
        refine List.all_eq_false.2 ⟨ws[j], List.getElem_mem hj, ?_⟩
        rw [hxj, hq]; simp
       have wS := hide (HN.out HQ.out)
       change sK e = _ at hq
       rw [hq]
       clear hxj hq
       go_wp2_with fail
       go_roundg go1
       case measure => omega
       case rel => exact ⟨k + 1, a, p, M, by omega, by go_num, rfl, wS, HO, HB⟩
      ·have HA2 : Hid (∀ x ∈ ws.take (j + 1), jo x e = true) := by
        show ∀ x ∈ _, _
        intro x hx
        rw [List.take_add_one, List.getElem?_eq_getElem hj, hxj] at hx
        rcases List.mem_append.1 hx with hx | hx
        ·exact HA.out x hx
        ·simp at hx; subst hx; exact hq
       change sK e = _ at hq
       rw [hq]
       clear hxj hq
       go_wp2_with fail
       go_roundg gj
       case measure => omega
       case rel => exact ⟨j + 1, by omega, by go_num, HA2, HE, HO, HB⟩
     ·simp only [uM] at hcx
      go_wp2_with fail
      refine (Ym l t (.slice xa xn xc) e _ ⟨_, _, _, rfl⟩).mono ?_; rintro z w5 ⟨rfl, hb5⟩
      replace HE := hide (HE.out.new hb5)
      replace HO := hide (aX HO.out hb5)
      replace HB := hide (ah HB.out hb5)
      clear hb5 e0 e1 hcx
      cases hq : jo (.inr (l, t, xa, xn, xc)) e
      ·have HQ : Hid ((ws.all fun x => jo x e) = false) := by
        show _ = false
        refine List.all_eq_false.2 ⟨ws[j], List.getElem_mem hj, ?_⟩
        rw [hxj, hq]; simp
       have wS := hide (HN.out HQ.out)
       change decide (e.id ≤ t) = _ at hq
       rw [hq]
       clear hxj hq
       go_wp2_with fail
       go_roundg go1
       case measure => omega
       case rel => exact ⟨k + 1, a, p, M, by omega, by go_num, rfl, wS, HO, HB⟩
      ·have HA2 : Hid (∀ x ∈ ws.take (j + 1), jo x e = true) := by
        show ∀ x ∈ _, _
        intro x hx
        rw [List.take_add_one, List.getElem?_eq_getElem hj, hxj] at hx
        rcases List.mem_append.1 hx with hx | hx
        ·exact HA.out x hx
        ·simp at hx; subst hx; exact hq
       change decide (e.id ≤ t) = _ at hq
       rw [hq]
       clear hxj hq
       go_wp2_with fail
       go_roundg gj
       case measure => omega
       case rel => exact ⟨j + 1, by omega, by go_num, HA2, HE, HO, HB⟩
end Go.Proofs.YtlpbnkideaojeaaGreatDoor
