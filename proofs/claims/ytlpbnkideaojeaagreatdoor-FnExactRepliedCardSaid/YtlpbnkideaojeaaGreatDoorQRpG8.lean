/- Lemmas. -/
import Derived.Test.YtlpbnkideaojeaaGreatDoorQRpG7
namespace Go.Proofs.YtlpbnkideaojeaaGreatDoor
open Go.RowKit
set_option maxRecDepth 100000
set_option linter.unusedVariables false
set_option linter.unusedSimpArgs false
theorem split_mul (r p : Int) : r % 128 * p + r / 128 * (p * 128) = r * p := by
 have e : r * p = (r % 128 + 128 * (r / 128)) * p := by rw [Int.emod_add_mul_ediv]
 rw [e, Int.add_mul, Int.mul_comm (r / 128) (p * 128), Int.mul_assoc p, Int.mul_comm p]
theorem YG (k : Nat) : ∀ (r N p : Int) (i : Nat) (cs : List Int), 0 ≤ r → r < 128 ^ (k + 1) → 0 ≤ N → 1 ≤ p → (1 < i → 0 < r) → N + r * p ≤ 268435456 → wN (k + 1) N p i (iM k r ++ cs) = (N + r * p, (i : Int) + (iM k r).length) := by
 induction k with
 | zero =>
  intro r N p i cs h0 h1 hN hp hi hm
  simp at h1
  rw [Af h1]
  simp only [List.singleton_append, wN, if_pos h1]
  rw [show r % 128 = r by omega, if_neg (by omega)]
  simp
 | succ k ih =>
  intro r N p i cs h0 h1 hN hp hi hm
  by_cases h : r < 128
  ·rw [Af h]
   simp only [List.singleton_append, wN, if_pos h]
   rw [show r % 128 = r by omega, if_neg (by omega)]
   simp
  ·rw [Dz (by omega)]
   have hc : ¬ (r % 128 + 128 < 128) := by omega
   simp only [List.cons_append, wN, if_neg hc]
   have e1 : (r % 128 + 128) % 128 = r % 128 := by omega
   have e2 := split_mul r p
   have h2 : 0 ≤ r % 128 * p := Int.mul_nonneg (by omega) (by omega)
   rw [e1, ih (r / 128) (N + r % 128 * p) (p * 128) (i + 1) cs (by omega) (by rw [Int.pow_succ] at h1; omega) (by omega) (by omega) (fun _ => by omega) (by omega)]
   simp only [List.length_cons]
   refine Prod.ext ?_ ?_
   ·simp only; omega
   ·simp only; omega
def Ei (l : List Int) (b : Int) : Int × Int := match l with
 | [] => (-1, 0)
 | x :: xs => if aQ b 1 8 = true then (if x % pw b < pw b - 1 then (x % pw b, 1) else wN 5 (x % pw b) 1 1 xs) else (-1, 0)
def II (l : List Int) (b : Int) : Int := match l with
 | [] => -1
 | x :: _ => if aQ b 1 8 = true then x / pw b * pw b else -1
theorem YH (s : ByteArray) (b : Int) : dQ s b = Ei (cB s) b := by
 by_cases h : 0 < s.size
 ·rw [GV h]
  unfold dQ Ei
  rw [dif_pos h]
 ·rw [Ws (by omega), Al (by omega)]; rfl
theorem Ia (s : ByteArray) (b : Int) : nE s b = II (cB s) b := by
 by_cases h : 0 < s.size
 ·rw [GV h]
  unfold nE II
  rw [dif_pos h]
  by_cases hb : aQ b 1 8 = true
  ·rw [if_pos (jm hb)]
   simp only [hb, if_true]
  ·rw [if_neg (rX (by simpa using hb))]
   simp [hb]
 ·rw [Vn (.inl (by omega)), Al (by omega)]; rfl
theorem Ej {n b h : Int} (k : jl n b h = true) : cB (aY n b h) = kY h (bytesOf n (pw b - 1)) ∧ aY n b h = strOf (kY h (bytesOf n (pw b - 1))) := by
 obtain ⟨⟨hn0, hn, h1, h8⟩, ⟨hh0, yt⟩, hm, hf⟩ := zV k
 have e : aY n b h = strOf (kY h (bytesOf n (pw b - 1))) := by simp [aY, k]
 refine ⟨?_, e⟩
 rw [e]
 refine uF ?_
 obtain ⟨x, xs, hb, hx0, hx1, hxs⟩ := Gl hn0 hn h1 h8
 rw [hb]
 intro y hy
 rcases List.mem_cons.1 hy with rfl | hy
 ·omega
 ·exact hxs y hy
theorem D8 {n b h : Int} (k : jl n b h = true) (t : ByteArray) : dQ (aY n b h ++ t) b = (n, ((aY n b h).size : Int)) := by
 obtain ⟨⟨hn0, hn, h1, h8⟩, ⟨hh0, yt⟩, hm, hf⟩ := zV k
 obtain ⟨e1, e2⟩ := Ej k
 have hp := wE h1 h8
 have hb : aQ b 1 8 = true := decide_eq_true ⟨h1, h8⟩
 have hsz : ((aY n b h).size : Int) = ((bytesOf n (pw b - 1)).length : Int) := by rw [e2, oP, Hf]
 rw [YH, kZ, e1, hsz]
 have hmod : ∀ y : Int, 0 ≤ y → y < pw b → (h + y) % pw b = y := fun y hy0 hy1 => by
  rw [Int.add_emod, hm, Int.zero_add, Int.emod_emod]
  exact Int.emod_eq_of_lt hy0 hy1
 unfold bytesOf
 by_cases hlt : n < pw b - 1
 ·rw [if_pos hlt]
  simp only [kY, Ei, List.cons_append, hb, if_true]
  rw [hmod n hn0 (by omega), if_pos hlt]
  simp
 ·rw [if_neg hlt]
  simp only [kY, Ei, List.cons_append, hb, if_true]
  rw [hmod (pw b - 1) (by omega) (by omega), if_neg (by omega), YG 4 (n - (pw b - 1)) (pw b - 1) 1 1 _ (by omega) (by simp; omega) (by omega) (by omega) (by omega) (by omega)]
  refine Prod.ext ?_ ?_
  ·simp only; omega
  ·simp only [List.length_cons]; omega
theorem Hu {n b h : Int} (k : jl n b h = true) : nE (aY n b h) b = h := by
 obtain ⟨⟨hn0, hn, h1, h8⟩, ⟨hh0, yt⟩, hm, hf⟩ := zV k
 obtain ⟨e1, e2⟩ := Ej k
 have hp := wE h1 h8
 have hb : aQ b 1 8 = true := decide_eq_true ⟨h1, h8⟩
 rw [Ia, e1]
 obtain ⟨x, xs, gB, hx0, hx1, hxs⟩ := Gl hn0 hn h1 h8
 rw [gB]
 simp only [kY, II, hb, if_true]
 have e : (h + x) / pw b = h / pw b := by
  have hd : h = pw b * (h / pw b) := by have := Int.emod_add_mul_ediv h (pw b); omega
  rw [hd, Int.add_comm, Int.add_mul_ediv_left _ _ (by omega), Int.mul_ediv_cancel_left _ (by omega), Int.ediv_eq_zero_of_lt hx0 hx1]
  omega
 rw [e]
 have := Int.emod_add_mul_ediv h (pw b)
 rw [Int.mul_comm]
 omega
theorem mO {n b h : Int} (k : jl n b h = true) : 0 < (aY n b h).size ∧ (aY n b h).size ≤ 6 ∧ ((aY n b h).size = 1 ↔ n < pw b - 1) := by
 obtain ⟨⟨hn0, hn, h1, h8⟩, ⟨hh0, yt⟩, hm, hf⟩ := zV k
 obtain ⟨e1, e2⟩ := Ej k
 rw [e2, oP, Hf]
 have := Dp n (pw b - 1)
 refine ⟨this.1, this.2, ?_⟩
 unfold bytesOf
 split
 ·rename_i hlt; simp [hlt]
 ·rename_i hlt
  have := GD 4 (n - (pw b - 1))
  simp only [List.length_cons]
  constructor
  ·intro e; omega
  ·intro e; exact absurd e hlt
def ev (L : List aF) : List Value := L.flatMap aF.cs
theorem Og (L : List aF) (k : Nat) (h : k < L.length) : (ev L)[k * 2]? = some (.int .i64 L[k].id) ∧ (ev L)[k * 2 + 1]? = some (.int .i64 L[k].state) :=
 ⟨flat_get aF.cs 2 (fun _ => rfl) L k h 0 (by decide), flat_get aF.cs 2 (fun _ => rfl) L k h 1 (by decide)⟩
theorem Oj (L : List aF) : ∀ u ∈ ev L, u.oneCell' = true := by
 intro u hu
 obtain ⟨f, _, hf⟩ := List.mem_flatMap.1 hu
 simp only [aF.cs, List.mem_cons, List.not_mem_nil, or_false] at hf
 rcases hf with rfl | rfl <;> rfl
theorem Yu (A B : List aF) : ev (A ++ B) = ev A ++ ev B := by simp [ev]
theorem YI : ∀ (w : World) (cs : List Value) (d : aF), bE.rd w cs d → cs = aF.cs d := fun _ _ _ h => h
theorem YA {w : World} {v : Value} {L : List aF} (h : aT bE w v L) : Reads w v L.length 2 (ev L) := aT.flat (E := bE) YI h
theorem FL {w : World} {lo : Nat} {v : Value} {L : List aF} (h : w.ownsRow lo 94 2 v L.length (ev L)) : aD bE w lo w.heap.size v L := GR (E := bE) (f := aF.cs) (fun d _ => ⟨rfl, rfl⟩) h
theorem Ik {w : World} {v : Value} {L : List aF} (h : Reads w v L.length 2 (ev L)) : aT bE w v L :=
 ⟨L.map fun d => (d.cs, d), by simp [Function.comp_def], by show Reads w v (L.map _).length 2 _; simpa [List.flatMap_map, ev] using h, fun t ht => by obtain ⟨d, _, rfl⟩ := List.mem_map.1 ht; rfl⟩
def iF (L : List aF) (id : Int) : Int := match dI L id with | some k => (k : Int) | none => -1
theorem IJ (x : Int) (w : World) : Calls Tryz.prog 76 #[.int .i64 x] w fun e w' => e = .returned (.bool (fI x)) ∧ w' = w := by
 cases h : aQ x 1 100000
 ·have hv : fI x = false := by unfold fI; refine decide_eq_false fun c => ?_; exact rX h ⟨c.1, c.2.1⟩
  rw [hv]
  go_enter Tryz.func76, Tryz.ntmps76
  go_wp2_with fail
  refine (jP _ _ _ _).mono ?_; rw [h]; rintro e w1 ⟨rfl, hsame⟩; obtain rfl := hsame.symm; clear hsame
  go_wp2_with fail
  go_ret
  exact ⟨rfl, rfl⟩
 ·obtain ⟨h0, h1⟩ := jm h
  have ht : x.tmod 2 = x % 2 := Int.tmod_eq_emod_of_nonneg (by omega)
  have hv : fI x = decide (x % 2 = 1) := by unfold fI; congr 1; exact propext ⟨fun c => c.2.2, fun c => ⟨h0, h1, c⟩⟩
  rw [hv]
  go_enter Tryz.func76, Tryz.ntmps76
  go_wp2_with fail
  refine (jP _ _ _ _).mono ?_; rw [h]; rintro e w1 ⟨rfl, hsame⟩; obtain rfl := hsame.symm; clear hsame
  go_wp2_with fail
  go_ret
  exact ⟨by rfl, rfl⟩
theorem Ow {L : List aF} {id : Int} (h : ∀ e ∈ L, e.id ≠ id) : iF L id = -1 := by unfold iF; rw [Ue h]
theorem AJ {L : List aF} {id : Int} {k : Nat} (h : dI L id = some k) : iF L id = k := by unfold iF; rw [h]
set_option maxHeartbeats 1000000 in
theorem Oc (d : bZ) (id : Int) (v : Value) (w : World) (hr : aT bE w v d.es) : Calls Tryz.prog 49 #[.agg #[.int .i64 d.lim, .int .i64 d.top, v], .int .i64 id] w fun x w' => x = .returned (.int .i64 (iF d.es id)) ∧ Below w.heap.size w w' := by
 obtain ⟨ad, cap, rfl, h1, h2⟩ := hr.form
 have HR := hide hr
 clear hr
 obtain ⟨A, hA⟩ : ∃ A, iF d.es id = A := ⟨_, rfl⟩
 rw [hA]
 have HA := hide hA
 clear hA
 go_enter Tryz.func49, Tryz.ntmps49
 go_wp2_with fail
 go_loop [5] (fun i => ∃ (k : Nat), i = .int .i64 k ∧ k ≤ d.es.length ∧ Hid (∀ j (hj : j < d.es.length), j < k → d.es[j].id ≠ id)) (fun i => d.es.length - (intOf i).toNat)
 case atStart => exact ⟨0, rfl, Nat.zero_le _, fun j _ hj => absurd hj (Nat.not_lt_zero _)⟩
 case round =>
  obtain ⟨k, rfl, hk, HN⟩ := hrel
  by_cases hlt : k < d.es.length
  ·obtain ⟨b, o, cs, rfl, hbw, rfl, hc⟩ := HR.out.at k hlt
   have c0 : w.cell? ⟨b, o + k * 2, none⟩ = some (.int .i64 d.es[k].id) := hc 0 _ rfl
   clear hc
   obtain ⟨s, hs⟩ : ∃ s, d.es[k].id = s := ⟨_, rfl⟩
   rw [hs] at c0
   have HS := hide hs
   clear hs
   by_cases h4 : s = id
   ·subst h4
    have HF : Hid (A = k) := by show A = k; rw [← HA.out]; exact AJ (Cz k hlt HS.out fun j hj => HN.out j (by omega) hj)
    go_wp2_with fail
    go_ret
    exact ⟨by rw [HF.out]; rfl, (by repeat' (first | (with_reducible exact Below.refl _ _) | (with_reducible refine Below.drew ?_) | (with_reducible refine ay _ ?_) | (with_reducible refine aA ?_ _) | (refine ah ?_ (by with_reducible assumption)) | (with_reducible refine Below.setCell ?_ ?_ _) | go_size))⟩
   ·have h4' : (s == id) = false := by simpa using h4
    have qL : Hid (∀ j (hj : j < d.es.length), j < k + 1 → d.es[j].id ≠ id) := fun j hj hjk => by
     by_cases e : j = k
     ·subst e; rw [HS.out]; exact h4
     ·exact HN.out j hj (by omega)
    clear h4
    go_wp2_with fail
    go_round
    case rel => exact ⟨k + 1, by go_num, by omega, qL⟩
    case measure => simp [intOf]; omega
  ·have HF : Hid (A = -1) := by
    show A = -1
    rw [← HA.out]
    refine Ow fun e he => ?_
    obtain ⟨j, hj, rfl⟩ := List.mem_iff_getElem.1 he
    exact HN.out j hj (by omega)
   go_wp2_with fail
   go_ret
   exact ⟨by rw [HF.out]; rfl, (by repeat' (first | (with_reducible exact Below.refl _ _) | (with_reducible refine Below.drew ?_) | (with_reducible refine ay _ ?_) | (with_reducible refine aA ?_ _) | (refine ah ?_ (by with_reducible assumption)) | (with_reducible refine Below.setCell ?_ ?_ _) | go_size))⟩
theorem mU {d : bZ} (h : ¬ ((0 ≤ d.lim ∧ d.lim ≤ 20) ∧ (d.top = 0 ∨ fI d.top = true) ∧ d.es.length ≤ 60 ∧ (∀ i (h : i < d.es.length), jw d.top d.es[i] = true ∧ (0 < i → (d.es[i - 1]'(by omega)).id < d.es[i].id)) ∧ fu d.es ≤ d.lim)) : fE d = false := by
 cases hq : fE d
 ·rfl
 ·exact absurd (qw.1 hq) h
set_option maxHeartbeats 4000000 in
theorem uP (d : bZ) (v : Value) (w : World) (hr : aT bE w v d.es) : Calls Tryz.prog 41 #[.agg #[.int .i64 d.lim, .int .i64 d.top, v]] w fun x w' => x = .returned (.bool (fE d)) ∧ Below w.heap.size w w' := by
 obtain ⟨ad, cap, rfl, h1, h2⟩ := hr.form
 have HR := hide hr
 clear hr
 obtain ⟨A, hA⟩ : ∃ A, fE d = A := ⟨_, rfl⟩
 rw [hA]
 have HA := hide hA
 clear hA
 cases hlim : aQ d.lim 0 20
 ·have HF : Hid (A = false) := by show A = false; rw [← HA.out]; exact mU fun c => rX hlim c.1
  go_enter Tryz.func41, Tryz.ntmps41; go_wp2_with fail; refine (jP _ _ _ _).mono ?_; rw [hlim]; rintro e w1 ⟨rfl, hsame⟩; obtain rfl := hsame.symm; clear hsame; go_wp2_with fail
  go_ret
  exact ⟨by rw [HF.out]; rfl, (by repeat' (first | (with_reducible exact Below.refl _ _) | (with_reducible refine Below.drew ?_) | (with_reducible refine ay _ ?_) | (with_reducible refine aA ?_ _) | (refine ah ?_ (by with_reducible assumption)) | (with_reducible refine Below.setCell ?_ ?_ _) | go_size))⟩
 have htc : (d.top = 0 ∧ (d.top != 0) = false) ∨ ((d.top != 0) = true ∧ fI d.top = false) ∨ ((d.top != 0) = true ∧ fI d.top = true) := by
  by_cases h : d.top = 0
  ·exact .inl ⟨h, by simp [h]⟩
  ·cases hq : fI d.top
   ·exact .inr (.inl ⟨by simpa using h, rfl⟩)
   ·exact .inr (.inr ⟨by simpa using h, rfl⟩)
 have hid := fun w => IJ d.top w
 rcases htc with ⟨ht0, ht1⟩ | ⟨ht1, ht2⟩ | ⟨ht1, ht2⟩
 ·have HT0 := hide ht0
  clear ht0
  go_enter Tryz.func41, Tryz.ntmps41
  go_wp2_with fail
  refine (jP _ _ _ _).mono ?_; rw [hlim]; rintro e w1 ⟨rfl, hsame⟩; obtain rfl := hsame.symm; clear hsame
  by_cases mG : (60 : Int) < d.es.length
  ·have HF : Hid (A = false) := by show A = false; rw [← HA.out]; exact mU fun c => by have := c.2.2.1; omega
   go_wp2_with fail
   go_ret
   exact ⟨by rw [HF.out]; rfl, (by repeat' (first | (with_reducible exact Below.refl _ _) | (with_reducible refine Below.drew ?_) | (with_reducible refine ay _ ?_) | (with_reducible refine aA ?_ _) | (refine ah ?_ (by with_reducible assumption)) | (with_reducible refine Below.setCell ?_ ?_ _) | go_size))⟩
  have IK : Hid (d.top = 0 ∨ fI d.top = true) := .inl HT0.out
  have IL := hide (jm hlim)
  clear hid
  have hbx : Below w.heap.size w (w.alloc (.cells #[.int .i64 d.lim, .int .i64 d.top, .slice ad d.es.length cap] 34)) := (Below.refl _ _).alloc (Nat.le_refl _) _
  have HX : Hid (aj (w.alloc (.cells #[.int .i64 d.lim, .int .i64 d.top, .slice ad d.es.length cap] 34)) w.heap.size 34 [.int .i64 d.lim, .int .i64 d.top, .slice ad d.es.length cap]) := aB w 34 [.int .i64 d.lim, .int .i64 d.top, .slice ad d.es.length cap]
  go_wp2_with fail
  go_loopw [3, 4] (fun n i wr => ∃ (k : Nat), i = .int .i64 k ∧ k ≤ d.es.length ∧ n = .int .i64 (fu (d.es.take k)) ∧ Hid (∀ j (hj : j < d.es.length), j < k → jw d.top d.es[j] = true ∧ (0 < j → (d.es[j - 1]'(by omega)).id < d.es[j].id)) ∧ Hid (aj wr w.heap.size 34 [.int .i64 d.lim, .int .i64 d.top, .slice ad d.es.length cap]) ∧ Hid (Below w.heap.size w wr)) (fun _ i _ => d.es.length - (intOf i).toNat)
  case atStart => exact ⟨0, rfl, Nat.zero_le _, rfl, fun j _ hj => absurd hj (Nat.not_lt_zero _), HX, hbx⟩
  case round =>
   clear HX hbx
   obtain ⟨k, rfl, hk, rfl, HC, HX, HB⟩ := hrel
   by_cases hlt : k < d.es.length
   ·obtain ⟨b, o, cs, rfl, hbw, rfl, hc⟩ := (HR.out.new HB.out).at k hlt
    have c0 : wr.cell? ⟨b, o + k * 2, none⟩ = some (.int .i64 d.es[k].id) := hc 0 _ rfl
    have c1 : wr.cell? ⟨b, o + k * 2 + 1, none⟩ = some (.int .i64 d.es[k].state) := hc 1 _ rfl
    clear hc
    have x2 := HX.out.cell (j := 2) rfl
    have jc := HX.out.lt
    have hlk := Gh dP d.es k hlt
    have hll := L6 (d.es.take k)
    have hln := L8 (d.es.take k)
    have hlk2 : (d.es.take k).length ≤ k := by rw [List.length_take]; omega
    have sP : Hid (fu (d.es.take (k + 1)) = fu (d.es.take k) + dP d.es[k]) := hlk
    generalize fu (d.es.take k) = q at *
    obtain ⟨e, he⟩ : ∃ e, d.es[k] = e := ⟨_, rfl⟩
    rw [he] at c0 c1
    have HE := hide he
    clear he hlk
    go_upto_region 8 with fail
    have hbe : Below wr.heap.size wr (wr.alloc (.cells #[.int .i64 e.id, .int .i64 e.state] 94)) := (Below.refl _ _).alloc (Nat.le_refl _) _
    have hre : aj (wr.alloc (.cells #[.int .i64 e.id, .int .i64 e.state] 94)) wr.heap.size 94 [.int .i64 e.id, .int .i64 e.state] := aB wr 94 [.int .i64 e.id, .int .i64 e.state]
    generalize wr.alloc (.cells #[.int .i64 e.id, .int .i64 e.state] 94) = X at *
    replace HX := hide (HX.out.new hbe)
    replace HB := hide (ah HB.out hbe)
    have AZ := hre.cell (j := 0) rfl
    have A8 := hre.cell (j := 1) rfl
    have qJ := hre.lt
    have hx1 := HX.out.cell (j := 1) rfl
    have hx2 := HX.out.cell (j := 2) rfl
    have A9 := HX.out.lt
    generalize wr.heap.size = ge at *
    have Ba : ∀ y : Later X, y.w.cell? ⟨ge, 0, none⟩ = some (.int .i64 e.id) := fun y => (y.b.cell (p := ⟨ge, 0, none⟩) qJ).trans AZ
    have sQ : ∀ y : Later X, y.w.cell? ⟨ge, 1, none⟩ = some (.int .i64 e.state) := fun y => (y.b.cell (p := ⟨ge, 1, none⟩) qJ).trans A8
    have Bc : ∀ y : Later X, y.w.cell? ⟨w.heap.size, 1, none⟩ = some (.int .i64 d.top) := fun y => (y.b.cell (p := ⟨w.heap.size, 1, none⟩) A9).trans hx1
    have Bd : ∀ y : Later X, y.w.cell? ⟨w.heap.size, 2, none⟩ = some (.slice (some ⟨b, o, none⟩) d.es.length cap) := fun y => (y.b.cell (p := ⟨w.heap.size, 2, none⟩) A9).trans hx2
    clear c0 c1 x2 jc hbe hre AZ A8 hx1 hx2
    have hI := fun w => IJ e.id w
    have hS := fun w => jP e.state 1 4 w
    cases hi : fI e.id
    ·rw [hi] at hI
     have HF : Hid (A = false) := by
      show A = false
      rw [← HA.out]
      refine mU fun c => ?_
      have hck := c.2.2.2.1 k hlt
      rw [HE.out] at hck
      have hek := nC.1 hck.1
      rw [hi] at hek; simp at hek
     have hne : Nonempty (Later X) := ⟨⟨X, Below.refl _ _⟩⟩; refine eH (by kernel_rfl) (by kernel_rfl) ?_
     repeat (go_big_quiet_step (fail))
     go_big_quiet_want; go_big_quiet_op; refine ⟨.bool false, fun y => gD (x := y) (hI y.w), ?_⟩; go_big_quiet_on
     repeat (go_big_quiet_step (fail))
     refine wpQuiet_nil ?_; intro _ hw'; obtain ⟨y, hw''⟩ := hw'; subst hw''; have hby := y.b
     go_wp2_with fail
     go_ret
     exact ⟨by rw [HF.out]; rfl, ah HB.out hby⟩
    rw [hi] at hI
    by_cases htp : d.top < e.id
    ·have HF : Hid (A = false) := by
      show A = false
      rw [← HA.out]
      refine mU fun c => ?_
      have hck := c.2.2.2.1 k hlt
      rw [HE.out] at hck
      have hek := nC.1 hck.1
      omega
     have hne : Nonempty (Later X) := ⟨⟨X, Below.refl _ _⟩⟩; refine eH (by kernel_rfl) (by kernel_rfl) ?_
     repeat (go_big_quiet_step (fail))
     go_big_quiet_want; go_big_quiet_op; refine ⟨.bool true, fun y => gD (x := y) (hI y.w), ?_⟩; go_big_quiet_on
     repeat (go_big_quiet_step (fail))
     refine wpQuiet_nil ?_; intro _ hw'; obtain ⟨y, hw''⟩ := hw'; subst hw''; have hby := y.b
     go_wp2_with fail
     go_ret
     exact ⟨by rw [HF.out]; rfl, ah HB.out hby⟩
    cases hs : aQ e.state 1 4
    ·rw [hs] at hS
     have HF : Hid (A = false) := by
      show A = false
      rw [← HA.out]
      refine mU fun c => ?_
      have hck := c.2.2.2.1 k hlt
      rw [HE.out] at hck
      have hek := nC.1 hck.1
      exact rX hs hek.2.2
     have hne : Nonempty (Later X) := ⟨⟨X, Below.refl _ _⟩⟩; refine eH (by kernel_rfl) (by kernel_rfl) ?_
     repeat (go_big_quiet_step (fail))
     go_big_quiet_want; go_big_quiet_op; refine ⟨.bool true, fun y => gD (x := y) (hI y.w), ?_⟩; go_big_quiet_on
     repeat (go_big_quiet_step (fail))
     go_big_quiet_want; go_big_quiet_op; refine ⟨.bool false, fun y => gD (x := y) (hS y.w), ?_⟩; go_big_quiet_on
     repeat (go_big_quiet_step (fail))
     refine wpQuiet_nil ?_; intro _ hw'; obtain ⟨y, hw''⟩ := hw'; subst hw''; have hby := y.b
     go_wp2_with fail
     go_ret
     exact ⟨by rw [HF.out]; rfl, ah HB.out hby⟩
    rw [hs] at hS
    have Bf : Hid (jw d.top d.es[k] = true) := by show _ = true; rw [HE.out]; exact nC.2 ⟨hi, by omega, jm hs⟩
    cases k with
    | zero =>
     have hk0 : decide ((0 : Int) < ((0 : Nat) : Int)) = false := rfl
     have hne : Nonempty (Later X) := ⟨⟨X, Below.refl _ _⟩⟩; refine eH (by kernel_rfl) (by kernel_rfl) ?_
     repeat (go_big_quiet_step (fail))
     go_big_quiet_want; go_big_quiet_op; refine ⟨.bool true, fun y => gD (x := y) (hI y.w), ?_⟩; go_big_quiet_on
     repeat (go_big_quiet_step (fail))
     go_big_quiet_want; go_big_quiet_op; refine ⟨.bool true, fun y => gD (x := y) (hS y.w), ?_⟩; go_big_quiet_on
     repeat (go_big_quiet_step (fail))
     refine wpQuiet_nil ?_; intro _ hw'; obtain ⟨y, hw''⟩ := hw'; subst hw''; have hby := y.b
     have mo : Hid (∀ j (hj : j < d.es.length), j < 0 + 1 → jw d.top d.es[j] = true ∧ (0 < j → (d.es[j - 1]'(by omega)).id < d.es[j].id)) := fun j hj hjk => by
      by_cases ej : j = 0
      ·subst ej; exact ⟨Bf.out, fun h => absurd h (Nat.lt_irrefl _)⟩
      ·exact HC.out j hj (by omega)
     have IQ := sQ y
     have o7 := hide (HX.out.new hby)
     have HB2 := hide (ah HB.out hby)
     have IU := Nat.lt_of_lt_of_le qJ hby.size
     clear Ba sQ Bc Bd hne
     by_cases h4 : e.state = 4
     ·have H4 : Hid (dP d.es[0] = 0) := by show dP _ = 0; unfold dP; rw [HE.out, if_pos h4]
      have h4' : (e.state != 4) = false := by simp [h4]
      clear h4
      go_wp2_with fail
      go_roundw
      case rel => exact ⟨0 + 1, by go_num, by omega, int_eq (by have := sP.out; have := H4.out; omega), mo, o7, HB2⟩
      case measure => simp [intOf]; omega
     ·have H4 : Hid (dP d.es[0] = 1) := by show dP _ = 1; unfold dP; rw [HE.out, if_neg h4]
      have h4' : (e.state != 4) = true := by simpa using h4
      clear h4
      go_wp2_with fail
      go_roundw
      case rel => exact ⟨0 + 1, by go_num, by omega, int_eq (by have := sP.out; have := H4.out; omega), mo, o7, HB2⟩
      case measure => simp [intOf]; omega
    | succ k =>
     have hkp : decide ((0 : Int) < ((k + 1 : Nat) : Int)) = true := decide_eq_true (by omega)
     obtain ⟨b', o', cs', gB, oO, rfl, hc'⟩ := (HR.out.new HB.out).at k (by omega)
     simp only [Option.some.injEq, Addr.mk.injEq] at gB
     obtain ⟨rfl, rfl, -⟩ := gB
     have hp0 : X.cell? ⟨b, o + k * 2, none⟩ = some (.int .i64 (d.es[k]'(by omega)).id) := hc' 0 _ rfl
     clear hc'
     obtain ⟨pe, hpe⟩ : ∃ pe, (d.es[k]'(by omega)).id = pe := ⟨_, rfl⟩
     rw [hpe] at hp0
     have Bg := hide hpe
     clear hpe
     have IV : ∀ y : Later X, y.w.cell? ⟨b, o + k * 2, none⟩ = some (.int .i64 pe) := fun y => (y.b.cell (p := ⟨b, o + k * 2, none⟩) oO).trans hp0
     clear hp0
     by_cases hpr : e.id ≤ pe
     ·have HF : Hid (A = false) := by
       show A = false
       rw [← HA.out]
       refine mU fun c => ?_
       have hck := c.2.2.2.1 (k + 1) hlt
       rw [HE.out] at hck
       have hek := nC.1 hck.1
       have h3 := hck.2 (by omega)
       simp only [Nat.add_sub_cancel] at h3
       rw [Bg.out] at h3
       omega
      have hne : Nonempty (Later X) := ⟨⟨X, Below.refl _ _⟩⟩; refine eH (by kernel_rfl) (by kernel_rfl) ?_
      repeat (go_big_quiet_step (fail))
      go_big_quiet_want; go_big_quiet_op; refine ⟨.bool true, fun y => gD (x := y) (hI y.w), ?_⟩; go_big_quiet_on
      repeat (go_big_quiet_step (fail))
      go_big_quiet_want; go_big_quiet_op; refine ⟨.bool true, fun y => gD (x := y) (hS y.w), ?_⟩; go_big_quiet_on
      repeat (go_big_quiet_step (fail))
      refine wpQuiet_nil ?_; intro _ hw'; obtain ⟨y, hw''⟩ := hw'; subst hw''; have hby := y.b
      go_wp2_with fail
      go_ret
      exact ⟨by rw [HF.out]; rfl, ah HB.out hby⟩
     ·have hne : Nonempty (Later X) := ⟨⟨X, Below.refl _ _⟩⟩; refine eH (by kernel_rfl) (by kernel_rfl) ?_
      repeat (go_big_quiet_step (fail))
      go_big_quiet_want; go_big_quiet_op; refine ⟨.bool true, fun y => gD (x := y) (hI y.w), ?_⟩; go_big_quiet_on
      repeat (go_big_quiet_step (fail))
      go_big_quiet_want; go_big_quiet_op; refine ⟨.bool true, fun y => gD (x := y) (hS y.w), ?_⟩; go_big_quiet_on
      repeat (go_big_quiet_step (fail))
      refine wpQuiet_nil ?_; intro _ hw'; obtain ⟨y, hw''⟩ := hw'; subst hw''; have hby := y.b
      have mo : Hid (∀ j (hj : j < d.es.length), j < k + 1 + 1 → jw d.top d.es[j] = true ∧ (0 < j → (d.es[j - 1]'(by omega)).id < d.es[j].id)) := fun j hj hjk => by
       by_cases ej : j = k + 1
       ·subst ej; exact ⟨Bf.out, fun h => by have h3 := Bg.out; have h4 := HE.out; simp only [Nat.add_sub_cancel]; rw [h3, h4]; omega⟩
       ·exact HC.out j hj (by omega)
      have IQ := sQ y
      have o7 := hide (HX.out.new hby)
      have HB2 := hide (ah HB.out hby)
      have IU := Nat.lt_of_lt_of_le qJ hby.size
      clear Ba sQ Bc Bd IV hne
      by_cases h4 : e.state = 4
      ·have H4 : Hid (dP d.es[k + 1] = 0) := by show dP _ = 0; unfold dP; rw [HE.out, if_pos h4]
       have h4' : (e.state != 4) = false := by simp [h4]
       clear h4
       go_wp2_with fail
       go_roundw
       case rel => exact ⟨k + 1 + 1, by go_num, by omega, int_eq (by have := sP.out; have := H4.out; omega), mo, o7, HB2⟩
       case measure => simp [intOf]; omega
      ·have H4 : Hid (dP d.es[k + 1] = 1) := by show dP _ = 1; unfold dP; rw [HE.out, if_neg h4]
       have h4' : (e.state != 4) = true := by simpa using h4
       clear h4
       go_wp2_with fail
       go_roundw
       case rel => exact ⟨k + 1 + 1, by go_num, by omega, int_eq (by have := sP.out; have := H4.out; omega), mo, o7, HB2⟩
       case measure => simp [intOf]; omega
   ·obtain rfl : k = d.es.length := by omega
    rw [List.take_length]
    have x0 := HX.out.cell (j := 0) rfl
    have x2 := HX.out.cell (j := 2) rfl
    have jc := HX.out.lt
    have gL : Hid (A = decide (fu d.es ≤ d.lim)) := by
     show A = _
     rw [← HA.out]
     by_cases hl : fu d.es ≤ d.lim
     ·rw [decide_eq_true hl]; exact qw.2 ⟨IL.out, IK.out, by omega, fun j hj => HC.out j hj hj, hl⟩
     ·rw [decide_eq_false hl]; exact mU fun c => hl c.2.2.2.2
    go_wp2_with fail
    go_ret
    exact ⟨by rw [gL.out]; rfl, HB.out⟩
 ·have HF : Hid (A = false) := by show A = false; rw [← HA.out]; exact mU fun c => c.2.1.elim (fun h => by simp [h] at ht1) (fun h => by rw [ht2] at h; cases h)
  rw [ht2] at hid
  go_enter Tryz.func41, Tryz.ntmps41; go_wp2_with fail; refine (jP _ _ _ _).mono ?_; rw [hlim]; rintro e w1 ⟨rfl, hsame⟩; obtain rfl := hsame.symm; clear hsame; go_wp2_with fail
  refine (hid _).mono ?_; rintro e w2 ⟨rfl, hsame⟩; obtain rfl := hsame.symm; clear hsame
  go_wp2_with fail
  go_ret
  exact ⟨by rw [HF.out]; rfl, (by repeat' (first | (with_reducible exact Below.refl _ _) | (with_reducible refine Below.drew ?_) | (with_reducible refine ay _ ?_) | (with_reducible refine aA ?_ _) | (refine ah ?_ (by with_reducible assumption)) | (with_reducible refine Below.setCell ?_ ?_ _) | go_size))⟩
 ·rw [ht2] at hid
  go_enter Tryz.func41, Tryz.ntmps41; go_wp2_with fail; refine (jP _ _ _ _).mono ?_; rw [hlim]; rintro e w1 ⟨rfl, hsame⟩; obtain rfl := hsame.symm; clear hsame; go_wp2_with fail
  refine (hid _).mono ?_; rintro e w2 ⟨rfl, hsame⟩; obtain rfl := hsame.symm; clear hsame
  by_cases mG : (60 : Int) < d.es.length
  ·have HF : Hid (A = false) := by show A = false; rw [← HA.out]; exact mU fun c => by have := c.2.2.1; omega
   go_wp2_with fail
   go_ret
   exact ⟨by rw [HF.out]; rfl, (by repeat' (first | (with_reducible exact Below.refl _ _) | (with_reducible refine Below.drew ?_) | (with_reducible refine ay _ ?_) | (with_reducible refine aA ?_ _) | (refine ah ?_ (by with_reducible assumption)) | (with_reducible refine Below.setCell ?_ ?_ _) | go_size))⟩
  have IK : Hid (d.top = 0 ∨ fI d.top = true) := .inr ht2
  have IL := hide (jm hlim)
  clear hid
  have hbx : Below w.heap.size w (w.alloc (.cells #[.int .i64 d.lim, .int .i64 d.top, .slice ad d.es.length cap] 34)) := (Below.refl _ _).alloc (Nat.le_refl _) _
  have HX : Hid (aj (w.alloc (.cells #[.int .i64 d.lim, .int .i64 d.top, .slice ad d.es.length cap] 34)) w.heap.size 34 [.int .i64 d.lim, .int .i64 d.top, .slice ad d.es.length cap]) := aB w 34 [.int .i64 d.lim, .int .i64 d.top, .slice ad d.es.length cap]
  go_wp2_with fail
  go_loopw [3, 4] (fun n i wr => ∃ (k : Nat), i = .int .i64 k ∧ k ≤ d.es.length ∧ n = .int .i64 (fu (d.es.take k)) ∧ Hid (∀ j (hj : j < d.es.length), j < k → jw d.top d.es[j] = true ∧ (0 < j → (d.es[j - 1]'(by omega)).id < d.es[j].id)) ∧ Hid (aj wr w.heap.size 34 [.int .i64 d.lim, .int .i64 d.top, .slice ad d.es.length cap]) ∧ Hid (Below w.heap.size w wr)) (fun _ i _ => d.es.length - (intOf i).toNat)
  case atStart => exact ⟨0, rfl, Nat.zero_le _, rfl, fun j _ hj => absurd hj (Nat.not_lt_zero _), HX, hbx⟩
  case round =>
   clear HX hbx
   obtain ⟨k, rfl, hk, rfl, HC, HX, HB⟩ := hrel
   by_cases hlt : k < d.es.length
   ·obtain ⟨b, o, cs, rfl, hbw, rfl, hc⟩ := (HR.out.new HB.out).at k hlt
    have c0 : wr.cell? ⟨b, o + k * 2, none⟩ = some (.int .i64 d.es[k].id) := hc 0 _ rfl
    have c1 : wr.cell? ⟨b, o + k * 2 + 1, none⟩ = some (.int .i64 d.es[k].state) := hc 1 _ rfl
    clear hc
    have x2 := HX.out.cell (j := 2) rfl
    have jc := HX.out.lt
    have hlk := Gh dP d.es k hlt
    have hll := L6 (d.es.take k)
    have hln := L8 (d.es.take k)
    have hlk2 : (d.es.take k).length ≤ k := by rw [List.length_take]; omega
    have sP : Hid (fu (d.es.take (k + 1)) = fu (d.es.take k) + dP d.es[k]) := hlk
    generalize fu (d.es.take k) = q at *
    obtain ⟨e, he⟩ : ∃ e, d.es[k] = e := ⟨_, rfl⟩
    rw [he] at c0 c1
    have HE := hide he
    clear he hlk
    go_upto_region 8 with fail
    have hbe : Below wr.heap.size wr (wr.alloc (.cells #[.int .i64 e.id, .int .i64 e.state] 94)) := (Below.refl _ _).alloc (Nat.le_refl _) _
    have hre : aj (wr.alloc (.cells #[.int .i64 e.id, .int .i64 e.state] 94)) wr.heap.size 94 [.int .i64 e.id, .int .i64 e.state] := aB wr 94 [.int .i64 e.id, .int .i64 e.state]
    generalize wr.alloc (.cells #[.int .i64 e.id, .int .i64 e.state] 94) = X at *
    replace HX := hide (HX.out.new hbe)
    replace HB := hide (ah HB.out hbe)
    have AZ := hre.cell (j := 0) rfl
    have A8 := hre.cell (j := 1) rfl
    have qJ := hre.lt
    have hx1 := HX.out.cell (j := 1) rfl
    have hx2 := HX.out.cell (j := 2) rfl
    have A9 := HX.out.lt
    generalize wr.heap.size = ge at *
    have Ba : ∀ y : Later X, y.w.cell? ⟨ge, 0, none⟩ = some (.int .i64 e.id) := fun y => (y.b.cell (p := ⟨ge, 0, none⟩) qJ).trans AZ
    have sQ : ∀ y : Later X, y.w.cell? ⟨ge, 1, none⟩ = some (.int .i64 e.state) := fun y => (y.b.cell (p := ⟨ge, 1, none⟩) qJ).trans A8
    have Bc : ∀ y : Later X, y.w.cell? ⟨w.heap.size, 1, none⟩ = some (.int .i64 d.top) := fun y => (y.b.cell (p := ⟨w.heap.size, 1, none⟩) A9).trans hx1
    have Bd : ∀ y : Later X, y.w.cell? ⟨w.heap.size, 2, none⟩ = some (.slice (some ⟨b, o, none⟩) d.es.length cap) := fun y => (y.b.cell (p := ⟨w.heap.size, 2, none⟩) A9).trans hx2
    clear c0 c1 x2 jc hbe hre AZ A8 hx1 hx2
    have hI := fun w => IJ e.id w
    have hS := fun w => jP e.state 1 4 w
    cases hi : fI e.id
    ·rw [hi] at hI
     have HF : Hid (A = false) := by
      show A = false
      rw [← HA.out]
      refine mU fun c => ?_
      have hck := c.2.2.2.1 k hlt
      rw [HE.out] at hck
      have hek := nC.1 hck.1
      rw [hi] at hek; simp at hek
     have hne : Nonempty (Later X) := ⟨⟨X, Below.refl _ _⟩⟩; refine eH (by kernel_rfl) (by kernel_rfl) ?_
     repeat (go_big_quiet_step (fail))
     go_big_quiet_want; go_big_quiet_op; refine ⟨.bool false, fun y => gD (x := y) (hI y.w), ?_⟩; go_big_quiet_on
     repeat (go_big_quiet_step (fail))
     refine wpQuiet_nil ?_; intro _ hw'; obtain ⟨y, hw''⟩ := hw'; subst hw''; have hby := y.b
     go_wp2_with fail
     go_ret
     exact ⟨by rw [HF.out]; rfl, ah HB.out hby⟩
    rw [hi] at hI
    by_cases htp : d.top < e.id
    ·have HF : Hid (A = false) := by
      show A = false
      rw [← HA.out]
      refine mU fun c => ?_
      have hck := c.2.2.2.1 k hlt
      rw [HE.out] at hck
      have hek := nC.1 hck.1
      omega
     have hne : Nonempty (Later X) := ⟨⟨X, Below.refl _ _⟩⟩; refine eH (by kernel_rfl) (by kernel_rfl) ?_
     repeat (go_big_quiet_step (fail))
     go_big_quiet_want; go_big_quiet_op; refine ⟨.bool true, fun y => gD (x := y) (hI y.w), ?_⟩; go_big_quiet_on
     repeat (go_big_quiet_step (fail))
     refine wpQuiet_nil ?_; intro _ hw'; obtain ⟨y, hw''⟩ := hw'; subst hw''; have hby := y.b
     go_wp2_with fail
     go_ret
     exact ⟨by rw [HF.out]; rfl, ah HB.out hby⟩
    cases hs : aQ e.state 1 4
    ·rw [hs] at hS
     have HF : Hid (A = false) := by
      show A = false
      rw [← HA.out]
      refine mU fun c => ?_
      have hck := c.2.2.2.1 k hlt
      rw [HE.out] at hck
      have hek := nC.1 hck.1
      exact rX hs hek.2.2
     have hne : Nonempty (Later X) := ⟨⟨X, Below.refl _ _⟩⟩; refine eH (by kernel_rfl) (by kernel_rfl) ?_
     repeat (go_big_quiet_step (fail))
     go_big_quiet_want; go_big_quiet_op; refine ⟨.bool true, fun y => gD (x := y) (hI y.w), ?_⟩; go_big_quiet_on
     repeat (go_big_quiet_step (fail))
     go_big_quiet_want; go_big_quiet_op; refine ⟨.bool false, fun y => gD (x := y) (hS y.w), ?_⟩; go_big_quiet_on
     repeat (go_big_quiet_step (fail))
     refine wpQuiet_nil ?_; intro _ hw'; obtain ⟨y, hw''⟩ := hw'; subst hw''; have hby := y.b
     go_wp2_with fail
     go_ret
     exact ⟨by rw [HF.out]; rfl, ah HB.out hby⟩
    rw [hs] at hS
    have Bf : Hid (jw d.top d.es[k] = true) := by show _ = true; rw [HE.out]; exact nC.2 ⟨hi, by omega, jm hs⟩
    cases k with
    | zero =>
     have hk0 : decide ((0 : Int) < ((0 : Nat) : Int)) = false := rfl
     have hne : Nonempty (Later X) := ⟨⟨X, Below.refl _ _⟩⟩; refine eH (by kernel_rfl) (by kernel_rfl) ?_
     repeat (go_big_quiet_step (fail))
     go_big_quiet_want; go_big_quiet_op; refine ⟨.bool true, fun y => gD (x := y) (hI y.w), ?_⟩; go_big_quiet_on
     repeat (go_big_quiet_step (fail))
     go_big_quiet_want; go_big_quiet_op; refine ⟨.bool true, fun y => gD (x := y) (hS y.w), ?_⟩; go_big_quiet_on
     repeat (go_big_quiet_step (fail))
     refine wpQuiet_nil ?_; intro _ hw'; obtain ⟨y, hw''⟩ := hw'; subst hw''; have hby := y.b
     have mo : Hid (∀ j (hj : j < d.es.length), j < 0 + 1 → jw d.top d.es[j] = true ∧ (0 < j → (d.es[j - 1]'(by omega)).id < d.es[j].id)) := fun j hj hjk => by
      by_cases ej : j = 0
      ·subst ej; exact ⟨Bf.out, fun h => absurd h (Nat.lt_irrefl _)⟩
      ·exact HC.out j hj (by omega)
     have IQ := sQ y
     have o7 := hide (HX.out.new hby)
     have HB2 := hide (ah HB.out hby)
     have IU := Nat.lt_of_lt_of_le qJ hby.size
     clear Ba sQ Bc Bd hne
     by_cases h4 : e.state = 4
     ·have H4 : Hid (dP d.es[0] = 0) := by show dP _ = 0; unfold dP; rw [HE.out, if_pos h4]
      have h4' : (e.state != 4) = false := by simp [h4]
      clear h4
      go_wp2_with fail
      go_roundw
      case rel => exact ⟨0 + 1, by go_num, by omega, int_eq (by have := sP.out; have := H4.out; omega), mo, o7, HB2⟩
      case measure => simp [intOf]; omega
     ·have H4 : Hid (dP d.es[0] = 1) := by show dP _ = 1; unfold dP; rw [HE.out, if_neg h4]
      have h4' : (e.state != 4) = true := by simpa using h4
      clear h4
      go_wp2_with fail
      go_roundw
      case rel => exact ⟨0 + 1, by go_num, by omega, int_eq (by have := sP.out; have := H4.out; omega), mo, o7, HB2⟩
      case measure => simp [intOf]; omega
    | succ k =>
     have hkp : decide ((0 : Int) < ((k + 1 : Nat) : Int)) = true := decide_eq_true (by omega)
     obtain ⟨b', o', cs', gB, oO, rfl, hc'⟩ := (HR.out.new HB.out).at k (by omega)
     simp only [Option.some.injEq, Addr.mk.injEq] at gB
     obtain ⟨rfl, rfl, -⟩ := gB
     have hp0 : X.cell? ⟨b, o + k * 2, none⟩ = some (.int .i64 (d.es[k]'(by omega)).id) := hc' 0 _ rfl
     clear hc'
     obtain ⟨pe, hpe⟩ : ∃ pe, (d.es[k]'(by omega)).id = pe := ⟨_, rfl⟩
     rw [hpe] at hp0
     have Bg := hide hpe
     clear hpe
     have IV : ∀ y : Later X, y.w.cell? ⟨b, o + k * 2, none⟩ = some (.int .i64 pe) := fun y => (y.b.cell (p := ⟨b, o + k * 2, none⟩) oO).trans hp0
     clear hp0
     by_cases hpr : e.id ≤ pe
     ·have HF : Hid (A = false) := by
       show A = false
       rw [← HA.out]
       refine mU fun c => ?_
       have hck := c.2.2.2.1 (k + 1) hlt
       rw [HE.out] at hck
       have hek := nC.1 hck.1
       have h3 := hck.2 (by omega)
       simp only [Nat.add_sub_cancel] at h3
       rw [Bg.out] at h3
       omega
      have hne : Nonempty (Later X) := ⟨⟨X, Below.refl _ _⟩⟩; refine eH (by kernel_rfl) (by kernel_rfl) ?_
      repeat (go_big_quiet_step (fail))
      go_big_quiet_want; go_big_quiet_op; refine ⟨.bool true, fun y => gD (x := y) (hI y.w), ?_⟩; go_big_quiet_on
      repeat (go_big_quiet_step (fail))
      go_big_quiet_want; go_big_quiet_op; refine ⟨.bool true, fun y => gD (x := y) (hS y.w), ?_⟩; go_big_quiet_on
      repeat (go_big_quiet_step (fail))
      refine wpQuiet_nil ?_; intro _ hw'; obtain ⟨y, hw''⟩ := hw'; subst hw''; have hby := y.b
      go_wp2_with fail
      go_ret
      exact ⟨by rw [HF.out]; rfl, ah HB.out hby⟩
     ·have hne : Nonempty (Later X) := ⟨⟨X, Below.refl _ _⟩⟩; refine eH (by kernel_rfl) (by kernel_rfl) ?_
      repeat (go_big_quiet_step (fail))
      go_big_quiet_want; go_big_quiet_op; refine ⟨.bool true, fun y => gD (x := y) (hI y.w), ?_⟩; go_big_quiet_on
      repeat (go_big_quiet_step (fail))
      go_big_quiet_want; go_big_quiet_op; refine ⟨.bool true, fun y => gD (x := y) (hS y.w), ?_⟩; go_big_quiet_on
      repeat (go_big_quiet_step (fail))
      refine wpQuiet_nil ?_; intro _ hw'; obtain ⟨y, hw''⟩ := hw'; subst hw''; have hby := y.b
      have mo : Hid (∀ j (hj : j < d.es.length), j < k + 1 + 1 → jw d.top d.es[j] = true ∧ (0 < j → (d.es[j - 1]'(by omega)).id < d.es[j].id)) := fun j hj hjk => by
       by_cases ej : j = k + 1
       ·subst ej; exact ⟨Bf.out, fun h => by have h3 := Bg.out; have h4 := HE.out; simp only [Nat.add_sub_cancel]; rw [h3, h4]; omega⟩
       ·exact HC.out j hj (by omega)
      have IQ := sQ y
      have o7 := hide (HX.out.new hby)
      have HB2 := hide (ah HB.out hby)
      have IU := Nat.lt_of_lt_of_le qJ hby.size
      clear Ba sQ Bc Bd IV hne
      by_cases h4 : e.state = 4
      ·have H4 : Hid (dP d.es[k + 1] = 0) := by show dP _ = 0; unfold dP; rw [HE.out, if_pos h4]
       have h4' : (e.state != 4) = false := by simp [h4]
       clear h4
       go_wp2_with fail
       go_roundw
       case rel => exact ⟨k + 1 + 1, by go_num, by omega, int_eq (by have := sP.out; have := H4.out; omega), mo, o7, HB2⟩
       case measure => simp [intOf]; omega
      ·have H4 : Hid (dP d.es[k + 1] = 1) := by show dP _ = 1; unfold dP; rw [HE.out, if_neg h4]
       have h4' : (e.state != 4) = true := by simpa using h4
       clear h4
       go_wp2_with fail
       go_roundw
       case rel => exact ⟨k + 1 + 1, by go_num, by omega, int_eq (by have := sP.out; have := H4.out; omega), mo, o7, HB2⟩
       case measure => simp [intOf]; omega
   ·obtain rfl : k = d.es.length := by omega
    rw [List.take_length]
    have x0 := HX.out.cell (j := 0) rfl
    have x2 := HX.out.cell (j := 2) rfl
    have jc := HX.out.lt
    have gL : Hid (A = decide (fu d.es ≤ d.lim)) := by
     show A = _
     rw [← HA.out]
     by_cases hl : fu d.es ≤ d.lim
     ·rw [decide_eq_true hl]; exact qw.2 ⟨IL.out, IK.out, by omega, fun j hj => HC.out j hj hj, hl⟩
     ·rw [decide_eq_false hl]; exact mU fun c => hl c.2.2.2.2
    go_wp2_with fail
    go_ret
    exact ⟨by rw [gL.out]; rfl, HB.out⟩
theorem YJ (w : World) (e : TypeId) : (w.alloc (.cells #[] e)).ownsRow w.heap.size e 2 (.slice (some ⟨w.heap.size, 0, none⟩) 0 0) 0 [] :=
 ⟨rfl, .inr ⟨w.heap.size, 0, #[], rfl, Nat.le_refl _, heap_alloc_last w _, Nat.le_refl _, Nat.zero_le _, rfl, rfl⟩⟩
theorem YF (w : World) (e : TypeId) (f : Fd) : (w.alloc (.cells #[.string f.n, .string f.v] e)).ownsRow w.heap.size e 2 (.slice (some ⟨w.heap.size, 0, none⟩) 1 1) 1 (fv [f]) :=
 ⟨rfl, .inr ⟨w.heap.size, 1, #[.string f.n, .string f.v], rfl, Nat.le_refl _, heap_alloc_last w _, Nat.le_refl _, by unfold maxLen; omega, rfl, rfl⟩⟩
theorem YC {w : World} {base : Nat} {e : TypeId} {size n k cap : Nat} {ad : Option Addr} {xs : List Value} (h : w.ownsRow base e size (.slice ad n cap) n xs) (hk : k ≤ n) (h0 : 0 < n) : w.ownsRow base e size (.slice ad k cap) k (xs.take (k * size)) := by
 have hm : k * size ≤ n * size := Nat.mul_le_mul_right _ hk
 refine ⟨by rw [List.length_take, h.1]; omega, ?_⟩
 rcases h.2 with ⟨_, rfl⟩ | ⟨g, cap', cur, e1, hb, hg, h1, h2, h3, h4⟩
 ·omega
 ·simp only [Value.slice.injEq] at e1
  obtain ⟨rfl, _, rfl⟩ := e1
  exact .inr ⟨g, cap, cur, rfl, hb, hg, by omega, h2, h3, by rw [← h4, List.take_take, Nat.min_eq_left hm]⟩
set_option maxHeartbeats 2000000 in
theorem Ox (L : List Fd) (room : Int) (v : Value) (w : World) (hr0 : Reads w v L.length 2 (fv L)) (hL : L.length ≤ 1000) :
  Calls Tryz.prog 48 #[.agg #[.int .i64 room, v]] w fun x w' => ∃ v', x = .returned (.agg #[.int .i64 room, v']) ∧ w'.ownsRow w.heap.size 104 2 v' L.length (fv L) ∧ Below w.heap.size w w' := by
 have HR := hide hr0
 obtain ⟨hl, ad, cap, rfl, h1, h2, h3⟩ := hr0
 clear h3
 go_enter Tryz.func48, Tryz.ntmps48
 go_wp2_with fail
 generalize hV : (w.alloc (.cells #[.int .i64 room, .slice ad L.length cap] 37)).alloc (.cells #[.int .i64 0, .slice none 0 0] 37) = V
 have aO : Below w.heap.size w V := by rw [← hV]; exact aA ((Below.refl _ _).alloc (Nat.le_refl _) _) _
 have hX : aj V w.heap.size 37 [.int .i64 room, .slice ad L.length cap] := by rw [← hV]; exact (aB w 37 [.int .i64 room, .slice ad L.length cap]).alloc _
 have hRR : aj V (w.heap.size + 1) 37 [.int .i64 0, .slice none 0 0] := by rw [← hV]; simpa using aB (w.alloc (.cells #[.int .i64 room, .slice ad L.length cap] 37)) 37 [.int .i64 0, .slice none 0 0]
 clear hV
 have HX := hide hX; have HRR := hide hRR
 have jy := hRR.lt
 have x0 := hX.cell (j := 0) rfl
 have x1 := hX.cell (j := 1) rfl
 clear hX hRR
 have hS0 := And.intro x0 x1
 refine wp_region_held_drew (S := (fun u => u.cell? ⟨w.heap.size, 0, none⟩ = some (.int .i64 room) ∧ u.cell? ⟨w.heap.size, 1, none⟩ = some (.slice ad L.length cap))) (by kernel_rfl) hS0 (fun hS => ?_)
 refine wpAnyH_take (i := 0) (v := ?_) rfl (by kernel_rfl) (by kernel_rfl) (by kernel_rfl) (fun _ _ _ h => h) (Or.inl ⟨by rfl, ?_⟩) hS ?_; rotate_left; focus (intro w hw; clear hw; go_simp; try with_reducible rfl)
 refine wpAnyH_take (i := 3) (v := ?_) rfl (by kernel_rfl) (by kernel_rfl) (by kernel_rfl) (fun _ _ _ h => h) (Or.inl ⟨by rfl, ?_⟩) hS ?_; rotate_left; focus (intro w hw; clear hw; go_simp; try with_reducible rfl)
 refine wpAnyH_take (i := 1) (v := ?_) rfl (by kernel_rfl) (by kernel_rfl) (by kernel_rfl) (fun _ _ _ h => h) (Or.inl ⟨by rfl, ?_⟩) hS ?_; rotate_left; focus (intro w hw; obtain ⟨l0, l1⟩ := hw; go_simp; try with_reducible rfl)
 refine wpAnyH_take (i := 4) (v := ?_) rfl (by kernel_rfl) (by kernel_rfl) (by kernel_rfl) (fun _ _ _ h => h) (Or.inl ⟨by rfl, ?_⟩) hS ?_; rotate_left; focus (intro w hw; obtain ⟨l0, l1⟩ := hw; go_simp; try with_reducible rfl)
 refine wpAnyH_ready (rs := [2]) (by kernel_rfl) (by simp) ?_; refine AllReadyH.cons rfl (fun K hK => ?_) AllReadyH.nil; go_simp
 have aP : Below V.heap.size V ((World.drew V).alloc (.cells #[] 104)) := aA (ay 1 (Below.refl _ _)) _
 have mP := YJ (World.drew V) 104
 have sN := (HR.out.new aO).new aP
 refine hK.out _ _ ⟨(HX.out.new aP).cell (j := 0) rfl, (HX.out.new aP).cell (j := 1) rfl⟩ (fun hS => ?_)
 clear hK K
 refine wpAnyH_ready (rs := [5]) (by kernel_rfl) (by simp) ?_
 refine AllReadyH.cons rfl (fun K hK => ?_) AllReadyH.nil
 refine kL _ (by rfl) _ _ 35 (by rfl) 104 (.agg #[.string ⟨#[]⟩, .string ⟨#[]⟩]) 2 32 Tryz.underlying35 (by kernel_rfl) rfl (by decide) V.heap.size _ 0 [] (by rfl) mP _ L.length (fv L) (by rfl) sN (nV _) (by omega) (by decide) aP.size ?_
 intro gH cap5 w5 hown5 eY lC
 have hb5 : Below V.heap.size V w5 := ⟨eY.os.trans aP.os, eY.tape.trans aP.tape, eY.output.trans aP.output, Nat.le_trans aP.size eY.size, fun k hk => (eY.block k (Nat.lt_of_lt_of_le hk aP.size) (fun e => absurd (show V.heap.size ≤ k from (mP.lt k e.symm).1) (Nat.not_le_of_lt hk))).trans (aP.block k hk)⟩
 refine hK.out _ _ ⟨(HX.out.new hb5).cell (j := 0) rfl, (HX.out.new hb5).cell (j := 1) rfl⟩ (fun hS => ?_)
 clear hK K lC eY mP sN aP
 rw [Nat.zero_add] at hown5 ⊢
 rw [List.nil_append] at hown5
 have nL := HRR.out.new hb5
 have r0 := nL.cell (j := 0) rfl
 have r1 := nL.cell (j := 1) rfl
 have r2 := nL.frozen 0
 have r3 := nL.frozen 1
 have HO := hide hown5
 clear hown5 nL
 refine wpAnyH_take (i := 6) (v := ?_) rfl (by kernel_rfl) (by kernel_rfl) (by kernel_rfl) (fun _ _ _ h => h) (Or.inl ⟨by rfl, ?_⟩) hS ?_; rotate_left; focus (intro w hw; clear hw; go_simp; try with_reducible rfl)
 refine wpAnyH_ready (rs := [7]) (by kernel_rfl) (by simp) ?_; refine AllReadyH.cons rfl (fun K hK => ?_) AllReadyH.nil; go_simp
 refine hK.out _ _ ⟨(World.cell?_setCell_other _ _ _ _ (by simp)).trans ((World.cell?_setCell_other _ _ _ _ (by simp)).trans ((HX.out.new hb5).cell (j := 0) rfl)), (World.cell?_setCell_other _ _ _ _ (by simp)).trans ((World.cell?_setCell_other _ _ _ _ (by simp)).trans ((HX.out.new hb5).cell (j := 1) rfl))⟩ (fun _ => ?_)
 clear hK K
 refine wpAnyH_done (by kernel_rfl) ?_ _
 go_wp2_with fail
 refine bodyPost_ret (v := (.agg #[.int .i64 room, .slice gH L.length cap5])) (by simp [results, Tryz.results48, go_sem, *]) rfl ?_
 have hov : ∀ q, (Value.slice gH L.length cap5).ownBlock = some q → w.heap.size + 2 ≤ q := fun q hq => by have := (HO.out.lt q hq).1; omega
 exact ⟨_, rfl, eG (iq (w.heap.size + 2) (iq (w.heap.size + 2) HO.out hov _ _ (show w.heap.size + 1 < w.heap.size + 2 by omega)) hov _ _ (show w.heap.size + 1 < w.heap.size + 2 by omega)) (fun q hq => by have := hov q hq; omega), ((aO.trans (hb5.mono aO.size)).setCell (show w.heap.size ≤ w.heap.size + 1 by omega) _).setCell (show w.heap.size ≤ w.heap.size + 1 by omega) _⟩
def lenOf (g : Nat) (w : World) : Nat := match w.cell? ⟨g, 1, none⟩ with | some (.slice _ n _) => n | _ => 0
end Go.Proofs.YtlpbnkideaojeaaGreatDoor
