/- Lemmas. -/
import Derived.Test.YtlpbnkideaojeaaGreatDoorQRpRing5
import Derived.Test.YtlpbnkideaojeaaGreatDoorQRpRegImpl
namespace Go.Proofs.YtlpbnkideaojeaaGreatDoor
open Go.RowKit
set_option maxRecDepth 100000
set_option linter.unusedSimpArgs false
set_option linter.unusedVariables false
set_option maxRecDepth 100000 in
set_option maxHeartbeats 1000000 in
theorem IW (L : List Fd) (room : Int) (v : Value) (w : World) (hr0 : Reads w v L.length 2 (fv L)) (hf : ∀ f ∈ L, f.fine) :
  Calls Tryz.prog 91 #[.agg #[.int .i64 room, v]] w fun x w' => x = .returned (.bool (bI room L)) ∧ Below w.heap.size w w' := by
 have HR := hide hr0
 obtain ⟨hl, ad, cap, rfl, h1, h2, h3⟩ := hr0
 clear h3
 go_enter Tryz.func91, Tryz.ntmps91
 go_wp2_with fail
 refine (IX L room _ _ ?c1 hf).mono ?_
 case c1 => exact HR.out.new (by repeat' (first | (with_reducible exact Below.refl _ _) | (with_reducible refine Below.drew ?_) | (with_reducible refine ay _ ?_) | (with_reducible refine aA ?_ _) | (refine ah ?_ (by with_reducible assumption)) | (with_reducible refine Below.setCell ?_ ?_ _) | go_size))
 rintro x w1 ⟨cs, hcl, hone, rfl, _, hb1⟩
 have kP := hide hone
 have HB : Below w.heap.size w w1 := (by repeat' (first | (with_reducible exact Below.refl _ _) | (with_reducible refine Below.drew ?_) | (with_reducible refine ay _ ?_) | (with_reducible refine aA ?_ _) | (refine ah ?_ (by with_reducible assumption)) | (with_reducible refine Below.setCell ?_ ?_ _) | go_size))
 clear hone hb1
 go_wp2_with (first | (refine wJ (by rfl) 172 (by rfl) bR jd.1 ?_) | (refine wpList_store_row (by rfl) 172 _ _ (by rfl) (w1.heap.size) (cs) (by rfl) (by rfl) 172 (bR) (aB w1 172 bR) (by rw [hcl]; exact jd.2) (Eq.trans jD (Eq.symm hcl)) (kP.out) ?_))
 go_ret
 exact ⟨rfl, below_setRow (aA HB _) HB.size _⟩
def yM (r : bZ) (id : Int) : Int := if fE r = true then jk r id else 0
set_option maxHeartbeats 2000000 in
theorem YK (d : bZ) (v : Value) (id : Int) (w : World) (hr : aT bE w v d.es) :
  Calls Tryz.prog 98 #[.agg #[.int .i64 d.lim, .int .i64 d.top, v], .int .i64 id] w fun x w' => x = .returned (.int .i64 (yM d id)) ∧ Below w.heap.size w w' := by
 obtain ⟨ad, cap, rfl, h1, h2⟩ := hr.form
 have HR := hide hr
 clear hr
 have hok := fun w h => IY d (.slice ad d.es.length cap) w h
 obtain ⟨z, hz⟩ : ∃ z, yM d id = z := ⟨_, rfl⟩
 have HZ := hide hz
 rw [hz]
 clear hz
 go_enter Tryz.func98, Tryz.ntmps98
 go_wp2_with fail
 obtain ⟨V, hV⟩ : ∃ V, w.alloc (.cells #[.int .i64 d.lim, .int .i64 d.top, .slice ad d.es.length cap] 34) = V := ⟨_, rfl⟩
 have HB : Hid (Below w.heap.size w V) := by show Below _ _ _; rw [← hV]; exact (Below.refl _ _).alloc (Nat.le_refl _) _
 have HX : Hid (aj V w.heap.size 34 [.int .i64 d.lim, .int .i64 d.top, .slice ad d.es.length cap]) := by show aj _ _ _ _; rw [← hV]; exact aB w 34 [.int .i64 d.lim, .int .i64 d.top, .slice ad d.es.length cap]
 rw [hV]
 clear hV
 refine (hok _ (HR.out.new HB.out)).mono ?_
 cases hq : fE d
 ·rintro e w1 ⟨rfl, hb1⟩
  have hz0 : z = 0 := by rw [← HZ.out]; unfold yM; rw [if_neg (by rw [hq]; decide)]
  subst hz0
  go_wp2_with fail
  go_ret
  exact ⟨rfl, ah HB.out hb1⟩
 rintro e w1 ⟨rfl, hb1⟩
 have hzs : jk d id = z := by rw [← HZ.out]; unfold yM; rw [if_pos hq]
 have mG := (qw.1 hq).2.2.1
 have htop := (qw.1 hq).2.1
 replace HX := hide (HX.out.new hb1)
 replace HB := hide (ah HB.out hb1)
 clear hb1 hok HZ hq
 have x0 := HX.out.cell (j := 0) rfl; have x1 := HX.out.cell (j := 1) rfl; have x2 := HX.out.cell (j := 2) rfl; have x3 := HX.out.frozen 0; have x4 := HX.out.frozen 1; have x5 := HX.out.frozen 2; have x6 := HX.out.lt
 go_wp2_with fail
 refine (IZ d id _ _ (HR.out.new HB.out) mG).mono ?_; rintro e w2 ⟨rfl, hb2⟩
 replace HX := hide (HX.out.new hb2)
 replace HB := hide (ah HB.out hb2)
 clear hb2 x0 x1 x2 x3 x4 x5 x6
 cases hat : dI d.es id with
 | some k =>
  obtain ⟨hk, _, _⟩ := mH hat
  have hi : iF d.es id = k := by unfold iF; rw [hat]
  have Oy : d.es[k].state = z := by rw [← hzs]; unfold jk; rw [hat]; simp [hk]
  rw [hi]
  obtain ⟨b, o, cs, he1, hb1, hrd, hc⟩ := (HR.out.new HB.out).at k hk
  cases he1
  cases hrd
  have c1 : w2.cell? ⟨b, o + k * 2 + 1, none⟩ = some (.int .i64 d.es[k].state) := hc 1 _ rfl
  rw [Oy] at c1
  clear hc
  have yN : (k : Int) < d.es.length := by omega
  clear hzs Oy
  have x0 := HX.out.cell (j := 0) rfl; have x1 := HX.out.cell (j := 1) rfl; have x2 := HX.out.cell (j := 2) rfl; have x3 := HX.out.frozen 0; have x4 := HX.out.frozen 1; have x5 := HX.out.frozen 2; have x6 := HX.out.lt
  go_wp2_with fail
  go_ret
  exact ⟨rfl, HB.out⟩
 | none =>
  have hi : iF d.es id = -1 := by unfold iF; rw [hat]
  rw [hi]
  have Oz : z = if uL id d.top = true then 4 else 0 := by
   rw [← hzs]
   unfold jk uL
   rw [hat]
   have he : (fI id = true ∧ id ≤ d.top) ↔ decide (1 ≤ id ∧ id ≤ d.top ∧ id % 2 = 1) = true := by
    rw [decide_eq_true_iff, Gj]
    rcases htop with h | h
    ·constructor
     ·rintro ⟨⟨a1, a2, a3⟩, a4⟩; exact ⟨a1, a4, a3⟩
     ·rintro ⟨a1, a2, a3⟩; omega
    ·rw [Gj] at h
     constructor
     ·rintro ⟨⟨a1, a2, a3⟩, a4⟩; exact ⟨a1, a4, a3⟩
     ·rintro ⟨a1, a2, a3⟩; exact ⟨⟨a1, by omega, a3⟩, a2⟩
   simp only [he]
  have El := hide Oz
  have OA := hide hzs
  clear Oz hzs
  have x0 := HX.out.cell (j := 0) rfl; have x1 := HX.out.cell (j := 1) rfl; have x2 := HX.out.cell (j := 2) rfl; have x3 := HX.out.frozen 0; have x4 := HX.out.frozen 1; have x5 := HX.out.frozen 2; have x6 := HX.out.lt
  cases ho : uL id d.top
  ·have hz0 : z = 0 := by rw [El.out, if_neg (by rw [ho]; decide)]
   clear El OA
   subst hz0
   go_wp2_with fail
   refine (Im _ _ _).mono ?_; rw [ho]; rintro e w7 ⟨rfl, hsame⟩; obtain rfl := hsame.symm; clear hsame
   go_wp2_with fail
   go_ret
   exact ⟨rfl, HB.out⟩
  ·have YL : z = 4 := by rw [El.out, if_pos ho]
   clear El OA
   subst YL
   go_wp2_with fail
   refine (Im _ _ _).mono ?_; rw [ho]; rintro e w7 ⟨rfl, hsame⟩; obtain rfl := hsame.symm; clear hsame
   go_wp2_with fail
   go_ret
   exact ⟨rfl, HB.out⟩
end Go.Proofs.YtlpbnkideaojeaaGreatDoor
