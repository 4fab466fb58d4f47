/- Lemmas. -/
import Derived.Test.YtlpbnkideaojeaaGreatDoorQRpG25
import Derived.Test.YtlpbnkideaojeaaGreatDoorQRpBlocks4
namespace Go.Proofs.YtlpbnkideaojeaaGreatDoor
open Go.RowKit
set_option maxRecDepth 100000
set_option linter.unusedSimpArgs false
set_option linter.unusedVariables false
theorem Zk {w : World} {v : Value} {L : List aF} {bs : List Nat} (h : aW bE w v L bs) : w.ownsRow 0 94 2 v L.length (ev L) ∧ bs = v.ownBlock.toList := aW.flat (E := bE) (f := aF.cs) (fun _ _ _ _ h => h) h
theorem Zl {w : World} {v : Value} {L : List aF} (h : w.ownsRow 0 94 2 v L.length (ev L)) : aW bE w v L v.ownBlock.toList := Nn (E := bE) (f := aF.cs) (fun d hd => ⟨rfl, rfl⟩) h
theorem cZ.reg {w : World} {g : Nat} {d : aH} {bs : List Nat} (h : cZ w g d bs) :
  ∃ ve C, Ee w g 40 [] C 0 d.reg ve ∧ (∀ x ∈ ve.ownBlock.toList, x ∈ bs) ∧
   ∀ w' r' ve', Ee w' g 40 [] C 0 r' ve' → aG (g :: ve.ownBlock.toList) w w' → qB w ve ve' → ∃ bs', cZ w' g { d with reg := r' } bs' ∧ gu w bs bs' := by
 obtain ⟨⟨ve, vi, vo, vf, hrow, ⟨be, bi, bo, bf, h1, h2, h3, h4, rfl⟩, hn⟩, dJ⟩ := h
 obtain ⟨ho, rfl⟩ := Zk h1
 have ql : ∀ x ∈ bi ++ bo ++ bf, x ∉ ve.ownBlock.toList := fun x hx hx2 => by
  have hn' : (ve.ownBlock.toList ++ (bi ++ bo ++ bf)).Nodup := by simpa [List.append_assoc] using hn
  rw [List.nodup_append] at hn'
  exact hn'.2.2 x hx2 x hx rfl
 refine ⟨ve, [.int .i64 d.inr, vi, .int .i64 d.au, vo, .int .i64 d.get, .int .i64 d.give, .int .i64 d.first, vf, .bool d.away, .bool d.dead], ⟨⟨hrow, rfl⟩, ho, fun e => dJ (by simp [e])⟩, fun x hx => by simp at hx ⊢; simp [hx], fun w' r' ve' hr ht hnw => ?_⟩
 have hlt : ∀ x ∈ bi ++ bo ++ bf, x < w.heap.size := fun x hx => by
  simp only [List.mem_append] at hx
  rcases hx with (hx | hx) | hx
  ·exact h2.lt x hx
  ·exact h3.lt x hx
  ·exact h4.lt x hx
 have hk : ∀ x ∈ bi ++ bo ++ bf, w'.heap[x]? = w.heap[x]? := fun x hx => ht.block x (hlt x hx) (by
  simp only [List.mem_cons, not_or]
  exact ⟨fun e => dJ (by rw [← e]; simp only [List.mem_append] at hx ⊢; rcases hx with (hx | hx) | hx <;> simp [hx]), ql x hx⟩)
 have hnew : ∀ x ∈ ve'.ownBlock.toList, x ∈ ve.ownBlock.toList ∨ w.heap.size ≤ x := fun x hx => by
  have hx' : ve'.ownBlock = some x := by cases hv : ve'.ownBlock <;> simp [hv] at hx ⊢; exact hx.symm
  rcases hnw x hx' with e | e
  ·exact .inl (by rw [e]; simp)
  ·exact .inr e
 refine ⟨ve'.ownBlock.toList ++ bi ++ bo ++ bf, ⟨⟨ve', vi, vo, vf, hr.mid.row, ⟨ve'.ownBlock.toList, bi, bo, bf, Zl hr.own, h2.keep ht.size (fun x hx => hk x (by simp [hx])), h3.keep ht.size (fun x hx => hk x (by simp [hx])), h4.keep ht.size (fun x hx => hk x (by simp [hx])), rfl⟩, ?_⟩, ?_⟩, ?_⟩
 ·have hn' : (ve.ownBlock.toList ++ (bi ++ bo ++ bf)).Nodup := by simpa [List.append_assoc] using hn
  rw [List.nodup_append] at hn'
  have : (ve'.ownBlock.toList ++ (bi ++ bo ++ bf)).Nodup := by
   rw [List.nodup_append]
   refine ⟨uh _, hn'.2.1, fun x hx y hy e => ?_⟩
   subst e
   rcases hnew x hx with e | e
   ·exact ql x hy e
   ·have := hlt x hy; omega
  simpa [List.append_assoc] using this
 ·intro hg
  simp only [List.mem_append] at hg dJ
  rcases hg with ((hg | hg) | hg) | hg
  ·have : ve'.ownBlock = some g := by cases hv : ve'.ownBlock <;> simp [hv] at hg ⊢; exact hg.symm
   exact hr.ne this
  ·exact dJ (.inl (.inl (.inr hg)))
  ·exact dJ (.inl (.inr hg))
  ·exact dJ (.inr hg)
 ·intro x hx
  simp only [List.mem_append] at hx ⊢
  rcases hx with ((hx | hx) | hx) | hx
  ·rcases hnew x hx with e | e
   ·exact .inl (.inl (.inl (.inl e)))
   ·exact .inr e
  ·exact .inl (.inl (.inl (.inr hx)))
  ·exact .inl (.inl (.inr hx))
  ·exact .inl (.inr hx)
theorem OY (g : Nat) (d : aH) (bs : List Nat) (id iN : Int) (w : World) (h : cZ w g d bs) :
  Calls Tryz.prog 53 #[.pointer (some ⟨g, 0, none⟩), .int .i64 id, .int .i64 iN] w fun x w' => ∃ bs', x = .returned (.bool (gq d.reg id iN).2) ∧ cZ w' g (oD d id iN) bs' ∧ aG (g :: bs) w w' ∧ gu w bs bs' := by
 obtain ⟨ve, C, hr, hsub, hput⟩ := h.reg
 refine (Yh g 0 _ [] C ve d.reg id iN w hr).mono ?_
 rintro x w' ⟨ve', rfl, hr', ht, hnw⟩
 obtain ⟨bs', hc, hb⟩ := hput w' _ ve' hr' ht hnw
 exact ⟨bs', rfl, hc, ht.wide (fun x hx => by rcases List.mem_cons.1 hx with rfl | hx; simp; simp [hsub x hx]), hb⟩
theorem OZ (r : bZ) (id iN : Int) : (gq r id iN).1.es.length = r.es.length := by
 unfold gq
 split
 ·rfl
 ·split
  ·rfl
  ·simp
theorem cZ.far {w : World} {g : Nat} {d : aH} {bs : List Nat} (h : cZ w g d bs) (p : Addr) (v : Value) (hp : p.block ∉ g :: bs) : cZ (w.setCell p v) g d bs := by
 obtain ⟨⟨ve, vi, vo, vf, h1, h2⟩, h3⟩ := h
 refine ⟨⟨ve, vi, vo, vf, h1.far p v (fun e => hp (by simp [e])), h2.keep (by simp) (fun b hb => Below.heap_setCell w p v b (fun e => hp (by rw [← e]; simp [hb])))⟩, h3⟩
theorem aG.fresh {bs : List Nat} {a b : World} (h : aG bs a b) {p : Addr} {v : Value} (hp : a.heap.size ≤ p.block) : aG bs a (b.setCell p v) :=
 ⟨h.os, h.tape, h.output, by simp; exact h.size, fun k hk hn => by rw [Below.heap_setCell b p v k (fun e => by omega)]; exact h.block k hk hn⟩
theorem O4 {room : Int} (L l : List Fd) (k : Nat) (h : k < l.length) : (bA room L (l.take (k + 1))).1 = (bA room L (l.take k)).1 ++ (bP room (bA room L (l.take k)).2 l[k]).1 ∧ (bA room L (l.take (k + 1))).2 = (bP room (bA room L (l.take k)).2 l[k]).2 := by
 induction k generalizing L l with
 | zero =>
  cases l with
  | nil => simp at h
  | cons f l => simp [bA, Am, Nb]
 | succ k ih =>
  cases l with
  | nil => simp at h
  | cons f l =>
   have hk : k < l.length := by simpa using h
   obtain ⟨i1, i2⟩ := ih (bP room L f).2 l hk
   simp only [List.take_succ_cons, bA, List.getElem_cons_succ]
   exact ⟨by rw [i1, nG], i2⟩
theorem Jh {room : Int} {L : List Fd} (f : Fd) : (bP room L f).1.size ≤ 500 := by
 unfold bP
 split
 ·have := yS (bn L f).1 7 128; simp only; omega
 ·have h1 := yS (bn L f).1 6 64
  have h2 := wP f.n
  have h3 := wP f.v
  simp only
  rw [iZ, iZ]
  split
  ·omega
  ·have : (⟨#[]⟩ : ByteArray).size = 0 := rfl
   omega
theorem Ji {room : Int} : ∀ (l L : List Fd), (bA room L l).1.size ≤ 500 * l.length
 | [], L => by show (⟨#[]⟩ : ByteArray).size ≤ _; simp [ByteArray.size]
 | f :: l, L => by
  have h1 := Jh (room := room) (L := L) f
  have h2 := Ji (room := room) l (bP room L f).2
  show ((bP room L f).1 ++ (bA room (bP room L f).2 l).1).size ≤ _
  rw [iZ]
  simp
  omega
set_option maxRecDepth 100000 in
set_option maxHeartbeats 4000000 in
theorem CP (L l : List Fd) (room : Int) (v lv : Value) (w : World) (hr0 : Reads w v L.length 2 (fv L)) (hf : ∀ f ∈ L, f.fine) (hr1 : Reads w lv l.length 2 (fv l)) (hfl : ∀ f ∈ l, f.fine) :
  Calls Tryz.prog 61 #[.agg #[.int .i64 room, v], lv] w fun x w' => ∃ v', x = .returned (.tuple #[.string (kg room L l).1, .agg #[.int .i64 (kg room L l).2.1.1, v'], .bool (kg room L l).2.2]) ∧ w'.ownsRow w.heap.size 104 2 v' (kg room L l).2.1.2.length (fv (kg room L l).2.1.2) ∧ Below w.heap.size w w' := by
 obtain ⟨D, hD⟩ : ∃ D, kg room L l = D := ⟨_, rfl⟩
 rw [hD]
 have HD := hide hD
 have HR := hide hr0; have eD := hide hr1; have HF := hide hf; have O5 := hide hfl
 obtain ⟨ad, cap, rfl, _⟩ := hr0.2
 obtain ⟨la, lc, rfl, hlc, hlm, h3⟩ := hr1.2
 have H3 := hide h3
 clear hr0 hr1 hf hfl hD h3
 unfold maxLen at hlm
 go_enter Tryz.func61, Tryz.ntmps61
 go_wp2_with fail
 obtain ⟨V, hV⟩ : ∃ V, (w.alloc (.cells #[.int .i64 room, .slice ad L.length cap] 37)).alloc (.cells #[.int .i64 0, .slice none 0 0] 37) = V := ⟨_, rfl⟩
 have aC : Hid (Below w.heap.size w V) := by show Below _ _ _; rw [← hV]; exact aA ((Below.refl _ _).alloc (Nat.le_refl _) _) _
 have HRR : Hid (aj V (w.heap.size + 1) 37 [.int .i64 0, .slice none 0 0]) := by show aj _ _ _ _; rw [← hV]; simpa using aB (w.alloc (.cells #[.int .i64 room, .slice ad L.length cap] 37)) 37 [.int .i64 0, .slice none 0 0]
 rw [hV]
 clear hV
 refine (FN L room _ _ (HR.out.new aC.out) HF.out).mono ?_; rintro x w1 ⟨v1, rfl, ho1, hb1⟩
 have hzV := HRR.out.lt
 have hz1 := hb1.size
 replace HRR := hide (HRR.out.new hb1); replace aC := hide (ah aC.out hb1)
 cases hok : bI room L
 ·have dL : Hid (D = (⟨#[]⟩, (0, []), false)) := by show _ = _; rw [← HD.out]; simp [kg, hok]
  rw [XH hok] at ho1 ⊢
  simp only at ho1 ⊢
  obtain ⟨a1, p1, rfl, _⟩ := bW ho1
  have r0 := HRR.out.cell (j := 0) rfl
  have r1 := HRR.out.cell (j := 1) rfl
  have r2 := HRR.out.frozen 0
  have r3 := HRR.out.frozen 1
  have ko := HRR.out.lt
  go_wp2_with fail
  refine bodyPost_ret (v := (.tuple #[.string ⟨#[]⟩, .agg #[.int .i64 0, .slice none 0 0], .bool false])) (by simp [results, Tryz.results61, go_sem, *]) rfl ?_
  rw [dL.out]
  have hbw := aC.out
  have hsz := aC.out.size
  exact ⟨_, rfl, Gq _ _ _, (by repeat' (first | (with_reducible exact hbw) | (with_reducible refine Below.setCell ?_ ?_ _) | (with_reducible refine Below.alloc ?_ ?_ _) | (with_reducible refine Below.drew ?_) | (with_reducible refine ay _ ?_) | omega | (simp; done) | (simp; omega)))⟩
 rw [XG hok] at ho1 ⊢
 simp only at ho1 ⊢
 obtain ⟨a1, p1, rfl, _⟩ := bW ho1
 have NE : Hid (∀ k, (Value.slice a1 L.length p1).ownBlock = some k → w.heap.size + 1 < k ∧ k < w1.heap.size) := fun k hk => by have := ho1.lt k hk; omega
 have HO := hide (eG (base' := w.heap.size) ho1 fun k hk => by have := (ho1.lt k hk).1; omega)
 clear ho1
 obtain ⟨V1, hV1⟩ : ∃ V1, w1.alloc (.cells #[.int .i64 room, .slice a1 L.length p1] 37) = V1 := ⟨_, rfl⟩
 have aO : Below w1.heap.size w1 V1 := by rw [← hV1]; exact (Below.refl _ _).alloc (Nat.le_refl _) _
 have H7 : Hid (aj V1 w1.heap.size 37 [.int .i64 room, .slice a1 L.length p1]) := by show aj _ _ _ _; rw [← hV1]; exact aB w1 _ _
 replace HRR := hide (HRR.out.new aO); replace aC := hide (ah aC.out aO); replace HO := hide (aX HO.out aO)
 have hz7 := H7.out.lt
 clear aO hb1
 by_cases hlen : (20 : Int) < l.length
 ·have dL : Hid (D = (⟨#[]⟩, (room, L), false)) := by show _ = _; rw [← HD.out]; simp [kg, hok, dZ, show ¬ l.length ≤ 20 by omega]
  go_upto_region 5 with fail
  clear hV1
  have x0 := H7.out.cell (j := 0) rfl
  have x1 := H7.out.cell (j := 1) rfl
  have r0 := HRR.out.cell (j := 0) rfl
  have r1 := HRR.out.cell (j := 1) rfl
  have r2 := HRR.out.frozen 0
  have r3 := HRR.out.frozen 1
  have hne : ¬ w.heap.size + 1 = w1.heap.size := by omega
  go_wp2_with fail
  go_region_with (fail)
  all_goals (go_wp2_with fail)
  all_goals (refine bodyPost_ret (v := (.tuple #[.string ⟨#[]⟩, .agg #[.int .i64 room, .slice a1 L.length p1], .bool false])) (by simp [results, Tryz.results61, go_sem, *]) rfl ?_)
  all_goals (rw [dL.out]; refine ⟨_, rfl, fD (fD (gK HO.out (fun k hk _ => rfl)) _ _ (fun e => by have := (NE.out _ e).1; simp at this)) _ _ (fun e => by have := (NE.out _ e).1; simp at this), Below.setCell (Below.setCell aC.out.drew (show w.heap.size ≤ w.heap.size + 1 by omega) _) (show w.heap.size ≤ w.heap.size + 1 by omega) _⟩)
 cases hall : l.all okF
 ·have dL : Hid (D = (⟨#[]⟩, (room, L), false)) := by show _ = _; rw [← HD.out]; simp [kg, hok, dZ, hall]
  go_wp2_with fail
  clear hV1
  refine (zZ l _ _ (eD.out.new aC.out) O5.out).mono ?_; rw [hall]; rintro x w2 ⟨rfl, hb2⟩
  replace HRR := hide (HRR.out.new hb2); replace aC := hide (ah aC.out hb2); replace HO := hide (aX HO.out hb2); replace H7 := hide (H7.out.new hb2)
  clear hb2
  have x0 := H7.out.cell (j := 0) rfl
  have x1 := H7.out.cell (j := 1) rfl
  have r0 := HRR.out.cell (j := 0) rfl
  have r1 := HRR.out.cell (j := 1) rfl
  have r2 := HRR.out.frozen 0
  have r3 := HRR.out.frozen 1
  have hne : ¬ w.heap.size + 1 = w1.heap.size := by omega
  go_wp2_with fail
  go_region_with (fail)
  all_goals (go_wp2_with fail)
  all_goals (refine bodyPost_ret (v := (.tuple #[.string ⟨#[]⟩, .agg #[.int .i64 room, .slice a1 L.length p1], .bool false])) (by simp [results, Tryz.results61, go_sem, *]) rfl ?_)
  all_goals (rw [dL.out]; refine ⟨_, rfl, fD (fD (gK HO.out (fun k hk _ => rfl)) _ _ (fun e => by have := (NE.out _ e).1; simp at this)) _ _ (fun e => by have := (NE.out _ e).1; simp at this), Below.setCell (Below.setCell aC.out.drew (show w.heap.size ≤ w.heap.size + 1 by omega) _) (show w.heap.size ≤ w.heap.size + 1 by omega) _⟩)
 have Bw : ∀ f ∈ l, okF f = true := List.all_eq_true.1 hall
 have dL : Hid (D = ((bA room L l).1, (room, (bA room L l).2), true)) := by show _ = _; rw [← HD.out]; simp [kg, hok, dZ, hall, show l.length ≤ 20 by omega]
 have gL := hide Bw
 clear Bw
 go_wp2_with fail
 clear hV1
 refine (zZ l _ _ (eD.out.new aC.out) O5.out).mono ?_; rw [hall]; rintro x w2 ⟨rfl, hb2⟩
 replace HRR := hide (HRR.out.new hb2); replace aC := hide (ah aC.out hb2); replace HO := hide (aX HO.out hb2); replace H7 := hide (H7.out.new hb2)
 have hz2 := hb2.size
 clear hb2
 go_upto_region 6 with fail
 go_cut [9, 10] (fun s p wx => s = .string ⟨#[]⟩ ∧ p = .pointer (some ⟨w2.heap.size, 0, none⟩) ∧ aj wx w2.heap.size 37 [.int .i64 room, .slice a1 L.length p1] ∧ Below w2.heap.size w2 wx)
 case first =>
  have x0 := H7.out.cell (j := 0) rfl
  have x1 := H7.out.cell (j := 1) rfl
  have qN := H7.out.lt
  go_wp2_with fail
  go_region_with (fail)
  all_goals (go_wp2_with fail)
  all_goals go_meet
  all_goals (exact ⟨rfl, rfl, (aB w2 _ _).kept rfl, Below.drew ((Below.refl _ _).alloc (Nat.le_refl _) _)⟩)
 case rest =>
  obtain ⟨rfl, rfl, hx3, hb3⟩ := hcut
  obtain ⟨w3, rfl⟩ : ∃ v : World, v = wc := ⟨_, rfl⟩
  replace HRR := hide (HRR.out.new hb3); replace aC := hide (ah aC.out hb3); replace HO := hide (aX HO.out hb3)
  have HX := hide hx3
  have hz3 := HX.out.lt
  clear hb3 hx3 H7
  have O6 : Hid (∀ k, (Value.slice a1 L.length p1).ownBlock = some k → k ≠ w2.heap.size ∧ k ≠ w.heap.size + 1) := fun k hk => by have := NE.out k hk; omega
  clear NE
  go_wp2_with fail
  go_loopw [9, 35] (fun s i wr => ∃ (k : Nat) (a : Option Addr) (p : Nat), i = .int .i64 k ∧ k ≤ l.length ∧ s = .string (bA room L (l.take k)).1 ∧ aj wr w2.heap.size 37 [.int .i64 room, .slice a (bA room L (l.take k)).2.length p] ∧ wr.ownsRow w.heap.size 104 2 (.slice a (bA room L (l.take k)).2.length p) (bA room L (l.take k)).2.length (fv (bA room L (l.take k)).2) ∧ (∀ q, (Value.slice a (bA room L (l.take k)).2.length p).ownBlock = some q → q ≠ w2.heap.size ∧ q ≠ w.heap.size + 1) ∧ aj wr (w.heap.size + 1) 37 [.int .i64 0, .slice none 0 0] ∧ Below w.heap.size w wr) (fun _ i _ => l.length - (intOf i).toNat)
  case atStart => exact ⟨0, a1, p1, rfl, Nat.zero_le _, rfl, HX.out, HO.out, O6.out, HRR.out, aC.out⟩
  case round =>
   clear HX HO O6 HRR aC
   obtain ⟨k, a, p, rfl, hk, rfl, hx, ho, hne, hrr, hbw⟩ := hrel
   have oo := Ji (room := room) (l.take k) L
   rw [List.length_take, Nat.min_eq_left hk] at oo
   replace oo : (bA room L (l.take k)).1.size ≤ 10000 := by omega
   have oq := hide (xW (room := room) (l.take k) hok fun f hf => gL.out f (List.mem_of_mem_take hf))
   by_cases hlt : k < l.length
   ·have fA := hide (O4 (room := room) L l k hlt)
    have fT := gL.out _ (List.getElem_mem hlt)
    obtain ⟨b, o, rfl, hbb, hc⟩ := H3.out (by omega)
    obtain ⟨s0, s1⟩ := kK l k hlt
    have c0 : wr.cell? ⟨b, o + k * 2, none⟩ = some (.string l[k].n) := by rw [hbw.cell (p := ⟨b, o + k * 2, none⟩) hbb]; exact hc _ _ s0
    have c1 : wr.cell? ⟨b, o + k * 2 + 1, none⟩ = some (.string l[k].v) := by rw [hbw.cell (p := ⟨b, o + k * 2 + 1, none⟩) hbb]; exact hc _ _ s1
    generalize l[k] = f at *
    obtain ⟨E, hE⟩ : ∃ E, bA room L (l.take k) = E := ⟨_, rfl⟩
    rw [hE] at fA oo oq hx ho hne ⊢
    obtain ⟨es, N⟩ := E
    simp only at fA oo oq hx ho hne ⊢
    have Ev := Jh (room := room) (L := N) f
    obtain ⟨F, hF⟩ : ∃ F, bP room N f = F := ⟨_, rfl⟩
    have x0 := hx.cell (j := 0) rfl
    have x1 := hx.cell (j := 1) rfl
    have HX := hide hx; have HO := hide ho; have sI := hide hne; have HRR := hide hrr; have aC := hide hbw
    have hlx := hx.lt
    have hsw := hbw.size
    clear hc s0 s1 hx ho hne hrr hbw hE
    go_wp2_with fail
    obtain ⟨W, hW⟩ : ∃ W, wr.alloc (.cells #[.string f.n, .string f.v] 104) = W := ⟨_, rfl⟩
    have hbW : Below wr.heap.size wr W := by rw [← hW]; exact (Below.refl _ _).alloc (Nat.le_refl _) _
    rw [hW]
    clear hW c0 c1 x0 x1
    replace HX := hide (HX.out.new hbW); replace HRR := hide (HRR.out.new hbW); replace aC := hide (ah aC.out hbW); replace HO := hide (aX HO.out hbW)
    have hsW := hbW.size
    clear hbW
    refine (Zm N room _ f w.heap.size _ HO.out (by omega) oq.out fT).mono ?_; rw [hF] at Ev fA ⊢; rintro x w5 ⟨v5, rfl, Ew, Jj, hb5⟩
    obtain ⟨F1, F2⟩ := F
    simp only at Ev fA Ew Jj ⊢
    obtain ⟨a5, p5, rfl, _⟩ := bW Ew
    have hlW := HX.out.lt
    have hlW2 := HRR.out.lt
    have Jk : Hid (∀ q, (Value.slice a5 F2.length p5).ownBlock = some q → q ≠ w2.heap.size ∧ q ≠ w.heap.size + 1) := fun q hq => by
     rcases Jj q hq with h | h
     ·exact sI.out q h
     ·omega
    replace HX := hide (HX.out.new hb5); replace HRR := hide (HRR.out.new hb5); replace aC := hide (ah aC.out hb5)
    have hs5 := hb5.size
    replace HO := hide Ew
    clear Ew Jj hb5 sI hF
    obtain ⟨W2, hW2⟩ : ∃ W2, w5.alloc (.cells #[.int .i64 room, .slice a5 F2.length p5] 37) = W2 := ⟨_, rfl⟩
    have hbW2 : Below w5.heap.size w5 W2 := by rw [← hW2]; exact (Below.refl _ _).alloc (Nat.le_refl _) _
    have Jl : aj W2 w5.heap.size 37 [.int .i64 room, .slice a5 F2.length p5] := by rw [← hW2]; exact aB w5 _ _
    replace HX := hide (HX.out.new hbW2); replace HRR := hide (HRR.out.new hbW2); replace aC := hide (ah aC.out hbW2); replace HO := hide (aX HO.out hbW2)
    have y0 := Jl.cell (j := 0) rfl
    have y1 := Jl.cell (j := 1) rfl
    have x0 := HX.out.cell (j := 0) rfl
    have x1 := HX.out.cell (j := 1) rfl
    have x2 := HX.out.frozen 0
    have x3 := HX.out.frozen 1
    clear hbW2 Jl
    go_upto_region 11 with fail
    clear hW2
    have O7 : ¬ w2.heap.size = w.heap.size + 1 := by omega
    have hcz : es.size + F1.size ≤ 9223372036854775807 := by omega
    go_wp2_with fail
    go_region_with (fail)
    all_goals (go_wp2_with fail)
    all_goals go_roundw
    all_goals (first | (simp [intOf]; omega) | (refine ⟨k + 1, a5, p5, by go_num, by omega, ?_⟩; rw [fA.out.1, fA.out.2]; exact ⟨rfl, ((HX.out.set 0 _).set 1 _).kept rfl, gK (fD (fD HO.out _ _ (fun e => (Jk.out _ e).1 rfl)) _ _ (fun e => (Jk.out _ e).1 rfl)) (fun _ _ _ => rfl), Jk.out, ((HRR.out.far _ _ (by simpa using O7)).far _ _ (by simpa using O7)).kept rfl, Below.drew (Below.setCell (Below.setCell aC.out (show w.heap.size ≤ w2.heap.size by omega) _) (show w.heap.size ≤ w2.heap.size by omega) _)⟩))
   ·obtain rfl : k = l.length := by omega
    rw [List.take_length] at hx ho hne oo oq ⊢
    obtain ⟨E, hE⟩ : ∃ E, bA room L l = E := ⟨_, rfl⟩
    have HD4 := dL.out
    rw [hE] at hx ho hne oo oq HD4 ⊢
    obtain ⟨es, N⟩ := E
    simp only at hx ho hne oo oq HD4 ⊢
    have HD5 := hide HD4
    clear HD4 dL hE
    have x0 := hx.cell (j := 0) rfl
    have x1 := hx.cell (j := 1) rfl
    have r0 := hrr.cell (j := 0) rfl
    have r1 := hrr.cell (j := 1) rfl
    have r2 := hrr.frozen 0
    have r3 := hrr.frozen 1
    have HX := hide hx; have HO := hide ho; have sI := hide hne; have HRR := hide hrr; have aC := hide hbw
    have hnx : ¬ w.heap.size + 1 = w2.heap.size := by omega
    clear hx ho hne hrr hbw
    go_wp2_with fail
    go_region_with (fail)
    all_goals (go_wp2_with fail)
    all_goals (refine bodyPost_ret (v := (.tuple #[.string es, .agg #[.int .i64 room, .slice a N.length p], .bool true])) (by simp [results, Tryz.results61, go_sem, *]) rfl ?_)
    all_goals (rw [HD5.out]; refine ⟨_, rfl, fD (fD (gK HO.out (fun k hk _ => rfl)) _ _ (fun e => (sI.out _ e).2 rfl)) _ _ (fun e => (sI.out _ e).2 rfl), Below.setCell (Below.setCell aC.out.drew (show w.heap.size ≤ w.heap.size + 1 by omega) _) (show w.heap.size ≤ w.heap.size + 1 by omega) _⟩)
theorem Zn {r : bZ} (h : fE r = true) {i j : Nat} (hi : i < r.es.length) (hj : j < r.es.length) (hne : i ≠ j) : r.es[i].id ≠ r.es[j].id := by
 rcases Nat.lt_or_gt_of_ne hne with hlt | hgt
 ·have := Ma h i j hlt hj; omega
 ·have := Ma h j i hgt hi; omega
theorem Pb {r : bZ} (h : fE r = true) {k : Nat} (hk : k < r.es.length) : dI r.es r.es[k].id = some k :=
 Cz k hk rfl fun j hj => Zn h (by omega) hk (by omega)
theorem Zo {r : bZ} (h : fE r = true) {k : Nat} (hk : k < r.es.length) (ev : Int) : (gq r r.es[k].id ev).1.es = r.es.set k ⟨r.es[k].id, (fQ r.es[k].state ev).1⟩ := by
 rw [zU (Pb h hk) hk]
end Go.Proofs.YtlpbnkideaojeaaGreatDoor
