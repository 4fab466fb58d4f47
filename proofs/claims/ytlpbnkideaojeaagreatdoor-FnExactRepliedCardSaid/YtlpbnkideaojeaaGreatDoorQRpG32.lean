/- Lemmas. -/
import Derived.Test.YtlpbnkideaojeaaGreatDoorQRpG31
namespace Go.Proofs.YtlpbnkideaojeaaGreatDoor
open Go.RowKit
open List renaming getElem_toArray → aI, getElem_cons_succ → aJ, getElem_cons_zero → aK, setIfInBounds_toArray → aL, set_cons_zero → aM, set_cons_succ → aN
set_option maxRecDepth 100000
set_option linter.unusedSimpArgs false
set_option linter.unusedVariables false
theorem cZ.EO {W : World} {g gb : Nat} {C : aH} {bx : List Nat} (h : cZ W g C bx) (cs : Array Value) (hn : gb ∉ g :: bx) : cZ (W.setRow gb cs) g C bx := by
 obtain ⟨⟨ve, vi, vo, vf, h1, h2⟩, h3⟩ := h
 exact ⟨⟨ve, vi, vo, vf, h1.kept (setRow_other _ _ _ _ (fun e => hn (by simp [e]))), h2.keep (by rw [setRow_size]; exact Nat.le_refl _) (fun b hb => setRow_other _ _ _ _ (fun e => hn (by rw [← e]; simp [hb])))⟩, h3⟩
theorem aG.EP {bs : List Nat} {a b : World} {gb : Nat} (h : aG bs a b) (cs : Array Value) (hg : a.heap.size ≤ gb) : aG bs a (b.setRow gb cs) :=
 ⟨h.os, h.tape, h.output, by rw [setRow_size]; exact h.size, fun k hk hn => by rw [setRow_other _ _ _ _ (by omega)]; exact h.block k hk hn⟩
theorem aaV {code : Int} (h : aQ code 100 999 = true) : okF (bU code) = true := by
 have hb := jm h
 have hl := GL 3 code.toNat (by omega) (by decide)
 unfold okF bU
 dsimp only
 rw [oP]
 have e1 : aQ (((⟨#[58, 115, 116, 97, 116, 117, 115]⟩ : ByteArray).size : Nat) : Int) 1 40 = true := by decide
 rw [e1, decide_eq_true (by omega)]
 rfl
theorem aaW {room : Int} {L l : List Fd} (h : bI room L = true) (hl : ∀ f ∈ l, okF f = true) : ∀ f ∈ (bA room L l).2, f.fine := by
 intro f hf
 have h1 := xW l h hl
 unfold bI at h1
 simp only [Bool.and_eq_true, List.all_eq_true] at h1
 have h2 := qF (h1.2.1 f hf)
 exact ⟨by omega, by omega⟩
theorem JR {d : aH} {id code : Int} {k : Nat} (hat : dI d.reg.es id = some k) (h1 : k < d.flows.length) (h2 : k < d.reg.es.length) (h : d.dead = true ∨ jM d.reg.es[k].state = false ∨ aQ code 100 999 = false) : jG d id code = (d, []) := by
 rw [zP hat h1 h2]; unfold rP; rw [if_pos h]
set_option maxHeartbeats 8000000 in
theorem Sg (g : Nat) (d : aH) (bs : List Nat) (id code : Int) (w : World) (h : cZ w g d bs) (hok : dV d = true) :
  Calls Tryz.prog 19 #[.pointer (some ⟨g, 0, none⟩), .int .i64 id, .int .i64 code] w (iA w g bs (jG d id code)) := by
 obtain ⟨hlen, mG⟩ := rH hok
 have hfle : d.flows.length ≤ 60 := by omega
 have hgl := h.lt
 have HC := hide h
 obtain ⟨⟨ve, vi, vo, vf, hrow, hcw⟩, _⟩ := h
 obtain ⟨x0, x1, x2⟩ := jZ hrow
 have fC := hide hrow
 have ER := hide hcw.rd.e
 obtain ⟨ae, pe, eve, hae, _⟩ := hcw.rd.e.form
 subst eve
 clear hrow hcw
 have hc := fun u hu => Oc d.reg id (.slice ae d.reg.es.length pe) u hu
 cases hat : dI d.reg.es id with
 | none =>
  have hI : iF d.reg.es id = -1 := by unfold iF; rw [hat]
  rw [hI] at hc
  rw [F9 hat]
  clear hI hat
  go_enter Tryz.func19, Tryz.ntmps19
  go_wp2_with fail
  refine (hc _ ER.out).mono ?_; rintro x w1 ⟨rfl, hb1⟩
  go_wp2_with fail
  go_ret
  exact iA.after (aG.new hb1) (gu.refl _ _) (iA.nothing (HC.out.new hb1))
 | some k =>
  obtain ⟨hk, _, _⟩ := mH hat
  have hI : iF d.reg.es id = k := AJ hat
  rw [hI] at hc
  have pE : k < d.flows.length := by omega
  have yN : (k : Int) < d.reg.es.length := by omega
  have hkJ : (k : Int) < d.flows.length := by omega
  go_enter Tryz.func19, Tryz.ntmps19
  go_wp2_with fail
  refine (hc _ ER.out).mono ?_; clear hc; rintro x w1 ⟨rfl, hb1⟩
  have bS := ak 12 (fC.out.new hb1) rfl
  have y2 := ak 2 (fC.out.new hb1) rfl
  obtain ⟨b, o, cs, rfl, hbw, hrd, hce⟩ := (ER.out.new hb1).at k hk
  obtain rfl := hrd
  have ce : w1.cell? ⟨b, o + k * 2 + 1, none⟩ = some (.int .i64 d.reg.es[k].state) := hce 1 _ rfl
  have HT : Hid (aG (g :: bs) w w1) := aG.new hb1
  replace HC := hide (HC.out.new hb1)
  have yY := fun w => WX d.reg.es[k].state w
  have lV := fun w => jP code 100 999 w
  clear hce hb1 fC ER x0 x1 x2
  cases ES : d.dead
  rotate_left
  ·rw [ES] at bS
   have HW := hide (JR (code := code) hat pE hk (.inl ES))
   go_wp2_with fail
   go_ret
   rw [HW.out]
   exact iA.after HT.out (gu.refl _ _) (iA.nothing HC.out)
  rw [ES] at bS
  cases hms : jM d.reg.es[k].state
  ·rw [hms] at yY
   have HW := hide (JR (code := code) hat pE hk (.inr (.inl hms)))
   go_wp2_with fail
   refine (yY _).mono ?_; rintro e w2 ⟨rfl, hsame⟩; obtain rfl := hsame.symm; clear hsame
   go_wp2_with fail
   go_ret
   rw [HW.out]
   exact iA.after HT.out (gu.refl _ _) (iA.nothing HC.out)
  rw [hms] at yY
  cases hin : aQ code 100 999
  ·rw [hin] at lV
   have HW := hide (JR (code := code) hat pE hk (.inr (.inr hin)))
   go_wp2_with fail
   refine (yY _).mono ?_; rintro e w2 ⟨rfl, hsame⟩; obtain rfl := hsame.symm; clear hsame
   go_wp2_with fail
   refine (lV _).mono ?_; rintro e w2 ⟨rfl, hsame⟩; obtain rfl := hsame.symm; clear hsame
   go_wp2_with fail
   go_ret
   rw [HW.out]
   exact iA.after HT.out (gu.refl _ _) (iA.nothing HC.out)
  rw [hin] at lV
  have hcode := jm hin
  have hst := aaV hin
  have BZ := (jI.1 hok).2.2.1
  have lI := hide (aaW (l := [bU code]) BZ (fun f hf => by simp at hf; subst hf; exact hst))
  obtain ⟨sv, hsv⟩ : ∃ sv, strOf (iK code.toNat) = sv := ⟨_, rfl⟩
  have hsf : bU code = ⟨⟨#[58, 115, 116, 97, 116, 117, 115]⟩, sv⟩ := by unfold bU; rw [hsv]
  have JU := fun w => Xb code.toNat w (by omega)
  rw [hsv, Int.toNat_of_nonneg (by omega)] at JU
  have JV := (zP (code := code) hat pE hk).trans (show rP d id code k d.flows[k] d.reg.es[k] = (if code = 200 then ({ d with outT := (bA d.au d.outT [bU code]).2 }, [⟨2, 0, id, (bA d.au d.outT [bU code]).1⟩]) else ({ oD { d with outT := (bA d.au d.outT [bU code]).2 } id 3 with flows := d.flows.set k (rJ d.flows[k]) }, [⟨2, 1, id, (bA d.au d.outT [bU code]).1⟩])) by unfold rP; rw [if_neg (by rw [ES, hms, hin]; simp)])
  obtain ⟨E, hE⟩ : ∃ E, (bA d.au d.outT [bU code]).1 = E := ⟨_, rfl⟩
  obtain ⟨T2, ET⟩ : ∃ T, (bA d.au d.outT [bU code]).2 = T := ⟨_, rfl⟩
  rw [hE, ET] at JV
  rw [ET] at lI
  have tH := hide hE; have HE2 := hide ET; have EU := hide JV
  clear hsv hE ET JV hat hI
  go_wp2_with fail
  refine (yY _).mono ?_; rintro e w2 ⟨rfl, hsame⟩; obtain rfl := hsame.symm; clear hsame
  go_wp2_with fail
  refine (lV _).mono ?_; rintro e w2 ⟨rfl, hsame⟩; obtain rfl := hsame.symm; clear hsame
  go_upto_region 4 with fail
  clear yY lV bS y2 ce
  go_cut [8] (fun x wc => ∃ gb bz, x = .pointer (some ⟨gb, 0, none⟩) ∧ Hid (aj wc gb 72 [.int .i64 2, .int .i64 0, .int .i64 id, .string E]) ∧ Hid (cZ wc g { d with outT := T2 } bz) ∧ Hid (aG (g :: bs) w wc) ∧ Hid (gu w bs bz) ∧ Hid (gb ∉ g :: bz) ∧ Hid (w.heap.size ≤ gb))
  case first =>
   go_wp2_with fail
   have hD : Below w1.heap.size w1 (World.drew w1) := (Below.refl _ _).drew
   replace HC := hide (HC.out.new hD)
   replace HT := hide (HT.out.trans (aG.new hD))
   clear hD
   refine wp_region_any (by kernel_rfl) ?_; change wpAny _ _ _ _ _ _ _ (World.drew _)
   generalize World.drew w1 = v1 at *
   refine wpAny_take (i := 0) (v := ?_) rfl (by kernel_rfl) (by kernel_rfl) (by kernel_rfl) (fun _ _ _ h => h) (Or.inl ⟨by rfl, ?_⟩) ?_; rotate_left; focus (intro uu; go_simp; try with_reducible rfl)
   try simp only [Act.put, aI, aJ, aK, aL, aM, aN]
   refine wpAny_take (i := 1) (v := ?_) rfl (by kernel_rfl) (by kernel_rfl) (by kernel_rfl) (fun _ _ _ h => h) (Or.inl ⟨by rfl, ?_⟩) ?_; rotate_left; focus (intro uu; go_simp; try with_reducible rfl)
   try simp only [Act.put, aI, aJ, aK, aL, aM, aN]
   refine wpAny_take (i := 2) (v := ?_) rfl (by kernel_rfl) (by kernel_rfl) (by kernel_rfl) (fun _ _ _ h => h) (Or.inl ⟨by rfl, ?_⟩) ?_; rotate_left; focus (intro uu; go_simp; try with_reducible rfl)
   try simp only [Act.put, aI, aJ, aK, aL, aM, aN]
   refine wpAny_take (i := 3) (v := ?_) rfl (by kernel_rfl) (by kernel_rfl) (by kernel_rfl) (fun _ _ _ h => h) (Or.inl ⟨by rfl, ?_⟩) ?_; rotate_left; focus (intro uu; go_simp; try with_reducible rfl)
   try simp only [Act.put, aI, aJ, aK, aL, aM, aN]
   refine wpAny_take (i := 4) (v := ?_) rfl (by kernel_rfl) (by kernel_rfl) (by kernel_rfl) (fun _ _ _ h => h) (Or.inl ⟨by rfl, ?_⟩) ?_; rotate_left; focus (intro uu; go_simp; try with_reducible rfl)
   try simp only [Act.put, aI, aJ, aK, aL, aM, aN]
   refine wpAny_ready (rs := [5, 10]) (by kernel_rfl) (by simp) ?_
   refine (AllReady.cons rfl (fun K hK => ?_) (AllReady.cons rfl (fun K hK => ?_) AllReady.nil))
   ·skip
    try rw [if_pos (by kernel_rfl)]
    go_simp
    refine (JU _).mono ?_; rintro e u1 ⟨rfl, JW⟩
    replace HC := hide (HC.out.new JW)
    replace HT := hide (HT.out.trans (aG.new JW))
    refine hK _ _ ?_; clear hK K JW
    try simp only [Act.put, aI, aJ, aK, aL, aM, aN]
    refine wpAny_take (i := 6) (v := ?_) rfl (by kernel_rfl) (by kernel_rfl) (by kernel_rfl) (fun _ _ _ h => h) (Or.inl ⟨by rfl, ?_⟩) ?_; rotate_left; focus (intro uu; go_simp; try with_reducible rfl)
    try simp only [Act.put, aI, aJ, aK, aL, aM, aN]
    refine wpAny_ready (rs := [7, 10]) (by kernel_rfl) (by simp) ?_
    refine (AllReady.cons rfl (fun K hK => ?_) (AllReady.cons rfl (fun K hK => ?_) AllReady.nil))
    ·skip
     have oW := HC
     try rw [if_pos (by kernel_rfl)]
     go_simp
     obtain ⟨u2, hu2⟩ : ∃ u, u1.alloc (.cells #[.string ⟨#[58, 115, 116, 97, 116, 117, 115]⟩, .string sv] 104) = u := ⟨_, rfl⟩
     have JX : Below u1.heap.size u1 u2 := by rw [← hu2]; exact (Below.refl _ _).alloc (Nat.le_refl _) _
     replace HC := hide (HC.out.new JX)
     replace HT := hide (HT.out.trans (aG.new JX))
     have jW : Hid (Reads u2 (.slice (some ⟨(u1).heap.size, 0, none⟩) 1 1) 1 2 (fv [bU code]) ∧ u1.heap.size ≠ g) := by show _; rw [← hu2]; exact ⟨by rw [hsf]; exact eP (kW u1 104 2 1 #[.string ⟨#[58, 115, 116, 97, 116, 117, 115]⟩, .string sv] rfl (by omega)), by have := oW.out.lt; omega⟩
     rw [hu2]
     clear hu2 JX
     refine hK _ _ ?_; clear hK K
     try simp only [Act.put, aI, aJ, aK, aL, aM, aN]
     refine wpAny_ready (rs := [8, 10]) (by kernel_rfl) (by simp) ?_
     refine (AllReady.cons rfl (fun K hK => ?_) (AllReady.cons rfl (fun K hK => ?_) AllReady.nil))
     ·skip
      try rw [if_pos (by kernel_rfl)]
      go_simp
      obtain ⟨oA, oC, bo, htab, gB, hfin, hput⟩ := HC.out.Da
      refine (EH g 5 _ (by decide) oA oC _ d.au d.outT [bU code] _ u2 htab BZ (fun f hf => by simp at hf; subst hf; exact hst) (by simp) jW.out.1 (fun _ k hk => by simp [Value.ownBlock] at hk; rw [← hk]; exact jW.out.2) (fun k hk => .inr hk)).mono ?_
      rintro e u3 ⟨rfl, mD, ht2⟩
      rw [tH.out]
      rw [HE2.out] at mD
      obtain ⟨bz, hcz, hnz⟩ := hput u3 T2 mD lI.out (uV ht2)
      have HN : Hid (gu w bs bz) := fun q hq => by
       rcases hnz q hq with e | e
       ·exact .inl e
       ·exact .inr (Nat.le_trans HT.out.size e)
      replace HT := hide (HT.out.trans ((uV ht2).wide (fun x hx => by simp at hx; subst hx; simp)))
      replace HC := hide hcz
      clear htab mD hput hcz hnz ht2 jW
      refine hK _ _ ?_; clear hK K
      try simp only [Act.put, aI, aJ, aK, aL, aM, aN]
      refine wpAny_take (i := 9) (v := ?_) rfl (by kernel_rfl) (by kernel_rfl) (by kernel_rfl) (fun _ _ _ h => h) (Or.inl ⟨by rfl, ?_⟩) ?_; rotate_left; focus (intro uu; go_simp; try with_reducible rfl)
      try simp only [Act.put, aI, aJ, aK, aL, aM, aN]
      refine wpAny_ready (rs := [10]) (by kernel_rfl) (by simp) ?_
      refine (AllReady.cons rfl (fun K hK => ?_) AllReady.nil)
      try rw [if_pos (by kernel_rfl)]
      go_simp
      obtain ⟨u4, EW⟩ : ∃ u, u3.alloc (.cells #[.int .i64 0, .int .i64 0, .int .i64 0, .string ⟨#[]⟩] 72) = u := ⟨_, rfl⟩
      have JY : Below u3.heap.size u3 u4 := by rw [← EW]; exact (Below.refl _ _).alloc (Nat.le_refl _) _
      obtain ⟨gb, hgb⟩ : ∃ q, q = u3.heap.size := ⟨_, rfl⟩
      have HB : Hid (aj u4 gb 72 [.int .i64 0, .int .i64 0, .int .i64 0, .string ⟨#[]⟩]) := by show _; rw [← EW, hgb]; exact aB _ _ _
      have iR : Hid (gb ∉ g :: bz) := fun hx => by have := HC.out.tu _ hx; omega
      have kV : Hid (w.heap.size ≤ gb) := by show _ ≤ _; have := HT.out.size; omega
      replace HC := hide (HC.out.new JY)
      replace HT := hide (HT.out.trans (aG.new JY))
      rw [EW, ← hgb]
      clear EW hgb JY
      refine hK _ _ ?_; clear hK K
      try simp only [Act.put, aI, aJ, aK, aL, aM, aN]
      refine wpAny_ready (rs := [11]) (by kernel_rfl) (by simp) ?_
      refine (AllReady.cons rfl (fun K hK => ?_) AllReady.nil)
      try rw [if_pos (by kernel_rfl)]
      have hwt : gb < u4.heap.size := HB.out.lt
      have jY := hide (dW (cs' := [.int .i64 2, .int .i64 0, .int .i64 id, .string E]) HB.out)
      have nM := hide (HC.out.EO #[.int .i64 2, .int .i64 0, .int .i64 id, .string E] iR.out)
      have jU := hide (HT.out.EP #[.int .i64 2, .int .i64 0, .int .i64 id, .string E] kV.out)
      refine wp_store_row 72 (.tmp 8) (.tmp 51) rfl gb #[.int .i64 2, .int .i64 0, .int .i64 id, .string E] rfl rfl 72 #[.int .i64 0, .int .i64 0, .int .i64 0, .string ⟨#[]⟩] HB.out (by kernel_rfl) rfl (by simp [Value.oneCell']) ?_
      refine hK _ _ ?_
      clear hK K HB HC HT hwt
      have HB := jY; have HC := nM; have HT := jU
      clear jY nM jU
      try simp only [Act.put, aI, aJ, aK, aL, aM, aN]
      refine wpAny_done (by kernel_rfl) ?_ _
      go_wp2_with fail
      go_meet
      exact ⟨gb, bz, rfl, HB, HC, HT, HN, iR, kV⟩
     ·skip
      try rw [if_pos (by kernel_rfl)]
      go_simp
      obtain ⟨u6, EX⟩ : ∃ u, u2.alloc (.cells #[.int .i64 0, .int .i64 0, .int .i64 0, .string ⟨#[]⟩] 72) = u := ⟨_, rfl⟩
      have EY : Below u2.heap.size u2 u6 := by rw [← EX]; exact (Below.refl _ _).alloc (Nat.le_refl _) _
      obtain ⟨gb, hgb⟩ : ∃ q, q = u2.heap.size := ⟨_, rfl⟩
      have HB : Hid (aj u6 gb 72 [.int .i64 0, .int .i64 0, .int .i64 0, .string ⟨#[]⟩]) := by show _; rw [← EX, hgb]; exact aB _ _ _
      have iR : Hid (gb ∉ g :: bs) := fun hx => by have := HC.out.tu _ hx; omega
      have kV : Hid (w.heap.size ≤ gb) := by show _ ≤ _; have := HT.out.size; omega
      replace HC := hide (HC.out.new EY)
      replace HT := hide (HT.out.trans (aG.new EY))
      replace jW := hide (And.intro (jW.out.1.new EY) jW.out.2)
      rw [EX, ← hgb]
      clear EX hgb EY
      refine hK _ _ ?_; clear hK K
      try simp only [Act.put, aI, aJ, aK, aL, aM, aN]
      refine wpAny_ready (rs := [8]) (by kernel_rfl) (by simp) ?_
      refine (AllReady.cons rfl (fun K hK => ?_) AllReady.nil)
      try rw [if_pos (by kernel_rfl)]
      go_simp
      obtain ⟨oA, oC, bo, htab, gB, hfin, hput⟩ := HC.out.Da
      refine (EH g 5 _ (by decide) oA oC _ d.au d.outT [bU code] _ u6 htab BZ (fun f hf => by simp at hf; subst hf; exact hst) (by simp) jW.out.1 (fun _ k hk => by simp [Value.ownBlock] at hk; rw [← hk]; exact jW.out.2) (fun k hk => .inr hk)).mono ?_
      rintro e u7 ⟨rfl, mD, ht2⟩
      rw [tH.out]
      rw [HE2.out] at mD
      obtain ⟨bz, hcz, hnz⟩ := hput u7 T2 mD lI.out (uV ht2)
      have HN : Hid (gu w bs bz) := fun q hq => by
       rcases hnz q hq with e | e
       ·exact .inl e
       ·exact .inr (Nat.le_trans HT.out.size e)
      replace HT := hide (HT.out.trans ((uV ht2).wide (fun x hx => by simp at hx; subst hx; simp)))
      replace iR : Hid (gb ∉ g :: bz) := fun hx => by
       rcases List.mem_cons.1 hx with e | e
       ·exact iR.out (by simp [e])
       ·rcases hnz _ e with e | e
        ·exact iR.out (by simp [e])
        ·have := HB.out.lt; omega
      have hgg : gb ≠ g := fun e => iR.out (by simp [e])
      replace HB := hide (HB.out.kept (ht2.block gb HB.out.lt (by omega)))
      clear hgg
      replace HC := hide hcz
      clear htab mD hput hcz hnz ht2 jW
      refine hK _ _ ?_; clear hK K
      try simp only [Act.put, aI, aJ, aK, aL, aM, aN]
      refine wpAny_take (i := 9) (v := ?_) rfl (by kernel_rfl) (by kernel_rfl) (by kernel_rfl) (fun _ _ _ h => h) (Or.inl ⟨by rfl, ?_⟩) ?_; rotate_left; focus (intro uu; go_simp; try with_reducible rfl)
      try simp only [Act.put, aI, aJ, aK, aL, aM, aN]
      refine wpAny_ready (rs := [11]) (by kernel_rfl) (by simp) ?_
      refine (AllReady.cons rfl (fun K hK => ?_) AllReady.nil)
      try rw [if_pos (by kernel_rfl)]
      have hwt : gb < u7.heap.size := HB.out.lt
      have jY := hide (dW (cs' := [.int .i64 2, .int .i64 0, .int .i64 id, .string E]) HB.out)
      have nM := hide (HC.out.EO #[.int .i64 2, .int .i64 0, .int .i64 id, .string E] iR.out)
      have jU := hide (HT.out.EP #[.int .i64 2, .int .i64 0, .int .i64 id, .string E] kV.out)
      refine wp_store_row 72 (.tmp 8) (.tmp 51) rfl gb #[.int .i64 2, .int .i64 0, .int .i64 id, .string E] rfl rfl 72 #[.int .i64 0, .int .i64 0, .int .i64 0, .string ⟨#[]⟩] HB.out (by kernel_rfl) rfl (by simp [Value.oneCell']) ?_
      refine hK _ _ ?_
      clear hK K HB HC HT hwt
      have HB := jY; have HC := nM; have HT := jU
      clear jY nM jU
      try simp only [Act.put, aI, aJ, aK, aL, aM, aN]
      refine wpAny_done (by kernel_rfl) ?_ _
      go_wp2_with fail
      go_meet
      exact ⟨gb, bz, rfl, HB, HC, HT, HN, iR, kV⟩
    ·skip
     try rw [if_pos (by kernel_rfl)]
     go_simp
     obtain ⟨u9, oz⟩ : ∃ u, u1.alloc (.cells #[.int .i64 0, .int .i64 0, .int .i64 0, .string ⟨#[]⟩] 72) = u := ⟨_, rfl⟩
     have JZ : Below u1.heap.size u1 u9 := by rw [← oz]; exact (Below.refl _ _).alloc (Nat.le_refl _) _
     obtain ⟨gb, hgb⟩ : ∃ q, q = u1.heap.size := ⟨_, rfl⟩
     have HB : Hid (aj u9 gb 72 [.int .i64 0, .int .i64 0, .int .i64 0, .string ⟨#[]⟩]) := by show _; rw [← oz, hgb]; exact aB _ _ _
     have iR : Hid (gb ∉ g :: bs) := fun hx => by have := HC.out.tu _ hx; omega
     have kV : Hid (w.heap.size ≤ gb) := by show _ ≤ _; have := HT.out.size; omega
     replace HC := hide (HC.out.new JZ)
     replace HT := hide (HT.out.trans (aG.new JZ))
     rw [oz, ← hgb]
     clear oz hgb JZ
     refine hK _ _ ?_; clear hK K
     try simp only [Act.put, aI, aJ, aK, aL, aM, aN]
     refine wpAny_ready (rs := [7]) (by kernel_rfl) (by simp) ?_
     refine (AllReady.cons rfl (fun K hK => ?_) AllReady.nil)
     have oW := HC
     try rw [if_pos (by kernel_rfl)]
     go_simp
     obtain ⟨J2, EZ⟩ : ∃ u, u9.alloc (.cells #[.string ⟨#[58, 115, 116, 97, 116, 117, 115]⟩, .string sv] 104) = u := ⟨_, rfl⟩
     have E5 : Below u9.heap.size u9 J2 := by rw [← EZ]; exact (Below.refl _ _).alloc (Nat.le_refl _) _
     replace HC := hide (HC.out.new E5)
     replace HT := hide (HT.out.trans (aG.new E5))
     replace HB := hide (HB.out.new E5)
     have jW : Hid (Reads J2 (.slice (some ⟨(u9).heap.size, 0, none⟩) 1 1) 1 2 (fv [bU code]) ∧ u9.heap.size ≠ g) := by show _; rw [← EZ]; exact ⟨by rw [hsf]; exact eP (kW u9 104 2 1 #[.string ⟨#[58, 115, 116, 97, 116, 117, 115]⟩, .string sv] rfl (by omega)), by have := oW.out.lt; omega⟩
     rw [EZ]
     clear EZ E5
     refine hK _ _ ?_; clear hK K
     try simp only [Act.put, aI, aJ, aK, aL, aM, aN]
     refine wpAny_ready (rs := [8]) (by kernel_rfl) (by simp) ?_
     refine (AllReady.cons rfl (fun K hK => ?_) AllReady.nil)
     try rw [if_pos (by kernel_rfl)]
     go_simp
     obtain ⟨oA, oC, bo, htab, gB, hfin, hput⟩ := HC.out.Da
     refine (EH g 5 _ (by decide) oA oC _ d.au d.outT [bU code] _ J2 htab BZ (fun f hf => by simp at hf; subst hf; exact hst) (by simp) jW.out.1 (fun _ k hk => by simp [Value.ownBlock] at hk; rw [← hk]; exact jW.out.2) (fun k hk => .inr hk)).mono ?_
     rintro e Qy ⟨rfl, mD, ht2⟩
     rw [tH.out]
     rw [HE2.out] at mD
     obtain ⟨bz, hcz, hnz⟩ := hput Qy T2 mD lI.out (uV ht2)
     have HN : Hid (gu w bs bz) := fun q hq => by
      rcases hnz q hq with e | e
      ·exact .inl e
      ·exact .inr (Nat.le_trans HT.out.size e)
     replace HT := hide (HT.out.trans ((uV ht2).wide (fun x hx => by simp at hx; subst hx; simp)))
     replace iR : Hid (gb ∉ g :: bz) := fun hx => by
      rcases List.mem_cons.1 hx with e | e
      ·exact iR.out (by simp [e])
      ·rcases hnz _ e with e | e
       ·exact iR.out (by simp [e])
       ·have := HB.out.lt; omega
     have hgg : gb ≠ g := fun e => iR.out (by simp [e])
     replace HB := hide (HB.out.kept (ht2.block gb HB.out.lt (by omega)))
     clear hgg
     replace HC := hide hcz
     clear htab mD hput hcz hnz ht2 jW
     refine hK _ _ ?_; clear hK K
     try simp only [Act.put, aI, aJ, aK, aL, aM, aN]
     refine wpAny_take (i := 9) (v := ?_) rfl (by kernel_rfl) (by kernel_rfl) (by kernel_rfl) (fun _ _ _ h => h) (Or.inl ⟨by rfl, ?_⟩) ?_; rotate_left; focus (intro uu; go_simp; try with_reducible rfl)
     try simp only [Act.put, aI, aJ, aK, aL, aM, aN]
     refine wpAny_ready (rs := [11]) (by kernel_rfl) (by simp) ?_
     refine (AllReady.cons rfl (fun K hK => ?_) AllReady.nil)
     try rw [if_pos (by kernel_rfl)]
     have hwt : gb < Qy.heap.size := HB.out.lt
     have jY := hide (dW (cs' := [.int .i64 2, .int .i64 0, .int .i64 id, .string E]) HB.out)
     have nM := hide (HC.out.EO #[.int .i64 2, .int .i64 0, .int .i64 id, .string E] iR.out)
     have jU := hide (HT.out.EP #[.int .i64 2, .int .i64 0, .int .i64 id, .string E] kV.out)
     refine wp_store_row 72 (.tmp 8) (.tmp 51) rfl gb #[.int .i64 2, .int .i64 0, .int .i64 id, .string E] rfl rfl 72 #[.int .i64 0, .int .i64 0, .int .i64 0, .string ⟨#[]⟩] HB.out (by kernel_rfl) rfl (by simp [Value.oneCell']) ?_
     refine hK _ _ ?_
     clear hK K HB HC HT hwt
     have HB := jY; have HC := nM; have HT := jU
     clear jY nM jU
     try simp only [Act.put, aI, aJ, aK, aL, aM, aN]
     refine wpAny_done (by kernel_rfl) ?_ _
     go_wp2_with fail
     go_meet
     exact ⟨gb, bz, rfl, HB, HC, HT, HN, iR, kV⟩
   ·skip
    try rw [if_pos (by kernel_rfl)]
    go_simp
    obtain ⟨Qz, E9⟩ : ∃ u, v1.alloc (.cells #[.int .i64 0, .int .i64 0, .int .i64 0, .string ⟨#[]⟩] 72) = u := ⟨_, rfl⟩
    have J3 : Below v1.heap.size v1 Qz := by rw [← E9]; exact (Below.refl _ _).alloc (Nat.le_refl _) _
    obtain ⟨gb, hgb⟩ : ∃ q, q = v1.heap.size := ⟨_, rfl⟩
    have HB : Hid (aj Qz gb 72 [.int .i64 0, .int .i64 0, .int .i64 0, .string ⟨#[]⟩]) := by show _; rw [← E9, hgb]; exact aB _ _ _
    have iR : Hid (gb ∉ g :: bs) := fun hx => by have := HC.out.tu _ hx; omega
    have kV : Hid (w.heap.size ≤ gb) := by show _ ≤ _; have := HT.out.size; omega
    replace HC := hide (HC.out.new J3)
    replace HT := hide (HT.out.trans (aG.new J3))
    rw [E9, ← hgb]
    clear E9 hgb J3
    refine hK _ _ ?_; clear hK K
    try simp only [Act.put, aI, aJ, aK, aL, aM, aN]
    refine wpAny_ready (rs := [5]) (by kernel_rfl) (by simp) ?_
    refine (AllReady.cons rfl (fun K hK => ?_) AllReady.nil)
    try rw [if_pos (by kernel_rfl)]
    go_simp
    refine (JU _).mono ?_; rintro e yZ ⟨rfl, Fa⟩
    replace HC := hide (HC.out.new Fa)
    replace HT := hide (HT.out.trans (aG.new Fa))
    replace HB := hide (HB.out.new Fa)
    refine hK _ _ ?_; clear hK K Fa
    try simp only [Act.put, aI, aJ, aK, aL, aM, aN]
    refine wpAny_take (i := 6) (v := ?_) rfl (by kernel_rfl) (by kernel_rfl) (by kernel_rfl) (fun _ _ _ h => h) (Or.inl ⟨by rfl, ?_⟩) ?_; rotate_left; focus (intro uu; go_simp; try with_reducible rfl)
    try simp only [Act.put, aI, aJ, aK, aL, aM, aN]
    refine wpAny_ready (rs := [7]) (by kernel_rfl) (by simp) ?_
    refine (AllReady.cons rfl (fun K hK => ?_) AllReady.nil)
    have oW := HC
    try rw [if_pos (by kernel_rfl)]
    go_simp
    obtain ⟨J4, Fb⟩ : ∃ u, yZ.alloc (.cells #[.string ⟨#[58, 115, 116, 97, 116, 117, 115]⟩, .string sv] 104) = u := ⟨_, rfl⟩
    have Fe : Below yZ.heap.size yZ J4 := by rw [← Fb]; exact (Below.refl _ _).alloc (Nat.le_refl _) _
    replace HC := hide (HC.out.new Fe)
    replace HT := hide (HT.out.trans (aG.new Fe))
    replace HB := hide (HB.out.new Fe)
    have jW : Hid (Reads J4 (.slice (some ⟨(yZ).heap.size, 0, none⟩) 1 1) 1 2 (fv [bU code]) ∧ yZ.heap.size ≠ g) := by show _; rw [← Fb]; exact ⟨by rw [hsf]; exact eP (kW yZ 104 2 1 #[.string ⟨#[58, 115, 116, 97, 116, 117, 115]⟩, .string sv] rfl (by omega)), by have := oW.out.lt; omega⟩
    rw [Fb]
    clear Fb Fe
    refine hK _ _ ?_; clear hK K
    try simp only [Act.put, aI, aJ, aK, aL, aM, aN]
    refine wpAny_ready (rs := [8]) (by kernel_rfl) (by simp) ?_
    refine (AllReady.cons rfl (fun K hK => ?_) AllReady.nil)
    try rw [if_pos (by kernel_rfl)]
    go_simp
    obtain ⟨oA, oC, bo, htab, gB, hfin, hput⟩ := HC.out.Da
    refine (EH g 5 _ (by decide) oA oC _ d.au d.outT [bU code] _ J4 htab BZ (fun f hf => by simp at hf; subst hf; exact hst) (by simp) jW.out.1 (fun _ k hk => by simp [Value.ownBlock] at hk; rw [← hk]; exact jW.out.2) (fun k hk => .inr hk)).mono ?_
    rintro e u16 ⟨rfl, mD, ht2⟩
    rw [tH.out]
    rw [HE2.out] at mD
    obtain ⟨bz, hcz, hnz⟩ := hput u16 T2 mD lI.out (uV ht2)
    have HN : Hid (gu w bs bz) := fun q hq => by
     rcases hnz q hq with e | e
     ·exact .inl e
     ·exact .inr (Nat.le_trans HT.out.size e)
    replace HT := hide (HT.out.trans ((uV ht2).wide (fun x hx => by simp at hx; subst hx; simp)))
    replace iR : Hid (gb ∉ g :: bz) := fun hx => by
     rcases List.mem_cons.1 hx with e | e
     ·exact iR.out (by simp [e])
     ·rcases hnz _ e with e | e
      ·exact iR.out (by simp [e])
      ·have := HB.out.lt; omega
    have hgg : gb ≠ g := fun e => iR.out (by simp [e])
    replace HB := hide (HB.out.kept (ht2.block gb HB.out.lt (by omega)))
    clear hgg
    replace HC := hide hcz
    clear htab mD hput hcz hnz ht2 jW
    refine hK _ _ ?_; clear hK K
    try simp only [Act.put, aI, aJ, aK, aL, aM, aN]
    refine wpAny_take (i := 9) (v := ?_) rfl (by kernel_rfl) (by kernel_rfl) (by kernel_rfl) (fun _ _ _ h => h) (Or.inl ⟨by rfl, ?_⟩) ?_; rotate_left; focus (intro uu; go_simp; try with_reducible rfl)
    try simp only [Act.put, aI, aJ, aK, aL, aM, aN]
    refine wpAny_ready (rs := [11]) (by kernel_rfl) (by simp) ?_
    refine (AllReady.cons rfl (fun K hK => ?_) AllReady.nil)
    try rw [if_pos (by kernel_rfl)]
    have hwt : gb < u16.heap.size := HB.out.lt
    have jY := hide (dW (cs' := [.int .i64 2, .int .i64 0, .int .i64 id, .string E]) HB.out)
    have nM := hide (HC.out.EO #[.int .i64 2, .int .i64 0, .int .i64 id, .string E] iR.out)
    have jU := hide (HT.out.EP #[.int .i64 2, .int .i64 0, .int .i64 id, .string E] kV.out)
    refine wp_store_row 72 (.tmp 8) (.tmp 51) rfl gb #[.int .i64 2, .int .i64 0, .int .i64 id, .string E] rfl rfl 72 #[.int .i64 0, .int .i64 0, .int .i64 0, .string ⟨#[]⟩] HB.out (by kernel_rfl) rfl (by simp [Value.oneCell']) ?_
    refine hK _ _ ?_
    clear hK K HB HC HT hwt
    have HB := jY; have HC := nM; have HT := jU
    clear jY nM jU
    try simp only [Act.put, aI, aJ, aK, aL, aM, aN]
    refine wpAny_done (by kernel_rfl) ?_ _
    go_wp2_with fail
    go_meet
    exact ⟨gb, bz, rfl, HB, HC, HT, HN, iR, kV⟩
  rename_i wc
  obtain ⟨gb, bz, rfl, HB, mo, HT2, qL, Ca, kV⟩ := hcut
  clear HC HT
  obtain ⟨b0, b1, b2, b3⟩ := wu HB.out
  have bf := fun j => aj.frozen HB.out j
  have bl := HB.out.lt
  by_cases nH : code = 200
  ·rw [if_pos nH] at EU
   subst nH
   go_wp2_with fail
   go_ret
   rw [EU.out]
   exact iA.after HT2.out qL.out (iA.one ⟨2, 0, id, E⟩ mo.out)
  rw [if_neg nH] at EU
  have Tg : (code != 200) = true := by simpa using nH
  have HB3 := hide (HB.out.set 1 (.int .i64 1))
  have QA := hide (mo.out.far ⟨gb, 1, none⟩ (.int .i64 1) Ca.out)
  have HT3 := hide (HT2.out.fresh (p := ⟨gb, 1, none⟩) (v := .int .i64 1) kV.out)
  go_upto_region 7 with fail
  generalize wc.setCell ⟨gb, 1, none⟩ (.int .i64 1) = w3 at *
  clear b0 b1 b2 b3 bf bl HB mo HT2
  go_wp2_with fail
  refine (OY g _ bz id 3 _ QA.out).mono ?_; rintro x w4 ⟨bq, rfl, hc4, gZ, nO⟩
  have zn := hide (HB3.out.kept (gZ.block _ HB3.out.lt Ca.out))
  have QB := hide (HT3.out.then qL.out gZ)
  have QC := hide (qL.out.trans nO HT3.out.size)
  have En := hide hc4
  have aaX : Hid (gb ∉ g :: bq) := fun hx => by
   rcases List.mem_cons.1 hx with e | e
   ·exact Ca.out (by simp [e])
   ·rcases nO _ e with e | e
    ·exact Ca.out (by simp [e])
    ·have := HB3.out.lt; omega
  clear hc4 gZ nO HB3 QA HT3 qL Ca
  obtain ⟨gf, Sj, Sk, Sl, cap, hrow, hgm, CZ, hgg, c10, cf, QD, fM⟩ := En.out.Tw k pE
  have x10 := ak 10 hrow rfl
  have xl := hrow.lt
  dsimp only [oD] at x10 c10
  have hgb : gf ≠ gb := fun e => aaX.out (by rw [← e]; simp [hgm])
  have jY := hide (zn.out.far ⟨gf, k * 15 + 10, none⟩ (.bool true) hgb)
  have nM := hide QD
  have jU := hide (QB.out.then QC.out fM)
  clear hrow QD fM zn En QB
  go_upto_region 9 with fail
  generalize w4.setCell ⟨gf, k * 15 + 10, none⟩ (.bool true) = w5 at *
  clear x10 xl c10 cf
  obtain ⟨b0, b1, b2, b3⟩ := wu jY.out
  have bl := jY.out.lt
  go_wp2_with fail
  go_ret
  rw [EU.out]
  exact iA.after jU.out QC.out (iA.one ⟨2, 1, id, E⟩ nM.out)
theorem aaY {B : Nat} {a b c : World} {g : Nat} (h : Below B a b) (ht : aG [g] b c) (hg : B ≤ g) (hB : B ≤ b.heap.size) : Below B a c :=
 ⟨ht.os.trans h.os, ht.tape.trans h.tape, ht.output.trans h.output, Nat.le_trans h.size ht.size, fun k hk => (ht.block k (by omega) (by simp; omega)).trans (h.block k hk)⟩
theorem aaZ (v : Value) (w : World) : (Go.method 359 92 v "loop.example/g00296/impl.apart").run Tryz.prog w = .ok (195, v) w := by kernel_rfl
set_option maxHeartbeats 8000000 in
theorem SB (fl : List aV) (v : Value) (w : World) (hr : aT bF w v fl) (hok : ∀ f ∈ fl, dZ f.fds = true ∧ jJ f.tun = true) (hn : fl.length ≤ 60) :
  Calls Tryz.prog 96 #[v] w fun x w' => ∃ v', x = .returned v' ∧ aD bF w' w.heap.size w'.heap.size v' fl ∧ Below w.heap.size w w' := by
 obtain ⟨af, pf, rfl, q1, q2⟩ := hr.form
 have FE : Hid (∀ f ∈ fl, dZ f.fds = true ∧ jJ f.tun = true) := hok
 obtain ⟨rs, hrs, hrd, hrr⟩ := hr
 have hrl : fl.length = rs.length := by rw [hrs]; simp
 have hone : ∀ u ∈ rs.flatMap (fun t : List Value × aV => t.1), u.oneCell' = true := fun u hu => by
  obtain ⟨t, ht, hu⟩ := List.mem_flatMap.1 hu
  exact bF.Dc (hrr t ht) u hu
 have HRS := hide hrs; have jW := hide hrd; have HRR := hide hrr; have eD := hide hrl; have kP := hide hone
 clear hrs hrd hrr hrl hone hok
 have hme := aaZ
 go_enter Tryz.func96, Tryz.ntmps96
 go_wp2_with fail
 refine (ZM _ fl.length _ _ (by have := jW.out; rw [← eD.out] at this; exact this) kP.out (by omega)).mono ?_; rintro e W5 ⟨vF, rfl, ho, hb⟩
 obtain ⟨ac, pc, rfl, SC, SE⟩ := bW ho
 have QE := hide ho
 have bD := hide hb
 obtain ⟨g9, ou⟩ : ∃ n, W5.heap.size = n := ⟨_, rfl⟩
 have hug : w.heap.size ≤ g9 := by have := hb.size; omega
 have J5 : Hid (∀ q, (Value.slice ac fl.length pc).ownBlock = some q → w.heap.size ≤ q ∧ q < g9) := fun q hq => by have := iV ho q hq; omega
 have hgW : Hid (g9 ≤ W5.heap.size) := Nat.le_of_eq ou.symm
 clear ho hb ou
 go_wp2_with fail
 have H0 : Hid (([] : List (List Value × aV × List Nat)).map (fun t => t.2.1) = fl.take 0 ∧ (∀ t ∈ ([] : List (List Value × aV × List Nat)), bF.own W5 t.1 t.2.1 t.2.2) ∧ (([] : List (List Value × aV × List Nat)).flatMap (fun t => t.2.2)).Nodup ∧ ∀ b ∈ ([] : List (List Value × aV × List Nat)).flatMap (fun t => t.2.2), g9 ≤ b ∧ b < W5.heap.size) := ⟨by simp, fun t ht => (by cases ht), by simp, fun b hb => (by simp at hb)⟩
 have uG : Hid (W5.ownsRow w.heap.size 92 15 (.slice ac fl.length pc) fl.length (([] : List (List Value × aV × List Nat)).flatMap (fun t => t.1) ++ (rs.drop 0).flatMap (fun t : List Value × aV => t.1))) := by show World.ownsRow _ _ _ _ _ _ _; simpa using QE.out
 go_loopw [10, 4, 5] (fun i _ _ wr => ∃ (k : Nat) (ts : List (List Value × aV × List Nat)), i = .int .i64 (k : Int) ∧ k ≤ fl.length ∧ Hid (ts.map (fun t => t.2.1) = fl.take k ∧ (∀ t ∈ ts, bF.own wr t.1 t.2.1 t.2.2) ∧ (ts.flatMap (fun t => t.2.2)).Nodup ∧ ∀ b ∈ ts.flatMap (fun t => t.2.2), g9 ≤ b ∧ b < wr.heap.size) ∧ Hid (wr.ownsRow w.heap.size 92 15 (.slice ac fl.length pc) fl.length (ts.flatMap (fun t => t.1) ++ (rs.drop k).flatMap (fun t : List Value × aV => t.1))) ∧ Hid (Below w.heap.size w wr) ∧ Hid (g9 ≤ wr.heap.size)) (fun i _ _ _ => fl.length - (intOf i).toNat)
 case atStart => exact ⟨0, [], rfl, Nat.zero_le _, H0, uG, bD, hgW⟩
 case round =>
  clear H0 uG bD hgW QE
  obtain ⟨k, ts, rfl, hk, HT, HO, HB, J6⟩ := hrel
  by_cases hlt : k < fl.length
  rotate_left
  ·have Bz : ¬ (k : Int) < fl.length := by omega
   have hkn : k = fl.length := by omega
   have hfin : aD bF wr w.heap.size wr.heap.size (.slice ac fl.length pc) fl := by
    obtain ⟨t1, t2, t3, t4⟩ := HT.out
    have ho := HO.out
    rw [hkn, List.take_length] at t1
    rw [hkn, List.drop_eq_nil_of_le (by have := eD.out; omega)] at ho
    have htl : ts.length = fl.length := by have := congrArg List.length t1; simpa using this
    have hsr := J6.out
    refine ⟨_, ⟨ts, t1.symm, by have := eG (base' := 0) ho (fun _ _ => Nat.zero_le _); rw [htl]; simp only [List.flatMap_nil, List.append_nil] at this; exact this, t2, rfl⟩, jv (uh _) t3 fun b hb hb2 => ?_, fun b hb => ?_⟩
    ·have h1 := J5.out b (by cases hv : (Value.slice ac fl.length pc).ownBlock <;> simp [hv] at hb ⊢; exact hb.symm)
     have h2 := t4 b hb2
     omega
    ·rcases List.mem_append.1 hb with e | e
     ·have h1 := J5.out b (by cases hv : (Value.slice ac fl.length pc).ownBlock <;> simp [hv] at e ⊢; exact e.symm)
      omega
     ·have h2 := t4 b e; omega
   have HF := hide hfin
   clear hfin hkn
   go_wp2_with fail
   go_ret
   exact ⟨_, rfl, HF.out, HB.out⟩
  ·have Bz : (k : Int) < fl.length := by omega
   have hkr : k < rs.length := by have := eD.out; omega
   obtain ⟨vq, hx1, s0, s1, lF⟩ := HRR.out _ (List.getElem_mem hkr)
   have hxk : fl[k] = rs[k].2 := by simp only [HRS.out]; simp
   have hfo := FE.out fl[k] (List.getElem_mem hlt)
   have hdr : (rs.drop k).flatMap (fun t : List Value × aV => t.1) = rs[k].1 ++ (rs.drop (k + 1)).flatMap (fun t : List Value × aV => t.1) := by rw [List.drop_eq_getElem_cons hkr]; rfl
   rw [hx1] at hdr
   have htk : fl.take (k + 1) = fl.take k ++ [fl[k]] := List.take_succ_eq_append_getElem hlt
   rw [hxk] at hfo htk
   obtain ⟨x, hx⟩ : ∃ x, rs[k].2 = x := ⟨_, rfl⟩
   rw [hx] at hdr s0 s1 lF hfo htk
   obtain ⟨aq, pq, rfl, _, _⟩ := lF.form
   have ho := HO.out
   rw [hdr, ← List.append_assoc] at ho
   have htl : ts.length = k := by have := congrArg List.length HT.out.1; simp at this; omega
   have QF : (ts.flatMap (fun t : List Value × aV × List Nat => t.1)).length = k * 15 := by
    rw [Ac (fun t : List Value × aV × List Nat => t.1) 15 ts (fun t ht => bF.nT (bF.nU (HT.out.2.1 t ht))), htl]
   obtain ⟨gf, cap2, SS, BA, Ey, Nk, ZW, _, _, hmid, hput⟩ := Xf ho (by simp)
   simp only [Value.slice.injEq, true_and] at BA
   obtain ⟨rfl, rfl⟩ := BA
   rw [QF] at hmid hput
   have hvb := J5.out gf rfl
   obtain ⟨hu, hdd, _, _⟩ := F5 hfo.2
   have hu2 := C8 hu
   have hd2 := C8 hdd
   have HXB : Hid (x.tun.up.b.size ≤ 1000000 ∧ x.tun.dn.b.size ≤ 1000000) := ⟨by omega, by omega⟩
   have QG := hide hfo.1
   clear hu hdd hu2 hd2
   have jV := hide (lF.new HB.out)
   have aa0 := hide hput
   have fA := hide htk
   have S0 := hide s0; have S1 := hide s1
   clear hx1 s0 s1 lF hxk hfo hdr htk hx ho htl QF hput
   have c0 : wr.cell? ⟨gf, k * 15, none⟩ = some (.int .i64 x.id) := hmid.cell (j := 0) rfl
   have c1 : wr.cell? ⟨gf, k * 15 + 1, none⟩ = some (.int .i64 x.get) := hmid.cell (j := 1) rfl
   have c2 : wr.cell? ⟨gf, k * 15 + 2, none⟩ = some (.int .i64 x.give) := hmid.cell (j := 2) rfl
   have c3 : wr.cell? ⟨gf, k * 15 + 3, none⟩ = some (.slice aq x.fds.length pq) := hmid.cell (j := 3) rfl
   have c4 : wr.cell? ⟨gf, k * 15 + 4, none⟩ = some (.int .i64 x.tun.up.r) := hmid.cell (j := 4) rfl
   have c5 : wr.cell? ⟨gf, k * 15 + 5, none⟩ = some (.string x.tun.up.b) := hmid.cell (j := 5) rfl
   have c6 : wr.cell? ⟨gf, k * 15 + 6, none⟩ = some (.bool x.tun.up.e) := hmid.cell (j := 6) rfl
   have c7 : wr.cell? ⟨gf, k * 15 + 7, none⟩ = some (.bool x.tun.up.k) := hmid.cell (j := 7) rfl
   have c8 : wr.cell? ⟨gf, k * 15 + 8, none⟩ = some (.int .i64 x.tun.dn.r) := hmid.cell (j := 8) rfl
   have c9 : wr.cell? ⟨gf, k * 15 + 9, none⟩ = some (.string x.tun.dn.b) := hmid.cell (j := 9) rfl
   have c10 : wr.cell? ⟨gf, k * 15 + 10, none⟩ = some (.bool x.tun.dn.e) := hmid.cell (j := 10) rfl
   have c11 : wr.cell? ⟨gf, k * 15 + 11, none⟩ = some (.bool x.tun.dn.k) := hmid.cell (j := 11) rfl
   have c12 : wr.cell? ⟨gf, k * 15 + 12, none⟩ = some (.int .i64 x.tun.went) := hmid.cell (j := 12) rfl
   have c13 : wr.cell? ⟨gf, k * 15 + 13, none⟩ = some (.int .i64 x.tun.came) := hmid.cell (j := 13) rfl
   have c14 : wr.cell? ⟨gf, k * 15 + 14, none⟩ = some (.bool x.ended) := hmid.cell (j := 14) rfl
   go_upto_region 5 with fail
   have hX : Below wr.heap.size wr (wr.alloc (.cells #[.int .i64 x.id, .int .i64 x.get, .int .i64 x.give, .slice aq x.fds.length pq, .int .i64 x.tun.up.r, .string x.tun.up.b, .bool x.tun.up.e, .bool x.tun.up.k, .int .i64 x.tun.dn.r, .string x.tun.dn.b, .bool x.tun.dn.e, .bool x.tun.dn.k, .int .i64 x.tun.went, .int .i64 x.tun.came, .bool x.ended] 92)) := (Below.refl _ _).alloc (Nat.le_refl _) _
   have RX := aB wr 92 [.int .i64 x.id, .int .i64 x.get, .int .i64 x.give, .slice aq x.fds.length pq, .int .i64 x.tun.up.r, .string x.tun.up.b, .bool x.tun.up.e, .bool x.tun.up.k, .int .i64 x.tun.dn.r, .string x.tun.dn.b, .bool x.tun.dn.e, .bool x.tun.dn.k, .int .i64 x.tun.went, .int .i64 x.tun.came, .bool x.ended]
   have HM := hide (hmid.new hX)
   replace jV := hide (jV.out.new hX)
   replace HB := hide (ah HB.out hX)
   have zw : Hid (∀ t ∈ ts, bF.own (wr.alloc (.cells #[.int .i64 x.id, .int .i64 x.get, .int .i64 x.give, .slice aq x.fds.length pq, .int .i64 x.tun.up.r, .string x.tun.up.b, .bool x.tun.up.e, .bool x.tun.up.k, .int .i64 x.tun.dn.r, .string x.tun.dn.b, .bool x.tun.dn.e, .bool x.tun.dn.k, .int .i64 x.tun.went, .int .i64 x.tun.came, .bool x.ended] 92)) t.1 t.2.1 t.2.2) := fun t ht => bF.ji (HT.out.2.1 t ht) hX.size (fun b hb => hX.block b (bF.kr (HT.out.2.1 t ht) b hb))
   have Cb : Hid (∀ b ∈ ts.flatMap (fun t : List Value × aV × List Nat => t.2.2), g9 ≤ b ∧ b < (wr.alloc (.cells #[.int .i64 x.id, .int .i64 x.get, .int .i64 x.give, .slice aq x.fds.length pq, .int .i64 x.tun.up.r, .string x.tun.up.b, .bool x.tun.up.e, .bool x.tun.up.k, .int .i64 x.tun.dn.r, .string x.tun.dn.b, .bool x.tun.dn.e, .bool x.tun.dn.k, .int .i64 x.tun.went, .int .i64 x.tun.came, .bool x.ended] 92)).heap.size) := fun b hb => ⟨(HT.out.2.2.2 b hb).1, Nat.lt_of_lt_of_le (HT.out.2.2.2 b hb).2 hX.size⟩
   have J7 : Hid (g9 ≤ (wr.alloc (.cells #[.int .i64 x.id, .int .i64 x.get, .int .i64 x.give, .slice aq x.fds.length pq, .int .i64 x.tun.up.r, .string x.tun.up.b, .bool x.tun.up.e, .bool x.tun.up.k, .int .i64 x.tun.dn.r, .string x.tun.dn.b, .bool x.tun.dn.e, .bool x.tun.dn.k, .int .i64 x.tun.went, .int .i64 x.tun.came, .bool x.ended] 92)).heap.size) := Nat.le_trans J6.out hX.size
   have HTN := hide HT.out.2.2.1
   have HTM := hide HT.out.1
   clear hX hmid HT HO J6 c0 c1 c2 c3 c4 c5 c6 c7 c8 c9 c10 c11 c12 c13 c14
   generalize wr.heap.size = ge at *
   generalize wr.alloc (.cells #[.int .i64 x.id, .int .i64 x.get, .int .i64 x.give, .slice aq x.fds.length pq, .int .i64 x.tun.up.r, .string x.tun.up.b, .bool x.tun.up.e, .bool x.tun.up.k, .int .i64 x.tun.dn.r, .string x.tun.dn.b, .bool x.tun.dn.e, .bool x.tun.dn.k, .int .i64 x.tun.went, .int .i64 x.tun.came, .bool x.ended] 92) = u1 at *
   have x0 := RX.cell (j := 0) rfl
   have x1 := RX.cell (j := 1) rfl
   have x2 := RX.cell (j := 2) rfl
   have x3 := RX.cell (j := 3) rfl
   have x4 := RX.cell (j := 4) rfl
   have x5 := RX.cell (j := 5) rfl
   have x6 := RX.cell (j := 6) rfl
   have x7 := RX.cell (j := 7) rfl
   have x8 := RX.cell (j := 8) rfl
   have x9 := RX.cell (j := 9) rfl
   have x10 := RX.cell (j := 10) rfl
   have bC := RX.cell (j := 11) rfl
   have bS := RX.cell (j := 12) rfl
   have oF := RX.cell (j := 13) rfl
   have wz := RX.cell (j := 14) rfl
   have xl := RX.lt
   go_wp2_with fail
   refine (aai x _ _ jV.out QG.out HXB.out.1 HXB.out.2).mono ?_; rintro e u2 ⟨vn, rfl, hon, hb2⟩
   obtain ⟨an, pn, rfl, _, _⟩ := bW hon
   clear x0 x1 x2 x3 x4 x5 x6 x7 x8 x9 x10 bC bS oF wz xl RX
   replace HM := hide (HM.out.new hb2)
   replace HB := hide (ah HB.out hb2)
   have QH : Hid (∀ t ∈ ts, bF.own u2 t.1 t.2.1 t.2.2) := fun t ht => bF.ji (zw.out t ht) hb2.size (fun b hb => hb2.block b (bF.kr (zw.out t ht) b hb))
   have QJ := hide hon
   have HZ2 := hide hb2.size
   have QK : Hid (gf < u1.heap.size) := Nat.lt_of_lt_of_le hvb.2 J7.out
   clear hon hb2 zw
   go_upto_region 6 with (refine wpList_store_mid (by rfl) 92 _ _ (by rfl) gf (k * 15) [.int .i64 x.id, .int .i64 x.get, .int .i64 x.give, .slice an x.fds.length pn, .int .i64 x.tun.up.r, .string x.tun.up.b, .bool x.tun.up.e, .bool x.tun.up.k, .int .i64 x.tun.dn.r, .string x.tun.dn.b, .bool x.tun.dn.e, .bool x.tun.dn.k, .int .i64 x.tun.went, .int .i64 x.tun.came, .bool x.ended] (by rfl) (by rfl) 92 _ _ _ HM.out (by kernel_rfl) rfl (by intro u hu; simp at hu; rcases hu with rfl | rfl | rfl | rfl | rfl | rfl | rfl | rfl | rfl | rfl | rfl | rfl | rfl | rfl | rfl <;> rfl) ?_; intro u3 QL ht3)
   have ho3 := aa0.out u3 [.int .i64 x.id, .int .i64 x.get, .int .i64 x.give, .slice an x.fds.length pn, .int .i64 x.tun.up.r, .string x.tun.up.b, .bool x.tun.up.e, .bool x.tun.up.k, .int .i64 x.tun.dn.r, .string x.tun.dn.b, .bool x.tun.dn.e, .bool x.tun.dn.k, .int .i64 x.tun.went, .int .i64 x.tun.came, .bool x.ended] rfl QL
   have hon := QJ.out
   have aa1 := J7.out
   have hz2 := HZ2.out
   have hgu := QK.out
   have J8 := gK hon (w' := u3) (fun q hq hl => ht3.block q hl (by have := (iV hon q hq).1; simp; omega))
   have HB3 := hide (aaY HB.out ht3 (by omega) HB.out.size)
   have hnb : ∀ b, (Value.slice an x.fds.length pn).ownBlock = some b → u1.heap.size ≤ b ∧ b < u3.heap.size := fun b hb => iV J8 b hb
   have hT3 : Hid ((ts ++ [(([.int .i64 x.id, .int .i64 x.get, .int .i64 x.give, .slice an x.fds.length pn, .int .i64 x.tun.up.r, .string x.tun.up.b, .bool x.tun.up.e, .bool x.tun.up.k, .int .i64 x.tun.dn.r, .string x.tun.dn.b, .bool x.tun.dn.e, .bool x.tun.dn.k, .int .i64 x.tun.went, .int .i64 x.tun.came, .bool x.ended] : List Value), x, (Value.slice an x.fds.length pn).ownBlock.toList)]).map (fun t : List Value × aV × List Nat => t.2.1) = fl.take (k + 1) ∧ (∀ t ∈ ts ++ [(([.int .i64 x.id, .int .i64 x.get, .int .i64 x.give, .slice an x.fds.length pn, .int .i64 x.tun.up.r, .string x.tun.up.b, .bool x.tun.up.e, .bool x.tun.up.k, .int .i64 x.tun.dn.r, .string x.tun.dn.b, .bool x.tun.dn.e, .bool x.tun.dn.k, .int .i64 x.tun.went, .int .i64 x.tun.came, .bool x.ended] : List Value), x, (Value.slice an x.fds.length pn).ownBlock.toList)], bF.own u3 t.1 t.2.1 t.2.2) ∧ ((ts ++ [(([.int .i64 x.id, .int .i64 x.get, .int .i64 x.give, .slice an x.fds.length pn, .int .i64 x.tun.up.r, .string x.tun.up.b, .bool x.tun.up.e, .bool x.tun.up.k, .int .i64 x.tun.dn.r, .string x.tun.dn.b, .bool x.tun.dn.e, .bool x.tun.dn.k, .int .i64 x.tun.went, .int .i64 x.tun.came, .bool x.ended] : List Value), x, (Value.slice an x.fds.length pn).ownBlock.toList)]).flatMap (fun t : List Value × aV × List Nat => t.2.2)).Nodup ∧ ∀ b ∈ (ts ++ [(([.int .i64 x.id, .int .i64 x.get, .int .i64 x.give, .slice an x.fds.length pn, .int .i64 x.tun.up.r, .string x.tun.up.b, .bool x.tun.up.e, .bool x.tun.up.k, .int .i64 x.tun.dn.r, .string x.tun.dn.b, .bool x.tun.dn.e, .bool x.tun.dn.k, .int .i64 x.tun.went, .int .i64 x.tun.came, .bool x.ended] : List Value), x, (Value.slice an x.fds.length pn).ownBlock.toList)]).flatMap (fun t : List Value × aV × List Nat => t.2.2), g9 ≤ b ∧ b < u3.heap.size) := by
    refine ⟨by rw [List.map_append, HTM.out, fA.out]; rfl, fun t ht => ?_, ?_, fun b hb => ?_⟩
    ·rcases List.mem_append.1 ht with e | e
     ·refine bF.ji (QH.out t e) ht3.size (fun b hb => ht3.block b (bF.kr (QH.out t e) b hb) ?_)
      have := (Cb.out b (List.mem_flatMap.2 ⟨t, e, hb⟩)).1
      simp; omega
     ·simp at e
      subst e
      exact ⟨.slice an x.fds.length pn, _, rfl, S0.out, S1.out, zN (eG J8 (fun _ _ => Nat.zero_le _)) (fun f hf => qj (by have := QG.out; unfold dZ at this; simp only [Bool.and_eq_true] at this; exact List.all_eq_true.1 this.1 f hf)), rfl⟩
    ·rw [List.flatMap_append]
     refine jv HTN.out (by simpa using uh _) fun b hb hb2 => ?_
     have h1 := (Cb.out b hb).2
     simp only [List.flatMap_cons, List.flatMap_nil, List.append_nil] at hb2
     have h2 := (hnb b (by cases hv : (Value.slice an x.fds.length pn).ownBlock <;> simp [hv] at hb2 ⊢; exact hb2.symm)).1
     omega
    ·rw [List.flatMap_append] at hb
     rcases List.mem_append.1 hb with e | e
     ·have := Cb.out b e; have := ht3.size; omega
     ·simp only [List.flatMap_cons, List.flatMap_nil, List.append_nil] at e
      have h2 := hnb b (by cases hv : (Value.slice an x.fds.length pn).ownBlock <;> simp [hv] at e ⊢; exact e.symm)
      omega
   have lK : Hid (u3.ownsRow w.heap.size 92 15 (.slice (some ⟨gf, 0, none⟩) fl.length pc) fl.length ((ts ++ [(([.int .i64 x.id, .int .i64 x.get, .int .i64 x.give, .slice an x.fds.length pn, .int .i64 x.tun.up.r, .string x.tun.up.b, .bool x.tun.up.e, .bool x.tun.up.k, .int .i64 x.tun.dn.r, .string x.tun.dn.b, .bool x.tun.dn.e, .bool x.tun.dn.k, .int .i64 x.tun.went, .int .i64 x.tun.came, .bool x.ended] : List Value), x, (Value.slice an x.fds.length pn).ownBlock.toList)]).flatMap (fun t : List Value × aV × List Nat => t.1) ++ (rs.drop (k + 1)).flatMap (fun t : List Value × aV => t.1))) := by
    show World.ownsRow _ _ _ _ _ _ _
    rw [List.flatMap_append]
    simpa using ho3
   have hs3 : Hid (g9 ≤ u3.heap.size) := by show _ ≤ _; have := ht3.size; omega
   clear QL ho3 J8 HM HB hnb ht3 hon aa1 hz2 hgu QJ HZ2 QK J7
   go_wp2_with fail
   go_roundw
   case rel => exact ⟨k + 1, _, by go_num, by omega, hT3, lK, HB3, hs3⟩
   case measure => simp [intOf]; omega
set_option maxHeartbeats 2000000 in
theorem Lj (lo g : Nat) (d : aH) (L : List Fr) (bs : List Nat) (k fl st : Int) (b : ByteArray) (w : World) (h : fO w lo g d L bs) (hL : L.length ≤ 1000000) :
  Calls Tryz.prog 66 #[.pointer (some ⟨g, 0, none⟩), .int .i64 k, .int .i64 fl, .int .i64 st, .string b] w fun x w' => x = .returned (.tuple #[]) ∧ ∃ bx, fZ lo g w bs w' d (L ++ [⟨k, fl, st, b⟩]) bx := by
 have hbX : Below w.heap.size w (w.alloc (.cells #[.int .i64 k, .int .i64 fl, .int .i64 st, .string b] 72)) := (Below.refl _ _).alloc (Nat.le_refl _) _
 have AO : Reads (w.alloc (.cells #[.int .i64 k, .int .i64 fl, .int .i64 st, .string b] 72)) (.slice (some ⟨w.heap.size, 0, none⟩) 1 1) 1 4 (fr [⟨k, fl, st, b⟩]) := eP (kW w 72 4 1 #[.int .i64 k, .int .i64 fl, .int .i64 st, .string b] rfl (by omega))
 have h2 := h.new hbX
 have hgl := h.Qc
 have hlo := h2.base
 obtain ⟨ve, vi, vo, vf, tv, hrow, ho, dJ, hput⟩ := h2.told
 obtain ⟨ta, tp, rfl, tn, tm⟩ := bW ho
 have oF : w.cell? ⟨g, 13, none⟩ = some (.slice ta L.length tp) := (hbX.cell (p := ⟨g, 13, none⟩) hgl).symm.trans (ak 13 hrow rfl)
 have HP := hide hput
 have fC := hide hrow
 have HB0 := hide hbX
 clear hput hrow h h2 hbX
 go_enter Tryz.func66, Tryz.ntmps66
 go_wp2_with (at_builtin; go_must (refine yC _ (by rfl) _ _ 41 (by rfl) 72 (.agg #[.int .i64 0, .int .i64 0, .int .i64 0, .string ⟨#[]⟩]) 4 40 Tryz.underlying41 (by kernel_rfl) rfl (by decide) lo _ L.length (fr L) (by rfl) ho _ 1 (fr [⟨k, fl, st, b⟩]) (by rfl) AO (WR _) (by omega) (by decide) hlo ?_))
 intro fV AP w7 kN jT qK
 obtain ⟨bx, HF⟩ := HP.out w7 _ ⟨k, fl, st, b⟩ _ kN rfl jT (qK.imp id (fun h => by rw [h]; simp))
 have oh := fC.out.kept (jT.block g fC.out.lt (fun e => dJ g e.symm rfl))
 have HG7 := hide (fZ.after HB0.out HF)
 clear HF kN jT qK HP fC HB0 AO ho dJ
 have oF := ak 13 oh rfl
 have xf := aj.frozen oh 13
 have xl := oh.lt
 go_wp2_with fail
 first | go_end0 | refine bodyPost_ret (results_none rfl _ _ _) rfl ?_
 exact ⟨rfl, _, HG7.out⟩
theorem aa2 (lo g : Nat) (d : aH) (L : List Fr) (bs : List Nat) (id : Int) (w : World) (h : fO w lo g d L bs) (hs : fE d.reg = true) :
  Calls Tryz.prog 60 #[.pointer (some ⟨g, 0, none⟩), .int .i64 id] w fun x w' => x = .returned (.int .i64 (jk d.reg id)) ∧ Below w.heap.size w w' := by
 obtain ⟨⟨ve, vi, vo, vf, tv, cb, hrow, hc, h3, h4, h5⟩, hl, hlo, dJ, hbs⟩ := h
 obtain ⟨ad, cap, rfl, _, _⟩ := hc.rd.e.form
 have hst : yM d.reg id = jk d.reg id := by unfold yM; rw [if_pos hs]
 have HE := hide hc.rd.e
 obtain ⟨x0, x1, x2⟩ := jZ hrow
 clear hrow hc h3 h4 h5 hl hlo dJ hbs
 go_enter Tryz.func60, Tryz.ntmps60
 go_wp2_with fail
 refine (YK d.reg _ id _ HE.out).mono ?_; rw [hst]; rintro x w1 ⟨rfl, hb⟩
 go_wp2_with fail
 go_ret
 exact ⟨rfl, hb⟩
theorem aa3 (lo g : Nat) (d : aH) (L : List Fr) (bs : List Nat) (id : Int) (w : World) (h : fO w lo g d L bs) (hs : fE d.reg = true) :
  Calls Tryz.prog 24 #[.pointer (some ⟨g, 0, none⟩), .int .i64 id] w fun x w' => x = .returned (.bool (jM (jk d.reg id))) ∧ Below w.heap.size w w' := by
 go_enter Tryz.func24, Tryz.ntmps24
 go_wp2_with fail
 refine (aa2 lo g d L bs id _ h hs).mono ?_; rintro x w1 ⟨rfl, hb⟩
 go_wp2_with fail
 refine (Xq _ _).mono ?_; rintro x w2 ⟨rfl, hb2⟩
 go_wp2_with fail
 go_ret
 exact ⟨rfl, ah hb hb2⟩
set_option maxHeartbeats 1000000 in
theorem Tj (lo g : Nat) (d : aH) (L : List Fr) (bs : List Nat) (id ev : Int) (w : World) (h : fO w lo g d L bs) (hs : fE d.reg = true) :
  Calls Tryz.prog 63 #[.pointer (some ⟨g, 0, none⟩), .int .i64 id, .int .i64 ev] w fun x w' => x = .returned (.tuple #[]) ∧ ∃ bx, fZ lo g w bs w' (oD d id ev) L bx := by
 have HH := hide h
 obtain ⟨⟨ve, vi, vo, vf, tv, cb, hrow, hc, h3, h4, h5⟩, hl, hlo, dJ, hbs⟩ := h
 obtain ⟨ad, cap, rfl, _, _⟩ := hc.rd.e.form
 have hst : wD d.reg id ev = gq d.reg id ev := by unfold wD; rw [if_pos hs]
 have HE := hide hc.rd.e
 obtain ⟨x0, x1, x2⟩ := jZ hrow
 have fC := hide hrow
 clear hrow hc h3 h4 h5 hl hlo dJ hbs
 go_enter Tryz.func63, Tryz.ntmps63
 go_wp2_with fail
 refine (aa4 d.reg _ id ev _ HE.out).mono ?_; rw [hst]; rintro x w1 ⟨v', rfl, ho, hb⟩
 obtain ⟨ae, pe, rfl, _, _⟩ := ho.form
 obtain ⟨bx, HL⟩ := HH.out.aap hb _ _ ho
 have HL2 := hide HL
 have hr1 := fC.out.new hb
 obtain ⟨y0, y1, y2⟩ := jZ hr1
 have yf := fun j => aj.frozen hr1 j
 have yl := hr1.lt
 clear HL ho hb hr1 x0 x1 x2 fC HE HH hst
 go_wp2_with fail
 first | go_end0 | refine bodyPost_ret (results_none rfl _ _ _) rfl ?_
 exact ⟨rfl, bx, HL2.out⟩
theorem Tn (lo g : Nat) (d : aH) (L : List Fr) (bs : List Nat) (id : Int) (k gf cap : Nat) (w : World) (h : fO w lo g d L bs) (hlen : d.flows.length = d.reg.es.length) (mG : d.reg.es.length ≤ 60) (ha : dI d.reg.es id = some k) (hx : w.cell? ⟨g, 10, none⟩ = some (.slice (some ⟨gf, 0, none⟩) d.flows.length cap)) :
  Calls Tryz.prog 64 #[.pointer (some ⟨g, 0, none⟩), .int .i64 id] w fun x w' => x = .returned (.pointer (some ⟨gf, k * 15, none⟩)) ∧ Below w.heap.size w w' := by
 obtain ⟨⟨ve, vi, vo, vf, tv, cb, hrow, hc, h3, h4, h5⟩, hl, hlo, dJ, hbs⟩ := h
 obtain ⟨ad, cp, rfl, _, _⟩ := hc.rd.e.form
 have HE := hide hc.rd.e
 obtain ⟨x0, x1, x2⟩ := jZ hrow
 have hgl := hrow.lt
 obtain ⟨hk, _, _⟩ := mH ha
 have hi : iF d.reg.es id = k := by unfold iF; rw [ha]
 clear hrow hc h3 h4 h5 hl hlo dJ hbs
 go_enter Tryz.func64, Tryz.ntmps64
 go_wp2_with fail
 refine (IZ d.reg id _ _ HE.out mG).mono ?_; rw [hi]; rintro x w1 ⟨rfl, hb⟩
 have rQ := (hb.cell (p := ⟨g, 10, none⟩) hgl).trans hx
 have yN : (k : Int) < d.flows.length := by omega
 have hk0 : ¬ (k : Int) < 0 := by omega
 clear x0 x1 x2 hx hi ha hlen mG HE
 go_wp2_with fail
 go_ret
 exact ⟨rfl, hb⟩
end Go.Proofs.YtlpbnkideaojeaaGreatDoor
