/- Chapter 10's model, what it makes: a copy, one opened, what happens, what is swept. -/
import Derived.Test.YtgodopiejiajjaaRegSpec1
import Derived.Test.YtgodopiejiajjaaAppRows
import Derived.Test.YtgodopiejiajjaaRowNew
import Derived.Deep.RegionHeld3


namespace Go.Proofs.Ytgodopiejiajjaa
open Go.RowKit
set_option maxRecDepth 100000
set_option linter.unusedSimpArgs false
set_option linter.unusedVariables false
set_option maxHeartbeats 1000000 in
theorem copyReg (d : RegistryD) (v : Value) (w : World) (hr0 : RdR entryS w v d.es) (hL : d.es.length ≤ 1000) :
    Calls Try.prog 35 #[.agg #[.int .i64 d.lim, .int .i64 d.top, v]] w fun x w' => ∃ v', x = .returned (.agg #[.int .i64 d.lim, .int .i64 d.top, v']) ∧ w'.ownsRow w.heap.size 57 2 v' d.es.length (ev d.es) ∧ Below w.heap.size w w' := by
  obtain ⟨ad, cap, rfl, h1, h2⟩ := hr0.form
  have HR := hide (rd_ev hr0)
  clear hr0
  go_enter Try.func35, Try.ntmps35
  go_wp2_with fail
  generalize hV : (w.alloc (.cells #[.int .i64 d.lim, .int .i64 d.top, .slice ad d.es.length cap] 26)).alloc (.cells #[.int .i64 0, .int .i64 0, .slice none 0 0] 26) = V
  have hbV : Below w.heap.size w V := by rw [← hV]; exact bo_alloc ((Below.refl _ _).alloc (Nat.le_refl _) _) _
  have hX : RowIs V w.heap.size 26 [.int .i64 d.lim, .int .i64 d.top, .slice ad d.es.length cap] := by rw [← hV]; exact (rowIs_new w 26 [.int .i64 d.lim, .int .i64 d.top, .slice ad d.es.length cap]).alloc _
  have hRR : RowIs V (w.heap.size + 1) 26 [.int .i64 0, .int .i64 0, .slice none 0 0] := by rw [← hV]; simpa using rowIs_new (w.alloc (.cells #[.int .i64 d.lim, .int .i64 d.top, .slice ad d.es.length cap] 26)) 26 [.int .i64 0, .int .i64 0, .slice none 0 0]
  clear hV
  have HX := hide hX; have HRR := hide hRR
  have hlV := hRR.lt
  have x0 := hX.cell (j := 0) rfl
  have x1 := hX.cell (j := 1) rfl
  have x2 := hX.cell (j := 2) rfl
  clear hX hRR
  have hS0 := And.intro x0 (And.intro x1 x2)
  refine wp_region_held_drew (S := (fun u => u.cell? ⟨w.heap.size, 0, none⟩ = some (.int .i64 d.lim) ∧ u.cell? ⟨w.heap.size, 1, none⟩ = some (.int .i64 d.top) ∧ u.cell? ⟨w.heap.size, 2, none⟩ = some (.slice ad d.es.length cap))) (by kernel_rfl) hS0 (fun hS => ?_)
  refine wpAnyH_take (i := 0) (v := ?_) rfl (by kernel_rfl) (by kernel_rfl) (by kernel_rfl) (fun _ _ _ h => h) (Or.inl ⟨by rfl, ?_⟩) hS ?_; rotate_left; focus (intro w hw; clear hw; go_simp; try with_reducible rfl)
  refine wpAnyH_take (i := 2) (v := ?_) rfl (by kernel_rfl) (by kernel_rfl) (by kernel_rfl) (fun _ _ _ h => h) (Or.inl ⟨by rfl, ?_⟩) hS ?_; rotate_left; focus (intro w hw; clear hw; go_simp; try with_reducible rfl)
  refine wpAnyH_take (i := 5) (v := ?_) rfl (by kernel_rfl) (by kernel_rfl) (by kernel_rfl) (fun _ _ _ h => h) (Or.inl ⟨by rfl, ?_⟩) hS ?_; rotate_left; focus (intro w hw; clear hw; go_simp; try with_reducible rfl)
  refine wpAnyH_take (i := 1) (v := ?_) rfl (by kernel_rfl) (by kernel_rfl) (by kernel_rfl) (fun _ _ _ h => h) (Or.inl ⟨by rfl, ?_⟩) hS ?_; rotate_left; focus (intro w hw; obtain ⟨l0, l1, l2⟩ := hw; go_simp; try with_reducible rfl)
  refine wpAnyH_take (i := 3) (v := ?_) rfl (by kernel_rfl) (by kernel_rfl) (by kernel_rfl) (fun _ _ _ h => h) (Or.inl ⟨by rfl, ?_⟩) hS ?_; rotate_left; focus (intro w hw; obtain ⟨l0, l1, l2⟩ := hw; go_simp; try with_reducible rfl)
  refine wpAnyH_take (i := 6) (v := ?_) rfl (by kernel_rfl) (by kernel_rfl) (by kernel_rfl) (fun _ _ _ h => h) (Or.inl ⟨by rfl, ?_⟩) hS ?_; rotate_left; focus (intro w hw; obtain ⟨l0, l1, l2⟩ := hw; go_simp; try with_reducible rfl)
  refine wpAnyH_ready (rs := [4]) (by kernel_rfl) (by simp) ?_; refine AllReadyH.cons rfl (fun K hK => ?_) AllReadyH.nil; go_simp
  have hbA : Below V.heap.size V ((World.drew V).alloc (.cells #[] 57)) := bo_alloc (bo_drewN 1 (Below.refl _ _)) _
  have hoA : ((World.drew V).alloc (.cells #[] 57)).ownsRow V.heap.size 57 2 (.slice (some ⟨V.heap.size, 0, none⟩) 0 0) 0 [] := owns_lit (World.drew V) 57 2 0 #[] rfl (by omega)
  have hrA := (HR.out.new hbV).new hbA
  refine hK.out _ _ ⟨(HX.out.new hbA).cell (j := 0) rfl, (HX.out.new hbA).cell (j := 1) rfl, (HX.out.new hbA).cell (j := 2) rfl⟩ (fun hS => ?_)
  clear hK K
  refine wpAnyH_ready (rs := [7]) (by kernel_rfl) (by simp) ?_
  refine AllReadyH.cons rfl (fun K hK => ?_) AllReadyH.nil
  refine step_app _ (by rfl) _ _ 24 (by rfl) 57 (.agg #[.int .i64 0, .int .i64 0]) 2 16 Try.underlying24 (by kernel_rfl) rfl (by decide) V.heap.size _ 0 [] (by rfl) hoA _ d.es.length (ev d.es) (by rfl) hrA (ev_one _) (by omega) (by decide) hbA.size ?_
  intro ad5 cap5 w5 hown5 hgrow5 hat5
  have hb5 : Below V.heap.size V w5 := ⟨hgrow5.os.trans hbA.os, hgrow5.tape.trans hbA.tape, hgrow5.output.trans hbA.output, Nat.le_trans hbA.size hgrow5.size, fun k hk => (hgrow5.block k (Nat.lt_of_lt_of_le hk hbA.size) (fun e => absurd (show V.heap.size ≤ k from (hoA.lt k e.symm).1) (Nat.not_le_of_lt hk))).trans (hbA.block k hk)⟩
  refine hK.out _ _ ⟨(HX.out.new hb5).cell (j := 0) rfl, (HX.out.new hb5).cell (j := 1) rfl, (HX.out.new hb5).cell (j := 2) rfl⟩ (fun hS => ?_)
  clear hK K hat5 hgrow5 hoA hrA hbA
  rw [Nat.zero_add] at hown5 ⊢
  rw [List.nil_append] at hown5
  have hRR5 := HRR.out.new hb5
  have r0 := hRR5.cell (j := 0) rfl
  have r1 := hRR5.cell (j := 1) rfl
  have r2 := hRR5.cell (j := 2) rfl
  have r3 := hRR5.frozen 0
  have r4 := hRR5.frozen 1
  have r5 := hRR5.frozen 2
  have HO := hide hown5
  clear hown5 hRR5
  refine wpAnyH_take (i := 8) (v := ?_) rfl (by kernel_rfl) (by kernel_rfl) (by kernel_rfl) (fun _ _ _ h => h) (Or.inl ⟨by rfl, ?_⟩) hS ?_; rotate_left; focus (intro w hw; clear hw; go_simp; try with_reducible rfl)
  refine wpAnyH_ready (rs := [9]) (by kernel_rfl) (by simp) ?_; refine AllReadyH.cons rfl (fun K hK => ?_) AllReadyH.nil; go_simp
  have hcx : ∀ j u, ([.int .i64 d.lim, .int .i64 d.top, .slice ad d.es.length cap] : List Value)[j]? = some u → (((w5.setCell ⟨w.heap.size + 1, 0, none⟩ (.int .i64 d.lim)).setCell ⟨w.heap.size + 1, 1, none⟩ (.int .i64 d.top)).setCell ⟨w.heap.size + 1, 2, none⟩ (.slice ad5 d.es.length cap5)).cell? ⟨w.heap.size, j, none⟩ = some u := fun j u hu => ((((HX.out.new hb5).far ⟨w.heap.size + 1, 0, none⟩ (.int .i64 d.lim) (by simp)).far ⟨w.heap.size + 1, 1, none⟩ (.int .i64 d.top) (by simp)).far ⟨w.heap.size + 1, 2, none⟩ (.slice ad5 d.es.length cap5) (by simp)).cell hu
  refine hK.out _ _ ⟨hcx 0 _ rfl, hcx 1 _ rfl, hcx 2 _ rfl⟩ (fun _ => ?_)
  clear hK K
  refine wpAnyH_done (by kernel_rfl) ?_ _
  go_wp2_with fail
  refine bodyPost_ret (v := (.agg #[.int .i64 d.lim, .int .i64 d.top, .slice ad5 d.es.length cap5])) (by simp [results, Try.results35, go_sem, *]) rfl ?_
  have hov : ∀ q, (Value.slice ad5 d.es.length cap5).ownBlock = some q → w.heap.size + 2 ≤ q := fun q hq => by have := (HO.out.lt q hq).1; omega
  have hlt1 : w.heap.size + 1 < w.heap.size + 2 := by omega
  exact ⟨_, rfl, owns_base (owns_far (w.heap.size + 2) (owns_far (w.heap.size + 2) (owns_far (w.heap.size + 2) HO.out hov _ _ hlt1) hov _ _ hlt1) hov _ _ hlt1) (fun q hq => by have := hov q hq; omega), (((hbV.trans (hb5.mono hbV.size)).setCell (show w.heap.size ≤ w.heap.size + 1 by omega) _).setCell (show w.heap.size ≤ w.heap.size + 1 by omega) _).setCell (show w.heap.size ≤ w.heap.size + 1 by omega) _⟩
/-- A Registry in block g whose entries are owned, in a block apart from it. -/
structure RegAt (w : World) (g base : Nat) (d : RegistryD) : Prop where
  ex : ∃ ad cap, RowIs w g 26 [.int .i64 d.lim, .int .i64 d.top, .slice ad d.es.length cap] ∧ w.ownsRow base 57 2 (.slice ad d.es.length cap) d.es.length (ev d.es) ∧ (Value.slice ad d.es.length cap).ownBlock ≠ some g
theorem RegAt.new {w w' : World} {g base : Nat} {d : RegistryD} (h : RegAt w g base d) (hb : Below w.heap.size w w') : RegAt w' g base d := by
  obtain ⟨ad, cap, h1, h2, h3⟩ := h.ex
  exact ⟨ad, cap, h1.new hb, owns_new h2 hb, h3⟩
theorem regAt_new {w : World} {base : Nat} {d : RegistryD} {ad : Option Addr} {cap : Nat} (h : w.ownsRow base 57 2 (.slice ad d.es.length cap) d.es.length (ev d.es)) : RegAt (w.alloc (.cells #[.int .i64 d.lim, .int .i64 d.top, .slice ad d.es.length cap] 26)) w.heap.size base d :=
  ⟨ad, cap, rowIs_new w 26 [.int .i64 d.lim, .int .i64 d.top, .slice ad d.es.length cap], h.alloc _, fun hq => by have := (h.lt _ hq).2; omega⟩
theorem ev_set (L : List EntryD) (k : Nat) (hk : k < L.length) (s : Int) : (ev L).set (k * 2 + 1) (.int .i64 s) = ev (L.set k ⟨L[k].id, s⟩) := flat_set EntryD.cs 2 (fun _ => rfl) L k hk 1 (by decide) (.int .i64 s) ⟨L[k].id, s⟩ rfl
set_option maxHeartbeats 2000000 in
theorem openAt (g base : Nat) (r : RegistryD) (id : Int) (w : World) (h : RegAt w g base r) (hL : r.es.length ≤ 1000) (hbs : base ≤ w.heap.size) :
    Calls Try.prog 36 #[.pointer (some ⟨g, 0, none⟩), .int .i64 id] w fun x w' => x = .returned (.int .i64 (openRaw r id).2) ∧ RegAt w' g base (openRaw r id).1 ∧ ∀ B, B ≤ base → B ≤ g → B ≤ w.heap.size → Below B w w' := by
  have HRA := hide h
  obtain ⟨ad, cap, hrow, hown, hne⟩ := h.ex
  have HROW := hide hrow; have HOWN := hide hown; have HNE := hide hne
  have hlg := hrow.lt
  clear h hrow hown hne
  cases hid : idB id
  · have hv : openRaw r id = (r, 1) := by unfold openRaw; rw [if_neg (by rw [hid]; simp)]
    rw [hv]
    go_enter Try.func36, Try.ntmps36
    go_wp2_with fail
    refine (specId id _).mono ?_; rw [hid]; rintro e w1 ⟨rfl, hsame⟩; obtain rfl := hsame.symm; clear hsame
    go_wp2_with fail
    go_ret
    exact ⟨rfl, HRA.out, fun B _ _ _ => Below.refl _ _⟩
  have g1 := HROW.out.cell (j := 1) rfl
  by_cases htop : r.top < id
  rotate_left
  · have hv : openRaw r id = (r, 1) := open_again (by omega)
    rw [hv]
    go_enter Try.func36, Try.ntmps36
    go_wp2_with fail
    refine (specId id _).mono ?_; rw [hid]; rintro e w1 ⟨rfl, hsame⟩; obtain rfl := hsame.symm; clear hsame
    go_wp2_with fail
    go_ret
    exact ⟨rfl, HRA.out, fun B _ _ _ => Below.refl _ _⟩
  obtain ⟨R, hR⟩ : ∃ R, openRaw r id = R := ⟨_, rfl⟩
  rw [hR]
  have HR : Hid (R = if r.lim ≤ liveL r.es ∨ r.es.length = 60 then (⟨r.lim, id, r.es⟩, 2) else (⟨r.lim, id, r.es ++ [⟨id, 1⟩]⟩, 0)) := by show R = _; rw [← hR]; unfold openRaw; rw [if_pos ⟨hid, htop⟩]
  clear hR
  have g5 := HROW.out.frozen 1
  go_enter Try.func36, Try.ntmps36
  go_wp2_with fail
  refine (specId id _).mono ?_; rw [hid]; rintro e w1 ⟨rfl, hsame⟩; obtain rfl := hsame.symm; clear hsame
  go_upto_region 4 with fail
  have hrow : RowIs (w.setCell ⟨g, 1, none⟩ (.int .i64 id)) g 26 [.int .i64 r.lim, .int .i64 id, .slice ad r.es.length cap] := HROW.out.set 1 (.int .i64 id)
  have hown1 := owns_apart HOWN.out ⟨g, 1, none⟩ (.int .i64 id) HNE.out
  have HB1 : Hid (∀ B, B ≤ base → B ≤ g → B ≤ w.heap.size → Below B w (w.setCell ⟨g, 1, none⟩ (.int .i64 id))) := fun B h1 h2 h3 => (Below.refl _ _).setCell (by simpa using h2) _
  have hsz : w.heap.size ≤ (w.setCell ⟨g, 1, none⟩ (.int .i64 id)).heap.size := by simp
  clear g1 g5 HROW HOWN HRA
  generalize w.setCell ⟨g, 1, none⟩ (.int .i64 id) = w2 at *
  have x0 := hrow.cell (j := 0) rfl
  have x1 := hrow.cell (j := 1) rfl
  have x2 := hrow.cell (j := 2) rfl
  have hlg2 := hrow.lt
  have q0 : ∀ y : Later w2, y.w.cell? ⟨g, 0, none⟩ = some (.int .i64 r.lim) := fun y => (y.b.cell (p := ⟨g, 0, none⟩) hlg2).trans x0
  have q1 : ∀ y : Later w2, y.w.cell? ⟨g, 1, none⟩ = some (.int .i64 id) := fun y => (y.b.cell (p := ⟨g, 1, none⟩) hlg2).trans x1
  have q2 : ∀ y : Later w2, y.w.cell? ⟨g, 2, none⟩ = some (.slice ad r.es.length cap) := fun y => (y.b.cell (p := ⟨g, 2, none⟩) hlg2).trans x2
  have HROW1 := hide hrow; have HOWN1 := hide hown1
  clear x0 x1 x2 hrow hown1
  have hlv := fun w h => specLiveL ⟨r.lim, id, r.es⟩ (.slice ad r.es.length cap) w h
  have hln := live_le r.es
  obtain ⟨q, hq⟩ : ∃ q, liveL r.es = q := ⟨_, rfl⟩
  dsimp only at hlv
  rw [hq] at hlv hln
  have HQ := hide hq
  clear hq
  have hrd : ∀ y : Later w2, RdR entryS y.w (.slice ad r.es.length cap) r.es := fun y => (ev_rd (reads_of_owns HOWN1.out)).new y.b
  by_cases hfull : r.lim ≤ q
  · have HF : Hid (R = (⟨r.lim, id, r.es⟩, 2)) := by show R = _; rw [HR.out, if_pos (.inl (by rw [HQ.out]; exact hfull))]
    have hne : Nonempty (Later w2) := ⟨⟨w2, Below.refl _ _⟩⟩; refine region_later (by kernel_rfl) (by kernel_rfl) ?_; (repeat (go_big_quiet_step (fail))); go_big_quiet_want; go_big_quiet_op; refine ⟨.int .i64 q, fun y => later_calls (x := y) (hlv y.w (hrd y)), ?_⟩; go_big_quiet_on; (repeat (go_big_quiet_step (fail))); refine wpQuiet_nil ?_; intro _ hw'; obtain ⟨y, hw''⟩ := hw'; subst hw''; have hby := y.b
    go_wp2_with fail
    go_ret
    rw [HF.out]
    exact ⟨rfl, ⟨ad, cap, HROW1.out.new hby, owns_new HOWN1.out hby, HNE.out⟩, fun B h1 h2 h3 => (HB1.out B h1 h2 h3).trans (hby.mono (Nat.le_trans h3 hsz))⟩
  by_cases h60 : (r.es.length : Int) = 60
  · have HF : Hid (R = (⟨r.lim, id, r.es⟩, 2)) := by show R = _; rw [HR.out, if_pos (.inr (by omega))]
    have h60' : ((r.es.length : Int) == 60) = true := by simpa using h60
    have hfu : ¬ r.lim ≤ q := hfull
    have H60 := hide h60
    clear h60
    have hne : Nonempty (Later w2) := ⟨⟨w2, Below.refl _ _⟩⟩; refine region_later (by kernel_rfl) (by kernel_rfl) ?_; (repeat (go_big_quiet_step (fail))); go_big_quiet_want; go_big_quiet_op; refine ⟨.int .i64 q, fun y => later_calls (x := y) (hlv y.w (hrd y)), ?_⟩; go_big_quiet_on; (repeat (go_big_quiet_step (fail))); refine wpQuiet_nil ?_; intro _ hw'; obtain ⟨y, hw''⟩ := hw'; subst hw''; have hby := y.b
    go_wp2_with fail
    go_ret
    rw [HF.out]
    exact ⟨rfl, ⟨ad, cap, HROW1.out.new hby, owns_new HOWN1.out hby, HNE.out⟩, fun B h1 h2 h3 => (HB1.out B h1 h2 h3).trans (hby.mono (Nat.le_trans h3 hsz))⟩
  have HF : Hid (R = (⟨r.lim, id, r.es ++ [⟨id, 1⟩]⟩, 0)) := by show R = _; rw [HR.out, if_neg (fun c => by rw [HQ.out] at c; omega)]
  have h60' : ((r.es.length : Int) == 60) = false := by simpa using h60
  clear h60
  have hne : Nonempty (Later w2) := ⟨⟨w2, Below.refl _ _⟩⟩; refine region_later (by kernel_rfl) (by kernel_rfl) ?_; (repeat (go_big_quiet_step (fail))); go_big_quiet_want; go_big_quiet_op; refine ⟨.int .i64 q, fun y => later_calls (x := y) (hlv y.w (hrd y)), ?_⟩; go_big_quiet_on; (repeat (go_big_quiet_step (fail))); refine wpQuiet_nil ?_; intro _ hw'; obtain ⟨y, hw''⟩ := hw'; subst hw''; have hby := y.b
  have hrow3 := HROW1.out.new hby
  have hown3 := owns_new HOWN1.out hby
  have HB3 : Hid (∀ B, B ≤ base → B ≤ g → B ≤ w.heap.size → Below B w y.w) := fun B h1 h2 h3 => (HB1.out B h1 h2 h3).trans (hby.mono (Nat.le_trans h3 hsz))
  have hs3 : w.heap.size ≤ y.w.heap.size := Nat.le_trans hsz hby.size
  clear q0 q1 q2 hrd hlv hne
  generalize y.w = w3 at *
  clear hby HROW1 HOWN1 HB1
  have x2 := hrow3.cell (j := 2) rfl
  have hlg3 := hrow3.lt
  have hX : Below w3.heap.size w3 (w3.alloc (.cells #[.int .i64 id, .int .i64 1] 57)) := (Below.refl _ _).alloc (Nat.le_refl _) _
  have hownX := owns_new hown3 hX
  have hRd : Reads (w3.alloc (.cells #[.int .i64 id, .int .i64 1] 57)) (.slice (some ⟨w3.heap.size, 0, none⟩) 1 1) 1 2 (ev [⟨id, 1⟩]) := reads_of_owns (owns_lit w3 57 2 1 #[.int .i64 id, .int .i64 1] rfl (by omega))
  have hrowX := hrow3.new hX
  have hsX := hX.size
  have HBX : Hid (∀ B, B ≤ base → B ≤ g → B ≤ w.heap.size → Below B w (w3.alloc (.cells #[.int .i64 id, .int .i64 1] 57))) := fun B h1 h2 h3 => (HB3.out B h1 h2 h3).trans (hX.mono (Nat.le_trans h3 hs3))
  have HROWX := hide hrowX
  clear hrowX hrow3 hown3 hX HB3
  go_wp2_with (at_builtin; refine wpList_app _ (by rfl) _ _ 24 (by rfl) 57 (.agg #[.int .i64 0, .int .i64 0]) 2 16 Try.underlying24 (by kernel_rfl) rfl (by decide) base _ r.es.length (ev r.es) (by rfl) hownX _ 1 (ev [⟨id, 1⟩]) (by rfl) hRd (ev_one _) (by omega) (by decide) (by omega) ?_)
  intro ad7 cap7 w7 hown7 hg7 hat7
  generalize w3.alloc (.cells #[.int .i64 id, .int .i64 1] 57) = wX at *
  have hlgX := HROWX.out.lt
  have hrow7 := HROWX.out.kept (hg7.block g hlgX (fun e => HNE.out e.symm))
  have y2 := hrow7.cell (j := 2) rfl
  have yf := hrow7.frozen 2
  have hlg7 := hrow7.lt
  have hne7 : (Value.slice ad7 (r.es.length + 1) cap7).ownBlock ≠ some g := by
    rcases hat7 with e | e
    · rw [e]; exact HNE.out
    · rw [e]; intro hc; have := Option.some.inj hc; omega
  have HROW7 := hide hrow7; have HOWN7 := hide hown7; have HNE7 := hide hne7
  have HB7 : Hid (∀ B, B ≤ base → B ≤ g → B ≤ w.heap.size → Below B w w7) := fun B h1 h2 h3 => by
    have hb := HBX.out B h1 h2 h3
    exact ⟨hg7.os.trans hb.os, hg7.tape.trans hb.tape, hg7.output.trans hb.output, Nat.le_trans hb.size hg7.size, fun k hk => (hg7.block k (by have := hb.size; omega) (fun e => by have := (hownX.lt k e.symm).1; omega)).trans (hb.block k hk)⟩
  clear hrow7 hown7 hne7 hat7 hg7 hownX hRd x2
  go_wp2_with fail
  go_ret
  rw [HF.out]
  refine ⟨rfl, ⟨ad7, cap7, ?_, ?_, ?_⟩, fun B h1 h2 h3 => (HB7.out B h1 h2 h3).setCell (by simpa using h2) _⟩
  · have := HROW7.out.set 2 (.slice ad7 (r.es.length + 1) cap7)
    simpa using this
  · have := owns_apart HOWN7.out ⟨g, 2, none⟩ (.slice ad7 (r.es.length + 1) cap7) HNE7.out
    simpa [ev_app] using this
  · simpa using HNE7.out
set_option maxHeartbeats 2000000 in
theorem happenAt (g base : Nat) (r : RegistryD) (id evn : Int) (w : World) (h : RegAt w g base r) (hbs : base ≤ w.heap.size) :
    Calls Try.prog 49 #[.pointer (some ⟨g, 0, none⟩), .int .i64 id, .int .i64 evn] w fun x w' => x = .returned (.bool (happenRaw r id evn).2) ∧ RegAt w' g base (happenRaw r id evn).1 ∧ ∀ B, B ≤ base → B ≤ g → B ≤ w.heap.size → Below B w w' := by
  have HRA := hide h
  obtain ⟨ad, cap, hrow, hown, hne⟩ := h.ex
  have x0 := hrow.cell (j := 0) rfl
  have x1 := hrow.cell (j := 1) rfl
  have x2 := hrow.cell (j := 2) rfl
  have HROW := hide hrow; have HOWN := hide hown; have HNE := hide hne
  have hlg := hrow.lt
  clear h hrow hown hne
  have hat := fun w h => specAt r id (.slice ad r.es.length cap) w h
  cases hq : atE r.es id with
  | none =>
    have hI : atI r.es id = -1 := by unfold atI; rw [hq]
    rw [hI] at hat
    rw [happenRaw_none hq]
    clear hI hq
    go_enter Try.func49, Try.ntmps49
    go_wp2_with fail
    refine (hat _ (ev_rd (reads_of_owns HOWN.out))).mono ?_; rintro x w1 ⟨rfl, hb1⟩
    go_wp2_with fail
    go_ret
    exact ⟨rfl, HRA.out.new hb1, fun B h1 h2 h3 => hb1.mono h3⟩
  | some k =>
    obtain ⟨hk, _, _⟩ := atE_some hq
    have hI : atI r.es id = k := atI_some hq
    rw [hI] at hat
    rw [happenRaw_some hq hk]
    have hes := ev_set r.es k hk
    obtain ⟨gv1, gv2⟩ := ev_get r.es k hk
    obtain ⟨e, he⟩ : ∃ e, r.es[k] = e := ⟨_, rfl⟩
    rw [he] at gv1 gv2 hes ⊢
    clear hI hq he
    obtain ⟨n, b, hn⟩ : ∃ n b, nxV e.state evn = (n, b) := ⟨_, _, rfl⟩
    have hnx := fun w => specNext e.state evn w
    rw [hn] at hnx ⊢
    dsimp only at hnx ⊢
    clear hn
    go_enter Try.func49, Try.ntmps49
    go_wp2_with fail
    refine (hat _ (ev_rd (reads_of_owns HOWN.out))).mono ?_; rintro x w1 ⟨rfl, hb1⟩
    clear x0 x1 x2
    replace HROW := hide (HROW.out.new hb1)
    replace HOWN := hide (owns_new HOWN.out hb1)
    have x2 := HROW.out.cell (j := 2) rfl
    have hlg1 := HROW.out.lt
    obtain ⟨gb, gcap, hsl, hg0, hg1, hg2, _, _, hc, hf⟩ := owns_open HOWN.out (by omega)
    simp only [Value.slice.injEq] at hsl
    obtain ⟨rfl, -, -⟩ := hsl
    have c1 := hc _ _ gv2
    have f1 := hf (k * 2 + 1)
    have hgg : gb ≠ g := fun e => HNE.out (by rw [hg0, e])
    have HOWN2 := hide (owns_set HOWN.out hg0 (k * 2 + 1) (.int .i64 n))
    have HB1 : Hid (∀ B, B ≤ base → B ≤ g → B ≤ w.heap.size → Below B w w1) := fun B h1 h2 h3 => hb1.mono h3
    have HES := hide hes
    have HG0 := hide hg0
    clear hc hf gv1 gv2 hb1 hat hes hg0
    go_wp2_with fail
    refine (hnx _).mono ?_; rintro e w2 ⟨rfl, hsame⟩; obtain rfl := hsame.symm; clear hsame
    go_wp2_with fail
    go_ret
    refine ⟨rfl, ⟨some ⟨gb, 0, none⟩, cap, ?_, ?_, ?_⟩, fun B h1 h2 h3 => (HB1.out B h1 h2 h3).setCell (by simp; omega) _⟩
    · have := HROW.out.far ⟨gb, k * 2 + 1, none⟩ (.int .i64 n) hgg
      simpa using this
    · have := HOWN2.out
      rw [HES.out n] at this
      simpa using this
    · simpa [Value.ownBlock] using hgg
end Go.Proofs.Ytgodopiejiajjaa
