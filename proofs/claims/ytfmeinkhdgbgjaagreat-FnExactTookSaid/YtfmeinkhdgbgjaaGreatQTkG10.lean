/- Several small texts of one level, one behind the other. -/
import Derived.Test.YtfmeinkhdgbgjaaGreatQTkG9
import Derived.Test.YtfmeinkhdgbgjaaGreatQTkG4
import Derived.Test.YtfmeinkhdgbgjaaGreatQTkG2
import Derived.Test.YtfmeinkhdgbgjaaGreatQTkBase
import Derived.Handy
import Derived.RegionTactic
import Derived.Test.YtfmeinkhdgbgjaaGreatQTkG3
import Derived.Maps.OwnOps
import Derived.Deep.RegionHeld3
import Derived.Deep.LoopGhost
import Derived.WalkMore
/- What happens in a registry that lies in the midst of a block: opened, and an event. -/
namespace Go.Proofs.YtfmeinkhdgbgjaaGreat
open Go.RowKit
set_option maxRecDepth 100000
set_option linter.unusedSimpArgs false
set_option linter.unusedVariables false
/-- A Registry in the midst of block g, its entries owned in another block. -/
structure RgM (w : World) (g : Nat) (ty : TypeId) (A C : List Value) (o : Nat) (d : RegistryD) (v : Value) : Prop where
  mid : MidIs w g ty A C o [.int .i64 d.lim, .int .i64 d.top, v]
  own : w.ownsRow 0 101 2 v d.es.length (ev d.es)
  ne : v.ownBlock ≠ some g
set_option maxHeartbeats 2000000 in
theorem openM (g o : Nat) (ty : TypeId) (A C : List Value) (vE : Value) (r : RegistryD) (id : Int) (w : World) (h : RgM w g ty A C o r vE) (hL : r.es.length ≤ 1000) :
    Calls Tryz.prog 202 #[.pointer (some ⟨g, o, none⟩), .int .i64 id] w fun x w' => ∃ vE', x = .returned (.int .i64 (openRaw r id).2) ∧ RgM w' g ty A C o (openRaw r id).1 vE' ∧ TurnB (g :: vE.ownBlock.toList) w w' ∧ Newer w vE vE' := by
  obtain ⟨hrow, hown, hne⟩ := h
  obtain ⟨ad, cap, rfl, _, _⟩ := owns_form hown
  have HROW := hide hrow; have HOWN := hide hown; have HNE := hide hne
  have hlg := hrow.lt
  clear hrow hown hne
  cases hid : idB id
  · have hv : openRaw r id = (r, 1) := by unfold openRaw; rw [if_neg (by rw [hid]; simp)]
    rw [hv]
    go_enter Tryz.func202, Tryz.ntmps202
    go_wp2_with fail
    refine (specId id _).mono ?_; rw [hid]; rintro e w1 ⟨rfl, hsame⟩; obtain rfl := hsame.symm; clear hsame
    go_wp2_with fail
    go_ret
    exact ⟨_, rfl, ⟨HROW.out, HOWN.out, HNE.out⟩, TurnB.refl _ _, Newer.refl _ _⟩
  have g1 := HROW.out.cell (j := 1) rfl
  by_cases htop : r.top < id
  rotate_left
  · have hv : openRaw r id = (r, 1) := open_again (by omega)
    rw [hv]
    go_enter Tryz.func202, Tryz.ntmps202
    go_wp2_with fail
    refine (specId id _).mono ?_; rw [hid]; rintro e w1 ⟨rfl, hsame⟩; obtain rfl := hsame.symm; clear hsame
    go_wp2_with fail
    go_ret
    exact ⟨_, rfl, ⟨HROW.out, HOWN.out, HNE.out⟩, TurnB.refl _ _, Newer.refl _ _⟩
  obtain ⟨R, hR⟩ : ∃ R, openRaw r id = R := ⟨_, rfl⟩
  rw [hR]
  have HR : Hid (R = if r.lim ≤ liveL r.es ∨ r.es.length = 60 then (⟨r.lim, id, r.es⟩, 2) else (⟨r.lim, id, r.es ++ [⟨id, 1⟩]⟩, 0)) := by show R = _; rw [← hR]; unfold openRaw; rw [if_pos ⟨hid, htop⟩]
  clear hR
  have g5 := HROW.out.frozen (o + 1)
  go_enter Tryz.func202, Tryz.ntmps202
  go_wp2_with fail
  refine (specId id _).mono ?_; rw [hid]; rintro e w1 ⟨rfl, hsame⟩; obtain rfl := hsame.symm; clear hsame
  go_upto_region 4 with fail
  have hrow : MidIs (w.setCell ⟨g, o + 1, none⟩ (.int .i64 id)) g ty A C o [.int .i64 r.lim, .int .i64 id, .slice ad r.es.length cap] := HROW.out.set 1 (.int .i64 id) (by simp)
  have hown1 := owns_apart HOWN.out ⟨g, o + 1, none⟩ (.int .i64 id) HNE.out
  have HB1 : Hid (TurnB (g :: (Value.slice ad r.es.length cap).ownBlock.toList) w (w.setCell ⟨g, o + 1, none⟩ (.int .i64 id))) := (TurnB.refl _ _).set _ _ (by simp)
  have hsz : w.heap.size ≤ (w.setCell ⟨g, o + 1, none⟩ (.int .i64 id)).heap.size := by simp
  clear g1 g5 HROW HOWN
  generalize w.setCell ⟨g, o + 1, none⟩ (.int .i64 id) = w2 at *
  have x0 := hrow.cell0 rfl
  have x1 := hrow.cell (j := 1) rfl
  have x2 := hrow.cell (j := 2) rfl
  have hlg2 := hrow.lt
  have q0 : ∀ y : Later w2, y.w.cell? ⟨g, o, none⟩ = some (.int .i64 r.lim) := fun y => (y.b.cell (p := ⟨g, o, none⟩) hlg2).trans x0
  have q1 : ∀ y : Later w2, y.w.cell? ⟨g, o + 1, none⟩ = some (.int .i64 id) := fun y => (y.b.cell (p := ⟨g, o + 1, none⟩) hlg2).trans x1
  have q2 : ∀ y : Later w2, y.w.cell? ⟨g, o + 2, none⟩ = some (.slice ad r.es.length cap) := fun y => (y.b.cell (p := ⟨g, o + 2, none⟩) hlg2).trans x2
  have HROW1 := hide hrow; have HOWN1 := hide hown1
  clear x0 x1 x2 hrow hown1
  have hlv := fun w h => specLiveL ⟨r.lim, id, r.es⟩ (.slice ad r.es.length cap) w h
  have hln := live_le r.es
  obtain ⟨q, hq⟩ : ∃ q, liveL r.es = q := ⟨_, rfl⟩
  dsimp only at hlv
  rw [hq] at hlv hln
  have HQ := hide hq
  clear hq
  have hrd : ∀ y : Later w2, RdR entryS y.w (.slice ad r.es.length cap) r.es := fun y => (ev_rd (reads_of_owns HOWN1.out)).new y.b
  by_cases hfull : r.lim ≤ q
  · have HF : Hid (R = (⟨r.lim, id, r.es⟩, 2)) := by show R = _; rw [HR.out, if_pos (.inl (by rw [HQ.out]; exact hfull))]
    have hne : Nonempty (Later w2) := ⟨⟨w2, Below.refl _ _⟩⟩; refine region_later (by kernel_rfl) (by kernel_rfl) ?_; (repeat (go_big_quiet_step (fail))); go_big_quiet_want; go_big_quiet_op; refine ⟨.int .i64 q, fun y => later_calls (x := y) (hlv y.w (hrd y)), ?_⟩; go_big_quiet_on; (repeat (go_big_quiet_step (fail))); refine wpQuiet_nil ?_; intro _ hw'; obtain ⟨y, hw''⟩ := hw'; subst hw''; have hby := y.b
    go_wp2_with fail
    go_ret
    rw [HF.out]
    first | exact ⟨_, rfl, ⟨HROW1.out.new hby, owns_new HOWN1.out hby, HNE.out⟩, HB1.out.trans (TurnB.new hby), Newer.refl _ _⟩ | exact ⟨rfl, _, ⟨HROW1.out.new hby, owns_new HOWN1.out hby, HNE.out⟩, HB1.out.trans (TurnB.new hby), Newer.refl _ _⟩
  by_cases h60 : (r.es.length : Int) = 60
  · have HF : Hid (R = (⟨r.lim, id, r.es⟩, 2)) := by show R = _; rw [HR.out, if_pos (.inr (by omega))]
    have h60' : ((r.es.length : Int) == 60) = true := by simpa using h60
    have hfu : ¬ r.lim ≤ q := hfull
    have H60 := hide h60
    clear h60
    have hne : Nonempty (Later w2) := ⟨⟨w2, Below.refl _ _⟩⟩; refine region_later (by kernel_rfl) (by kernel_rfl) ?_; (repeat (go_big_quiet_step (fail))); go_big_quiet_want; go_big_quiet_op; refine ⟨.int .i64 q, fun y => later_calls (x := y) (hlv y.w (hrd y)), ?_⟩; go_big_quiet_on; (repeat (go_big_quiet_step (fail))); refine wpQuiet_nil ?_; intro _ hw'; obtain ⟨y, hw''⟩ := hw'; subst hw''; have hby := y.b
    go_wp2_with fail
    go_ret
    rw [HF.out]
    first | exact ⟨_, rfl, ⟨HROW1.out.new hby, owns_new HOWN1.out hby, HNE.out⟩, HB1.out.trans (TurnB.new hby), Newer.refl _ _⟩ | exact ⟨rfl, _, ⟨HROW1.out.new hby, owns_new HOWN1.out hby, HNE.out⟩, HB1.out.trans (TurnB.new hby), Newer.refl _ _⟩
  have HF : Hid (R = (⟨r.lim, id, r.es ++ [⟨id, 1⟩]⟩, 0)) := by show R = _; rw [HR.out, if_neg (fun c => by rw [HQ.out] at c; omega)]
  have h60' : ((r.es.length : Int) == 60) = false := by simpa using h60
  clear h60
  have hne : Nonempty (Later w2) := ⟨⟨w2, Below.refl _ _⟩⟩; refine region_later (by kernel_rfl) (by kernel_rfl) ?_; (repeat (go_big_quiet_step (fail))); go_big_quiet_want; go_big_quiet_op; refine ⟨.int .i64 q, fun y => later_calls (x := y) (hlv y.w (hrd y)), ?_⟩; go_big_quiet_on; (repeat (go_big_quiet_step (fail))); refine wpQuiet_nil ?_; intro _ hw'; obtain ⟨y, hw''⟩ := hw'; subst hw''; have hby := y.b
  have hrow3 := HROW1.out.new hby
  have hown3 := owns_new HOWN1.out hby
  have HB3 : Hid (TurnB (g :: (Value.slice ad r.es.length cap).ownBlock.toList) w y.w) := HB1.out.trans (TurnB.new hby)
  have hs3 : w.heap.size ≤ y.w.heap.size := Nat.le_trans hsz hby.size
  clear q0 q1 q2 hrd hlv hne
  generalize y.w = w3 at *
  clear hby HROW1 HOWN1 HB1
  have x2 := hrow3.cell (j := 2) rfl
  have hlg3 := hrow3.lt
  have hX : Below w3.heap.size w3 (w3.alloc (.cells #[.int .i64 id, .int .i64 1] 101)) := (Below.refl _ _).alloc (Nat.le_refl _) _
  have hownX := owns_new hown3 hX
  have hRd : Reads (w3.alloc (.cells #[.int .i64 id, .int .i64 1] 101)) (.slice (some ⟨w3.heap.size, 0, none⟩) 1 1) 1 2 (ev [⟨id, 1⟩]) := reads_of_owns (owns_lit w3 101 2 1 #[.int .i64 id, .int .i64 1] rfl (by omega))
  have hrowX := hrow3.new hX
  have hsX := hX.size
  have HBX : Hid (TurnB (g :: (Value.slice ad r.es.length cap).ownBlock.toList) w (w3.alloc (.cells #[.int .i64 id, .int .i64 1] 101))) := HB3.out.trans (TurnB.new hX)
  have HROWX := hide hrowX
  clear hrowX hrow3 hown3 hX HB3
  go_wp2_with (at_builtin; refine wpList_app _ (by rfl) _ _ 24 (by rfl) 101 (.agg #[.int .i64 0, .int .i64 0]) 2 16 Tryz.underlying24 (by kernel_rfl) rfl (by decide) 0 _ r.es.length (ev r.es) (by rfl) hownX _ 1 (ev [⟨id, 1⟩]) (by rfl) hRd (ev_one _) (by omega) (by decide) (by omega) ?_)
  intro ad7 cap7 w7 hown7 hg7 hat7
  generalize w3.alloc (.cells #[.int .i64 id, .int .i64 1] 101) = wX at *
  have hlgX := HROWX.out.lt
  have hrow7 := HROWX.out.kept (hg7.block g hlgX (fun e => HNE.out e.symm))
  have y2 := hrow7.cell (j := 2) rfl
  have yf := hrow7.frozen (o + 2)
  have hlg7 := hrow7.lt
  have hne7 : (Value.slice ad7 (r.es.length + 1) cap7).ownBlock ≠ some g := by
    rcases hat7 with e | e
    · rw [e]; exact HNE.out
    · rw [e]; intro hc; have := Option.some.inj hc; omega
  have HROW7 := hide hrow7; have HOWN7 := hide hown7; have HNE7 := hide hne7
  have HB7 : Hid (TurnB (g :: (Value.slice ad r.es.length cap).ownBlock.toList) w w7) := by
    have hb := HBX.out
    exact ⟨hg7.os.trans hb.os, hg7.tape.trans hb.tape, hg7.output.trans hb.output, Nat.le_trans hb.size hg7.size, fun k hk hn => (hg7.block k (by have := hb.size; omega) (fun e => hn (by rw [← e]; simp))).trans (hb.block k hk hn)⟩
  have HNW : Hid (Newer w (.slice ad r.es.length cap) (.slice ad7 (r.es.length + 1) cap7)) := fun k hk => by
    rcases hat7 with e | e
    · rw [e] at hk; exact .inl hk
    · rw [e] at hk; have := Option.some.inj hk; have := HBX.out.size; exact .inr (by omega)
  clear hrow7 hown7 hne7 hat7 hg7 hownX hRd x2
  go_wp2_with fail
  go_ret
  rw [HF.out]
  refine ⟨.slice ad7 (r.es.length + 1) cap7, rfl, ⟨?_, ?_, ?_⟩, HB7.out.set _ _ (by simp), HNW.out⟩
  · have := HROW7.out.set 2 (.slice ad7 (r.es.length + 1) cap7) (by simp)
    simpa using this
  · have := owns_apart HOWN7.out ⟨g, o + 2, none⟩ (.slice ad7 (r.es.length + 1) cap7) HNE7.out
    simpa [ev_app] using this
  · simpa using HNE7.out
set_option maxHeartbeats 2000000 in
theorem happenM (g o : Nat) (ty : TypeId) (A C : List Value) (vE : Value) (r : RegistryD) (id evn : Int) (w : World) (h : RgM w g ty A C o r vE) :
    Calls Tryz.prog 119 #[.pointer (some ⟨g, o, none⟩), .int .i64 id, .int .i64 evn] w fun x w' => ∃ vE', x = .returned (.bool (happenRaw r id evn).2) ∧ RgM w' g ty A C o (happenRaw r id evn).1 vE' ∧ TurnB (g :: vE.ownBlock.toList) w w' ∧ Newer w vE vE' := by
  obtain ⟨hrow, hown, hne⟩ := h
  obtain ⟨ad, cap, rfl, _, _⟩ := owns_form hown
  have x0 := hrow.cell0 rfl
  have x1 := hrow.cell (j := 1) rfl
  have x2 := hrow.cell (j := 2) rfl
  have HROW := hide hrow; have HOWN := hide hown; have HNE := hide hne
  have hlg := hrow.lt
  clear hrow hown hne
  have hat := fun w h => specAt r id (.slice ad r.es.length cap) w h
  cases hq : atE r.es id with
  | none =>
    have hI : atI r.es id = -1 := by unfold atI; rw [hq]
    rw [hI] at hat
    rw [happenRaw_none hq]
    clear hI hq
    go_enter Tryz.func119, Tryz.ntmps119
    go_wp2_with fail
    refine (hat _ (ev_rd (reads_of_owns HOWN.out))).mono ?_; rintro x w1 ⟨rfl, hb1⟩
    go_wp2_with fail
    go_ret
    exact ⟨_, rfl, ⟨HROW.out.new hb1, owns_new HOWN.out hb1, HNE.out⟩, TurnB.new hb1, Newer.refl _ _⟩
  | some k =>
    obtain ⟨hk, _, _⟩ := atE_some hq
    have hI : atI r.es id = k := atI_some hq
    rw [hI] at hat
    rw [happenRaw_some hq hk]
    have hes := ev_set r.es k hk
    obtain ⟨gv1, gv2⟩ := ev_get r.es k hk
    obtain ⟨e, he⟩ : ∃ e, r.es[k] = e := ⟨_, rfl⟩
    rw [he] at gv1 gv2 hes ⊢
    clear hI hq he
    obtain ⟨n, b, hn⟩ : ∃ n b, nxV e.state evn = (n, b) := ⟨_, _, rfl⟩
    have hnx := fun w => specNext e.state evn w
    rw [hn] at hnx ⊢
    dsimp only at hnx ⊢
    clear hn
    go_enter Tryz.func119, Tryz.ntmps119
    go_wp2_with fail
    refine (hat _ (ev_rd (reads_of_owns HOWN.out))).mono ?_; rintro x w1 ⟨rfl, hb1⟩
    clear x0 x1 x2
    replace HROW := hide (HROW.out.new hb1)
    replace HOWN := hide (owns_new HOWN.out hb1)
    have x2 := HROW.out.cell (j := 2) rfl
    have hlg1 := HROW.out.lt
    obtain ⟨gb, gcap, hsl, hg0, hg1, hg2, _, _, hc, hf⟩ := owns_open HOWN.out (by omega)
    simp only [Value.slice.injEq] at hsl
    obtain ⟨rfl, -, -⟩ := hsl
    have c1 := hc _ _ gv2
    have f1 := hf (k * 2 + 1)
    have hgg : gb ≠ g := fun e => HNE.out (by rw [hg0, e])
    have HOWN2 := hide (owns_set HOWN.out hg0 (k * 2 + 1) (.int .i64 n))
    have HB1 : Hid (TurnB (g :: (Value.slice (some ⟨gb, 0, none⟩) r.es.length cap).ownBlock.toList) w w1) := TurnB.new hb1
    have HES := hide hes
    have HG0 := hide hg0
    clear hc hf gv1 gv2 hb1 hat hes hg0
    go_wp2_with fail
    refine (hnx _).mono ?_; rintro e w2 ⟨rfl, hsame⟩; obtain rfl := hsame.symm; clear hsame
    go_wp2_with fail
    go_ret
    refine ⟨.slice (some ⟨gb, 0, none⟩) r.es.length cap, rfl, ⟨?_, ?_, ?_⟩, HB1.out.set _ _ (by rw [HG0.out]; simp), Newer.refl _ _⟩
    · have := HROW.out.far ⟨gb, k * 2 + 1, none⟩ (.int .i64 n) hgg
      simpa using this
    · have := HOWN2.out
      rw [HES.out n] at this
      simpa using this
    · simpa [Value.ownBlock] using hgg
end Go.Proofs.YtfmeinkhdgbgjaaGreat
/- The program's registry, its small words: odd numbers, entries, which ones are kept, whether they rise, where one is. -/
namespace Go.Proofs.YtfmeinkhdgbgjaaGreat
open Go.RowKit
set_option maxRecDepth 100000
set_option linter.unusedSimpArgs false
set_option linter.unusedVariables false
def oddTo (x m : Int) : Bool := decide (1 ≤ x ∧ x ≤ m ∧ x % 2 = 1)
theorem implOdd (x m : Int) (w : World) : Calls Tryz.prog 66 #[.int .i64 x, .int .i64 m] w fun e w' => e = .returned (.bool (oddTo x m)) ∧ w' = w := by
  cases h : inB x 1 m
  · have hv : oddTo x m = false := by unfold oddTo; refine decide_eq_false fun c => ?_; exact inB_false h ⟨c.1, c.2.1⟩
    rw [hv]
    go_enter Tryz.func66, Tryz.ntmps66
    go_wp2_with fail
    refine (implWithin _ _ _ _).mono ?_; rw [h]; rintro e w1 ⟨rfl, hsame⟩; obtain rfl := hsame.symm; clear hsame
    go_wp2_with fail
    go_ret
    exact ⟨rfl, rfl⟩
  · obtain ⟨h0, h1⟩ := inB_true h
    have ht : x.tmod 2 = x % 2 := Int.tmod_eq_emod_of_nonneg (by omega)
    have hv : oddTo x m = decide (x % 2 = 1) := by unfold oddTo; congr 1; exact propext ⟨fun c => c.2.2, fun c => ⟨h0, h1, c⟩⟩
    rw [hv]
    go_enter Tryz.func66, Tryz.ntmps66
    go_wp2_with fail
    refine (implWithin _ _ _ _).mono ?_; rw [h]; rintro e w1 ⟨rfl, hsame⟩; obtain rfl := hsame.symm; clear hsame
    go_wp2_with fail
    go_ret
    exact ⟨by rfl, rfl⟩
theorem implId (x : Int) (w : World) : Calls Tryz.prog 66 #[.int .i64 x, .int .i64 100000] w fun e w' => e = .returned (.bool (idB x)) ∧ w' = w := implOdd x 100000 w
def liB (e : EntryD) : Bool := !decide (e.state = 4)
def rtB (e : EntryD) : Bool := idB e.id && inB e.state 1 4
theorem implELive (e : EntryD) (w : World) : Calls Tryz.prog 134 #[.agg #[.int .i64 e.id, .int .i64 e.state]] w fun x w' => x = .returned (.bool (liB e)) ∧ Below w.heap.size w w' := by
  by_cases h : e.state = 4
  · have hv : liB e = false := by unfold liB; simp [h]
    rw [hv, h]
    go_enter Tryz.func134, Tryz.ntmps134
    go_wp2_with fail
    go_ret
    exact ⟨rfl, (by repeat' (first | (with_reducible exact Below.refl _ _) | (with_reducible refine Below.drew ?_) | (with_reducible refine bo_drewN _ ?_) | (with_reducible refine bo_alloc ?_ _) | (refine bchain ?_ (by with_reducible assumption)) | (with_reducible refine Below.setCell ?_ ?_ _) | go_size))⟩
  · have hv : liB e = true := by unfold liB; simp [h]
    rw [hv]
    have h4 : (e.state != 4) = true := by simpa using h
    clear h hv
    go_enter Tryz.func134, Tryz.ntmps134
    go_wp2_with fail
    go_ret
    exact ⟨rfl, (by repeat' (first | (with_reducible exact Below.refl _ _) | (with_reducible refine Below.drew ?_) | (with_reducible refine bo_drewN _ ?_) | (with_reducible refine bo_alloc ?_ _) | (refine bchain ?_ (by with_reducible assumption)) | (with_reducible refine Below.setCell ?_ ?_ _) | go_size))⟩
theorem implERight (e : EntryD) (w : World) : Calls Tryz.prog 130 #[.agg #[.int .i64 e.id, .int .i64 e.state]] w fun x w' => x = .returned (.bool (rtB e)) ∧ Below w.heap.size w w' := by
  cases h : idB e.id
  · have hv : rtB e = false := by unfold rtB; rw [h]; rfl
    rw [hv]
    go_enter Tryz.func130, Tryz.ntmps130
    go_wp2_with fail
    refine (implId _ _).mono ?_; rw [h]; rintro e w1 ⟨rfl, hsame⟩; obtain rfl := hsame.symm; clear hsame
    go_wp2_with fail
    go_ret
    exact ⟨rfl, (by repeat' (first | (with_reducible exact Below.refl _ _) | (with_reducible refine Below.drew ?_) | (with_reducible refine bo_drewN _ ?_) | (with_reducible refine bo_alloc ?_ _) | (refine bchain ?_ (by with_reducible assumption)) | (with_reducible refine Below.setCell ?_ ?_ _) | go_size))⟩
  · have hv : rtB e = inB e.state 1 4 := by unfold rtB; rw [h]; rfl
    rw [hv]
    go_enter Tryz.func130, Tryz.ntmps130
    go_wp2_with fail
    refine (implId _ _).mono ?_; rw [h]; rintro e w1 ⟨rfl, hsame⟩; obtain rfl := hsame.symm; clear hsame
    go_wp2_with fail
    refine (implWithin _ _ _ _).mono ?_; rintro e w1 ⟨rfl, hsame⟩; obtain rfl := hsame.symm; clear hsame
    go_wp2_with fail
    go_ret
    exact ⟨rfl, (by repeat' (first | (with_reducible exact Below.refl _ _) | (with_reducible refine Below.drew ?_) | (with_reducible refine bo_drewN _ ?_) | (with_reducible refine bo_alloc ?_ _) | (refine bchain ?_ (by with_reducible assumption)) | (with_reducible refine Below.setCell ?_ ?_ _) | go_size))⟩
theorem implReaches (l t : Int) (v : Value) (e : EntryD) (w : World) (hv : ∃ ad n cap, v = .slice ad n cap) : Calls Tryz.prog 131 #[.agg #[.int .i64 l, .int .i64 t, v], .agg #[.int .i64 e.id, .int .i64 e.state]] w fun x w' => x = .returned (.bool (decide (e.id ≤ t))) ∧ Below w.heap.size w w' := by
  obtain ⟨ad, n, cap, rfl⟩ := hv
  go_enter Tryz.func131, Tryz.ntmps131
  go_wp2_with fail
  go_ret
  exact ⟨rfl, (by repeat' (first | (with_reducible exact Below.refl _ _) | (with_reducible refine Below.drew ?_) | (with_reducible refine bo_drewN _ ?_) | (with_reducible refine bo_alloc ?_ _) | (refine bchain ?_ (by with_reducible assumption)) | (with_reducible refine Below.setCell ?_ ?_ _) | go_size))⟩
theorem implBelow (a b : EntryD) (w : World) : Calls Tryz.prog 133 #[.agg #[.int .i64 a.id, .int .i64 a.state], .agg #[.int .i64 b.id, .int .i64 b.state]] w fun x w' => x = .returned (.bool (decide (a.id < b.id))) ∧ Below w.heap.size w w' := by
  go_enter Tryz.func133, Tryz.ntmps133
  go_wp2_with fail
  go_ret
  exact ⟨rfl, (by repeat' (first | (with_reducible exact Below.refl _ _) | (with_reducible refine Below.drew ?_) | (with_reducible refine bo_drewN _ ?_) | (with_reducible refine bo_alloc ?_ _) | (refine bchain ?_ (by with_reducible assumption)) | (with_reducible refine Below.setCell ?_ ?_ _) | go_size))⟩
theorem implList (d : RegistryD) (v : Value) (w : World) (hr : RdR entryS w v d.es) : Calls Tryz.prog 128 #[.agg #[.int .i64 d.lim, .int .i64 d.top, v]] w fun x w' => x = .returned v ∧ Below w.heap.size w w' := by
  obtain ⟨ad, cap, rfl, h1, h2⟩ := hr.form
  go_enter Tryz.func128, Tryz.ntmps128
  go_wp2_with fail
  go_ret
  exact ⟨rfl, (by repeat' (first | (with_reducible exact Below.refl _ _) | (with_reducible refine Below.drew ?_) | (with_reducible refine bo_drewN _ ?_) | (with_reducible refine bo_alloc ?_ _) | (refine bchain ?_ (by with_reducible assumption)) | (with_reducible refine Below.setCell ?_ ?_ _) | go_size))⟩
/-- What may be wanted of an entry: that it is live, that it is right, that some Registry's Top reaches it. -/
abbrev Wn := Bool ⊕ (Int × Int × Option Addr × Nat × Nat)
def wnV : Wn → Value
  | .inl false => .func (.func 134) #[] #[]
  | .inl true => .func (.func 130) #[] #[]
  | .inr (l, t, a, n, c) => .func (.func 131) #[.agg #[.int .i64 l, .int .i64 t, .slice a n c]] #[]
def wnP : Wn → EntryD → Bool
  | .inl false, e => liB e
  | .inl true, e => rtB e
  | .inr (_, t, _), e => decide (e.id ≤ t)
def keep (ws : List Wn) (L : List EntryD) : List EntryD := L.filter fun e => ws.all fun x => wnP x e
theorem keep_yes {ws : List Wn} {L : List EntryD} {k : Nat} (hk : k < L.length) (h : (ws.all fun x => wnP x L[k]) = true) : keep ws (L.take (k + 1)) = keep ws (L.take k) ++ [L[k]] := by
  unfold keep
  rw [List.take_add_one, List.filter_append, List.getElem?_eq_getElem hk]
  simp only [Option.toList]
  rw [List.filter_cons_of_pos (p := fun e => ws.all fun x => wnP x e) h]; rfl
theorem keep_no {ws : List Wn} {L : List EntryD} {k : Nat} (hk : k < L.length) (h : (ws.all fun x => wnP x L[k]) = false) : keep ws (L.take (k + 1)) = keep ws (L.take k) := by
  unfold keep
  rw [List.take_add_one, List.filter_append, List.getElem?_eq_getElem hk]
  simp only [Option.toList]
  rw [List.filter_cons_of_neg (p := fun e => ws.all fun x => wnP x e) (by rw [h]; simp)]; simp
theorem keep_len (ws : List Wn) (L : List EntryD) : (keep ws L).length ≤ L.length := List.length_filter_le _ _
set_option maxHeartbeats 4000000 in
theorem implOnly (L : List EntryD) (ws : List Wn) (v : Value) (fa : Option Addr) (fc : Nat) (w : World) (hr : RdR entryS w v L) (hf : Reads w (.slice fa ws.length fc) ws.length 1 (ws.map wnV)) (hL : L.length ≤ 60) (hW : ws.length ≤ 5) :
    Calls Tryz.prog 129 #[v, .slice fa ws.length fc] w fun x w' => ∃ v', x = .returned v' ∧ w'.ownsRow w.heap.size 101 2 v' (keep ws L).length (ev (keep ws L)) ∧ Below w.heap.size w w' := by
  obtain ⟨ad, cap, rfl, h1, h2⟩ := hr.form
  have HR := hide hr
  have HF := hide hf
  clear hr hf
  go_enter Tryz.func129, Tryz.ntmps129
  go_wp2_with fail
  go_step3
  go_wp2_with fail
  go_step3
  go_wp2_with fail
  go_loopg [5, 12] L.length (fun g s i wr => ∃ (k : Nat) (a : Option Addr) (p : Nat) (M : List EntryD), k + g = L.length ∧ i = .int .i64 k ∧ s = .slice a M.length p ∧ Hid (keep ws (L.take k) = M) ∧ Hid (wr.ownsRow w.heap.size 101 2 (.slice a M.length p) M.length (ev M)) ∧ Hid (Below w.heap.size w wr))
  case atStart => exact ⟨0, none, 0, [], by omega, rfl, rfl, rfl, World.ownsRow_nil w w.heap.size 101 2, Below.refl _ _⟩
  case round =>
    obtain ⟨k, a, p, M, hkg, rfl, rfl, HM, HO, HB⟩ := hrel
    cases gk with
    | zero =>
      have hkz : ¬ ((k : Int) < (L.length : Int)) := by omega
      have HMM : Hid (M = keep ws L) := by show M = _; rw [← HM.out, List.take_of_length_le (by omega)]
      clear hkg
      go_wp2_with fail
      try rw [Exit.noGoto_ret]
      go_ret
      have := HMM.out
      subst this
      exact ⟨_, rfl, HO.out, HB.out⟩
    | succ go1 =>
      have hlt : k < L.length := by omega
      obtain ⟨b, o, cs, rfl, hbw, rfl, hc⟩ := (HR.out.new HB.out).at k hlt
      have c0 : wr.cell? ⟨b, o + k * 2, none⟩ = some (.int .i64 L[k].id) := hc 0 _ rfl
      have c1 : wr.cell? ⟨b, o + k * 2 + 1, none⟩ = some (.int .i64 L[k].state) := hc 1 _ rfl
      clear hc
      obtain ⟨e, he⟩ : ∃ e, L[k] = e := ⟨_, rfl⟩
      rw [he] at c0 c1
      have HY : Hid ((ws.all fun x => wnP x e) = true → keep ws (L.take (k + 1)) = M ++ [e]) := by rw [← he, ← HM.out]; exact keep_yes hlt
      have HN : Hid ((ws.all fun x => wnP x e) = false → keep ws (L.take (k + 1)) = M) := by rw [← he, ← HM.out]; exact keep_no hlt
      have hkl : M.length ≤ k := by have := keep_len ws (L.take k); rw [List.length_take, HM.out] at this; omega
      clear he HM
      go_upto_region 5 with fail
      have hbe : Below wr.heap.size wr (wr.alloc (.cells #[.int .i64 e.id, .int .i64 e.state] 101)) := (Below.refl _ _).alloc (Nat.le_refl _) _
      have HE : Hid (RowIs (wr.alloc (.cells #[.int .i64 e.id, .int .i64 e.state] 101)) wr.heap.size 101 [.int .i64 e.id, .int .i64 e.state]) := rowIs_new wr 101 [.int .i64 e.id, .int .i64 e.state]
      generalize wr.alloc (.cells #[.int .i64 e.id, .int .i64 e.state] 101) = X at *
      have HOX := hide (owns_new HO.out hbe)
      have HBX := hide (bchain HB.out hbe)
      have hne : (Value.slice a M.length p).ownBlock ≠ some wr.heap.size := fun hq => by have := (HO.out.lt _ hq).2; omega
      have HNE := hide hne
      have HGB : Hid (w.heap.size ≤ wr.heap.size) := HB.out.size
      generalize wr.heap.size = go at *
      clear c0 c1 hbe HO hne HB
      go_wp2_with fail
      go_loopg [18] ws.length (fun g i wi => ∃ (j : Nat), j + g = ws.length ∧ i = .int .i64 j ∧ Hid (∀ x ∈ ws.take j, wnP x e = true) ∧ Hid (RowIs wi go 101 [.int .i64 e.id, .int .i64 e.state]) ∧ Hid (wi.ownsRow w.heap.size 101 2 (.slice a M.length p) M.length (ev M)) ∧ Hid (Below w.heap.size w wi))
      case atStart => exact ⟨0, by omega, rfl, by show ∀ x ∈ ws.take 0, _; simp, HE, HOX, HBX⟩
      case round =>
        clear HE HOX HBX
        obtain ⟨j, hjg, rfl, HA, HE, HO, HB⟩ := hrel
        have hlE := HE.out.lt
        have e0 := HE.out.cell (j := 0) rfl
        have e1 := HE.out.cell (j := 1) rfl
        cases gk with
        | zero =>
          have hjz : ¬ ((j : Int) < (ws.length : Int)) := by omega
          have HQ : Hid ((ws.all fun x => wnP x e) = true) := by
            show _ = true
            refine List.all_eq_true.2 fun x hx => HA.out x ?_
            rw [List.take_of_length_le (by omega)]; exact hx
          have HM2 := hide (HY.out HQ.out)
          clear hjg
          have hX : Below wr.heap.size wr (wr.alloc (.cells #[.int .i64 e.id, .int .i64 e.state] 101)) := (Below.refl _ _).alloc (Nat.le_refl _) _
          have hownX := owns_new HO.out hX
          have hRd : Reads (wr.alloc (.cells #[.int .i64 e.id, .int .i64 e.state] 101)) (.slice (some ⟨wr.heap.size, 0, none⟩) 1 1) 1 2 (ev [e]) := reads_of_owns (owns_lit wr 101 2 1 #[.int .i64 e.id, .int .i64 e.state] rfl (by omega))
          have HBX := hide (bchain HB.out hX)
          have hbs := HBX.out.size
          go_wp2_with (at_builtin; refine wpList_app _ (by rfl) _ _ 167 (by rfl) 101 (.agg #[.int .i64 0, .int .i64 0]) 2 16 Tryz.underlying167 (by kernel_rfl) rfl (by decide) w.heap.size _ M.length (ev M) (by rfl) hownX _ 1 (ev [e]) (by rfl) hRd (ev_one _) (by omega) (by decide) hbs ?_)
          intro ad7 cap7 w7 hown7 hg7 hat7
          have HB7 : Hid (Below w.heap.size w w7) := by
            have hb := HBX.out
            exact ⟨hg7.os.trans hb.os, hg7.tape.trans hb.tape, hg7.output.trans hb.output, Nat.le_trans hb.size hg7.size, fun k hk => (hg7.block k (by have := hb.size; omega) (fun e => by have := (hownX.lt k e.symm).1; omega)).trans (hb.block k hk)⟩
          have HO7 : Hid (w7.ownsRow w.heap.size 101 2 (.slice ad7 (M ++ [e]).length cap7) (M ++ [e]).length (ev (M ++ [e]))) := by
            show World.ownsRow _ _ _ _ _ _ _
            have := hown7
            rw [← ev_app] at this
            simpa using this
          clear hown7 hg7 hat7 hownX hRd hX hbs
          go_wp2_with fail
          go_roundg go1
          case measure => omega
          case rel => exact ⟨k + 1, ad7, cap7, M ++ [e], by omega, by go_num, by simp, HM2, HO7, HB7⟩
        | succ gj =>
          have hj : j < ws.length := by omega
          obtain ⟨_, fa', fc', hfe, _, _, hf4⟩ := HF.out.new HB.out
          obtain ⟨fb, fo, hfa, hfb, hfc⟩ := hf4 (by omega)
          simp only [Value.slice.injEq] at hfe
          obtain ⟨rfl, -, rfl⟩ := hfe
          subst hfa
          obtain ⟨x, hxj⟩ : ∃ x, ws[j] = x := ⟨_, rfl⟩
          have hcx : wr.cell? ⟨fb, fo + j, none⟩ = some (wnV x) := hfc j _ (by rw [List.getElem?_map, List.getElem?_eq_getElem hj, hxj]; rfl)
          clear hfc hf4
          rcases x with (_ | _) | ⟨l, t, xa, xn, xc⟩
          · simp only [wnV] at hcx
            go_wp2_with fail
            refine (implELive e _).mono ?_; rintro z w5 ⟨rfl, hb5⟩
            replace HE := hide (HE.out.new hb5)
            replace HO := hide (owns_new HO.out hb5)
            replace HB := hide (bchain HB.out hb5)
            clear hb5 e0 e1 hcx
            cases hq : wnP (.inl false) e
            · have HQ : Hid ((ws.all fun x => wnP x e) = false) := by
                show _ = false
                refine List.all_eq_false.2 ⟨ws[j], List.getElem_mem hj, ?_⟩
                rw [hxj, hq]; simp
              have HM2 := hide (HN.out HQ.out)
              change liB e = _ at hq
              rw [hq]
              clear hxj hq
              go_wp2_with fail
              go_roundg go1
              case measure => omega
              case rel => exact ⟨k + 1, a, p, M, by omega, by go_num, rfl, HM2, HO, HB⟩
            · have HA2 : Hid (∀ x ∈ ws.take (j + 1), wnP x e = true) := by
                show ∀ x ∈ _, _
                intro x hx
                rw [List.take_add_one, List.getElem?_eq_getElem hj, hxj] at hx
                rcases List.mem_append.1 hx with hx | hx
                · exact HA.out x hx
                · simp at hx; subst hx; exact hq
              change liB e = _ at hq
              rw [hq]
              clear hxj hq
              go_wp2_with fail
              go_roundg gj
              case measure => omega
              case rel => exact ⟨j + 1, by omega, by go_num, HA2, HE, HO, HB⟩
          · simp only [wnV] at hcx
            go_wp2_with fail
            refine (implERight e _).mono ?_; rintro z w5 ⟨rfl, hb5⟩
            replace HE := hide (HE.out.new hb5)
            replace HO := hide (owns_new HO.out hb5)
            replace HB := hide (bchain HB.out hb5)
            clear hb5 e0 e1 hcx
            cases hq : wnP (.inl true) e
            · have HQ : Hid ((ws.all fun x => wnP x e) = false) := by
                show _ = false
                refine List.all_eq_false.2 ⟨ws[j], List.getElem_mem hj, ?_⟩
                rw [hxj, hq]; simp
              have HM2 := hide (HN.out HQ.out)
              change rtB e = _ at hq
              rw [hq]
              clear hxj hq
              go_wp2_with fail
              go_roundg go1
              case measure => omega
              case rel => exact ⟨k + 1, a, p, M, by omega, by go_num, rfl, HM2, HO, HB⟩
            · have HA2 : Hid (∀ x ∈ ws.take (j + 1), wnP x e = true) := by
                show ∀ x ∈ _, _
                intro x hx
                rw [List.take_add_one, List.getElem?_eq_getElem hj, hxj] at hx
                rcases List.mem_append.1 hx with hx | hx
                · exact HA.out x hx
                · simp at hx; subst hx; exact hq
              change rtB e = _ at hq
              rw [hq]
              clear hxj hq
              go_wp2_with fail
              go_roundg gj
              case measure => omega
              case rel => exact ⟨j + 1, by omega, by go_num, HA2, HE, HO, HB⟩
          · simp only [wnV] at hcx
            go_wp2_with fail
            refine (implReaches l t (.slice xa xn xc) e _ ⟨_, _, _, rfl⟩).mono ?_; rintro z w5 ⟨rfl, hb5⟩
            replace HE := hide (HE.out.new hb5)
            replace HO := hide (owns_new HO.out hb5)
            replace HB := hide (bchain HB.out hb5)
            clear hb5 e0 e1 hcx
            cases hq : wnP (.inr (l, t, xa, xn, xc)) e
            · have HQ : Hid ((ws.all fun x => wnP x e) = false) := by
                show _ = false
                refine List.all_eq_false.2 ⟨ws[j], List.getElem_mem hj, ?_⟩
                rw [hxj, hq]; simp
              have HM2 := hide (HN.out HQ.out)
              change decide (e.id ≤ t) = _ at hq
              rw [hq]
              clear hxj hq
              go_wp2_with fail
              go_roundg go1
              case measure => omega
              case rel => exact ⟨k + 1, a, p, M, by omega, by go_num, rfl, HM2, HO, HB⟩
            · have HA2 : Hid (∀ x ∈ ws.take (j + 1), wnP x e = true) := by
                show ∀ x ∈ _, _
                intro x hx
                rw [List.take_add_one, List.getElem?_eq_getElem hj, hxj] at hx
                rcases List.mem_append.1 hx with hx | hx
                · exact HA.out x hx
                · simp at hx; subst hx; exact hq
              change decide (e.id ≤ t) = _ at hq
              rw [hq]
              clear hxj hq
              go_wp2_with fail
              go_roundg gj
              case measure => omega
              case rel => exact ⟨j + 1, by omega, by go_num, HA2, HE, HO, HB⟩
end Go.Proofs.YtfmeinkhdgbgjaaGreat
