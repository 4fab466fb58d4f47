/- Several small texts of one level, one behind the other. -/
import Derived.Test.YtllaeakeaabiaaaGreatQG9
import Derived.Test.YtllaeakeaabiaaaGreatQG2
import Derived.Handy
import Derived.Test.YtllaeakeaabiaaaGreatQG4
import Derived.Test.YtllaeakeaabiaaaGreatQG5
import Derived.Deep.RegionHeld3
import Derived.Deep.LoopGhost
import Derived.WalkMore
/- The signs of chapter 4 and their numbers: l4Sign, l4Byte and the place in the row of signs. -/
namespace Go.Proofs.YtllaeakeaabiaaaGreat
open Go.RowKit
set_option maxRecDepth 100000
set_option linter.unusedSimpArgs false
set_option linter.unusedVariables false

/-- The number of a sign; -1: it is none. -/
def sgn (b : Int) : Int := if 97 ≤ b ∧ b ≤ 122 then b - 97 else if b = 45 then 26 else if b = 46 then 27 else if b = 47 then 28 else if b = 58 then 29 else if b = 61 then 30 else -1
/-- The sign of a number. -/
def sch (n : Int) : Int := if n < 26 then 97 + n else if n = 26 then 45 else if n = 27 then 46 else if n = 28 then 47 else if n = 29 then 58 else 61
theorem sgn_range (b : Int) : -1 ≤ sgn b ∧ sgn b ≤ 30 := by unfold sgn; repeat' split <;> omega
theorem sch_range {n : Int} (h0 : 0 ≤ n) (h1 : n ≤ 30) : 0 ≤ sch n ∧ sch n ≤ 255 := by unfold sch; repeat' split <;> omega
theorem sgn_sch {n : Int} (h0 : 0 ≤ n) (h1 : n ≤ 30) : sgn (sch n) = n := by unfold sgn sch; repeat' split <;> omega
theorem sch_sgn {b : Int} (h : 0 ≤ sgn b) : sch (sgn b) = b := by
  unfold sgn at h ⊢
  unfold sch
  repeat' split at h
  all_goals (repeat' split) <;> omega
theorem sgn_letter {b : Int} (h : 97 ≤ b) (h2 : b ≤ 122) : sgn b = b - 97 := by simp [sgn, h, h2]

theorem specByte (n : Int) (w : World) (h0 : 0 ≤ n) (h1 : n ≤ 30) : Calls Tryz.prog 244 #[.int .i64 n] w fun e w' => e = .returned (.int .u8 (sch n)) ∧ w' = w := by
  by_cases h : n < 26
  · have e : sch n = 97 + n := by simp [sch, h]
    rw [e]
    go_enter Tryz.func244, Tryz.ntmps244
    go_wp2_with fail
    go_ret
    exact ⟨by go_num, rfl⟩
  · have : n = 26 ∨ n = 27 ∨ n = 28 ∨ n = 29 ∨ n = 30 := by omega
    rcases this with rfl | rfl | rfl | rfl | rfl
    all_goals
      go_enter Tryz.func244, Tryz.ntmps244
      go_wp2_with fail
      go_ret
      exact ⟨rfl, rfl⟩

theorem implLow (b : Nat) (w : World) (h : b ≤ 12) : Calls Tryz.prog 171 #[.int .i64 b] w fun e w' => e = .returned (.int .i64 (tw b - 1)) ∧ w' = w := by
  have : b = 0 ∨ b = 1 ∨ b = 2 ∨ b = 3 ∨ b = 4 ∨ b = 5 ∨ b = 6 ∨ b = 7 ∨ b = 8 ∨ b = 9 ∨ b = 10 ∨ b = 11 ∨ b = 12 := by omega
  rcases this with rfl | rfl | rfl | rfl | rfl | rfl | rfl | rfl | rfl | rfl | rfl | rfl | rfl
  all_goals
    go_enter Tryz.func171, Tryz.ntmps171
    go_wp2_with fail
    go_ret
    exact ⟨rfl, rfl⟩

set_option maxHeartbeats 1000000 in
theorem specSign (b : Int) (w : World) (h0 : 0 ≤ b) (h1 : b ≤ 255) : Calls Tryz.prog 246 #[.int .u8 b] w fun e w' => e = .returned (.int .i64 (sgn b)) ∧ w' = w := by
  by_cases h : 97 ≤ b ∧ b ≤ 122
  · rw [sgn_letter h.1 h.2]
    obtain ⟨ha, hb⟩ := h
    go_enter Tryz.func246, Tryz.ntmps246
    go_wp2_with fail
    go_ret
    exact ⟨by go_num, rfl⟩
  have hab : ¬ 97 ≤ b ∨ (97 ≤ b ∧ ¬ b ≤ 122) := by omega
  clear h
  rcases hab with ha | ⟨ha, hb⟩
  all_goals
    go_enter Tryz.func246, Tryz.ntmps246
    go_wp2_with fail
    go_loop [4] (fun v => ∃ k : Nat, v = .int .i64 k ∧ k ≤ 5 ∧ Hid ((1 ≤ k → b ≠ 45) ∧ (2 ≤ k → b ≠ 46) ∧ (3 ≤ k → b ≠ 47) ∧ (4 ≤ k → b ≠ 58) ∧ (5 ≤ k → b ≠ 61))) (fun v => 5 - (intOf v).toNat)
    case atStart => exact ⟨0, rfl, by omega, ⟨by omega, by omega, by omega, by omega, by omega⟩⟩
    case round =>
      obtain ⟨k, rfl, hk, hm⟩ := hrel
      by_cases k5 : k = 5
      · subst k5
        have HS : Hid (sgn b = -1) := by
          have hm := hm.out
          show _ = _
          unfold sgn
          repeat' split <;> omega
        clear hm
        go_wp2_with fail
        go_ret
        rw [HS.out]
        exact ⟨rfl, rfl⟩
      have : k = 0 ∨ k = 1 ∨ k = 2 ∨ k = 3 ∨ k = 4 := by omega
      clear k5
      rcases this with rfl | rfl | rfl | rfl | rfl
      · go_wp2_with fail
        · rename_i he _
          have e : b = 45 := (eq_of_beq he).symm.trans rfl
          subst e
          go_ret
          exact ⟨rfl, rfl⟩
        · rename_i he
          have e : b ≠ 45 := by intro q; subst q; revert he; decide
          go_round
          case rel => exact ⟨1, by go_num, by omega, by have hm := hm.out; exact ⟨by omega, by omega, by omega, by omega, by omega⟩⟩
          case measure => simp [intOf]
      · go_wp2_with fail
        · rename_i he _
          have e : b = 46 := (eq_of_beq he).symm.trans rfl
          subst e
          go_ret
          exact ⟨rfl, rfl⟩
        · rename_i he
          have e : b ≠ 46 := by intro q; subst q; revert he; decide
          go_round
          case rel => exact ⟨2, by go_num, by omega, by have hm := hm.out; exact ⟨by omega, by omega, by omega, by omega, by omega⟩⟩
          case measure => simp [intOf]
      · go_wp2_with fail
        · rename_i he _
          have e : b = 47 := (eq_of_beq he).symm.trans rfl
          subst e
          go_ret
          exact ⟨rfl, rfl⟩
        · rename_i he
          have e : b ≠ 47 := by intro q; subst q; revert he; decide
          go_round
          case rel => exact ⟨3, by go_num, by omega, by have hm := hm.out; exact ⟨by omega, by omega, by omega, by omega, by omega⟩⟩
          case measure => simp [intOf]
      · go_wp2_with fail
        · rename_i he _
          have e : b = 58 := (eq_of_beq he).symm.trans rfl
          subst e
          go_ret
          exact ⟨rfl, rfl⟩
        · rename_i he
          have e : b ≠ 58 := by intro q; subst q; revert he; decide
          go_round
          case rel => exact ⟨4, by go_num, by omega, by have hm := hm.out; exact ⟨by omega, by omega, by omega, by omega, by omega⟩⟩
          case measure => simp [intOf]
      · go_wp2_with fail
        · rename_i he _
          have e : b = 61 := (eq_of_beq he).symm.trans rfl
          subst e
          go_ret
          exact ⟨rfl, rfl⟩
        · rename_i he
          have e : b ≠ 61 := by intro q; subst q; revert he; decide
          go_round
          case rel => exact ⟨5, by go_num, by omega, by have hm := hm.out; exact ⟨by omega, by omega, by omega, by omega, by omega⟩⟩
          case measure => simp [intOf]

/-- The row of signs, as the program keeps it. -/
def signs : ByteArray := ⟨#[97, 98, 99, 100, 101, 102, 103, 104, 105, 106, 107, 108, 109, 110, 111, 112, 113, 114, 115, 116, 117, 118, 119, 120, 121, 122, 45, 46, 47, 58, 61]⟩
theorem ix_all : ∀ k : Fin 256, Lib.indexByte signs.data.toList (UInt8.ofNat k.val) = sgn (k.val : Int) := by decide +kernel
theorem ix_sgn {b : Int} (h0 : 0 ≤ b) (h1 : b ≤ 255) : Lib.indexByte signs.data.toList b.toNat.toUInt8 = sgn b := by
  obtain ⟨k, rfl⟩ := Int.eq_ofNat_of_zero_le h0
  exact ix_all ⟨k, by omega⟩
theorem signs_at : ∀ k : Fin 31, ((signs[k.val]'(by have := k.isLt; exact this)).toNat : Int) = sch (k.val : Int) := by decide +kernel
theorem implIx (b : Int) (w : World) (h0 : 0 ≤ b) (h1 : b ≤ 255) : Calls Tryz.prog 261 #[.string signs, .int .u8 b] w fun e w' => e = .returned (.int .i64 (sgn b)) ∧ w' = w := by
  rw [← ix_sgn h0 h1]; exact indexByte signs b w
end Go.Proofs.YtllaeakeaabiaaaGreat
/- What happens in a registry that lies in the midst of a block: opened, and an event. -/
namespace Go.Proofs.YtllaeakeaabiaaaGreat
open Go.RowKit
set_option maxRecDepth 100000
set_option linter.unusedSimpArgs false
set_option linter.unusedVariables false
/-- A Registry in the midst of block g, its entries owned in another block. -/
structure RgM (w : World) (g : Nat) (ty : TypeId) (A C : List Value) (o : Nat) (d : RegistryD) (v : Value) : Prop where
  mid : MidIs w g ty A C o [.int .i64 d.lim, .int .i64 d.top, v]
  own : w.ownsRow 0 103 2 v d.es.length (ev d.es)
  ne : v.ownBlock ≠ some g
set_option maxHeartbeats 2000000 in
theorem openM (g o : Nat) (ty : TypeId) (A C : List Value) (vE : Value) (r : RegistryD) (id : Int) (w : World) (h : RgM w g ty A C o r vE) (hL : r.es.length ≤ 1000) :
    Calls Tryz.prog 105 #[.pointer (some ⟨g, o, none⟩), .int .i64 id] w fun x w' => ∃ vE', x = .returned (.int .i64 (openRaw r id).2) ∧ RgM w' g ty A C o (openRaw r id).1 vE' ∧ TurnB (g :: vE.ownBlock.toList) w w' ∧ Newer w vE vE' := by
  obtain ⟨hrow, hown, hne⟩ := h
  obtain ⟨ad, cap, rfl, _, _⟩ := owns_form hown
  have HROW := hide hrow; have HOWN := hide hown; have HNE := hide hne
  have hlg := hrow.lt
  clear hrow hown hne
  cases hid : idB id
  · have hv : openRaw r id = (r, 1) := by unfold openRaw; rw [if_neg (by rw [hid]; simp)]
    rw [hv]
    go_enter Tryz.func105, Tryz.ntmps105
    go_wp2_with fail
    refine (specId id _).mono ?_; rw [hid]; rintro e w1 ⟨rfl, hsame⟩; obtain rfl := hsame.symm; clear hsame
    go_wp2_with fail
    go_ret
    exact ⟨_, rfl, ⟨HROW.out, HOWN.out, HNE.out⟩, TurnB.refl _ _, Newer.refl _ _⟩
  have g1 := HROW.out.cell (j := 1) rfl
  by_cases htop : r.top < id
  rotate_left
  · have hv : openRaw r id = (r, 1) := open_again (by omega)
    rw [hv]
    go_enter Tryz.func105, Tryz.ntmps105
    go_wp2_with fail
    refine (specId id _).mono ?_; rw [hid]; rintro e w1 ⟨rfl, hsame⟩; obtain rfl := hsame.symm; clear hsame
    go_wp2_with fail
    go_ret
    exact ⟨_, rfl, ⟨HROW.out, HOWN.out, HNE.out⟩, TurnB.refl _ _, Newer.refl _ _⟩
  obtain ⟨R, hR⟩ : ∃ R, openRaw r id = R := ⟨_, rfl⟩
  rw [hR]
  have HR : Hid (R = if r.lim ≤ liveL r.es ∨ r.es.length = 60 then (⟨r.lim, id, r.es⟩, 2) else (⟨r.lim, id, r.es ++ [⟨id, 1⟩]⟩, 0)) := by show R = _; rw [← hR]; unfold openRaw; rw [if_pos ⟨hid, htop⟩]
  clear hR
  have g5 := HROW.out.frozen (o + 1)
  go_enter Tryz.func105, Tryz.ntmps105
  go_wp2_with fail
  refine (specId id _).mono ?_; rw [hid]; rintro e w1 ⟨rfl, hsame⟩; obtain rfl := hsame.symm; clear hsame
  go_upto_region 4 with fail
  have hrow : MidIs (w.setCell ⟨g, o + 1, none⟩ (.int .i64 id)) g ty A C o [.int .i64 r.lim, .int .i64 id, .slice ad r.es.length cap] := HROW.out.set 1 (.int .i64 id) (by simp)
  have hown1 := owns_apart HOWN.out ⟨g, o + 1, none⟩ (.int .i64 id) HNE.out
  have HB1 : Hid (TurnB (g :: (Value.slice ad r.es.length cap).ownBlock.toList) w (w.setCell ⟨g, o + 1, none⟩ (.int .i64 id))) := (TurnB.refl _ _).set _ _ (by simp)
  have hsz : w.heap.size ≤ (w.setCell ⟨g, o + 1, none⟩ (.int .i64 id)).heap.size := by simp
  clear g1 g5 HROW HOWN
  generalize w.setCell ⟨g, o + 1, none⟩ (.int .i64 id) = w2 at *
  have x0 := hrow.cell0 rfl
  have x1 := hrow.cell (j := 1) rfl
  have x2 := hrow.cell (j := 2) rfl
  have hlg2 := hrow.lt
  have q0 : ∀ y : Later w2, y.w.cell? ⟨g, o, none⟩ = some (.int .i64 r.lim) := fun y => (y.b.cell (p := ⟨g, o, none⟩) hlg2).trans x0
  have q1 : ∀ y : Later w2, y.w.cell? ⟨g, o + 1, none⟩ = some (.int .i64 id) := fun y => (y.b.cell (p := ⟨g, o + 1, none⟩) hlg2).trans x1
  have q2 : ∀ y : Later w2, y.w.cell? ⟨g, o + 2, none⟩ = some (.slice ad r.es.length cap) := fun y => (y.b.cell (p := ⟨g, o + 2, none⟩) hlg2).trans x2
  have HROW1 := hide hrow; have HOWN1 := hide hown1
  clear x0 x1 x2 hrow hown1
  have hlv := fun w h => specLiveL ⟨r.lim, id, r.es⟩ (.slice ad r.es.length cap) w h
  have hln := live_le r.es
  obtain ⟨q, hq⟩ : ∃ q, liveL r.es = q := ⟨_, rfl⟩
  dsimp only at hlv
  rw [hq] at hlv hln
  have HQ := hide hq
  clear hq
  have hrd : ∀ y : Later w2, RdR entryS y.w (.slice ad r.es.length cap) r.es := fun y => (ev_rd (reads_of_owns HOWN1.out)).new y.b
  by_cases hfull : r.lim ≤ q
  · have HF : Hid (R = (⟨r.lim, id, r.es⟩, 2)) := by show R = _; rw [HR.out, if_pos (.inl (by rw [HQ.out]; exact hfull))]
    have hne : Nonempty (Later w2) := ⟨⟨w2, Below.refl _ _⟩⟩; refine region_later (by kernel_rfl) (by kernel_rfl) ?_; (repeat (go_big_quiet_step (fail))); go_big_quiet_want; go_big_quiet_op; refine ⟨.int .i64 q, fun y => later_calls (x := y) (hlv y.w (hrd y)), ?_⟩; go_big_quiet_on; (repeat (go_big_quiet_step (fail))); refine wpQuiet_nil ?_; intro _ hw'; obtain ⟨y, hw''⟩ := hw'; subst hw''; have hby := y.b
    go_wp2_with fail
    go_ret
    rw [HF.out]
    first | exact ⟨_, rfl, ⟨HROW1.out.new hby, owns_new HOWN1.out hby, HNE.out⟩, HB1.out.trans (TurnB.new hby), Newer.refl _ _⟩ | exact ⟨rfl, _, ⟨HROW1.out.new hby, owns_new HOWN1.out hby, HNE.out⟩, HB1.out.trans (TurnB.new hby), Newer.refl _ _⟩
  by_cases h60 : (r.es.length : Int) = 60
  · have HF : Hid (R = (⟨r.lim, id, r.es⟩, 2)) := by show R = _; rw [HR.out, if_pos (.inr (by omega))]
    have h60' : ((r.es.length : Int) == 60) = true := by simpa using h60
    have hfu : ¬ r.lim ≤ q := hfull
    have H60 := hide h60
    clear h60
    have hne : Nonempty (Later w2) := ⟨⟨w2, Below.refl _ _⟩⟩; refine region_later (by kernel_rfl) (by kernel_rfl) ?_; (repeat (go_big_quiet_step (fail))); go_big_quiet_want; go_big_quiet_op; refine ⟨.int .i64 q, fun y => later_calls (x := y) (hlv y.w (hrd y)), ?_⟩; go_big_quiet_on; (repeat (go_big_quiet_step (fail))); refine wpQuiet_nil ?_; intro _ hw'; obtain ⟨y, hw''⟩ := hw'; subst hw''; have hby := y.b
    go_wp2_with fail
    go_ret
    rw [HF.out]
    first | exact ⟨_, rfl, ⟨HROW1.out.new hby, owns_new HOWN1.out hby, HNE.out⟩, HB1.out.trans (TurnB.new hby), Newer.refl _ _⟩ | exact ⟨rfl, _, ⟨HROW1.out.new hby, owns_new HOWN1.out hby, HNE.out⟩, HB1.out.trans (TurnB.new hby), Newer.refl _ _⟩
  have HF : Hid (R = (⟨r.lim, id, r.es ++ [⟨id, 1⟩]⟩, 0)) := by show R = _; rw [HR.out, if_neg (fun c => by rw [HQ.out] at c; omega)]
  have h60' : ((r.es.length : Int) == 60) = false := by simpa using h60
  clear h60
  have hne : Nonempty (Later w2) := ⟨⟨w2, Below.refl _ _⟩⟩; refine region_later (by kernel_rfl) (by kernel_rfl) ?_; (repeat (go_big_quiet_step (fail))); go_big_quiet_want; go_big_quiet_op; refine ⟨.int .i64 q, fun y => later_calls (x := y) (hlv y.w (hrd y)), ?_⟩; go_big_quiet_on; (repeat (go_big_quiet_step (fail))); refine wpQuiet_nil ?_; intro _ hw'; obtain ⟨y, hw''⟩ := hw'; subst hw''; have hby := y.b
  have hrow3 := HROW1.out.new hby
  have hown3 := owns_new HOWN1.out hby
  have HB3 : Hid (TurnB (g :: (Value.slice ad r.es.length cap).ownBlock.toList) w y.w) := HB1.out.trans (TurnB.new hby)
  have hs3 : w.heap.size ≤ y.w.heap.size := Nat.le_trans hsz hby.size
  clear q0 q1 q2 hrd hlv hne
  generalize y.w = w3 at *
  clear hby HROW1 HOWN1 HB1
  have x2 := hrow3.cell (j := 2) rfl
  have hlg3 := hrow3.lt
  have hX : Below w3.heap.size w3 (w3.alloc (.cells #[.int .i64 id, .int .i64 1] 103)) := (Below.refl _ _).alloc (Nat.le_refl _) _
  have hownX := owns_new hown3 hX
  have hRd : Reads (w3.alloc (.cells #[.int .i64 id, .int .i64 1] 103)) (.slice (some ⟨w3.heap.size, 0, none⟩) 1 1) 1 2 (ev [⟨id, 1⟩]) := reads_of_owns (owns_lit w3 103 2 1 #[.int .i64 id, .int .i64 1] rfl (by omega))
  have hrowX := hrow3.new hX
  have hsX := hX.size
  have HBX : Hid (TurnB (g :: (Value.slice ad r.es.length cap).ownBlock.toList) w (w3.alloc (.cells #[.int .i64 id, .int .i64 1] 103))) := HB3.out.trans (TurnB.new hX)
  have HROWX := hide hrowX
  clear hrowX hrow3 hown3 hX HB3
  go_wp2_with (at_builtin; refine wpList_app _ (by rfl) _ _ 35 (by rfl) 103 (.agg #[.int .i64 0, .int .i64 0]) 2 16 Tryz.underlying35 (by kernel_rfl) rfl (by decide) 0 _ r.es.length (ev r.es) (by rfl) hownX _ 1 (ev [⟨id, 1⟩]) (by rfl) hRd (ev_one _) (by omega) (by decide) (by omega) ?_)
  intro ad7 cap7 w7 hown7 hg7 hat7
  generalize w3.alloc (.cells #[.int .i64 id, .int .i64 1] 103) = wX at *
  have hlgX := HROWX.out.lt
  have hrow7 := HROWX.out.kept (hg7.block g hlgX (fun e => HNE.out e.symm))
  have y2 := hrow7.cell (j := 2) rfl
  have yf := hrow7.frozen (o + 2)
  have hlg7 := hrow7.lt
  have hne7 : (Value.slice ad7 (r.es.length + 1) cap7).ownBlock ≠ some g := by
    rcases hat7 with e | e
    · rw [e]; exact HNE.out
    · rw [e]; intro hc; have := Option.some.inj hc; omega
  have HROW7 := hide hrow7; have HOWN7 := hide hown7; have HNE7 := hide hne7
  have HB7 : Hid (TurnB (g :: (Value.slice ad r.es.length cap).ownBlock.toList) w w7) := by
    have hb := HBX.out
    exact ⟨hg7.os.trans hb.os, hg7.tape.trans hb.tape, hg7.output.trans hb.output, Nat.le_trans hb.size hg7.size, fun k hk hn => (hg7.block k (by have := hb.size; omega) (fun e => hn (by rw [← e]; simp))).trans (hb.block k hk hn)⟩
  have HNW : Hid (Newer w (.slice ad r.es.length cap) (.slice ad7 (r.es.length + 1) cap7)) := fun k hk => by
    rcases hat7 with e | e
    · rw [e] at hk; exact .inl hk
    · rw [e] at hk; have := Option.some.inj hk; have := HBX.out.size; exact .inr (by omega)
  clear hrow7 hown7 hne7 hat7 hg7 hownX hRd x2
  go_wp2_with fail
  go_ret
  rw [HF.out]
  refine ⟨.slice ad7 (r.es.length + 1) cap7, rfl, ⟨?_, ?_, ?_⟩, HB7.out.set _ _ (by simp), HNW.out⟩
  · have := HROW7.out.set 2 (.slice ad7 (r.es.length + 1) cap7) (by simp)
    simpa using this
  · have := owns_apart HOWN7.out ⟨g, o + 2, none⟩ (.slice ad7 (r.es.length + 1) cap7) HNE7.out
    simpa [ev_app] using this
  · simpa using HNE7.out
set_option maxHeartbeats 2000000 in
theorem happenM (g o : Nat) (ty : TypeId) (A C : List Value) (vE : Value) (r : RegistryD) (id evn : Int) (w : World) (h : RgM w g ty A C o r vE) :
    Calls Tryz.prog 63 #[.pointer (some ⟨g, o, none⟩), .int .i64 id, .int .i64 evn] w fun x w' => ∃ vE', x = .returned (.bool (happenRaw r id evn).2) ∧ RgM w' g ty A C o (happenRaw r id evn).1 vE' ∧ TurnB (g :: vE.ownBlock.toList) w w' ∧ Newer w vE vE' := by
  obtain ⟨hrow, hown, hne⟩ := h
  obtain ⟨ad, cap, rfl, _, _⟩ := owns_form hown
  have x0 := hrow.cell0 rfl
  have x1 := hrow.cell (j := 1) rfl
  have x2 := hrow.cell (j := 2) rfl
  have HROW := hide hrow; have HOWN := hide hown; have HNE := hide hne
  have hlg := hrow.lt
  clear hrow hown hne
  have hat := fun w h => specAt r id (.slice ad r.es.length cap) w h
  cases hq : atE r.es id with
  | none =>
    have hI : atI r.es id = -1 := by unfold atI; rw [hq]
    rw [hI] at hat
    rw [happenRaw_none hq]
    clear hI hq
    go_enter Tryz.func63, Tryz.ntmps63
    go_wp2_with fail
    refine (hat _ (ev_rd (reads_of_owns HOWN.out))).mono ?_; rintro x w1 ⟨rfl, hb1⟩
    go_wp2_with fail
    go_ret
    exact ⟨_, rfl, ⟨HROW.out.new hb1, owns_new HOWN.out hb1, HNE.out⟩, TurnB.new hb1, Newer.refl _ _⟩
  | some k =>
    obtain ⟨hk, _, _⟩ := atE_some hq
    have hI : atI r.es id = k := atI_some hq
    rw [hI] at hat
    rw [happenRaw_some hq hk]
    have hes := ev_set r.es k hk
    obtain ⟨gv1, gv2⟩ := ev_get r.es k hk
    obtain ⟨e, he⟩ : ∃ e, r.es[k] = e := ⟨_, rfl⟩
    rw [he] at gv1 gv2 hes ⊢
    clear hI hq he
    obtain ⟨n, b, hn⟩ : ∃ n b, nxV e.state evn = (n, b) := ⟨_, _, rfl⟩
    have hnx := fun w => specNext e.state evn w
    rw [hn] at hnx ⊢
    dsimp only at hnx ⊢
    clear hn
    go_enter Tryz.func63, Tryz.ntmps63
    go_wp2_with fail
    refine (hat _ (ev_rd (reads_of_owns HOWN.out))).mono ?_; rintro x w1 ⟨rfl, hb1⟩
    clear x0 x1 x2
    replace HROW := hide (HROW.out.new hb1)
    replace HOWN := hide (owns_new HOWN.out hb1)
    have x2 := HROW.out.cell (j := 2) rfl
    have hlg1 := HROW.out.lt
    obtain ⟨gb, gcap, hsl, hg0, hg1, hg2, _, _, hc, hf⟩ := owns_open HOWN.out (by omega)
    simp only [Value.slice.injEq] at hsl
    obtain ⟨rfl, -, -⟩ := hsl
    have c1 := hc _ _ gv2
    have f1 := hf (k * 2 + 1)
    have hgg : gb ≠ g := fun e => HNE.out (by rw [hg0, e])
    have HOWN2 := hide (owns_set HOWN.out hg0 (k * 2 + 1) (.int .i64 n))
    have HB1 : Hid (TurnB (g :: (Value.slice (some ⟨gb, 0, none⟩) r.es.length cap).ownBlock.toList) w w1) := TurnB.new hb1
    have HES := hide hes
    have HG0 := hide hg0
    clear hc hf gv1 gv2 hb1 hat hes hg0
    go_wp2_with fail
    refine (hnx _).mono ?_; rintro e w2 ⟨rfl, hsame⟩; obtain rfl := hsame.symm; clear hsame
    go_wp2_with fail
    go_ret
    refine ⟨.slice (some ⟨gb, 0, none⟩) r.es.length cap, rfl, ⟨?_, ?_, ?_⟩, HB1.out.set _ _ (by rw [HG0.out]; simp), Newer.refl _ _⟩
    · have := HROW.out.far ⟨gb, k * 2 + 1, none⟩ (.int .i64 n) hgg
      simpa using this
    · have := HOWN2.out
      rw [HES.out n] at this
      simpa using this
    · simpa [Value.ownBlock] using hgg
end Go.Proofs.YtllaeakeaabiaaaGreat
/- A Table in the midst of a block: shrunk, noted in, and a list of Fields encoded by it. -/
namespace Go.Proofs.YtllaeakeaabiaaaGreat
open Go.RowKit
set_option maxRecDepth 100000
set_option linter.unusedSimpArgs false
set_option linter.unusedVariables false
/-- A Table in the midst of block g, its rows owned in another block, one of those that okb allows. -/
structure TabM (w : World) (g : Nat) (ty : TypeId) (A C : List Value) (og : Nat) (okb : Nat → Prop) (room : Int) (L : List Fd) : Prop where
  ex : ∃ ad cap, MidIs w g ty A C og [.int .i64 room, .slice ad L.length cap] ∧ w.ownsRow 0 146 2 (.slice ad L.length cap) L.length (fv L) ∧ (Value.slice ad L.length cap).ownBlock ≠ some g ∧ ∀ k, (Value.slice ad L.length cap).ownBlock = some k → okb k
theorem tabM_later {w w' : World} {g og : Nat} {ty : TypeId} {A C : List Value} {okb : Nat → Prop} {room : Int} {L : List Fd} (h : TabM w g ty A C og okb room L) (hb : Below w.heap.size w w') : TabM w' g ty A C og okb room L := by
  obtain ⟨a, p, h1, h2, h3, h4⟩ := h.ex
  exact ⟨⟨a, p, h1.new hb, owns_new h2 hb, h3, h4⟩⟩
theorem tabM_lt {w : World} {g og : Nat} {ty : TypeId} {A C : List Value} {okb : Nat → Prop} {room : Int} {L : List Fd} (h : TabM w g ty A C og okb room L) : g < w.heap.size := by obtain ⟨a, p, h1, _⟩ := h.ex; exact h1.lt
def lenOfM (g og : Nat) (w : World) : Nat := match w.cell? ⟨g, og + 1, none⟩ with | some (.slice _ n _) => n | _ => 0
set_option maxHeartbeats 2000000 in
theorem shrinkM (g og : Nat) (ty : TypeId) (A C : List Value) (okb : Nat → Prop) (room : Int) (L : List Fd) (w : World) (h : TabM w g ty A C og okb room L) (hok : ∀ f ∈ L, okF f = true) (hroom : 0 ≤ room) (hL : L.length ≤ 200) :
    Calls Tryz.prog 190 #[.pointer (some ⟨g, og, none⟩)] w fun x w' => x = .returned (.tuple #[]) ∧ TabM w' g ty A C og okb room (shr room L) ∧ Turn g (g + 1) w w' := by
  obtain ⟨R, hR⟩ : ∃ R, R = shr room L := ⟨_, rfl⟩
  rw [← hR]
  have H0 := hide h; have HOK := hide hok; have HRR := hide hR
  clear h hok hR
  go_enter Tryz.func190, Tryz.ntmps190
  go_wp2_with fail
  go_loopw [] (fun wr => ∃ L' : List Fd, TabM wr g ty A C og okb room L' ∧ (∀ f ∈ L', okF f = true) ∧ R = shr room L' ∧ L'.length ≤ 200 ∧ Turn g (g + 1) w wr) (fun wr => lenOfM g og wr)
  case atStart => exact ⟨L, H0.out, HOK.out, HRR.out, hL, Turn.refl _ _ _⟩
  case round =>
    obtain ⟨L', hta, hok', hR', hL', ht⟩ := hrel
    obtain ⟨ad, cap, hrow, hown, hap, hbk⟩ := hta.ex
    have HAP := hide hap
    have HBK := hide hbk
    clear hap hbk
    have hlen : lenOfM g og wr = L'.length := by have := hrow.cell (j := 1) rfl; simp [lenOfM, this]
    have x0 := hrow.cell0 rfl
    have x1 := hrow.cell (j := 1) rfl
    have x2 := hrow.frozen (og + 1)
    have hgl := hrow.lt
    have hcc : L'.length ≤ cap ∧ cap ≤ maxLen := by
      obtain ⟨_, _, e, h1, h2⟩ := owns_form hown
      simp only [Value.slice.injEq] at e
      obtain ⟨_, _, rfl⟩ := e
      exact ⟨h1, h2⟩
    obtain ⟨hc1, hc2⟩ := hcc
    unfold maxLen at hc2
    have HROW := hide hrow; have HOWN := hide hown; have HO := hide hok'; have HT := hide ht; have HR' := hide hR'; have HLEN := hide hlen
    clear hrow hown hok' ht hR' hta hlen
    go_wp2_with fail
    have q0 : ∀ y : Later wr, y.w.cell? ⟨g, og, none⟩ = some (.int .i64 room) := fun y => (y.b.cell (p := ⟨g, og, none⟩) hgl).trans x0
    have q1 : ∀ y : Later wr, y.w.cell? ⟨g, og + 1, none⟩ = some (.slice ad L'.length cap) := fun y => (y.b.cell (p := ⟨g, og + 1, none⟩) hgl).trans x1
    have hcall : ∀ y : Later wr, Calls Tryz.prog 97 #[.slice ad L'.length cap] y.w (fun e w' => e = .returned (.int .i64 (sumW L')) ∧ Below y.w.heap.size y.w w') := fun y => specSum L' _ y.w ((reads_of_owns HOWN.out).new y.b) (fun f hf => fine_of (HO.out f hf)) (by omega)
    obtain ⟨sm, hsm⟩ : ∃ sm, sumW L' = sm := ⟨_, rfl⟩
    rw [hsm] at hcall
    have HSM := hide hsm
    have HCALL := hide hcall
    clear hsm hcall
    have hne : Nonempty (Later wr) := ⟨⟨wr, Below.refl _ _⟩⟩; refine region_later (by kernel_rfl) (by kernel_rfl) ?_
    repeat (go_big_quiet_step (fail))
    go_big_quiet_want; go_big_quiet_op; refine ⟨.int .i64 sm, fun y => later_calls (x := y) ((fun _ => HCALL.out y) y.w), ?_⟩; go_big_quiet_on
    repeat (go_big_quiet_step (fail))
    refine wpQuiet_nil ?_; intro _ hw'; obtain ⟨y, hw''⟩ := hw'; subst hw''; have hby := y.b
    clear q0 q1 hne HCALL
    obtain ⟨wy, hwy⟩ : ∃ wy, wy = y.w := ⟨_, rfl⟩
    rw [← hwy] at hby ⊢
    clear hwy y
    replace HROW := hide (HROW.out.new hby)
    replace HOWN := hide (owns_new HOWN.out hby)
    replace HT := hide (HT.out.trans (turn_new hby g (g + 1)))
    clear x0 x1 x2
    have x1 := HROW.out.cell (j := 1) rfl
    have x0 := HROW.out.cell0 rfl
    have x2 := HROW.out.frozen (og + 1)
    by_cases hgt0 : room < sm
    · have hgt : room < sumW L' := by rw [HSM.out]; exact hgt0
      have hpos : 0 < L'.length := by
        rcases Nat.eq_zero_or_pos L'.length with h0 | h0
        · have : L' = [] := List.length_eq_zero_iff.1 h0
          subst this
          simp [sumW] at hgt; omega
        · exact h0
      obtain ⟨n, hn⟩ : ∃ n, L'.length = n + 1 := ⟨L'.length - 1, by omega⟩
      have HD := hide (HR'.out.trans (shr_go hgt))
      have hdn : L'.dropLast.length = n := by rw [List.length_dropLast]; omega
      have hfv : (fv L').take (n * 2) = fv L'.dropLast := by
        rw [List.dropLast_eq_take, show L'.length - 1 = n by omega]
        conv => lhs; rw [← List.take_append_drop n L', fv_app, List.take_append_of_le_length (by rw [fv_len, List.length_take]; omega), List.take_of_length_le (by rw [fv_len, List.length_take]; omega)]
      have FIN : Hid (TabM ((World.drew wy).setCell ⟨g, og + 1, none⟩ (.slice ad n cap)) g ty A C og okb room L'.dropLast ∧ Turn g (g + 1) w ((World.drew wy).setCell ⟨g, og + 1, none⟩ (.slice ad n cap)) ∧ lenOfM g og ((World.drew wy).setCell ⟨g, og + 1, none⟩ (.slice ad n cap)) = n) := by
        have h1 := (HROW.out.drewN 1).set 1 (.slice ad n cap) (by simp)
        have h2 := owns_short HOWN.out (show n ≤ L'.length by omega) hpos
        rw [hfv] at h2
        have h2' : (World.drew wy).ownsRow 0 146 2 (.slice ad n cap) n (fv L'.dropLast) := h2
        refine ⟨⟨⟨ad, cap, by rw [hdn]; exact h1, by rw [hdn]; exact owns_apart h2' ⟨g, og + 1, none⟩ _ (by have := HAP.out; cases ad <;> exact this), by have := HAP.out; cases ad <;> exact this, by have := HBK.out; cases ad <;> exact this⟩⟩, (HT.out.drewN 1).setCell (p := ⟨g, og + 1, none⟩) _ (.inl ⟨Nat.le_refl _, Nat.lt_succ_self _⟩), ?_⟩
        have := h1.cell (j := 1) rfl
        have h3 : ((World.drew wy).setCell ⟨g, og + 1, none⟩ (.slice ad n cap)).cell? ⟨g, og + 1, none⟩ = some (.slice ad n cap) := this
        simp [lenOfM, h3]
      clear hfv
      go_wp2_with fail
      refine wp_region_any (by kernel_rfl) ?_; change wpAny _ _ _ _ _ _ _ (World.drew _)
      refine wpAny_take (i := 0) (v := ?_) rfl (by kernel_rfl) (by kernel_rfl) (by kernel_rfl) (fun _ _ _ h => h) (Or.inl ⟨by rfl, ?_⟩) ?_; rotate_left; focus (intro w; go_simp; try with_reducible rfl)
      refine wpAny_take (i := 1) (v := ?_) rfl (by kernel_rfl) (by kernel_rfl) (by kernel_rfl) (fun _ _ _ h => h) (Or.inl ⟨by rfl, ?_⟩) ?_; rotate_left; focus (intro w; go_simp; try with_reducible rfl)
      refine wpAny_take (i := 2) (v := ?_) rfl (by kernel_rfl) (by kernel_rfl) (by kernel_rfl) (fun _ _ _ h => h) (Or.inl ⟨by rfl, ?_⟩) ?_; rotate_left; focus (intro w; go_simp; try with_reducible rfl)
      refine wpAny_take (i := 3) (v := ?_) rfl (by kernel_rfl) (by kernel_rfl) (by kernel_rfl) (fun _ _ _ h => h) (Or.inl ⟨by rfl, ?_⟩) ?_; rotate_left; focus (intro w; go_simp; try with_reducible rfl)
      refine wpAny_take (i := 5) (v := ?_) rfl (by kernel_rfl) (by kernel_rfl) (by kernel_rfl) (fun _ _ _ h => h) (Or.inl ⟨by rfl, ?_⟩) ?_; rotate_left; focus (intro w; go_simp; try with_reducible rfl)
      refine wpAny_take (i := 6) (v := ?_) rfl (by kernel_rfl) (by kernel_rfl) (by kernel_rfl) (fun _ _ _ h => h) (Or.inl ⟨by rfl, ?_⟩) ?_; rotate_left; focus (intro w; go_simp; try with_reducible rfl)
      refine wpAny_take (i := 7) (v := ?_) rfl (by kernel_rfl) (by kernel_rfl) (by kernel_rfl) (fun _ _ _ h => h) (Or.inl ⟨by rfl, ?_⟩) ?_; rotate_left; focus (intro w; go_simp; try with_reducible rfl)
      have hwn : IntKind.i64.wrap (n : Int) = n := by rw [IntKind.wrap_i64]; omega
      have hn0 : (0 : Int) ≤ (n : Int) := by omega
      have hn1 : (n : Int) ≤ (cap : Int) := by omega
      refine wpAny_ready (rs := [4, 8]) (by kernel_rfl) (by simp) ?_; refine AllReady.cons rfl (fun K hK => ?_) (AllReady.cons rfl (fun K hK => ?_) AllReady.nil)
      · go_simp; refine hK _ _ ?_; clear hK K
        refine wpAny_ready (rs := [8]) (by kernel_rfl) (by simp) ?_; refine AllReady.cons rfl (fun K hK => ?_) AllReady.nil
        go_simp; refine hK _ _ ?_; clear hK K
        refine wpAny_take (i := 9) (v := ?_) rfl (by kernel_rfl) (by kernel_rfl) (by kernel_rfl) (fun _ _ _ h => h) (Or.inl ⟨by rfl, ?_⟩) ?_; rotate_left; focus (intro w; go_simp; try with_reducible rfl)
        refine wpAny_take (i := 10) (v := ?_) rfl (by kernel_rfl) (by kernel_rfl) (by kernel_rfl) (fun _ _ _ h => h) (Or.inl ⟨by rfl, ?_⟩) ?_; rotate_left; focus (intro w; go_simp; try with_reducible rfl)
        refine wpAny_take (i := 11) (v := ?_) rfl (by kernel_rfl) (by kernel_rfl) (by kernel_rfl) (fun _ _ _ h => h) (Or.inl ⟨by rfl, ?_⟩) ?_; rotate_left; focus (intro w; go_simp; try with_reducible rfl)
        refine wpAny_take (i := 12) (v := ?_) rfl (by kernel_rfl) (by kernel_rfl) (by kernel_rfl) (fun _ _ _ h => h) (Or.inl ⟨by rfl, ?_⟩) ?_; rotate_left; focus (intro w; go_simp; try with_reducible rfl)
        refine wpAny_take (i := 13) (v := ?_) rfl (by kernel_rfl) (by kernel_rfl) (by kernel_rfl) (fun _ _ _ h => h) (Or.inl ⟨by rfl, ?_⟩) ?_; rotate_left; focus (intro w; go_simp; try with_reducible rfl)
        refine wpAny_ready (rs := [14]) (by kernel_rfl) (by simp) ?_; refine AllReady.cons rfl (fun K hK => ?_) AllReady.nil
        go_simp; refine hK _ _ ?_; clear hK K
        refine wpAny_done (by kernel_rfl) ?_ _
        go_wp2_with fail
        exact ⟨⟨L'.dropLast, FIN.out.1, fun f hf => HO.out f ((List.dropLast_sublist _).subset hf), HD.out, by rw [List.length_dropLast]; omega, FIN.out.2.1⟩, by show lenOfM g og ((World.drew wy).setCell ⟨g, og + 1, none⟩ (.slice ad n cap)) < lenOfM g og wr; rw [FIN.out.2.2, HLEN.out]; omega⟩
      · go_simp; refine hK _ _ ?_; clear hK K
        refine wpAny_take (i := 9) (v := ?_) rfl (by kernel_rfl) (by kernel_rfl) (by kernel_rfl) (fun _ _ _ h => h) (Or.inl ⟨by rfl, ?_⟩) ?_; rotate_left; focus (intro w; go_simp; try with_reducible rfl)
        refine wpAny_take (i := 10) (v := ?_) rfl (by kernel_rfl) (by kernel_rfl) (by kernel_rfl) (fun _ _ _ h => h) (Or.inl ⟨by rfl, ?_⟩) ?_; rotate_left; focus (intro w; go_simp; try with_reducible rfl)
        refine wpAny_ready (rs := [4]) (by kernel_rfl) (by simp) ?_; refine AllReady.cons rfl (fun K hK => ?_) AllReady.nil
        go_simp; refine hK _ _ ?_; clear hK K
        refine wpAny_take (i := 11) (v := ?_) rfl (by kernel_rfl) (by kernel_rfl) (by kernel_rfl) (fun _ _ _ h => h) (Or.inl ⟨by rfl, ?_⟩) ?_; rotate_left; focus (intro w; go_simp; try with_reducible rfl)
        refine wpAny_take (i := 12) (v := ?_) rfl (by kernel_rfl) (by kernel_rfl) (by kernel_rfl) (fun _ _ _ h => h) (Or.inl ⟨by rfl, ?_⟩) ?_; rotate_left; focus (intro w; go_simp; try with_reducible rfl)
        refine wpAny_take (i := 13) (v := ?_) rfl (by kernel_rfl) (by kernel_rfl) (by kernel_rfl) (fun _ _ _ h => h) (Or.inl ⟨by rfl, ?_⟩) ?_; rotate_left; focus (intro w; go_simp; try with_reducible rfl)
        refine wpAny_ready (rs := [14]) (by kernel_rfl) (by simp) ?_; refine AllReady.cons rfl (fun K hK => ?_) AllReady.nil
        go_simp; refine hK _ _ ?_; clear hK K
        refine wpAny_done (by kernel_rfl) ?_ _
        go_wp2_with fail
        exact ⟨⟨L'.dropLast, FIN.out.1, fun f hf => HO.out f ((List.dropLast_sublist _).subset hf), HD.out, by rw [List.length_dropLast]; omega, FIN.out.2.1⟩, by show lenOfM g og ((World.drew wy).setCell ⟨g, og + 1, none⟩ (.slice ad n cap)) < lenOfM g og wr; rw [FIN.out.2.2, HLEN.out]; omega⟩
    · have HD := hide (HR'.out.trans (shr_stop (by rw [HSM.out]; exact hgt0)))
      go_wp2_with fail
      refine bodyPost_end (v := .tuple #[]) (by simp [results, Tryz.results190, go_sem]) rfl ?_
      exact ⟨rfl, by rw [HD.out]; exact ⟨⟨ad, cap, HROW.out, HOWN.out, HAP.out, HBK.out⟩⟩, HT.out⟩
set_option maxHeartbeats 4000000 in
theorem noteM (g og : Nat) (ty : TypeId) (A C : List Value) (okb : Nat → Prop) (room : Int) (L : List Fd) (f : Fd) (w : World) (h : TabM w g ty A C og okb room L) (hok : ∀ f ∈ L, okF f = true) (hf : okF f = true) (hroom : 0 ≤ room) (hL : L.length ≤ 190) (hokb : ∀ k, w.heap.size ≤ k → okb k) :
    Calls Tryz.prog 153 #[.pointer (some ⟨g, og, none⟩), .agg #[.string f.n, .string f.v]] w fun x w' => x = .returned (.tuple #[]) ∧ TabM w' g ty A C og okb room (shr room (f :: L)) ∧ Turn g (g + 1) w w' := by
  obtain ⟨ad, cap, hrow, hown, _, _⟩ := h.ex
  have HALL : Hid (∀ u ∈ f :: L, okF u = true) := fun u hu => by rcases List.mem_cons.1 hu with rfl | hu; exact hf; exact hok u hu
  obtain ⟨R, hR⟩ : ∃ R, R = shr room (f :: L) := ⟨_, rfl⟩
  have hgl := hrow.lt
  have HROW0 := hide hrow; have HOWN0 := hide hown
  clear h hrow hown hok
  go_enter Tryz.func153, Tryz.ntmps153
  go_wp2_with fail
  generalize hV : w.alloc (.cells #[.string f.n, .string f.v] 146) = V
  have hbV : Below w.heap.size w V := by rw [← hV]; exact (Below.refl _ _).alloc (Nat.le_refl _) _
  have x0 : V.cell? ⟨w.heap.size, 0, none⟩ = some (.string f.n) := by rw [← hV]; simp
  have x1 : V.cell? ⟨w.heap.size, 1, none⟩ = some (.string f.v) := by rw [← hV]; simp
  have hlV : w.heap.size < V.heap.size := by rw [← hV]; simp
  clear hV
  have HROW := hide (HROW0.out.new hbV)
  have HOWN := hide (owns_new HOWN0.out hbV)
  have y1 := HROW.out.cell (j := 1) rfl
  have hglV : g < V.heap.size := Nat.lt_of_lt_of_le hgl hbV.size
  have hbA : Below V.heap.size V ((World.drew V).alloc (.cells #[.string f.n, .string f.v] 146)) := bo_alloc (bo_drewN 1 (Below.refl _ _)) _
  have hoA := owns_two (World.drew V) 146 f
  have hrA := (reads_of_owns HOWN.out).new hbA
  refine wp_region_any (by kernel_rfl) ?_; change wpAny _ _ _ _ _ _ _ (World.drew _)
  refine wpAny_take (i := 0) (v := ?_) rfl (by kernel_rfl) (by kernel_rfl) (by kernel_rfl) (fun _ _ _ h => h) (Or.inl ⟨by rfl, ?_⟩) ?_; rotate_left; focus (intro w; go_simp; try with_reducible rfl)
  refine wpAny_take (i := 3) (v := ?_) rfl (by kernel_rfl) (by kernel_rfl) (by kernel_rfl) (fun _ _ _ h => h) (Or.inl ⟨by rfl, ?_⟩) ?_; rotate_left; focus (intro w; go_simp; try with_reducible rfl)
  refine wpAny_take (i := 4) (v := ?_) rfl (by kernel_rfl) (by kernel_rfl) (by kernel_rfl) (fun _ _ _ h => h) (Or.inl ⟨by rfl, ?_⟩) ?_; rotate_left; focus (intro w; go_simp; try with_reducible rfl)
  refine wpAny_take (i := 5) (v := ?_) rfl (by kernel_rfl) (by kernel_rfl) (by kernel_rfl) (fun _ _ _ h => h) (Or.inl ⟨by rfl, ?_⟩) ?_; rotate_left; focus (intro w; go_simp; try with_reducible rfl)
  refine wpAny_ready (rs := [1, 6]) (by kernel_rfl) (by simp) ?_; refine AllReady.cons rfl (fun K hK => ?_) (AllReady.cons rfl (fun K hK => ?_) AllReady.nil)
  · go_simp; refine hK _ _ ?_; clear hK K
    refine wpAny_ready (rs := [2, 6]) (by kernel_rfl) (by simp) ?_; refine AllReady.cons rfl (fun K hK => ?_) (AllReady.cons rfl (fun K hK => ?_) AllReady.nil)
    · go_simp; refine hK _ _ ?_; clear hK K
      refine wpAny_ready (rs := [6]) (by kernel_rfl) (by simp) ?_; refine AllReady.cons rfl (fun K hK => ?_) AllReady.nil
      go_simp; refine hK _ _ ?_; clear hK K
      refine wpAny_ready (rs := [7]) (by kernel_rfl) (by simp) ?_; refine AllReady.cons rfl (fun K hK => ?_) AllReady.nil
      refine step_app _ (by rfl) _ _ 38 (by rfl) 146 (.agg #[.string ⟨#[]⟩, .string ⟨#[]⟩]) 2 32 Tryz.underlying38 (by kernel_rfl) rfl (by decide) V.heap.size _ 1 (fv [f]) (by rfl) hoA _ L.length (fv L) (by rfl) hrA (fv_one _) (by omega) (by decide) hbA.size ?_
      intro ad5 cap5 w5 hown5 hgrow5 hat5
      have hb5 : Below V.heap.size V w5 := ⟨hgrow5.os.trans hbA.os, hgrow5.tape.trans hbA.tape, hgrow5.output.trans hbA.output, Nat.le_trans hbA.size hgrow5.size, fun k hk => (hgrow5.block k (Nat.lt_of_lt_of_le hk hbA.size) (fun e => absurd (show V.heap.size ≤ k from (hoA.lt k e.symm).1) (Nat.not_le_of_lt hk))).trans (hbA.block k hk)⟩
      refine hK _ _ ?_
      clear hK K hat5 hgrow5
      have hrow5 := HROW.out.new hb5
      have g0 := hrow5.cell (j := 1) rfl
      have g1 := hrow5.frozen (og + 1)
      have HROW5 := hide hrow5; have HOWN5 := hide hown5
      clear hrow5 hown5 x0 x1 y1
      refine wpAny_take (i := 8) (v := ?_) rfl (by kernel_rfl) (by kernel_rfl) (by kernel_rfl) (fun _ _ _ h => h) (Or.inl ⟨by rfl, ?_⟩) ?_; rotate_left; focus (intro w; go_simp; try with_reducible rfl)
      refine wpAny_take (i := 9) (v := ?_) rfl (by kernel_rfl) (by kernel_rfl) (by kernel_rfl) (fun _ _ _ h => h) (Or.inl ⟨by rfl, ?_⟩) ?_; rotate_left; focus (intro w; go_simp; try with_reducible rfl)
      refine wpAny_ready (rs := [10]) (by kernel_rfl) (by simp) ?_; refine AllReady.cons rfl (fun K hK => ?_) AllReady.nil
      go_simp; refine hK _ _ ?_; clear hK K
      refine wpAny_done (by kernel_rfl) ?_ _
      have hta : TabM (w5.setCell ⟨g, og + 1, none⟩ (.slice ad5 (1 + L.length) cap5)) g ty A C og okb room (f :: L) := by
        have e1 : (f :: L).length = 1 + L.length := by simp; omega
        refine ⟨⟨ad5, cap5, by rw [e1]; exact HROW5.out.set 1 _ (by simp), ?_, ?_, ?_⟩⟩
        · rw [e1, show fv (f :: L) = fv [f] ++ fv L from fv_app [f] L]
          exact owns_base (owns_apart HOWN5.out ⟨g, og + 1, none⟩ _ (fun hq => by have := (HOWN5.out.lt g hq).1; have := hbV.size; omega)) (fun q hq => Nat.zero_le _)
        · rw [e1]; exact fun hq => by have := (HOWN5.out.lt g hq).1; have := hbV.size; omega
        · rw [e1]; exact fun q hq => hokb q (by have := (HOWN5.out.lt q hq).1; have := hbV.size; omega)
      have ht5 : Turn g (g + 1) w (w5.setCell ⟨g, og + 1, none⟩ (.slice ad5 (1 + L.length) cap5)) := ((turn_new hbV g (g + 1)).trans (turn_new hb5 g (g + 1))).setCell (p := ⟨g, og + 1, none⟩) _ (.inl ⟨Nat.le_refl _, Nat.lt_succ_self _⟩)
      have HTA := hide hta; have HT5 := hide ht5
      clear hta ht5
      generalize w5.setCell ⟨g, og + 1, none⟩ (.slice ad5 (1 + L.length) cap5) = w6 at *
      go_wp2_with fail
      refine (shrinkM g og ty A C okb room (f :: L) _ HTA.out HALL.out hroom (by simp only [List.length_cons]; omega)).mono ?_; rintro x w7 ⟨rfl, hta7, ht7⟩
      have HTA7 := hide hta7
      clear hta7
      go_wp2_with fail
      refine bodyPost_end (v := .tuple #[]) (by simp [results, Tryz.results153, go_sem]) rfl ?_
      exact ⟨rfl, HTA7.out, HT5.out.trans ht7⟩
    · go_simp; refine hK _ _ ?_; clear hK K
      refine wpAny_ready (rs := [2]) (by kernel_rfl) (by simp) ?_; refine AllReady.cons rfl (fun K hK => ?_) AllReady.nil
      go_simp; refine hK _ _ ?_; clear hK K
      refine wpAny_ready (rs := [7]) (by kernel_rfl) (by simp) ?_; refine AllReady.cons rfl (fun K hK => ?_) AllReady.nil
      refine step_app _ (by rfl) _ _ 38 (by rfl) 146 (.agg #[.string ⟨#[]⟩, .string ⟨#[]⟩]) 2 32 Tryz.underlying38 (by kernel_rfl) rfl (by decide) V.heap.size _ 1 (fv [f]) (by rfl) hoA _ L.length (fv L) (by rfl) hrA (fv_one _) (by omega) (by decide) hbA.size ?_
      intro ad5 cap5 w5 hown5 hgrow5 hat5
      have hb5 : Below V.heap.size V w5 := ⟨hgrow5.os.trans hbA.os, hgrow5.tape.trans hbA.tape, hgrow5.output.trans hbA.output, Nat.le_trans hbA.size hgrow5.size, fun k hk => (hgrow5.block k (Nat.lt_of_lt_of_le hk hbA.size) (fun e => absurd (show V.heap.size ≤ k from (hoA.lt k e.symm).1) (Nat.not_le_of_lt hk))).trans (hbA.block k hk)⟩
      refine hK _ _ ?_
      clear hK K hat5 hgrow5
      have hrow5 := HROW.out.new hb5
      have g0 := hrow5.cell (j := 1) rfl
      have g1 := hrow5.frozen (og + 1)
      have HROW5 := hide hrow5; have HOWN5 := hide hown5
      clear hrow5 hown5 x0 x1 y1
      refine wpAny_take (i := 8) (v := ?_) rfl (by kernel_rfl) (by kernel_rfl) (by kernel_rfl) (fun _ _ _ h => h) (Or.inl ⟨by rfl, ?_⟩) ?_; rotate_left; focus (intro w; go_simp; try with_reducible rfl)
      refine wpAny_take (i := 9) (v := ?_) rfl (by kernel_rfl) (by kernel_rfl) (by kernel_rfl) (fun _ _ _ h => h) (Or.inl ⟨by rfl, ?_⟩) ?_; rotate_left; focus (intro w; go_simp; try with_reducible rfl)
      refine wpAny_ready (rs := [10]) (by kernel_rfl) (by simp) ?_; refine AllReady.cons rfl (fun K hK => ?_) AllReady.nil
      go_simp; refine hK _ _ ?_; clear hK K
      refine wpAny_done (by kernel_rfl) ?_ _
      have hta : TabM (w5.setCell ⟨g, og + 1, none⟩ (.slice ad5 (1 + L.length) cap5)) g ty A C og okb room (f :: L) := by
        have e1 : (f :: L).length = 1 + L.length := by simp; omega
        refine ⟨⟨ad5, cap5, by rw [e1]; exact HROW5.out.set 1 _ (by simp), ?_, ?_, ?_⟩⟩
        · rw [e1, show fv (f :: L) = fv [f] ++ fv L from fv_app [f] L]
          exact owns_base (owns_apart HOWN5.out ⟨g, og + 1, none⟩ _ (fun hq => by have := (HOWN5.out.lt g hq).1; have := hbV.size; omega)) (fun q hq => Nat.zero_le _)
        · rw [e1]; exact fun hq => by have := (HOWN5.out.lt g hq).1; have := hbV.size; omega
        · rw [e1]; exact fun q hq => hokb q (by have := (HOWN5.out.lt q hq).1; have := hbV.size; omega)
      have ht5 : Turn g (g + 1) w (w5.setCell ⟨g, og + 1, none⟩ (.slice ad5 (1 + L.length) cap5)) := ((turn_new hbV g (g + 1)).trans (turn_new hb5 g (g + 1))).setCell (p := ⟨g, og + 1, none⟩) _ (.inl ⟨Nat.le_refl _, Nat.lt_succ_self _⟩)
      have HTA := hide hta; have HT5 := hide ht5
      clear hta ht5
      generalize w5.setCell ⟨g, og + 1, none⟩ (.slice ad5 (1 + L.length) cap5) = w6 at *
      go_wp2_with fail
      refine (shrinkM g og ty A C okb room (f :: L) _ HTA.out HALL.out hroom (by simp only [List.length_cons]; omega)).mono ?_; rintro x w7 ⟨rfl, hta7, ht7⟩
      have HTA7 := hide hta7
      clear hta7
      go_wp2_with fail
      refine bodyPost_end (v := .tuple #[]) (by simp [results, Tryz.results153, go_sem]) rfl ?_
      exact ⟨rfl, HTA7.out, HT5.out.trans ht7⟩
  · go_simp; refine hK _ _ ?_; clear hK K
    refine wpAny_ready (rs := [1]) (by kernel_rfl) (by simp) ?_; refine AllReady.cons rfl (fun K hK => ?_) AllReady.nil
    go_simp; refine hK _ _ ?_; clear hK K
    refine wpAny_ready (rs := [2]) (by kernel_rfl) (by simp) ?_; refine AllReady.cons rfl (fun K hK => ?_) AllReady.nil
    go_simp; refine hK _ _ ?_; clear hK K
    refine wpAny_ready (rs := [7]) (by kernel_rfl) (by simp) ?_; refine AllReady.cons rfl (fun K hK => ?_) AllReady.nil
    refine step_app _ (by rfl) _ _ 38 (by rfl) 146 (.agg #[.string ⟨#[]⟩, .string ⟨#[]⟩]) 2 32 Tryz.underlying38 (by kernel_rfl) rfl (by decide) V.heap.size _ 1 (fv [f]) (by rfl) hoA _ L.length (fv L) (by rfl) hrA (fv_one _) (by omega) (by decide) hbA.size ?_
    intro ad5 cap5 w5 hown5 hgrow5 hat5
    have hb5 : Below V.heap.size V w5 := ⟨hgrow5.os.trans hbA.os, hgrow5.tape.trans hbA.tape, hgrow5.output.trans hbA.output, Nat.le_trans hbA.size hgrow5.size, fun k hk => (hgrow5.block k (Nat.lt_of_lt_of_le hk hbA.size) (fun e => absurd (show V.heap.size ≤ k from (hoA.lt k e.symm).1) (Nat.not_le_of_lt hk))).trans (hbA.block k hk)⟩
    refine hK _ _ ?_
    clear hK K hat5 hgrow5
    have hrow5 := HROW.out.new hb5
    have g0 := hrow5.cell (j := 1) rfl
    have g1 := hrow5.frozen (og + 1)
    have HROW5 := hide hrow5; have HOWN5 := hide hown5
    clear hrow5 hown5 x0 x1 y1
    refine wpAny_take (i := 8) (v := ?_) rfl (by kernel_rfl) (by kernel_rfl) (by kernel_rfl) (fun _ _ _ h => h) (Or.inl ⟨by rfl, ?_⟩) ?_; rotate_left; focus (intro w; go_simp; try with_reducible rfl)
    refine wpAny_take (i := 9) (v := ?_) rfl (by kernel_rfl) (by kernel_rfl) (by kernel_rfl) (fun _ _ _ h => h) (Or.inl ⟨by rfl, ?_⟩) ?_; rotate_left; focus (intro w; go_simp; try with_reducible rfl)
    refine wpAny_ready (rs := [10]) (by kernel_rfl) (by simp) ?_; refine AllReady.cons rfl (fun K hK => ?_) AllReady.nil
    go_simp; refine hK _ _ ?_; clear hK K
    refine wpAny_done (by kernel_rfl) ?_ _
    have hta : TabM (w5.setCell ⟨g, og + 1, none⟩ (.slice ad5 (1 + L.length) cap5)) g ty A C og okb room (f :: L) := by
      have e1 : (f :: L).length = 1 + L.length := by simp; omega
      refine ⟨⟨ad5, cap5, by rw [e1]; exact HROW5.out.set 1 _ (by simp), ?_, ?_, ?_⟩⟩
      · rw [e1, show fv (f :: L) = fv [f] ++ fv L from fv_app [f] L]
        exact owns_base (owns_apart HOWN5.out ⟨g, og + 1, none⟩ _ (fun hq => by have := (HOWN5.out.lt g hq).1; have := hbV.size; omega)) (fun q hq => Nat.zero_le _)
      · rw [e1]; exact fun hq => by have := (HOWN5.out.lt g hq).1; have := hbV.size; omega
      · rw [e1]; exact fun q hq => hokb q (by have := (HOWN5.out.lt q hq).1; have := hbV.size; omega)
    have ht5 : Turn g (g + 1) w (w5.setCell ⟨g, og + 1, none⟩ (.slice ad5 (1 + L.length) cap5)) := ((turn_new hbV g (g + 1)).trans (turn_new hb5 g (g + 1))).setCell (p := ⟨g, og + 1, none⟩) _ (.inl ⟨Nat.le_refl _, Nat.lt_succ_self _⟩)
    have HTA := hide hta; have HT5 := hide ht5
    clear hta ht5
    generalize w5.setCell ⟨g, og + 1, none⟩ (.slice ad5 (1 + L.length) cap5) = w6 at *
    go_wp2_with fail
    refine (shrinkM g og ty A C okb room (f :: L) _ HTA.out HALL.out hroom (by simp only [List.length_cons]; omega)).mono ?_; rintro x w7 ⟨rfl, hta7, ht7⟩
    have HTA7 := hide hta7
    clear hta7
    go_wp2_with fail
    refine bodyPost_end (v := .tuple #[]) (by simp [results, Tryz.results153, go_sem]) rfl ?_
    exact ⟨rfl, HTA7.out, HT5.out.trans ht7⟩
end Go.Proofs.YtllaeakeaabiaaaGreat
/- The program's registry, its small words: odd numbers, entries, which ones are kept, whether they rise, where one is. -/
namespace Go.Proofs.YtllaeakeaabiaaaGreat
open Go.RowKit
set_option maxRecDepth 100000
set_option linter.unusedSimpArgs false
set_option linter.unusedVariables false
def oddTo (x m : Int) : Bool := decide (1 ≤ x ∧ x ≤ m ∧ x % 2 = 1)
theorem implOdd (x m : Int) (w : World) : Calls Tryz.prog 194 #[.int .i64 x, .int .i64 m] w fun e w' => e = .returned (.bool (oddTo x m)) ∧ w' = w := by
  cases h : inB x 1 m
  · have hv : oddTo x m = false := by unfold oddTo; refine decide_eq_false fun c => ?_; exact inB_false h ⟨c.1, c.2.1⟩
    rw [hv]
    go_enter Tryz.func194, Tryz.ntmps194
    go_wp2_with fail
    refine (implWithin _ _ _ _).mono ?_; rw [h]; rintro e w1 ⟨rfl, hsame⟩; obtain rfl := hsame.symm; clear hsame
    go_wp2_with fail
    go_ret
    exact ⟨rfl, rfl⟩
  · obtain ⟨h0, h1⟩ := inB_true h
    have ht : x.tmod 2 = x % 2 := Int.tmod_eq_emod_of_nonneg (by omega)
    have hv : oddTo x m = decide (x % 2 = 1) := by unfold oddTo; congr 1; exact propext ⟨fun c => c.2.2, fun c => ⟨h0, h1, c⟩⟩
    rw [hv]
    go_enter Tryz.func194, Tryz.ntmps194
    go_wp2_with fail
    refine (implWithin _ _ _ _).mono ?_; rw [h]; rintro e w1 ⟨rfl, hsame⟩; obtain rfl := hsame.symm; clear hsame
    go_wp2_with fail
    go_ret
    exact ⟨by rfl, rfl⟩
theorem implId (x : Int) (w : World) : Calls Tryz.prog 194 #[.int .i64 x, .int .i64 100000] w fun e w' => e = .returned (.bool (idB x)) ∧ w' = w := implOdd x 100000 w
def liB (e : EntryD) : Bool := !decide (e.state = 4)
def rtB (e : EntryD) : Bool := idB e.id && inB e.state 1 4
theorem implELive (e : EntryD) (w : World) : Calls Tryz.prog 225 #[.agg #[.int .i64 e.id, .int .i64 e.state]] w fun x w' => x = .returned (.bool (liB e)) ∧ Below w.heap.size w w' := by
  by_cases h : e.state = 4
  · have hv : liB e = false := by unfold liB; simp [h]
    rw [hv, h]
    go_enter Tryz.func225, Tryz.ntmps225
    go_wp2_with fail
    go_ret
    exact ⟨rfl, (by repeat' (first | (with_reducible exact Below.refl _ _) | (with_reducible refine Below.drew ?_) | (with_reducible refine bo_drewN _ ?_) | (with_reducible refine bo_alloc ?_ _) | (refine bchain ?_ (by with_reducible assumption)) | (with_reducible refine Below.setCell ?_ ?_ _) | go_size))⟩
  · have hv : liB e = true := by unfold liB; simp [h]
    rw [hv]
    have h4 : (e.state != 4) = true := by simpa using h
    clear h hv
    go_enter Tryz.func225, Tryz.ntmps225
    go_wp2_with fail
    go_ret
    exact ⟨rfl, (by repeat' (first | (with_reducible exact Below.refl _ _) | (with_reducible refine Below.drew ?_) | (with_reducible refine bo_drewN _ ?_) | (with_reducible refine bo_alloc ?_ _) | (refine bchain ?_ (by with_reducible assumption)) | (with_reducible refine Below.setCell ?_ ?_ _) | go_size))⟩
theorem implERight (e : EntryD) (w : World) : Calls Tryz.prog 195 #[.agg #[.int .i64 e.id, .int .i64 e.state]] w fun x w' => x = .returned (.bool (rtB e)) ∧ Below w.heap.size w w' := by
  cases h : idB e.id
  · have hv : rtB e = false := by unfold rtB; rw [h]; rfl
    rw [hv]
    go_enter Tryz.func195, Tryz.ntmps195
    go_wp2_with fail
    refine (implId _ _).mono ?_; rw [h]; rintro e w1 ⟨rfl, hsame⟩; obtain rfl := hsame.symm; clear hsame
    go_wp2_with fail
    go_ret
    exact ⟨rfl, (by repeat' (first | (with_reducible exact Below.refl _ _) | (with_reducible refine Below.drew ?_) | (with_reducible refine bo_drewN _ ?_) | (with_reducible refine bo_alloc ?_ _) | (refine bchain ?_ (by with_reducible assumption)) | (with_reducible refine Below.setCell ?_ ?_ _) | go_size))⟩
  · have hv : rtB e = inB e.state 1 4 := by unfold rtB; rw [h]; rfl
    rw [hv]
    go_enter Tryz.func195, Tryz.ntmps195
    go_wp2_with fail
    refine (implId _ _).mono ?_; rw [h]; rintro e w1 ⟨rfl, hsame⟩; obtain rfl := hsame.symm; clear hsame
    go_wp2_with fail
    refine (implWithin _ _ _ _).mono ?_; rintro e w1 ⟨rfl, hsame⟩; obtain rfl := hsame.symm; clear hsame
    go_wp2_with fail
    go_ret
    exact ⟨rfl, (by repeat' (first | (with_reducible exact Below.refl _ _) | (with_reducible refine Below.drew ?_) | (with_reducible refine bo_drewN _ ?_) | (with_reducible refine bo_alloc ?_ _) | (refine bchain ?_ (by with_reducible assumption)) | (with_reducible refine Below.setCell ?_ ?_ _) | go_size))⟩
theorem implReaches (l t : Int) (v : Value) (e : EntryD) (w : World) (hv : ∃ ad n cap, v = .slice ad n cap) : Calls Tryz.prog 196 #[.agg #[.int .i64 l, .int .i64 t, v], .agg #[.int .i64 e.id, .int .i64 e.state]] w fun x w' => x = .returned (.bool (decide (e.id ≤ t))) ∧ Below w.heap.size w w' := by
  obtain ⟨ad, n, cap, rfl⟩ := hv
  go_enter Tryz.func196, Tryz.ntmps196
  go_wp2_with fail
  go_ret
  exact ⟨rfl, (by repeat' (first | (with_reducible exact Below.refl _ _) | (with_reducible refine Below.drew ?_) | (with_reducible refine bo_drewN _ ?_) | (with_reducible refine bo_alloc ?_ _) | (refine bchain ?_ (by with_reducible assumption)) | (with_reducible refine Below.setCell ?_ ?_ _) | go_size))⟩
theorem implBelow (a b : EntryD) (w : World) : Calls Tryz.prog 198 #[.agg #[.int .i64 a.id, .int .i64 a.state], .agg #[.int .i64 b.id, .int .i64 b.state]] w fun x w' => x = .returned (.bool (decide (a.id < b.id))) ∧ Below w.heap.size w w' := by
  go_enter Tryz.func198, Tryz.ntmps198
  go_wp2_with fail
  go_ret
  exact ⟨rfl, (by repeat' (first | (with_reducible exact Below.refl _ _) | (with_reducible refine Below.drew ?_) | (with_reducible refine bo_drewN _ ?_) | (with_reducible refine bo_alloc ?_ _) | (refine bchain ?_ (by with_reducible assumption)) | (with_reducible refine Below.setCell ?_ ?_ _) | go_size))⟩
theorem implList (d : RegistryD) (v : Value) (w : World) (hr : RdR entryS w v d.es) : Calls Tryz.prog 163 #[.agg #[.int .i64 d.lim, .int .i64 d.top, v]] w fun x w' => x = .returned v ∧ Below w.heap.size w w' := by
  obtain ⟨ad, cap, rfl, h1, h2⟩ := hr.form
  go_enter Tryz.func163, Tryz.ntmps163
  go_wp2_with fail
  go_ret
  exact ⟨rfl, (by repeat' (first | (with_reducible exact Below.refl _ _) | (with_reducible refine Below.drew ?_) | (with_reducible refine bo_drewN _ ?_) | (with_reducible refine bo_alloc ?_ _) | (refine bchain ?_ (by with_reducible assumption)) | (with_reducible refine Below.setCell ?_ ?_ _) | go_size))⟩
/-- What may be wanted of an entry: that it is live, that it is right, that some Registry's Top reaches it. -/
abbrev Wn := Bool ⊕ (Int × Int × Option Addr × Nat × Nat)
def wnV : Wn → Value
  | .inl false => .func (.func 225) #[] #[]
  | .inl true => .func (.func 195) #[] #[]
  | .inr (l, t, a, n, c) => .func (.func 196) #[.agg #[.int .i64 l, .int .i64 t, .slice a n c]] #[]
def wnP : Wn → EntryD → Bool
  | .inl false, e => liB e
  | .inl true, e => rtB e
  | .inr (_, t, _), e => decide (e.id ≤ t)
theorem wn_one (ws : List Wn) : ∀ u ∈ ws.map wnV, u.oneCell' = true := by
  intro u hu
  obtain ⟨x, _, rfl⟩ := List.mem_map.1 hu
  rcases x with (_ | _) | ⟨l, t, a, n, c⟩ <;> rfl
def keep (ws : List Wn) (L : List EntryD) : List EntryD := L.filter fun e => ws.all fun x => wnP x e
theorem keep_yes {ws : List Wn} {L : List EntryD} {k : Nat} (hk : k < L.length) (h : (ws.all fun x => wnP x L[k]) = true) : keep ws (L.take (k + 1)) = keep ws (L.take k) ++ [L[k]] := by
  unfold keep
  rw [List.take_add_one, List.filter_append, List.getElem?_eq_getElem hk]
  simp only [Option.toList]
  rw [List.filter_cons_of_pos (p := fun e => ws.all fun x => wnP x e) h]; rfl
theorem keep_no {ws : List Wn} {L : List EntryD} {k : Nat} (hk : k < L.length) (h : (ws.all fun x => wnP x L[k]) = false) : keep ws (L.take (k + 1)) = keep ws (L.take k) := by
  unfold keep
  rw [List.take_add_one, List.filter_append, List.getElem?_eq_getElem hk]
  simp only [Option.toList]
  rw [List.filter_cons_of_neg (p := fun e => ws.all fun x => wnP x e) (by rw [h]; simp)]; simp
theorem keep_len (ws : List Wn) (L : List EntryD) : (keep ws L).length ≤ L.length := List.length_filter_le _ _
set_option maxHeartbeats 4000000 in
theorem implOnly (L : List EntryD) (ws : List Wn) (v : Value) (fa : Option Addr) (fc : Nat) (w : World) (hr : RdR entryS w v L) (hf : Reads w (.slice fa ws.length fc) ws.length 1 (ws.map wnV)) (hL : L.length ≤ 60) (hW : ws.length ≤ 5) :
    Calls Tryz.prog 164 #[v, .slice fa ws.length fc] w fun x w' => ∃ v', x = .returned v' ∧ w'.ownsRow w.heap.size 103 2 v' (keep ws L).length (ev (keep ws L)) ∧ Below w.heap.size w w' := by
  obtain ⟨ad, cap, rfl, h1, h2⟩ := hr.form
  have HR := hide hr
  have HF := hide hf
  clear hr hf
  go_enter Tryz.func164, Tryz.ntmps164
  go_wp2_with fail
  go_step3
  go_wp2_with fail
  go_step3
  go_wp2_with fail
  go_loopg [5, 12] L.length (fun g s i wr => ∃ (k : Nat) (a : Option Addr) (p : Nat) (M : List EntryD), k + g = L.length ∧ i = .int .i64 k ∧ s = .slice a M.length p ∧ Hid (keep ws (L.take k) = M) ∧ Hid (wr.ownsRow w.heap.size 103 2 (.slice a M.length p) M.length (ev M)) ∧ Hid (Below w.heap.size w wr))
  case atStart => exact ⟨0, none, 0, [], by omega, rfl, rfl, rfl, World.ownsRow_nil w w.heap.size 103 2, Below.refl _ _⟩
  case round =>
    obtain ⟨k, a, p, M, hkg, rfl, rfl, HM, HO, HB⟩ := hrel
    cases gk with
    | zero =>
      have hkz : ¬ ((k : Int) < (L.length : Int)) := by omega
      have HMM : Hid (M = keep ws L) := by show M = _; rw [← HM.out, List.take_of_length_le (by omega)]
      clear hkg
      go_wp2_with fail
      try rw [Exit.noGoto_ret]
      go_ret
      have := HMM.out
      subst this
      exact ⟨_, rfl, HO.out, HB.out⟩
    | succ go1 =>
      have hlt : k < L.length := by omega
      obtain ⟨b, o, cs, rfl, hbw, rfl, hc⟩ := (HR.out.new HB.out).at k hlt
      have c0 : wr.cell? ⟨b, o + k * 2, none⟩ = some (.int .i64 L[k].id) := hc 0 _ rfl
      have c1 : wr.cell? ⟨b, o + k * 2 + 1, none⟩ = some (.int .i64 L[k].state) := hc 1 _ rfl
      clear hc
      obtain ⟨e, he⟩ : ∃ e, L[k] = e := ⟨_, rfl⟩
      rw [he] at c0 c1
      have HY : Hid ((ws.all fun x => wnP x e) = true → keep ws (L.take (k + 1)) = M ++ [e]) := by rw [← he, ← HM.out]; exact keep_yes hlt
      have HN : Hid ((ws.all fun x => wnP x e) = false → keep ws (L.take (k + 1)) = M) := by rw [← he, ← HM.out]; exact keep_no hlt
      have hkl : M.length ≤ k := by have := keep_len ws (L.take k); rw [List.length_take, HM.out] at this; omega
      clear he HM
      go_upto_region 5 with fail
      have hbe : Below wr.heap.size wr (wr.alloc (.cells #[.int .i64 e.id, .int .i64 e.state] 103)) := (Below.refl _ _).alloc (Nat.le_refl _) _
      have HE : Hid (RowIs (wr.alloc (.cells #[.int .i64 e.id, .int .i64 e.state] 103)) wr.heap.size 103 [.int .i64 e.id, .int .i64 e.state]) := rowIs_new wr 103 [.int .i64 e.id, .int .i64 e.state]
      generalize wr.alloc (.cells #[.int .i64 e.id, .int .i64 e.state] 103) = X at *
      have HOX := hide (owns_new HO.out hbe)
      have HBX := hide (bchain HB.out hbe)
      have hne : (Value.slice a M.length p).ownBlock ≠ some wr.heap.size := fun hq => by have := (HO.out.lt _ hq).2; omega
      have HNE := hide hne
      have HGB : Hid (w.heap.size ≤ wr.heap.size) := HB.out.size
      generalize wr.heap.size = go at *
      clear c0 c1 hbe HO hne HB
      go_wp2_with fail
      go_loopg [18] ws.length (fun g i wi => ∃ (j : Nat), j + g = ws.length ∧ i = .int .i64 j ∧ Hid (∀ x ∈ ws.take j, wnP x e = true) ∧ Hid (RowIs wi go 103 [.int .i64 e.id, .int .i64 e.state]) ∧ Hid (wi.ownsRow w.heap.size 103 2 (.slice a M.length p) M.length (ev M)) ∧ Hid (Below w.heap.size w wi))
      case atStart => exact ⟨0, by omega, rfl, by show ∀ x ∈ ws.take 0, _; simp, HE, HOX, HBX⟩
      case round =>
        clear HE HOX HBX
        obtain ⟨j, hjg, rfl, HA, HE, HO, HB⟩ := hrel
        have hlE := HE.out.lt
        have e0 := HE.out.cell (j := 0) rfl
        have e1 := HE.out.cell (j := 1) rfl
        cases gk with
        | zero =>
          have hjz : ¬ ((j : Int) < (ws.length : Int)) := by omega
          have HQ : Hid ((ws.all fun x => wnP x e) = true) := by
            show _ = true
            refine List.all_eq_true.2 fun x hx => HA.out x ?_
            rw [List.take_of_length_le (by omega)]; exact hx
          have HM2 := hide (HY.out HQ.out)
          clear hjg
          have hX : Below wr.heap.size wr (wr.alloc (.cells #[.int .i64 e.id, .int .i64 e.state] 103)) := (Below.refl _ _).alloc (Nat.le_refl _) _
          have hownX := owns_new HO.out hX
          have hRd : Reads (wr.alloc (.cells #[.int .i64 e.id, .int .i64 e.state] 103)) (.slice (some ⟨wr.heap.size, 0, none⟩) 1 1) 1 2 (ev [e]) := reads_of_owns (owns_lit wr 103 2 1 #[.int .i64 e.id, .int .i64 e.state] rfl (by omega))
          have HBX := hide (bchain HB.out hX)
          have hbs := HBX.out.size
          go_wp2_with (at_builtin; refine wpList_app _ (by rfl) _ _ 202 (by rfl) 103 (.agg #[.int .i64 0, .int .i64 0]) 2 16 Tryz.underlying202 (by kernel_rfl) rfl (by decide) w.heap.size _ M.length (ev M) (by rfl) hownX _ 1 (ev [e]) (by rfl) hRd (ev_one _) (by omega) (by decide) hbs ?_)
          intro ad7 cap7 w7 hown7 hg7 hat7
          have HB7 : Hid (Below w.heap.size w w7) := by
            have hb := HBX.out
            exact ⟨hg7.os.trans hb.os, hg7.tape.trans hb.tape, hg7.output.trans hb.output, Nat.le_trans hb.size hg7.size, fun k hk => (hg7.block k (by have := hb.size; omega) (fun e => by have := (hownX.lt k e.symm).1; omega)).trans (hb.block k hk)⟩
          have HO7 : Hid (w7.ownsRow w.heap.size 103 2 (.slice ad7 (M ++ [e]).length cap7) (M ++ [e]).length (ev (M ++ [e]))) := by
            show World.ownsRow _ _ _ _ _ _ _
            have := hown7
            rw [← ev_app] at this
            simpa using this
          clear hown7 hg7 hat7 hownX hRd hX hbs
          go_wp2_with fail
          go_roundg go1
          case measure => omega
          case rel => exact ⟨k + 1, ad7, cap7, M ++ [e], by omega, by go_num, by simp, HM2, HO7, HB7⟩
        | succ gj =>
          have hj : j < ws.length := by omega
          obtain ⟨_, fa', fc', hfe, _, _, hf4⟩ := HF.out.new HB.out
          obtain ⟨fb, fo, hfa, hfb, hfc⟩ := hf4 (by omega)
          simp only [Value.slice.injEq] at hfe
          obtain ⟨rfl, -, rfl⟩ := hfe
          subst hfa
          obtain ⟨x, hxj⟩ : ∃ x, ws[j] = x := ⟨_, rfl⟩
          have hcx : wr.cell? ⟨fb, fo + j, none⟩ = some (wnV x) := hfc j _ (by rw [List.getElem?_map, List.getElem?_eq_getElem hj, hxj]; rfl)
          clear hfc hf4
          rcases x with (_ | _) | ⟨l, t, xa, xn, xc⟩
          · simp only [wnV] at hcx
            go_wp2_with fail
            refine (implELive e _).mono ?_; rintro z w5 ⟨rfl, hb5⟩
            replace HE := hide (HE.out.new hb5)
            replace HO := hide (owns_new HO.out hb5)
            replace HB := hide (bchain HB.out hb5)
            clear hb5 e0 e1 hcx
            cases hq : wnP (.inl false) e
            · have HQ : Hid ((ws.all fun x => wnP x e) = false) := by
                show _ = false
                refine List.all_eq_false.2 ⟨ws[j], List.getElem_mem hj, ?_⟩
                rw [hxj, hq]; simp
              have HM2 := hide (HN.out HQ.out)
              change liB e = _ at hq
              rw [hq]
              clear hxj hq
              go_wp2_with fail
              go_roundg go1
              case measure => omega
              case rel => exact ⟨k + 1, a, p, M, by omega, by go_num, rfl, HM2, HO, HB⟩
            · have HA2 : Hid (∀ x ∈ ws.take (j + 1), wnP x e = true) := by
                show ∀ x ∈ _, _
                intro x hx
                rw [List.take_add_one, List.getElem?_eq_getElem hj, hxj] at hx
                rcases List.mem_append.1 hx with hx | hx
                · exact HA.out x hx
                · simp at hx; subst hx; exact hq
              change liB e = _ at hq
              rw [hq]
              clear hxj hq
              go_wp2_with fail
              go_roundg gj
              case measure => omega
              case rel => exact ⟨j + 1, by omega, by go_num, HA2, HE, HO, HB⟩
          · simp only [wnV] at hcx
            go_wp2_with fail
            refine (implERight e _).mono ?_; rintro z w5 ⟨rfl, hb5⟩
            replace HE := hide (HE.out.new hb5)
            replace HO := hide (owns_new HO.out hb5)
            replace HB := hide (bchain HB.out hb5)
            clear hb5 e0 e1 hcx
            cases hq : wnP (.inl true) e
            · have HQ : Hid ((ws.all fun x => wnP x e) = false) := by
                show _ = false
                refine List.all_eq_false.2 ⟨ws[j], List.getElem_mem hj, ?_⟩
                rw [hxj, hq]; simp
              have HM2 := hide (HN.out HQ.out)
              change rtB e = _ at hq
              rw [hq]
              clear hxj hq
              go_wp2_with fail
              go_roundg go1
              case measure => omega
              case rel => exact ⟨k + 1, a, p, M, by omega, by go_num, rfl, HM2, HO, HB⟩
            · have HA2 : Hid (∀ x ∈ ws.take (j + 1), wnP x e = true) := by
                show ∀ x ∈ _, _
                intro x hx
                rw [List.take_add_one, List.getElem?_eq_getElem hj, hxj] at hx
                rcases List.mem_append.1 hx with hx | hx
                · exact HA.out x hx
                · simp at hx; subst hx; exact hq
              change rtB e = _ at hq
              rw [hq]
              clear hxj hq
              go_wp2_with fail
              go_roundg gj
              case measure => omega
              case rel => exact ⟨j + 1, by omega, by go_num, HA2, HE, HO, HB⟩
          · simp only [wnV] at hcx
            go_wp2_with fail
            refine (implReaches l t (.slice xa xn xc) e _ ⟨_, _, _, rfl⟩).mono ?_; rintro z w5 ⟨rfl, hb5⟩
            replace HE := hide (HE.out.new hb5)
            replace HO := hide (owns_new HO.out hb5)
            replace HB := hide (bchain HB.out hb5)
            clear hb5 e0 e1 hcx
            cases hq : wnP (.inr (l, t, xa, xn, xc)) e
            · have HQ : Hid ((ws.all fun x => wnP x e) = false) := by
                show _ = false
                refine List.all_eq_false.2 ⟨ws[j], List.getElem_mem hj, ?_⟩
                rw [hxj, hq]; simp
              have HM2 := hide (HN.out HQ.out)
              change decide (e.id ≤ t) = _ at hq
              rw [hq]
              clear hxj hq
              go_wp2_with fail
              go_roundg go1
              case measure => omega
              case rel => exact ⟨k + 1, a, p, M, by omega, by go_num, rfl, HM2, HO, HB⟩
            · have HA2 : Hid (∀ x ∈ ws.take (j + 1), wnP x e = true) := by
                show ∀ x ∈ _, _
                intro x hx
                rw [List.take_add_one, List.getElem?_eq_getElem hj, hxj] at hx
                rcases List.mem_append.1 hx with hx | hx
                · exact HA.out x hx
                · simp at hx; subst hx; exact hq
              change decide (e.id ≤ t) = _ at hq
              rw [hq]
              clear hxj hq
              go_wp2_with fail
              go_roundg gj
              case measure => omega
              case rel => exact ⟨j + 1, by omega, by go_num, HA2, HE, HO, HB⟩
end Go.Proofs.YtllaeakeaabiaaaGreat
/- Chapter 10's model: Opened, Happened, Swept. -/
namespace Go.Proofs.YtllaeakeaabiaaaGreat
open Go.RowKit
set_option maxRecDepth 100000
set_option linter.unusedSimpArgs false
set_option linter.unusedVariables false
end Go.Proofs.YtllaeakeaabiaaaGreat
