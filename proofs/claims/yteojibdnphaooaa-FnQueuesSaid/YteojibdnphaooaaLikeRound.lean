/- Two Rounds of the same data are alike: the law's own comparing. -/
import Derived.Test.YteojibdnphaooaaTurnSpec1
import Derived.Test.YteojibdnphaooaaLikeInts

namespace Go.Proofs.Yteojibdnphaooaa
open Go.RowKit
set_option maxRecDepth 100000
set_option linter.unusedSimpArgs false
set_option linter.unusedVariables false
theorem ints_reads {w : World} {v : Value} {L : List Int} (h : RdR intS w v L) : Reads w v L.length 1 (iv L) := by
  obtain ⟨ts, rfl, hr, hE⟩ := h
  have e : ts.flatMap (·.1) = iv (ts.map (·.2)) := by
    clear hr
    induction ts with
    | nil => rfl
    | cons t ts ih =>
      have h1 : t.1 = [.int .i64 t.2] := hE t (by simp)
      simp only [List.flatMap_cons, h1, ih (fun x hx => hE x (by simp [hx]))]
      rfl
  rw [e] at hr
  rw [List.length_map]; exact hr
set_option maxRecDepth 100000 in
set_option maxHeartbeats 4000000 in
theorem likeRound1 (d : RoundD) (v v' : Value) (w : World) (hr0 : RdR lineS w v d.ls) (hr1 : RdR lineS w v' d.ls) :
    Calls Try.prog 13 #[.agg #[.int .i64 d.turn, .bool d.given, v], .agg #[.int .i64 d.turn, .bool d.given, v']] w fun x w' => x = .returned (.bool true) ∧ Below w.heap.size w w' := by
  obtain ⟨ad, cap, rfl, h1, h2⟩ := hr0.form
  obtain ⟨ad', cap', rfl, h1', h2'⟩ := hr1.form
  have HR := hide hr0; have HR' := hide hr1
  clear hr0 hr1
  go_enter Try.func13, Try.ntmps13
  go_wp2_with fail
  generalize hV : (w.alloc (.cells #[.int .i64 d.turn, .bool d.given, .slice ad d.ls.length cap] 26)).alloc (.cells #[.int .i64 d.turn, .bool d.given, .slice ad' d.ls.length cap'] 26) = V
  have hbV : Below w.heap.size w V := by rw [← hV]; exact bo_alloc ((Below.refl _ _).alloc (Nat.le_refl _) _) _
  have HA : Hid (RowIs V w.heap.size 26 [.int .i64 d.turn, .bool d.given, .slice ad d.ls.length cap]) := by show RowIs _ _ _ _; rw [← hV]; exact (rowIs_new w 26 [.int .i64 d.turn, .bool d.given, .slice ad d.ls.length cap]).alloc _
  have HB : Hid (RowIs V (w.heap.size + 1) 26 [.int .i64 d.turn, .bool d.given, .slice ad' d.ls.length cap']) := by show RowIs _ _ _ _; rw [← hV]; simpa using rowIs_new (w.alloc (.cells #[.int .i64 d.turn, .bool d.given, .slice ad d.ls.length cap] 26)) 26 [.int .i64 d.turn, .bool d.given, .slice ad' d.ls.length cap']
  clear hV
  have a0 := HA.out.cell (j := 0) rfl
  have a1 := HA.out.cell (j := 1) rfl
  have a2 := HA.out.cell (j := 2) rfl
  have b0 := HB.out.cell (j := 0) rfl
  have b1 := HB.out.cell (j := 1) rfl
  have b2 := HB.out.cell (j := 2) rfl
  have hlB := HB.out.lt
  have hgg : (d.given != d.given) = false := by simp
  go_wp2_with fail
  clear a0 a1 a2 b0 b1 b2 hlB hgg
  go_loopw [5] (fun i wr => ∃ (k : Nat), i = .int .i64 k ∧ k ≤ d.ls.length ∧ Hid (Below V.heap.size V wr)) (fun i _ => d.ls.length - (intOf i).toNat)
  case atStart => exact ⟨0, rfl, Nat.zero_le _, Below.refl _ _⟩
  case round =>
    obtain ⟨k, rfl, hk, HBV⟩ := hrel
    have a2 := (HA.out.new HBV.out).cell (j := 2) rfl
    have b2 := (HB.out.new HBV.out).cell (j := 2) rfl
    have hlA := (HA.out.new HBV.out).lt
    have hlB := (HB.out.new HBV.out).lt
    by_cases hlt : k < d.ls.length
    · obtain ⟨b, o, cs, rfl, hb1, ⟨vz, rfl, hz⟩, hc⟩ := ((HR.out.new hbV).new HBV.out).at k hlt
      obtain ⟨b', o', cs', rfl, hb2, ⟨vz', rfl, hz'⟩, hc'⟩ := ((HR'.out.new hbV).new HBV.out).at k hlt
      obtain ⟨az, pz, rfl, _, _⟩ := hz.form
      obtain ⟨az', pz', rfl, _, _⟩ := hz'.form
      have c0 : wr.cell? ⟨b, o + k * 3, none⟩ = some (.int .i64 d.ls[k].wt) := hc 0 _ rfl
      have c1 : wr.cell? ⟨b, o + k * 3 + 1, none⟩ = some (.int .i64 d.ls[k].left) := hc 1 _ rfl
      have c2 : wr.cell? ⟨b, o + k * 3 + 2, none⟩ = some (.slice az d.ls[k].sz.length pz) := hc 2 _ rfl
      have e0 : wr.cell? ⟨b', o' + k * 3, none⟩ = some (.int .i64 d.ls[k].wt) := hc' 0 _ rfl
      have e1 : wr.cell? ⟨b', o' + k * 3 + 1, none⟩ = some (.int .i64 d.ls[k].left) := hc' 1 _ rfl
      have e2 : wr.cell? ⟨b', o' + k * 3 + 2, none⟩ = some (.slice az' d.ls[k].sz.length pz') := hc' 2 _ rfl
      clear hc hc'
      obtain ⟨x, hx⟩ : ∃ x, d.ls[k] = x := ⟨_, rfl⟩
      rw [hx] at c0 c1 c2 e0 e1 e2 hz hz'
      clear hx
      have hkI : (k : Int) < d.ls.length := by omega
      have q0 : ∀ y : Later wr, y.w.cell? ⟨b, o + k * 3, none⟩ = some (.int .i64 x.wt) := fun y => (y.b.cell (p := ⟨b, o + k * 3, none⟩) hb1).trans c0
      have q1 : ∀ y : Later wr, y.w.cell? ⟨b, o + k * 3 + 1, none⟩ = some (.int .i64 x.left) := fun y => (y.b.cell (p := ⟨b, o + k * 3 + 1, none⟩) hb1).trans c1
      have q2 : ∀ y : Later wr, y.w.cell? ⟨b, o + k * 3 + 2, none⟩ = some (.slice az x.sz.length pz) := fun y => (y.b.cell (p := ⟨b, o + k * 3 + 2, none⟩) hb1).trans c2
      have s0 : ∀ y : Later wr, y.w.cell? ⟨b', o' + k * 3, none⟩ = some (.int .i64 x.wt) := fun y => (y.b.cell (p := ⟨b', o' + k * 3, none⟩) hb2).trans e0
      have s1 : ∀ y : Later wr, y.w.cell? ⟨b', o' + k * 3 + 1, none⟩ = some (.int .i64 x.left) := fun y => (y.b.cell (p := ⟨b', o' + k * 3 + 1, none⟩) hb2).trans e1
      have s2 : ∀ y : Later wr, y.w.cell? ⟨b', o' + k * 3 + 2, none⟩ = some (.slice az' x.sz.length pz') := fun y => (y.b.cell (p := ⟨b', o' + k * 3 + 2, none⟩) hb2).trans e2
      have t2 : ∀ y : Later wr, y.w.cell? ⟨w.heap.size, 2, none⟩ = some (.slice (some ⟨b, o, none⟩) d.ls.length cap) := fun y => (y.b.cell (p := ⟨w.heap.size, 2, none⟩) hlA).trans a2
      have u2 : ∀ y : Later wr, y.w.cell? ⟨w.heap.size + 1, 2, none⟩ = some (.slice (some ⟨b', o', none⟩) d.ls.length cap') := fun y => (y.b.cell (p := ⟨w.heap.size + 1, 2, none⟩) hlB).trans b2
      have hlk : ∀ y : Later wr, Calls Try.prog 23 #[.slice az x.sz.length pz, .slice az' x.sz.length pz'] y.w fun e w' => e = .returned (.bool true) ∧ Below y.w.heap.size y.w w' := fun y => likeInts1 x.sz _ _ y.w (ints_reads (hz.new y.b)) (ints_reads (hz'.new y.b))
      go_wp2_with fail
      have hne : Nonempty (Later wr) := ⟨⟨wr, Below.refl _ _⟩⟩; refine region_later (by kernel_rfl) (by kernel_rfl) ?_
      repeat (go_big_quiet_step (fail))
      go_big_quiet_want; go_big_quiet_op; refine ⟨.bool true, fun y => later_calls (x := y) (hlk y), ?_⟩; go_big_quiet_on
      repeat (go_big_quiet_step (fail))
      refine wpQuiet_nil ?_; intro _ hw'; obtain ⟨y, hw''⟩ := hw'; subst hw''; have hby := y.b
      have HB2 := hide (bchain HBV.out hby)
      clear q0 q1 q2 s0 s1 s2 t2 u2 hlk hne c0 c1 c2 e0 e1 e2 a2 b2
      go_wp2_with fail
      go_roundw
      case rel => exact ⟨k + 1, by go_num, by omega, HB2⟩
      case measure => simp [intOf]; omega
    · go_wp2_with fail
      go_ret
      exact ⟨rfl, bchain hbV HBV.out⟩
end Go.Proofs.Yteojibdnphaooaa
