/- Several small texts of one level, one behind the other. -/
import Derived.Test.YtllaeakeaabiaaaGreatQBM
import Derived.Test.YtllaeakeaabiaaaGreatQG7
import Derived.Test.YtllaeakeaabiaaaGreatQG14
import Derived.Test.YtllaeakeaabiaaaGreatQLitRead3
import Derived.Test.YtllaeakeaabiaaaGreatQLL
import Derived.Test.YtllaeakeaabiaaaGreatQG2
/- The shapes of the program's blocks: made of a Field, written, read, and what they stand for. -/
namespace Go.Proofs.YtllaeakeaabiaaaGreat
open Go.RowKit
set_option maxRecDepth 100000
set_option linter.unusedSimpArgs false
set_option linter.unusedVariables false

def shpV : BShp → Value
  | Sum.inl n => .iface 267 (.agg #[.int .i64 n])
  | Sum.inr (Sum.inl (n, v)) => .iface 271 (.agg #[.int .i64 n, .string v])
  | Sum.inr (Sum.inr (Sum.inl (n, v))) => .iface 273 (.agg #[.string n, .string v])
  | Sum.inr (Sum.inr (Sum.inr _)) => .nilIface
def shpFine : BShp → Prop
  | Sum.inl _ => True
  | Sum.inr (Sum.inl (_, v)) => v.size ≤ maxLen
  | Sum.inr (Sum.inr (Sum.inl (n, v))) => n.size ≤ maxLen ∧ v.size ≤ maxLen
  | Sum.inr (Sum.inr (Sum.inr _)) => True

theorem asR_R (v : Value) (w : World) : (Instr.typeAssert (.iface 267 v) 246 267 true).run Tryz.prog w = .ok (.tuple #[v, .bool true]) w := by kernel_rfl
theorem asN_R (v : Value) (w : World) : (Instr.typeAssert (.iface 271 v) 246 267 true).run Tryz.prog w = .ok (.tuple #[.agg #[.int .i64 0], .bool false]) w := by kernel_rfl
theorem asN_N (v : Value) (w : World) : (Instr.typeAssert (.iface 271 v) 246 271 true).run Tryz.prog w = .ok (.tuple #[v, .bool true]) w := by kernel_rfl
theorem asW_R (v : Value) (w : World) : (Instr.typeAssert (.iface 273 v) 246 267 true).run Tryz.prog w = .ok (.tuple #[.agg #[.int .i64 0], .bool false]) w := by kernel_rfl
theorem asW_N (v : Value) (w : World) : (Instr.typeAssert (.iface 273 v) 246 271 true).run Tryz.prog w = .ok (.tuple #[.agg #[.int .i64 0, .string ⟨#[]⟩], .bool false]) w := by kernel_rfl
theorem asW_W (v : Value) (w : World) : (Instr.typeAssert (.iface 273 v) 246 273 true).run Tryz.prog w = .ok (.tuple #[v, .bool true]) w := by kernel_rfl
theorem as0_R (w : World) : (Instr.typeAssert .nilIface 246 267 true).run Tryz.prog w = .ok (.tuple #[.agg #[.int .i64 0], .bool false]) w := by kernel_rfl
theorem as0_N (w : World) : (Instr.typeAssert .nilIface 246 271 true).run Tryz.prog w = .ok (.tuple #[.agg #[.int .i64 0, .string ⟨#[]⟩], .bool false]) w := by kernel_rfl
theorem as0_W (w : World) : (Instr.typeAssert .nilIface 246 273 true).run Tryz.prog w = .ok (.tuple #[.agg #[.string ⟨#[]⟩, .string ⟨#[]⟩], .bool false]) w := by kernel_rfl

theorem preV_small (n b h : Int) : (preV n b h).size ≤ 6 := by
  by_cases k : okP n b h = true
  · exact (law_size k).2.1
  · unfold preV; rw [if_neg k]; simp [ByteArray.size]

theorem notedR (n : Int) (w : World) : Calls Tryz.prog 279 #[.agg #[.int .i64 n]] w fun x w' => x = .returned (.bool false) ∧ Below w.heap.size w w' := by
  go_enter Tryz.func279, Tryz.ntmps279
  go_wp2_with fail
  go_ret
  exact ⟨rfl, (by repeat' (first | (with_reducible exact Below.refl _ _) | (with_reducible refine Below.drew ?_) | (with_reducible refine bo_drewN _ ?_) | (with_reducible refine bo_alloc ?_ _) | (refine bchain ?_ (by with_reducible assumption)) | (with_reducible refine Below.setCell ?_ ?_ _) | go_size))⟩
theorem notedN (n : Int) (v : ByteArray) (w : World) : Calls Tryz.prog 280 #[.agg #[.int .i64 n, .string v]] w fun x w' => x = .returned (.bool true) ∧ Below w.heap.size w w' := by
  go_enter Tryz.func280, Tryz.ntmps280
  go_wp2_with fail
  go_ret
  exact ⟨rfl, (by repeat' (first | (with_reducible exact Below.refl _ _) | (with_reducible refine Below.drew ?_) | (with_reducible refine bo_drewN _ ?_) | (with_reducible refine bo_alloc ?_ _) | (refine bchain ?_ (by with_reducible assumption)) | (with_reducible refine Below.setCell ?_ ?_ _) | go_size))⟩
theorem notedW (n v : ByteArray) (w : World) : Calls Tryz.prog 281 #[.agg #[.string n, .string v]] w fun x w' => x = .returned (.bool true) ∧ Below w.heap.size w w' := by
  go_enter Tryz.func281, Tryz.ntmps281
  go_wp2_with fail
  go_ret
  exact ⟨rfl, (by repeat' (first | (with_reducible exact Below.refl _ _) | (with_reducible refine Below.drew ?_) | (with_reducible refine bo_drewN _ ?_) | (with_reducible refine bo_alloc ?_ _) | (refine bchain ?_ (by with_reducible assumption)) | (with_reducible refine Below.setCell ?_ ?_ _) | go_size))⟩

set_option maxHeartbeats 1000000 in
theorem implShapeOf (L : List Fd) (room : Int) (v : Value) (f : Fd) (w : World) (hr0 : Reads w v L.length 2 (fv L)) (hok : okT room L = true) (hff : f.fine) :
    Calls Tryz.prog 234 #[.agg #[.int .i64 room, v], .agg #[.string f.n, .string f.v]] w fun x w' => x = .returned (shpV (shpOf L f)) ∧ Below w.heap.size w w' := by
  have HR := hide hr0
  obtain ⟨ad, cap, rfl, _⟩ := hr0.2
  clear hr0
  have hF : ∀ g ∈ L, g.fine := fun g hg => fine_of ((okT_parts hok).2.2.1 g hg)
  have hD : lookD room L f = lookL L f := by simp [lookD, hok]
  have hS : shpV (shpOf L f) = if (lookL L f).2 = true then .iface 267 (.agg #[.int .i64 (lookL L f).1]) else if (lookL L f).1 ≠ 0 then .iface 271 (.agg #[.int .i64 (lookL L f).1, .string f.v]) else .iface 273 (.agg #[.string f.n, .string f.v]) := by
    unfold shpOf
    split
    · rfl
    · split <;> rfl
  rw [hS]
  clear hS
  have HF := hide hF
  clear hF
  obtain ⟨D, hDD⟩ : ∃ D, lookL L f = D := ⟨_, rfl⟩
  rw [hDD] at hD ⊢
  clear hDD
  obtain ⟨n, a⟩ := D
  cases a
  · by_cases h0 : n = 0
    · subst h0
      go_enter Tryz.func234, Tryz.ntmps234
      go_wp2_with fail
      refine (implLookup L room _ f _ (HR.out.new (by repeat' (first | (with_reducible exact Below.refl _ _) | (with_reducible refine Below.drew ?_) | (with_reducible refine bo_drewN _ ?_) | (with_reducible refine bo_alloc ?_ _) | (refine bchain ?_ (by with_reducible assumption)) | (with_reducible refine Below.setCell ?_ ?_ _) | go_size))) HF.out hff).mono ?_; rw [hD]; rintro x w1 ⟨rfl, hb1⟩
      have hc0 := hb1.cell (p := ⟨w.heap.size + 1, 0, none⟩) (by simp)
      have hc1 := hb1.cell (p := ⟨w.heap.size + 1, 1, none⟩) (by simp)
      have hbw : Below w.heap.size w w1 := (by repeat' (first | (with_reducible exact Below.refl _ _) | (with_reducible refine Below.drew ?_) | (with_reducible refine bo_drewN _ ?_) | (with_reducible refine bo_alloc ?_ _) | (refine bchain ?_ (by with_reducible assumption)) | (with_reducible refine Below.setCell ?_ ?_ _) | go_size))
      go_wp2_with fail
      go_ret
      exact ⟨rfl, hbw⟩
    · have hn : (n != 0) = true := by simp [h0]
      rw [if_neg (by simp), if_pos h0]
      go_enter Tryz.func234, Tryz.ntmps234
      go_wp2_with fail
      refine (implLookup L room _ f _ (HR.out.new (by repeat' (first | (with_reducible exact Below.refl _ _) | (with_reducible refine Below.drew ?_) | (with_reducible refine bo_drewN _ ?_) | (with_reducible refine bo_alloc ?_ _) | (refine bchain ?_ (by with_reducible assumption)) | (with_reducible refine Below.setCell ?_ ?_ _) | go_size))) HF.out hff).mono ?_; rw [hD]; rintro x w1 ⟨rfl, hb1⟩
      have hc0 := hb1.cell (p := ⟨w.heap.size + 1, 0, none⟩) (by simp)
      have hc1 := hb1.cell (p := ⟨w.heap.size + 1, 1, none⟩) (by simp)
      have hbw : Below w.heap.size w w1 := (by repeat' (first | (with_reducible exact Below.refl _ _) | (with_reducible refine Below.drew ?_) | (with_reducible refine bo_drewN _ ?_) | (with_reducible refine bo_alloc ?_ _) | (refine bchain ?_ (by with_reducible assumption)) | (with_reducible refine Below.setCell ?_ ?_ _) | go_size))
      go_wp2_with fail
      go_ret
      exact ⟨rfl, hbw⟩
  · go_enter Tryz.func234, Tryz.ntmps234
    go_wp2_with fail
    refine (implLookup L room _ f _ (HR.out.new (by repeat' (first | (with_reducible exact Below.refl _ _) | (with_reducible refine Below.drew ?_) | (with_reducible refine bo_drewN _ ?_) | (with_reducible refine bo_alloc ?_ _) | (refine bchain ?_ (by with_reducible assumption)) | (with_reducible refine Below.setCell ?_ ?_ _) | go_size))) HF.out hff).mono ?_; rw [hD]; rintro x w1 ⟨rfl, hb1⟩
    have hc0 := hb1.cell (p := ⟨w.heap.size + 1, 0, none⟩) (by simp)
    have hc1 := hb1.cell (p := ⟨w.heap.size + 1, 1, none⟩) (by simp)
    have hbw : Below w.heap.size w w1 := (by repeat' (first | (with_reducible exact Below.refl _ _) | (with_reducible refine Below.drew ?_) | (with_reducible refine bo_drewN _ ?_) | (with_reducible refine bo_alloc ?_ _) | (refine bchain ?_ (by with_reducible assumption)) | (with_reducible refine Below.setCell ?_ ?_ _) | go_size))
    go_wp2_with fail
    go_ret
    exact ⟨rfl, hbw⟩
end Go.Proofs.YtllaeakeaabiaaaGreat
/- Shapes written and read; a table in memory of its own; whether a text begins with another. -/
namespace Go.Proofs.YtllaeakeaabiaaaGreat
open Go.RowKit
set_option maxRecDepth 100000
set_option linter.unusedSimpArgs false
set_option linter.unusedVariables false

set_option maxHeartbeats 1000000 in
theorem implShapeBytes (σ : BShp) (w : World) (hf : shpFine σ) :
    Calls Tryz.prog 236 #[shpV σ] w fun x w' => x = .returned (.string (shpB σ)) ∧ Below w.heap.size w w' := by
  rcases σ with n | ⟨n, v⟩ | ⟨n, v⟩ | _
  · simp only [shpV, shpB]
    have a1 := asR_R
    go_enter Tryz.func236, Tryz.ntmps236
    go_wp2_with fail
    refine (implPrefixed _ _ _ _).mono ?_; rintro x w1 ⟨rfl, hb1⟩
    go_wp2_with fail
    go_ret
    exact ⟨rfl, (by repeat' (first | (with_reducible exact Below.refl _ _) | (with_reducible refine Below.drew ?_) | (with_reducible refine bo_drewN _ ?_) | (with_reducible refine bo_alloc ?_ _) | (refine bchain ?_ (by with_reducible assumption)) | (with_reducible refine Below.setCell ?_ ?_ _) | go_size))⟩
  · simp only [shpV, shpB]
    simp only [shpFine] at hf
    have a1 := asN_R; have a2 := asN_N
    have p1 := preV_small n 6 64
    have p2 := litV_small v
    go_enter Tryz.func236, Tryz.ntmps236
    go_wp2_with fail
    obtain ⟨V, hV⟩ : ∃ V, w.alloc (.cells #[.int .i64 n, .string v] 271) = V := ⟨_, rfl⟩
    have hbV : Below w.heap.size w V := by rw [← hV]; exact (Below.refl _ _).alloc (Nat.le_refl _) _
    have hx : RowIs V w.heap.size 271 [.int .i64 n, .string v] := by rw [← hV]; exact rowIs_new w _ _
    rw [hV]
    clear hV
    have c0 := hx.cell (j := 0) rfl
    have c1 := hx.cell (j := 1) rfl
    have hl := hx.lt
    have q0 : ∀ y : Later V, y.w.cell? ⟨w.heap.size, 0, none⟩ = some (.int .i64 n) := fun y => (y.b.cell (p := ⟨w.heap.size, 0, none⟩) hl).trans c0
    have q1 : ∀ y : Later V, y.w.cell? ⟨w.heap.size, 1, none⟩ = some (.string v) := fun y => (y.b.cell (p := ⟨w.heap.size, 1, none⟩) hl).trans c1
    clear c0 c1
    have hne : Nonempty (Later V) := ⟨⟨V, Below.refl _ _⟩⟩; refine region_later (by kernel_rfl) (by kernel_rfl) ?_
    repeat (go_big_quiet_step (fail))
    go_big_quiet_want; go_big_quiet_op; refine ⟨.string (preV n 6 64), fun y => later_calls (x := y) ((fun u => implPrefixed n 6 64 u) y.w), ?_⟩; go_big_quiet_on
    repeat (go_big_quiet_step (fail))
    go_big_quiet_want; go_big_quiet_op; refine ⟨.string (litV v), fun y => later_calls (x := y) ((fun u => implLiteral v u hf) y.w), ?_⟩; go_big_quiet_on
    repeat (go_big_quiet_step (fail))
    refine wpQuiet_nil ?_; intro _ hw'; obtain ⟨y, hw''⟩ := hw'; subst hw''; have hby := y.b
    go_wp2_with fail
    go_ret
    exact ⟨rfl, hbV.trans (hby.mono hbV.size)⟩
  · simp only [shpV, shpB]
    obtain ⟨hn, hv⟩ := hf
    have a1 := asW_R; have a2 := asW_N; have a3 := asW_W
    have p1 := preV_small 0 6 64
    have p2 := litV_small v
    have p3 := litV_small n
    have p4 := ba_size_append (preV 0 6 64) (litV n)
    go_enter Tryz.func236, Tryz.ntmps236
    go_wp2_with fail
    obtain ⟨V, hV⟩ : ∃ V, w.alloc (.cells #[.string n, .string v] 273) = V := ⟨_, rfl⟩
    have hbV : Below w.heap.size w V := by rw [← hV]; exact (Below.refl _ _).alloc (Nat.le_refl _) _
    have hx : RowIs V w.heap.size 273 [.string n, .string v] := by rw [← hV]; exact rowIs_new w _ _
    rw [hV]
    clear hV
    have c0 := hx.cell (j := 0) rfl
    have c1 := hx.cell (j := 1) rfl
    have hl := hx.lt
    have q0 : ∀ y : Later V, y.w.cell? ⟨w.heap.size, 0, none⟩ = some (.string n) := fun y => (y.b.cell (p := ⟨w.heap.size, 0, none⟩) hl).trans c0
    have q1 : ∀ y : Later V, y.w.cell? ⟨w.heap.size, 1, none⟩ = some (.string v) := fun y => (y.b.cell (p := ⟨w.heap.size, 1, none⟩) hl).trans c1
    clear c0 c1
    have hne : Nonempty (Later V) := ⟨⟨V, Below.refl _ _⟩⟩; refine region_later (by kernel_rfl) (by kernel_rfl) ?_
    repeat (go_big_quiet_step (fail))
    go_big_quiet_want; go_big_quiet_op; refine ⟨.string (preV 0 6 64), fun y => later_calls (x := y) ((fun u => implPrefixed 0 6 64 u) y.w), ?_⟩; go_big_quiet_on
    repeat (go_big_quiet_step (fail))
    go_big_quiet_want; go_big_quiet_op; refine ⟨.string (litV n), fun y => later_calls (x := y) ((fun u => implLiteral n u hn) y.w), ?_⟩; go_big_quiet_on
    repeat (go_big_quiet_step (fail))
    go_big_quiet_want; go_big_quiet_op; refine ⟨.string (litV v), fun y => later_calls (x := y) ((fun u => implLiteral v u hv) y.w), ?_⟩; go_big_quiet_on
    repeat (go_big_quiet_step (fail))
    refine wpQuiet_nil ?_; intro _ hw'; obtain ⟨y, hw''⟩ := hw'; subst hw''; have hby := y.b
    go_wp2_with fail
    go_ret
    exact ⟨rfl, hbV.trans (hby.mono hbV.size)⟩
  · simp only [shpV, shpB]
    have a1 := as0_R; have a2 := as0_N; have a3 := as0_W
    go_enter Tryz.func236, Tryz.ntmps236
    go_wp2_with fail
    go_ret
    exact ⟨rfl, Below.refl _ _⟩

theorem rd_upto (s : ByteArray) (b : Int) : 0 ≤ (rdV s b).2 ∧ (rdV s b).2 ≤ s.size := by
  by_cases h : 0 < (rdV s b).2
  · exact ⟨by omega, (law_written h).2.2.1⟩
  · cases hb : inB b 1 8
    · rw [rdV_bits hb]; simp
    · rcases rdV_pos (s := s) hb with e | ⟨_, _, e⟩
      · rw [e]; simp
      · rw [e] at h ⊢; simp only at h ⊢; omega
theorem rl_upto (t : ByteArray) : 0 ≤ (rlV t).2 ∧ (rlV t).2 ≤ t.size ∧ (rlV t).1.size ≤ 9223372036854775807 := by
  have h0 := rl_nonneg t
  by_cases h : 0 < (rlV t).2
  · obtain ⟨e, e1, e2, e3, e4, e5⟩ := rl_pos h; omega
  · refine ⟨h0, by omega, ?_⟩
    unfold rlV at h ⊢
    split
    · rename_i h1
      rw [if_pos h1] at h
      split
      · rename_i h2
        rw [if_pos h2] at h
        simp only at h
        rcases rd7 t with e | ⟨n, k, e, e1, e2, e3, e4⟩
        · rw [e] at h1; simp at h1
        · rw [e] at h; simp only at h; omega
      · simp [ByteArray.size]
    · simp [ByteArray.size]

set_option maxHeartbeats 1000000 in
theorem implReadShape (s : ByteArray) (w : World) (hs : s.size ≤ maxLen) :
    Calls Tryz.prog 212 #[.string s] w fun x w' => x = .returned (shpV (rdShp s)) ∧ Below w.heap.size w w' := by
  have hs' := hs
  unfold maxLen at hs'
  obtain ⟨R, hR⟩ : ∃ R, R = rdShp s := ⟨_, rfl⟩
  rw [← hR]
  unfold rdShp at hR
  by_cases h7 : hiV s 7 = 128
  · rw [if_pos h7] at hR
    subst hR
    simp only [shpV]
    go_enter Tryz.func212, Tryz.ntmps212
    go_wp2_with fail
    refine (implHigh s 7 _ hs).mono ?_; rw [h7]; rintro x w1 ⟨rfl, hb1⟩
    go_wp2_with fail
    refine (implRead s 7 _ hs).mono ?_; rintro x w2 ⟨rfl, hb2⟩
    go_wp2_with fail
    go_ret
    exact ⟨rfl, bchain hb1 hb2⟩
  rw [if_neg h7] at hR
  by_cases h6 : hiV s 6 = 64
  · rw [if_neg (by simp [h6])] at hR
    have hat := rd_upto s 6
    obtain ⟨P, hP⟩ : ∃ P, rdV s 6 = P := ⟨_, rfl⟩
    rw [hP] at hR hat
    obtain ⟨n, k⟩ := P
    simp only at hR hat
    obtain ⟨k0, k1⟩ := hat
    obtain ⟨T, hT⟩ : ∃ T, s.extract k.toNat s.size = T := ⟨_, rfl⟩
    have hsl : ∀ w : World, (Instr.slice 9 (.string s) (some (.int .i64 k)) none none).run Tryz.prog w = .ok (.string T) w := by
      intro w
      rw [run_slice_string_from_if (P := Tryz.prog) w 9 s .i64 k Tryz.underlying9, if_pos ⟨k0, k1⟩, hT]
    have hTs : T.size + k.toNat = s.size := by rw [← hT, ba_extract_size (Nat.le_refl _) (by omega)]; omega
    have hTm : T.size ≤ maxLen := by unfold maxLen; omega
    rw [hT] at hR
    by_cases h0 : n = 0
    · subst h0
      rw [if_neg (by simp)] at hR
      have hlt := rl_upto T
      obtain ⟨Q, hQ⟩ : ∃ Q, rlV T = Q := ⟨_, rfl⟩
      rw [hQ] at hR hlt
      obtain ⟨x1, j⟩ := Q
      simp only at hR hlt
      obtain ⟨j0, j1, _⟩ := hlt
      obtain ⟨T2, hT2⟩ : ∃ T2, s.extract (k + j).toNat s.size = T2 := ⟨_, rfl⟩
      have hsl2 : ∀ w : World, (Instr.slice 9 (.string s) (some (.int .i64 (k + j))) none none).run Tryz.prog w = .ok (.string T2) w := by
        intro w
        rw [run_slice_string_from_if (P := Tryz.prog) w 9 s .i64 (k + j) Tryz.underlying9, if_pos ⟨by omega, by omega⟩, hT2]
      have hT2s : T2.size + (k + j).toNat = s.size := by rw [← hT2, ba_extract_size (Nat.le_refl _) (by omega)]; omega
      have hT2m : T2.size ≤ maxLen := by unfold maxLen; omega
      rw [hT2] at hR
      subst hR
      simp only [shpV]
      clear hT hT2
      go_enter Tryz.func212, Tryz.ntmps212
      go_wp2_with fail
      refine (implHigh s 7 _ hs).mono ?_; rintro x w1 ⟨rfl, hb1⟩
      go_wp2_with fail
      refine (implHigh s 6 _ hs).mono ?_; rw [h6]; rintro x w2 ⟨rfl, hb2⟩
      go_wp2_with fail
      refine (implRead s 6 _ hs).mono ?_; rw [hP]; rintro x w3 ⟨rfl, hb3⟩
      go_wp2_with fail
      refine (implReadL T _ hTm).mono ?_; rw [hQ]; rintro x w4 ⟨rfl, hb4⟩
      go_wp2_with fail
      refine (implReadL T2 _ hT2m).mono ?_; rintro x w5 ⟨rfl, hb5⟩
      go_wp2_with fail
      go_ret
      exact ⟨rfl, bchain (bchain (bchain (bchain hb1 hb2) hb3) hb4) hb5⟩
    · rw [if_pos (by simpa using h0)] at hR
      subst hR
      simp only [shpV]
      clear hT
      have hn : (n != 0) = true := by simp [h0]
      go_enter Tryz.func212, Tryz.ntmps212
      go_wp2_with fail
      refine (implHigh s 7 _ hs).mono ?_; rintro x w1 ⟨rfl, hb1⟩
      go_wp2_with fail
      refine (implHigh s 6 _ hs).mono ?_; rw [h6]; rintro x w2 ⟨rfl, hb2⟩
      go_wp2_with fail
      refine (implRead s 6 _ hs).mono ?_; rw [hP]; rintro x w3 ⟨rfl, hb3⟩
      go_wp2_with fail
      refine (implReadL T _ hTm).mono ?_; rintro x w4 ⟨rfl, hb4⟩
      go_wp2_with fail
      go_ret
      exact ⟨rfl, bchain (bchain (bchain hb1 hb2) hb3) hb4⟩
  · rw [if_pos h6] at hR
    subst hR
    simp only [shpV]
    have hn : (hiV s 6 != 64) = true := by simp [h6]
    go_enter Tryz.func212, Tryz.ntmps212
    go_wp2_with fail
    refine (implHigh s 7 _ hs).mono ?_; rintro x w1 ⟨rfl, hb1⟩
    go_wp2_with fail
    refine (implHigh s 6 _ hs).mono ?_; rintro x w2 ⟨rfl, hb2⟩
    go_wp2_with fail
    go_ret
    exact ⟨rfl, bchain hb1 hb2⟩

theorem begins0 (s p : ByteArray) (w : World) (hs : s.size ≤ maxLen) (hp : p.size ≤ maxLen) : Calls Tryz.prog 237 #[.string s, .string p] w fun x w' => x = .returned (.bool (begins s p)) ∧ Below w.heap.size w w' := by
  unfold maxLen at hs hp
  unfold begins
  by_cases h : p.size ≤ s.size
  · have h' : (p.size : Int) ≤ s.size := by omega
    have hsl : ∀ w : World, (Instr.slice 9 (.string s) none (some (.int .i64 (p.size : Int))) none).run Tryz.prog w = .ok (.string (s.extract 0 p.size)) w := by
      intro w
      rw [run_slice_string_to_if (P := Tryz.prog) w 9 s .i64 (p.size : Int) Tryz.underlying9, if_pos ⟨by omega, by omega⟩]
      simp
    go_enter Tryz.func237, Tryz.ntmps237
    go_wp2_with fail
    go_ret
    exact ⟨by simp [h], Below.refl _ _⟩
  · have h' : ¬ (p.size : Int) ≤ s.size := by omega
    go_enter Tryz.func237, Tryz.ntmps237
    go_wp2_with fail
    go_ret
    exact ⟨by simp [h], Below.refl _ _⟩
theorem begins1 (s p : ByteArray) (w : World) (hs : s.size ≤ maxLen) (hp : p.size ≤ maxLen) : Calls Tryz.prog 214 #[.string s, .string p] w fun x w' => x = .returned (.bool (begins s p)) ∧ Below w.heap.size w w' := by
  go_enter Tryz.func214, Tryz.ntmps214
  go_wp2_with fail
  refine (begins0 s p _ hs hp).mono ?_; rintro x w1 ⟨rfl, hb1⟩
  go_wp2_with fail
  go_ret
  exact ⟨rfl, hb1⟩
end Go.Proofs.YtllaeakeaabiaaaGreat
/- What a shape stands for; a table in memory of its own; what a block has of a Field, and the table behind it. -/
namespace Go.Proofs.YtllaeakeaabiaaaGreat
open Go.RowKit
set_option maxRecDepth 100000
set_option linter.unusedSimpArgs false
set_option linter.unusedVariables false

theorem rowAt_is {room : Int} {L : List Fd} (n : Int) (h : okT room L = true) : (rowAtD room L n).1 = rowN L n := by
  unfold rowAtD rowN
  rw [if_pos h]
  split <;> rfl

set_option maxHeartbeats 1000000 in
theorem implMeant (L : List Fd) (room : Int) (v : Value) (σ : BShp) (w : World) (hr0 : Reads w v L.length 2 (fv L)) (hok : okT room L = true) :
    Calls Tryz.prog 211 #[.agg #[.int .i64 room, v], shpV σ] w fun x w' => x = .returned (.agg #[.string (mntF L σ).n, .string (mntF L σ).v]) ∧ Below w.heap.size w w' := by
  have HR := hide hr0
  obtain ⟨ad, cap, rfl, _⟩ := hr0.2
  clear hr0
  have HF : Hid (∀ g ∈ L, g.fine) := fun g hg => fine_of ((okT_parts hok).2.2.1 g hg)
  rcases σ with n | ⟨n, u⟩ | ⟨n, u⟩ | _
  · simp only [shpV, mntF]
    have a1 := asR_R
    have hq := rowAt_is n hok
    generalize rowN L n = r at *
    go_enter Tryz.func211, Tryz.ntmps211
    go_wp2_with fail
    refine (implRowAt L room _ n _ (HR.out.new (by repeat' (first | (with_reducible exact Below.refl _ _) | (with_reducible refine Below.drew ?_) | (with_reducible refine bo_drewN _ ?_) | (with_reducible refine bo_alloc ?_ _) | (refine bchain ?_ (by with_reducible assumption)) | (with_reducible refine Below.setCell ?_ ?_ _) | go_size))) HF.out).mono ?_; rw [hq]; rintro x w1 ⟨rfl, hb1⟩
    have hc1 := fun o => hb1.cell (p := ⟨w.heap.size + 1, o, none⟩) (by first | (simp; done) | (simp; omega) | omega); have hf1 := fun o => hb1.frozen (p := ⟨w.heap.size + 1, o, none⟩) (by first | (simp; done) | (simp; omega) | omega); have hz2 := hb1.size; (try simp at hz2)
    have hbw : Below w.heap.size w w1 := (by repeat' (first | (with_reducible exact Below.refl _ _) | (with_reducible refine Below.drew ?_) | (with_reducible refine bo_drewN _ ?_) | (with_reducible refine bo_alloc ?_ _) | (refine bchain ?_ (by with_reducible assumption)) | (with_reducible refine Below.setCell ?_ ?_ _) | go_size))
    have hl9 : w.heap.size + 1 < w1.heap.size := by omega
    go_wp2_with fail
    refine bodyPost_ret (v := (.agg #[.string r.n, .string r.v])) (by simp [results, Tryz.results211, go_sem, *]) rfl ?_
    exact ⟨rfl, (by repeat' (first | (with_reducible exact Below.refl _ _) | (with_reducible refine Below.drew ?_) | (with_reducible refine bo_drewN _ ?_) | (with_reducible refine bo_alloc ?_ _) | (refine bchain ?_ (by with_reducible assumption)) | (with_reducible refine Below.setCell ?_ ?_ _) | go_size))⟩
  · simp only [shpV, mntF]
    have a1 := asN_R; have a2 := asN_N
    have hq := rowAt_is n hok
    generalize rowN L n = r at *
    go_enter Tryz.func211, Tryz.ntmps211
    go_wp2_with fail
    refine (implRowAt L room _ n _ (HR.out.new (by repeat' (first | (with_reducible exact Below.refl _ _) | (with_reducible refine Below.drew ?_) | (with_reducible refine bo_drewN _ ?_) | (with_reducible refine bo_alloc ?_ _) | (refine bchain ?_ (by with_reducible assumption)) | (with_reducible refine Below.setCell ?_ ?_ _) | go_size))) HF.out).mono ?_; rw [hq]; rintro x w1 ⟨rfl, hb1⟩
    have hc1 := fun o => hb1.cell (p := ⟨w.heap.size + 1, o, none⟩) (by first | (simp; done) | (simp; omega) | omega); have hf1 := fun o => hb1.frozen (p := ⟨w.heap.size + 1, o, none⟩) (by first | (simp; done) | (simp; omega) | omega); have hc3 := fun o => hb1.cell (p := ⟨w.heap.size + 2, o, none⟩) (by first | (simp; done) | (simp; omega) | omega); have hf3 := fun o => hb1.frozen (p := ⟨w.heap.size + 2, o, none⟩) (by first | (simp; done) | (simp; omega) | omega); have hz2 := hb1.size; (try simp at hz2)
    have hbw : Below w.heap.size w w1 := (by repeat' (first | (with_reducible exact Below.refl _ _) | (with_reducible refine Below.drew ?_) | (with_reducible refine bo_drewN _ ?_) | (with_reducible refine bo_alloc ?_ _) | (refine bchain ?_ (by with_reducible assumption)) | (with_reducible refine Below.setCell ?_ ?_ _) | go_size))
    have hl9 : w.heap.size + 1 < w1.heap.size := by omega
    have hl8 : w.heap.size + 2 < w1.heap.size := by omega
    go_wp2_with fail
    refine bodyPost_ret (v := (.agg #[.string r.n, .string u])) (by simp [results, Tryz.results211, go_sem, *]) rfl ?_
    exact ⟨rfl, (by repeat' (first | (with_reducible exact Below.refl _ _) | (with_reducible refine Below.drew ?_) | (with_reducible refine bo_drewN _ ?_) | (with_reducible refine bo_alloc ?_ _) | (refine bchain ?_ (by with_reducible assumption)) | (with_reducible refine Below.setCell ?_ ?_ _) | go_size))⟩
  · simp only [shpV, mntF]
    have a1 := asW_R; have a2 := asW_N; have a3 := asW_W
    go_enter Tryz.func211, Tryz.ntmps211
    go_wp2_with fail
    refine bodyPost_ret (v := (.agg #[.string n, .string u])) (by simp [results, Tryz.results211, go_sem, *]) rfl ?_
    exact ⟨rfl, (by repeat' (first | (with_reducible exact Below.refl _ _) | (with_reducible refine Below.drew ?_) | (with_reducible refine bo_drewN _ ?_) | (with_reducible refine bo_alloc ?_ _) | (refine bchain ?_ (by with_reducible assumption)) | (with_reducible refine Below.setCell ?_ ?_ _) | go_size))⟩
  · simp only [shpV, mntF]
    have a1 := as0_R; have a2 := as0_N; have a3 := as0_W
    go_enter Tryz.func211, Tryz.ntmps211
    go_wp2_with fail
    refine bodyPost_ret (v := (.agg #[.string ⟨#[]⟩, .string ⟨#[]⟩])) (by simp [results, Tryz.results211, go_sem, *]) rfl ?_
    exact ⟨rfl, (by repeat' (first | (with_reducible exact Below.refl _ _) | (with_reducible refine Below.drew ?_) | (with_reducible refine bo_drewN _ ?_) | (with_reducible refine bo_alloc ?_ _) | (refine bchain ?_ (by with_reducible assumption)) | (with_reducible refine Below.setCell ?_ ?_ _) | go_size))⟩

set_option maxHeartbeats 1000000 in
theorem implOwn (L : List Fd) (room : Int) (v : Value) (w : World) (hr0 : Reads w v L.length 2 (fv L)) (hf : ∀ f ∈ L, f.fine) :
    Calls Tryz.prog 123 #[.agg #[.int .i64 room, v]] w fun x w' => ∃ v', x = .returned (.tuple #[.agg #[.int .i64 (resizedD room L room).1.1, v'], .bool (resizedD room L room).2]) ∧ w'.ownsRow w.heap.size 146 2 v' (resizedD room L room).1.2.length (fv (resizedD room L room).1.2) ∧ Below w.heap.size w w' := by
  have HR := hide hr0
  obtain ⟨ad, cap, rfl, _⟩ := hr0.2
  clear hr0
  have HF := hide hf
  clear hf
  obtain ⟨D, hD⟩ : ∃ D, resizedD room L room = D := ⟨_, rfl⟩
  rw [hD]
  go_enter Tryz.func123, Tryz.ntmps123
  go_wp2_with fail
  refine (implResized L room _ room _ (HR.out.new (by repeat' (first | (with_reducible exact Below.refl _ _) | (with_reducible refine Below.drew ?_) | (with_reducible refine bo_drewN _ ?_) | (with_reducible refine bo_alloc ?_ _) | (refine bchain ?_ (by with_reducible assumption)) | (with_reducible refine Below.setCell ?_ ?_ _) | go_size))) HF.out).mono ?_; rw [hD]; rintro x w1 ⟨v1, rfl, ho, hb1⟩
  have hc1 := fun o => hb1.cell (p := ⟨w.heap.size + 1, o, none⟩) (by first | (simp; done) | (simp; omega) | omega); have hf1 := fun o => hb1.frozen (p := ⟨w.heap.size + 1, o, none⟩) (by first | (simp; done) | (simp; omega) | omega); have hz2 := hb1.size; (try simp at hz2)
  have hbw : Below w.heap.size w w1 := (by repeat' (first | (with_reducible exact Below.refl _ _) | (with_reducible refine Below.drew ?_) | (with_reducible refine bo_drewN _ ?_) | (with_reducible refine bo_alloc ?_ _) | (refine bchain ?_ (by with_reducible assumption)) | (with_reducible refine Below.setCell ?_ ?_ _) | go_size))
  obtain ⟨ad1, cap1, rfl, _⟩ := owns_form ho
  have hlt := ho.lt
  have HO := hide ho
  clear ho hD
  go_wp2_with fail
  refine bodyPost_ret (v := (.tuple #[.agg #[.int .i64 D.1.1, .slice ad1 D.1.2.length cap1], .bool D.2])) (by simp [results, Tryz.results123, go_sem, *]) rfl ?_
  have hv : ∀ k, (Value.slice ad1 D.1.2.length cap1).ownBlock = some k → w.heap.size + 1 + 1 ≤ k := fun k hk => by have := (hlt k hk).1; simpa using this
  have ho : w1.ownsRow w.heap.size 146 2 (.slice ad1 D.1.2.length cap1) D.1.2.length (fv D.1.2) := owns_base HO.out fun k hk => by have := hv k hk; omega
  exact ⟨_, rfl, (by repeat' (first | (with_reducible exact ho) | (with_reducible refine owns_far _ ?_ hv _ _ ?_) | (with_reducible refine World.ownsRow.alloc ?_ _) | (simp; done) | (simp; omega))), (by repeat' (first | (with_reducible exact Below.refl _ _) | (with_reducible refine Below.drew ?_) | (with_reducible refine bo_drewN _ ?_) | (with_reducible refine bo_alloc ?_ _) | (refine bchain ?_ (by with_reducible assumption)) | (with_reducible refine Below.setCell ?_ ?_ _) | go_size))⟩
end Go.Proofs.YtllaeakeaabiaaaGreat
