/- Lemmas. -/
import Derived.Test.YtlpbnkideaojeaaGreatDoorQRpBM
namespace Go.Proofs.YtlpbnkideaojeaaGreatDoor
open Go.RowKit
set_option maxRecDepth 100000
set_option linter.unusedSimpArgs false
set_option linter.unusedVariables false
def qR : iE → Value
 | Sum.inl n => .iface 217 (.agg #[.int .i64 n])
 | Sum.inr (Sum.inl (n, v)) => .iface 219 (.agg #[.int .i64 n, .string v])
 | Sum.inr (Sum.inr (Sum.inl (n, v))) => .iface 221 (.agg #[.string n, .string v])
 | Sum.inr (Sum.inr (Sum.inr _)) => .nilIface
def JO : iE → Prop
 | Sum.inl _ => True
 | Sum.inr (Sum.inl (_, v)) => v.size ≤ maxLen
 | Sum.inr (Sum.inr (Sum.inl (n, v))) => n.size ≤ maxLen ∧ v.size ≤ maxLen
 | Sum.inr (Sum.inr (Sum.inr _)) => True
theorem aaM (v : Value) (w : World) : (Instr.typeAssert (.iface 217 v) 186 217 true).run Tryz.prog w = .ok (.tuple #[v, .bool true]) w := by kernel_rfl
theorem aaN (v : Value) (w : World) : (Instr.typeAssert (.iface 219 v) 186 217 true).run Tryz.prog w = .ok (.tuple #[.agg #[.int .i64 0], .bool false]) w := by kernel_rfl
theorem aaO (v : Value) (w : World) : (Instr.typeAssert (.iface 219 v) 186 219 true).run Tryz.prog w = .ok (.tuple #[v, .bool true]) w := by kernel_rfl
theorem aaP (v : Value) (w : World) : (Instr.typeAssert (.iface 221 v) 186 217 true).run Tryz.prog w = .ok (.tuple #[.agg #[.int .i64 0], .bool false]) w := by kernel_rfl
theorem aaQ (v : Value) (w : World) : (Instr.typeAssert (.iface 221 v) 186 219 true).run Tryz.prog w = .ok (.tuple #[.agg #[.int .i64 0, .string ⟨#[]⟩], .bool false]) w := by kernel_rfl
theorem aaR (v : Value) (w : World) : (Instr.typeAssert (.iface 221 v) 186 221 true).run Tryz.prog w = .ok (.tuple #[v, .bool true]) w := by kernel_rfl
theorem aaS (w : World) : (Instr.typeAssert .nilIface 186 217 true).run Tryz.prog w = .ok (.tuple #[.agg #[.int .i64 0], .bool false]) w := by kernel_rfl
theorem aaT (w : World) : (Instr.typeAssert .nilIface 186 219 true).run Tryz.prog w = .ok (.tuple #[.agg #[.int .i64 0, .string ⟨#[]⟩], .bool false]) w := by kernel_rfl
theorem aaU (w : World) : (Instr.typeAssert .nilIface 186 221 true).run Tryz.prog w = .ok (.tuple #[.agg #[.string ⟨#[]⟩, .string ⟨#[]⟩], .bool false]) w := by kernel_rfl
theorem yS (n b h : Int) : (aY n b h).size ≤ 6 := by
 by_cases k : jl n b h = true
 ·exact (mO k).2.1
 ·unfold aY; rw [if_neg k]; simp [ByteArray.size]
theorem aaJ (n : Int) (w : World) : Calls Tryz.prog 200 #[.agg #[.int .i64 n]] w fun x w' => x = .returned (.bool false) ∧ Below w.heap.size w w' := by
 go_enter Tryz.func200, Tryz.ntmps200
 go_wp2_with fail
 go_ret
 exact ⟨rfl, (by repeat' (first | (with_reducible exact Below.refl _ _) | (with_reducible refine Below.drew ?_) | (with_reducible refine ay _ ?_) | (with_reducible refine aA ?_ _) | (refine ah ?_ (by with_reducible assumption)) | (with_reducible refine Below.setCell ?_ ?_ _) | go_size))⟩
theorem aaK (n : Int) (v : ByteArray) (w : World) : Calls Tryz.prog 201 #[.agg #[.int .i64 n, .string v]] w fun x w' => x = .returned (.bool true) ∧ Below w.heap.size w w' := by
 go_enter Tryz.func201, Tryz.ntmps201
 go_wp2_with fail
 go_ret
 exact ⟨rfl, (by repeat' (first | (with_reducible exact Below.refl _ _) | (with_reducible refine Below.drew ?_) | (with_reducible refine ay _ ?_) | (with_reducible refine aA ?_ _) | (refine ah ?_ (by with_reducible assumption)) | (with_reducible refine Below.setCell ?_ ?_ _) | go_size))⟩
theorem aaL (n v : ByteArray) (w : World) : Calls Tryz.prog 202 #[.agg #[.string n, .string v]] w fun x w' => x = .returned (.bool true) ∧ Below w.heap.size w w' := by
 go_enter Tryz.func202, Tryz.ntmps202
 go_wp2_with fail
 go_ret
 exact ⟨rfl, (by repeat' (first | (with_reducible exact Below.refl _ _) | (with_reducible refine Below.drew ?_) | (with_reducible refine ay _ ?_) | (with_reducible refine aA ?_ _) | (refine ah ?_ (by with_reducible assumption)) | (with_reducible refine Below.setCell ?_ ?_ _) | go_size))⟩
set_option maxHeartbeats 1000000 in
theorem aaI (L : List Fd) (room : Int) (v : Value) (f : Fd) (w : World) (hr0 : Reads w v L.length 2 (fv L)) (hok : bI room L = true) (bK : f.fine) :
  Calls Tryz.prog 125 #[.agg #[.int .i64 room, v], .agg #[.string f.n, .string f.v]] w fun x w' => x = .returned (qR (qH L f)) ∧ Below w.heap.size w w' := by
 have HR := hide hr0
 obtain ⟨ad, cap, rfl, _⟩ := hr0.2
 clear hr0
 have hF : ∀ g ∈ L, g.fine := fun g hg => qj ((mE hok).2.2.1 g hg)
 have hD : wY room L f = bn L f := by simp [wY, hok]
 have hS : qR (qH L f) = if (bn L f).2 = true then .iface 217 (.agg #[.int .i64 (bn L f).1]) else if (bn L f).1 ≠ 0 then .iface 219 (.agg #[.int .i64 (bn L f).1, .string f.v]) else .iface 221 (.agg #[.string f.n, .string f.v]) := by
  unfold qH
  split
  ·rfl
  ·split <;> rfl
 rw [hS]
 clear hS
 have HF := hide hF
 clear hF
 obtain ⟨D, Qx⟩ : ∃ D, bn L f = D := ⟨_, rfl⟩
 rw [Qx] at hD ⊢
 clear Qx
 obtain ⟨n, a⟩ := D
 cases a
 ·by_cases h0 : n = 0
  ·subst h0
   go_enter Tryz.func125, Tryz.ntmps125
   go_wp2_with fail
   refine (Jd L room _ f _ (HR.out.new (by repeat' (first | (with_reducible exact Below.refl _ _) | (with_reducible refine Below.drew ?_) | (with_reducible refine ay _ ?_) | (with_reducible refine aA ?_ _) | (refine ah ?_ (by with_reducible assumption)) | (with_reducible refine Below.setCell ?_ ?_ _) | go_size))) HF.out bK).mono ?_; rw [hD]; rintro x w1 ⟨rfl, hb1⟩
   have hc0 := hb1.cell (p := ⟨w.heap.size + 1, 0, none⟩) (by simp)
   have hc1 := hb1.cell (p := ⟨w.heap.size + 1, 1, none⟩) (by simp)
   have hbw : Below w.heap.size w w1 := (by repeat' (first | (with_reducible exact Below.refl _ _) | (with_reducible refine Below.drew ?_) | (with_reducible refine ay _ ?_) | (with_reducible refine aA ?_ _) | (refine ah ?_ (by with_reducible assumption)) | (with_reducible refine Below.setCell ?_ ?_ _) | go_size))
   go_wp2_with fail
   go_ret
   exact ⟨rfl, hbw⟩
  ·have hn : (n != 0) = true := by simp [h0]
   rw [if_neg (by simp), if_pos h0]
   go_enter Tryz.func125, Tryz.ntmps125
   go_wp2_with fail
   refine (Jd L room _ f _ (HR.out.new (by repeat' (first | (with_reducible exact Below.refl _ _) | (with_reducible refine Below.drew ?_) | (with_reducible refine ay _ ?_) | (with_reducible refine aA ?_ _) | (refine ah ?_ (by with_reducible assumption)) | (with_reducible refine Below.setCell ?_ ?_ _) | go_size))) HF.out bK).mono ?_; rw [hD]; rintro x w1 ⟨rfl, hb1⟩
   have hc0 := hb1.cell (p := ⟨w.heap.size + 1, 0, none⟩) (by simp)
   have hc1 := hb1.cell (p := ⟨w.heap.size + 1, 1, none⟩) (by simp)
   have hbw : Below w.heap.size w w1 := (by repeat' (first | (with_reducible exact Below.refl _ _) | (with_reducible refine Below.drew ?_) | (with_reducible refine ay _ ?_) | (with_reducible refine aA ?_ _) | (refine ah ?_ (by with_reducible assumption)) | (with_reducible refine Below.setCell ?_ ?_ _) | go_size))
   go_wp2_with fail
   go_ret
   exact ⟨rfl, hbw⟩
 ·go_enter Tryz.func125, Tryz.ntmps125
  go_wp2_with fail
  refine (Jd L room _ f _ (HR.out.new (by repeat' (first | (with_reducible exact Below.refl _ _) | (with_reducible refine Below.drew ?_) | (with_reducible refine ay _ ?_) | (with_reducible refine aA ?_ _) | (refine ah ?_ (by with_reducible assumption)) | (with_reducible refine Below.setCell ?_ ?_ _) | go_size))) HF.out bK).mono ?_; rw [hD]; rintro x w1 ⟨rfl, hb1⟩
  have hc0 := hb1.cell (p := ⟨w.heap.size + 1, 0, none⟩) (by simp)
  have hc1 := hb1.cell (p := ⟨w.heap.size + 1, 1, none⟩) (by simp)
  have hbw : Below w.heap.size w w1 := (by repeat' (first | (with_reducible exact Below.refl _ _) | (with_reducible refine Below.drew ?_) | (with_reducible refine ay _ ?_) | (with_reducible refine aA ?_ _) | (refine ah ?_ (by with_reducible assumption)) | (with_reducible refine Below.setCell ?_ ?_ _) | go_size))
  go_wp2_with fail
  go_ret
  exact ⟨rfl, hbw⟩
set_option maxHeartbeats 1000000 in
theorem JQ (σ : iE) (w : World) (hf : JO σ) :
  Calls Tryz.prog 127 #[qR σ] w fun x w' => x = .returned (.string (nX σ)) ∧ Below w.heap.size w w' := by
 rcases σ with n | ⟨n, v⟩ | ⟨n, v⟩ | _
 ·simp only [qR, nX]
  have a1 := aaM
  go_enter Tryz.func127, Tryz.ntmps127
  go_wp2_with fail
  refine (yj _ _ _ _).mono ?_; rintro x w1 ⟨rfl, hb1⟩
  go_wp2_with fail
  go_ret
  exact ⟨rfl, (by repeat' (first | (with_reducible exact Below.refl _ _) | (with_reducible refine Below.drew ?_) | (with_reducible refine ay _ ?_) | (with_reducible refine aA ?_ _) | (refine ah ?_ (by with_reducible assumption)) | (with_reducible refine Below.setCell ?_ ?_ _) | go_size))⟩
 ·simp only [qR, nX]
  simp only [JO] at hf
  have a1 := aaN; have a2 := aaO
  have p1 := yS n 6 64
  have p2 := wP v
  go_enter Tryz.func127, Tryz.ntmps127
  go_wp2_with fail
  obtain ⟨V, hV⟩ : ∃ V, w.alloc (.cells #[.int .i64 n, .string v] 219) = V := ⟨_, rfl⟩
  have aO : Below w.heap.size w V := by rw [← hV]; exact (Below.refl _ _).alloc (Nat.le_refl _) _
  have hx : aj V w.heap.size 219 [.int .i64 n, .string v] := by rw [← hV]; exact aB w _ _
  rw [hV]
  clear hV
  have c0 := hx.cell (j := 0) rfl
  have c1 := hx.cell (j := 1) rfl
  have hl := hx.lt
  have q0 : ∀ y : Later V, y.w.cell? ⟨w.heap.size, 0, none⟩ = some (.int .i64 n) := fun y => (y.b.cell (p := ⟨w.heap.size, 0, none⟩) hl).trans c0
  have q1 : ∀ y : Later V, y.w.cell? ⟨w.heap.size, 1, none⟩ = some (.string v) := fun y => (y.b.cell (p := ⟨w.heap.size, 1, none⟩) hl).trans c1
  clear c0 c1
  have hne : Nonempty (Later V) := ⟨⟨V, Below.refl _ _⟩⟩; refine eH (by kernel_rfl) (by kernel_rfl) ?_
  repeat (go_big_quiet_step (fail))
  go_big_quiet_want; go_big_quiet_op; refine ⟨.string (aY n 6 64), fun y => gW (x := y) ((fun u => yj n 6 64 u) y.w), ?_⟩; go_big_quiet_on
  repeat (go_big_quiet_step (fail))
  go_big_quiet_want; go_big_quiet_op; refine ⟨.string (aU v), fun y => gW (x := y) ((fun u => Ic v u hf) y.w), ?_⟩; go_big_quiet_on
  repeat (go_big_quiet_step (fail))
  refine wpQuiet_nil ?_; intro _ hw'; obtain ⟨y, hw''⟩ := hw'; subst hw''; have hby := y.b
  go_wp2_with fail
  go_ret
  exact ⟨rfl, aO.trans (hby.mono aO.size)⟩
 ·simp only [qR, nX]
  obtain ⟨hn, hv⟩ := hf
  have a1 := aaP; have a2 := aaQ; have a3 := aaR
  have p1 := yS 0 6 64
  have p2 := wP v
  have p3 := wP n
  have p4 := iZ (aY 0 6 64) (aU n)
  go_enter Tryz.func127, Tryz.ntmps127
  go_wp2_with fail
  obtain ⟨V, hV⟩ : ∃ V, w.alloc (.cells #[.string n, .string v] 221) = V := ⟨_, rfl⟩
  have aO : Below w.heap.size w V := by rw [← hV]; exact (Below.refl _ _).alloc (Nat.le_refl _) _
  have hx : aj V w.heap.size 221 [.string n, .string v] := by rw [← hV]; exact aB w _ _
  rw [hV]
  clear hV
  have c0 := hx.cell (j := 0) rfl
  have c1 := hx.cell (j := 1) rfl
  have hl := hx.lt
  have q0 : ∀ y : Later V, y.w.cell? ⟨w.heap.size, 0, none⟩ = some (.string n) := fun y => (y.b.cell (p := ⟨w.heap.size, 0, none⟩) hl).trans c0
  have q1 : ∀ y : Later V, y.w.cell? ⟨w.heap.size, 1, none⟩ = some (.string v) := fun y => (y.b.cell (p := ⟨w.heap.size, 1, none⟩) hl).trans c1
  clear c0 c1
  have hne : Nonempty (Later V) := ⟨⟨V, Below.refl _ _⟩⟩; refine eH (by kernel_rfl) (by kernel_rfl) ?_
  repeat (go_big_quiet_step (fail))
  go_big_quiet_want; go_big_quiet_op; refine ⟨.string (aY 0 6 64), fun y => gW (x := y) ((fun u => yj 0 6 64 u) y.w), ?_⟩; go_big_quiet_on
  repeat (go_big_quiet_step (fail))
  go_big_quiet_want; go_big_quiet_op; refine ⟨.string (aU n), fun y => gW (x := y) ((fun u => Ic n u hn) y.w), ?_⟩; go_big_quiet_on
  repeat (go_big_quiet_step (fail))
  go_big_quiet_want; go_big_quiet_op; refine ⟨.string (aU v), fun y => gW (x := y) ((fun u => Ic v u hv) y.w), ?_⟩; go_big_quiet_on
  repeat (go_big_quiet_step (fail))
  refine wpQuiet_nil ?_; intro _ hw'; obtain ⟨y, hw''⟩ := hw'; subst hw''; have hby := y.b
  go_wp2_with fail
  go_ret
  exact ⟨rfl, aO.trans (hby.mono aO.size)⟩
 ·simp only [qR, nX]
  have a1 := aaS; have a2 := aaT; have a3 := aaU
  go_enter Tryz.func127, Tryz.ntmps127
  go_wp2_with fail
  go_ret
  exact ⟨rfl, Below.refl _ _⟩
set_option maxHeartbeats 1000000 in
theorem FN (L : List Fd) (room : Int) (v : Value) (w : World) (hr0 : Reads w v L.length 2 (fv L)) (hf : ∀ f ∈ L, f.fine) :
  Calls Tryz.prog 95 #[.agg #[.int .i64 room, v]] w fun x w' => ∃ v', x = .returned (.tuple #[.agg #[.int .i64 (jH room L room).1.1, v'], .bool (jH room L room).2]) ∧ w'.ownsRow w.heap.size 104 2 v' (jH room L room).1.2.length (fv (jH room L room).1.2) ∧ Below w.heap.size w w' := by
 have HR := hide hr0
 obtain ⟨ad, cap, rfl, _⟩ := hr0.2
 clear hr0
 have HF := hide hf
 clear hf
 obtain ⟨D, hD⟩ : ∃ D, jH room L room = D := ⟨_, rfl⟩
 rw [hD]
 go_enter Tryz.func95, Tryz.ntmps95
 go_wp2_with fail
 refine (Zh L room _ room _ (HR.out.new (by repeat' (first | (with_reducible exact Below.refl _ _) | (with_reducible refine Below.drew ?_) | (with_reducible refine ay _ ?_) | (with_reducible refine aA ?_ _) | (refine ah ?_ (by with_reducible assumption)) | (with_reducible refine Below.setCell ?_ ?_ _) | go_size))) HF.out).mono ?_; rw [hD]; rintro x w1 ⟨v1, rfl, ho, hb1⟩
 have hc1 := fun o => hb1.cell (p := ⟨w.heap.size + 1, o, none⟩) (by first | (simp; done) | (simp; omega) | omega); have hf1 := fun o => hb1.frozen (p := ⟨w.heap.size + 1, o, none⟩) (by first | (simp; done) | (simp; omega) | omega); have hz2 := hb1.size; (try simp at hz2)
 have hbw : Below w.heap.size w w1 := (by repeat' (first | (with_reducible exact Below.refl _ _) | (with_reducible refine Below.drew ?_) | (with_reducible refine ay _ ?_) | (with_reducible refine aA ?_ _) | (refine ah ?_ (by with_reducible assumption)) | (with_reducible refine Below.setCell ?_ ?_ _) | go_size))
 obtain ⟨dN, dO, rfl, _⟩ := bW ho
 have hlt := ho.lt
 have HO := hide ho
 clear ho hD
 go_wp2_with fail
 refine bodyPost_ret (v := (.tuple #[.agg #[.int .i64 D.1.1, .slice dN D.1.2.length dO], .bool D.2])) (by simp [results, Tryz.results95, go_sem, *]) rfl ?_
 have hv : ∀ k, (Value.slice dN D.1.2.length dO).ownBlock = some k → w.heap.size + 1 + 1 ≤ k := fun k hk => by have := (hlt k hk).1; simpa using this
 have ho : w1.ownsRow w.heap.size 104 2 (.slice dN D.1.2.length dO) D.1.2.length (fv D.1.2) := eG HO.out fun k hk => by have := hv k hk; omega
 exact ⟨_, rfl, (by repeat' (first | (with_reducible exact ho) | (with_reducible refine iq _ ?_ hv _ _ ?_) | (with_reducible refine World.ownsRow.alloc ?_ _) | (simp; done) | (simp; omega))), (by repeat' (first | (with_reducible exact Below.refl _ _) | (with_reducible refine Below.drew ?_) | (with_reducible refine ay _ ?_) | (with_reducible refine aA ?_ _) | (refine ah ?_ (by with_reducible assumption)) | (with_reducible refine Below.setCell ?_ ?_ _) | go_size))⟩
end Go.Proofs.YtlpbnkideaojeaaGreatDoor
