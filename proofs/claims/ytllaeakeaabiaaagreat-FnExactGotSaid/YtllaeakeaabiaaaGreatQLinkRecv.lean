/- The program's link: a frame is received; what gave up is told. -/
import Derived.Test.YtllaeakeaabiaaaGreatQLinkStep9
import Derived.Defers
import Derived.Recover
namespace Go.Proofs.YtllaeakeaabiaaaGreat
open Go.RowKit
set_option maxRecDepth 100000
set_option linter.unusedSimpArgs false
set_option linter.unusedVariables false
theorem assertYes (v : Value) (w : World) : (Instr.typeAssert (.iface 123 v) 20 123 true).run Tryz.prog w = .ok (.tuple #[v, .bool true]) w := by
  first | rfl | (simp [Instr.typeAssert, go_sem]; done)
theorem assertNo (w : World) : (Instr.typeAssert .nilIface 20 123 true).run Tryz.prog w = .ok (.tuple #[.agg #[.int .i64 0, .int .i64 0], .bool false]) w := by
  first | rfl | (simp [Instr.typeAssert, go_sem]; done)
set_option maxHeartbeats 4000000 in
theorem catchPanic (lo g q : Nat) (d : CnD) (L : List Fr) (bs : List Nat) (st code : Int) (w : World) (h : LkM w lo g d L bs) (hok : okCn d = true) (hL : L.length ≤ 1000000) (h0 : 0 ≤ code) (h1 : code ≤ 100) (hc : w.cell? ⟨q, 0, none⟩ = some (.pointer (some ⟨g, 0, none⟩))) (hq : q ∉ g :: bs) (hql : q < w.heap.size) :
    CallsD Tryz.prog 73 #[.pointer (some ⟨q, 0, none⟩)] (.panicking ({ v := .iface 123 (.agg #[.int .i64 st, .int .i64 code]), recovered := false } :: [])) w fun e u' w' =>
      e = .returned (.tuple #[]) ∧ u' = .panicking ({ v := .iface 123 (.agg #[.int .i64 st, .int .i64 code]), recovered := true } :: []) ∧ ∃ bx, Lnk lo g w bs w' (failL d L st code).1 (failL d L st code).2 bx := by
  refine callsD_of_wpS Tryz.func73 rfl fun c₀ cs hu => ?_
  apply wpS_seq
  apply wpS_region
  simp [wpOpsS, go_sem, recoverD, hu, Tryz.ntmps73, Exit.thenS, assertYes]
  refine wpS_of_wp ?_
  simp only [Array.replicate_succ, Array.replicate_zero, List.push_toArray, List.append_toArray, List.nil_append, List.cons_append, List.setIfInBounds_toArray, List.set_cons_zero, List.set_cons_succ]
  have hbT : Below w.heap.size w (w.alloc (.cells #[.int .i64 st, .int .i64 code] 123)) := (Below.refl _ _).alloc (Nat.le_refl _) _
  have t0 := RowIs.cell (j := 0) (rowIs_new w 123 [.int .i64 st, .int .i64 code]) rfl
  have t1 := RowIs.cell (j := 1) (rowIs_new w 123 [.int .i64 st, .int .i64 code]) rfl
  have c0 := (hbT.cell (p := ⟨q, 0, none⟩) hql).trans hc
  have hm := h.new hbT
  have HBT := hide hbT
  clear hbT hc
  generalize w.alloc (.cells #[.int .i64 st, .int .i64 code] 123) = V at *
  go_wp2_with fail
  refine (implFail lo g d L bs st code _ hm hok hL h0 h1).mono ?_; rintro x w2 ⟨rfl, bx, hl⟩
  have HF := hide (Lnk.after HBT.out hl)
  clear hl hm t0 t1 c0
  go_wp2_with fail
  simp [bodyPostS, results, Tryz.results73]
  exact ⟨bx, HF.out⟩
set_option maxHeartbeats 4000000 in
theorem catchIdle (p : Addr) (w : World) :
    CallsD Tryz.prog 73 #[.pointer (some p)] .returning w fun e u' w' => e = .returned (.tuple #[]) ∧ u' = .returning ∧ Below w.heap.size w w' := by
  refine callsD_of_wpS Tryz.func73 rfl fun c₀ cs hu => ?_
  apply wpS_seq
  apply wpS_region
  simp [wpOpsS, go_sem, recoverD, hu, Tryz.ntmps73, Exit.thenS, assertNo]
  refine wpS_of_wp ?_
  simp only [Array.replicate_succ, Array.replicate_zero, List.push_toArray, List.append_toArray, List.nil_append, List.cons_append, List.setIfInBounds_toArray, List.set_cons_zero, List.set_cons_succ]
  have HBT := hide (show Below w.heap.size w (w.alloc (.cells #[.int .i64 0, .int .i64 0] 123)) from (Below.refl _ _).alloc (Nat.le_refl _) _)
  generalize w.alloc (.cells #[.int .i64 0, .int .i64 0] 123) = V at *
  go_wp2_with fail
  cases c₀
  simp_all [bodyPostS, results, Tryz.results73]
  exact HBT.out
/-- What a step tells is little; its codes are small. -/
def smallO (r : GotO) : Prop := r.2.1.length ≤ 10 ∧ ∀ q, r.2.2 = some q → 0 ≤ q.2 ∧ q.2 ≤ 100
theorem small_none {c : CnD} {l : List Fr} (h : l.length ≤ 10) : smallO (c, l, none) := ⟨h, fun q hq => by cases hq⟩
theorem small_some {c : CnD} {l : List Fr} {st code : Int} (h : l.length ≤ 10) (h0 : 0 ≤ code) (h1 : code ≤ 100) : smallO (c, l, some (st, code)) := ⟨h, fun q hq => by cases hq; exact ⟨h0, h1⟩⟩
theorem obey_small (c : CnD) (f : Fr) : smallO (obeyO c f) := by
  have hg := fun (c : CnD) (id n : Int) => (grant_shape c id n).2.2
  unfold obeyO
  split
  · unfold dataO
    dsimp only
    repeat' split
    all_goals first
      | exact small_some (by simp) (by decide) (by decide)
      | exact small_some (Nat.le_trans (hg _ _ _) (by decide)) (by decide) (by decide)
      | exact small_none (Nat.le_trans (hg _ _ _) (by decide))
      | exact small_none (by rw [List.length_append]; exact Nat.le_trans (Nat.add_le_add (hg _ _ _) (hg _ _ _)) (by decide))
  · split
    · unfold headO
      split
      · dsimp only
        split
        · exact small_none (by simp)
        · split
          · exact small_some (by simp) (by decide) (by decide)
          · unfold openO
            dsimp only
            repeat' split
            all_goals first
              | exact small_some (by simp) (by decide) (by decide)
              | exact small_none (by simp)
      · exact small_some (by simp) (by decide) (by decide)
    · split
      · split
        · exact small_some (by simp) (by decide) (by decide)
        · exact small_none (by simp)
      · split
        · unfold settleO
          repeat' split
          all_goals first
            | exact small_some (by simp) (by decide) (by decide)
            | exact small_none (by simp)
        · split
          · split <;> exact small_none (by simp)
          · split
            · exact small_none (by simp)
            · split
              · unfold windowO
                repeat' split
                all_goals first
                  | exact small_some (by simp) (by decide) (by decide)
                  | exact small_none (by simp)
              · exact small_none (by simp)
theorem failL_app (c : CnD) (l m : List Fr) (st code : Int) : failL c (l ++ m) st code = ((failL c m st code).1, l ++ (failL c m st code).2) := by
  unfold failL
  split <;> simp
set_option maxHeartbeats 8000000 in
theorem implReceive (lo g : Nat) (d : CnD) (L : List Fr) (bs : List Nat) (f : Fr) (w : World) (h : LkM w lo g d L bs) (hok : okCn d = true) (hd : d.dead = false) (hL : L.length ≤ 990) (hf : okFr f = true) :
    Calls Tryz.prog 31 #[.pointer (some ⟨g, 0, none⟩), .agg #[.int .i64 f.k, .int .i64 f.fl, .int .i64 f.st, .string f.b]] w fun x w' => x = .returned (.tuple #[]) ∧ ∃ bx, Lnk lo g w bs w' (gotRaw d f).1 (L ++ (gotRaw d f).2) bx := by
  have hmf : ∀ (fn : Fn) (first cap : Array Value) (w : World), (Instr.makeFunc fn first cap).run Tryz.prog w = .ok (.func fn first cap) w := fun _ _ _ _ => rfl
  rw [← over_obey hd hf]
  have hq := h.far (Nat.le_refl _)
  have hbP : Below w.heap.size w (w.alloc (.cells #[.pointer (some ⟨g, 0, none⟩)] 121)) := (Below.refl _ _).alloc (Nat.le_refl _) _
  go_enter_defers Tryz.func31, Tryz.ntmps31
  go_wp2_with fail
  have HB : Below w.heap.size w ((w.alloc (.cells #[.pointer (some ⟨g, 0, none⟩)] 121)).alloc (.cells #[.int .i64 f.k, .int .i64 f.fl, .int .i64 f.st, .string f.b] 48)) := hbP.alloc hbP.size _
  have HC := RowIs.cell (j := 0) ((rowIs_new w 121 [.pointer (some ⟨g, 0, none⟩)]).alloc (.cells #[.int .i64 f.k, .int .i64 f.fl, .int .i64 f.st, .string f.b] 48)) rfl
  have HLT : w.heap.size < ((w.alloc (.cells #[.pointer (some ⟨g, 0, none⟩)] 121)).alloc (.cells #[.int .i64 f.k, .int .i64 f.fl, .int .i64 f.st, .string f.b] 48)).heap.size := by simp; omega
  have hm := h.new HB
  generalize (w.alloc (.cells #[.pointer (some ⟨g, 0, none⟩)] 121)).alloc (.cells #[.int .i64 f.k, .int .i64 f.fl, .int .i64 f.st, .string f.b] 48) = W at *
  have HBH := hide HB
  clear HB hbP
  refine (implObey lo g d L bs f _ hm hok (by omega) hf).mono ?_
  rintro x w3 ⟨hx, by_, hl3⟩
  have hsm := obey_small d f
  have hoko := obey_okO (f := f) hok
  obtain ⟨r, hr⟩ : ∃ r, obeyO d f = r := ⟨_, rfl⟩
  rw [hr] at hx hl3 hsm hoko
  have HR := hide hr
  clear hr
  obtain ⟨c5, l5, q5⟩ := r
  have HF := hide (Lnk.after HBH.out hl3)
  cases q5 with
  | none =>
    simp only [endO] at hx
    subst hx
    go_wp2_with fail
    refine leaves_cons (f := 73) (args := #[.pointer (some ⟨w.heap.size, 0, none⟩)]) (by simp) (by simp [go_sem]) ?_
    refine (catchIdle ⟨w.heap.size, 0, none⟩ _).mono ?_
    rintro e u' w'' ⟨rfl, rfl, hb⟩
    have HF2 := hide (HF.out.new hb)
    clear hb
    rw [HR.out]
    simp [Leaves, settle, results, Tryz.results31, go_sem]
    exact ⟨by_, HF2.out⟩
  | some p =>
    obtain ⟨st5, cd5⟩ := p
    have hcd := hsm.2 _ rfl
    have hll : (L ++ l5).length ≤ 1000000 := by have := hsm.1; dsimp only at this; rw [List.length_append]; omega
    have hokc : okCn c5 = true := hoko _ rfl
    have hm3 := hl3.m
    have hc3 : w3.cell? ⟨w.heap.size, 0, none⟩ = some (.pointer (some ⟨g, 0, none⟩)) := (World.cell?_of_block (hl3.t.block w.heap.size HLT hq)).trans HC
    have hq3 : w.heap.size ∉ g :: by_ := hl3.apart HLT hq
    have hlt3 : w.heap.size < w3.heap.size := Nat.lt_of_lt_of_le HLT hl3.t.size
    simp only [endO] at hx
    subst hx
    clear hl3 HC
    go_wp2_with fail
    refine leaves_cons (f := 73) (args := #[.pointer (some ⟨w.heap.size, 0, none⟩)]) (by simp) (by simp [go_sem]) ?_
    refine (catchPanic lo g w.heap.size c5 (L ++ l5) by_ st5 cd5 _ hm3 hokc hll hcd.1 hcd.2 hc3 hq3 hlt3).mono ?_
    rintro e u' w'' ⟨rfl, rfl, bx, hl⟩
    have HF2 := hide (HF.out.step hl)
    clear hl
    rw [HR.out, over_some]
    rw [failL_app] at HF2
    simp [Leaves, settle, results, Tryz.results31, go_sem]
    exact ⟨bx, HF2.out⟩
end Go.Proofs.YtllaeakeaabiaaaGreat
