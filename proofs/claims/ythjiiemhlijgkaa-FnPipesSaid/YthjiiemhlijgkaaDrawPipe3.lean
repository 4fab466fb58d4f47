/- What chapter 1's law draws for a pull. -/
import Derived.Test.YthjiiemhlijgkaaDrawPipe2
import Derived.Handy
import Derived.Deep.RegionHeld3

namespace Go.Proofs.Ythjiiemhlijgkaa
open Go.RowKit
set_option linter.unusedSimpArgs false
set_option linter.unusedVariables false

theorem three_at (t : Int) (h0 : 0 ≤ t) (h1 : t < 3) (x y z : Int) : ∃ v : Int, (#[Value.int .i64 x, Value.int .i64 y, Value.int .i64 z] : Array Value)[t.toNat]? = some (.int .i64 v) ∧
    ∀ h : t.toNat < ([Value.int .i64 x, Value.int .i64 y, Value.int .i64 z] : List Value).length, ([Value.int .i64 x, Value.int .i64 y, Value.int .i64 z] : List Value)[t.toNat]'h = .int .i64 v := by
  have h : t = 0 ∨ t = 1 ∨ t = 2 := by omega
  rcases h with rfl | rfl | rfl
  · exact ⟨x, rfl, fun _ => rfl⟩
  · exact ⟨y, rfl, fun _ => rfl⟩
  · exact ⟨z, rfl, fun _ => rfl⟩

set_option maxHeartbeats 4000000 in
theorem drawPulled (a : Option Addr) (len cap : Nat) (w : World) (hl : len ≤ 4096) (hcode : CodeAt w a len w.heap.size) :
    Calls Try.prog 12 #[.slice a len cap] w fun x w' => ∃ (r : Int) (b : ByteArray) (e k : Bool) (n : Int), b.size ≤ 100 ∧ x = .returned (.tuple #[.agg #[.int .i64 r, .string b, .bool e, .bool k], .int .i64 n]) ∧ Below w.heap.size w w' := by
  go_enter Try.func12, Try.ntmps12
  go_wp2_with fail
  refine (new1 a len cap _ hl (hcode.next (bo_alloc (Below.refl _ _) _))).mono ?_; rintro x w1 ⟨g, rfl, hg, hk1, hb1⟩; have hz1 := hb1.size; (try simp at hz1); have hc1 := fun o => hb1.cell (p := ⟨w.heap.size, o, none⟩) (by first | (simp; done) | (simp; omega) | omega); have hf1 := fun o => hb1.frozen (p := ⟨w.heap.size, o, none⟩) (by first | (simp; done) | (simp; omega) | omega)
  simp at hg
  replace hk1 : Cur w1 g (w.heap.size + 1) := by simpa using hk1
  go_wp2_with fail
  refine (drawAny g (w.heap.size + 1) _ hk1).mono ?_; rintro x w2 ⟨r, b, e, k, hb, rfl, hk2, hm2⟩
  have hg1 := hk1.lt
  have hb2 : Below w.heap.size w w2 := (bchain (bo_alloc (Below.refl _ w) _) hb1).trans (hm2.below (by omega) (by omega))
  have hs2 := hm2.size
  have hlt2 : w.heap.size < w2.heap.size := by omega
  have rc := fun o => hm2.cell w.heap.size o (by omega) (by omega)
  have rf := fun o => hm2.frozen w.heap.size o (by omega) (by omega)
  go_wp2_with fail
  refine (once1 g (w.heap.size + 1) 10 _ (hk2.alloc _) (by omega)).mono ?_; rintro x w3 ⟨v, rfl, hk3, hm3⟩
  have hs3 := hm3.size
  simp at hs3
  have hlt3 : w.heap.size < w3.heap.size := by omega
  have hlt4 : w2.heap.size < w3.heap.size := by omega
  have rc3 := fun o => hm3.cell w.heap.size o (by simp; omega) (by omega)
  have rf3 := fun o => hm3.frozen w.heap.size o (by simp; omega) (by omega)
  have lc3 := fun o => hm3.cell w2.heap.size o (by simp) (by omega)
  have hb3 : Below w.heap.size w w3 := Below.trans (by repeat' (first | (with_reducible exact hb2) | (with_reducible refine Below.setCell ?_ ?_ _) | (with_reducible refine Below.alloc ?_ ?_ _) | (with_reducible refine Below.drew ?_) | (with_reducible refine bo_drewN _ ?_) | omega | (simp; done) | (simp; omega))) (hm3.below (by omega) (by simp; omega))
  cases v
  · go_wp2_with fail
    go_region_held3 (fun w' => w'.cell? ⟨w2.heap.size, 0, none⟩ = some (.int .i64 r) ∧ w'.cell? ⟨w2.heap.size, 1, none⟩ = some (.string b) ∧ w'.cell? ⟨w2.heap.size, 2, none⟩ = some (.bool e) ∧ w'.cell? ⟨w2.heap.size, 3, none⟩ = some (.bool k)) (simp [*, go_sem, World.cell?_alloc_past])
      (first | (go_at_call 38; refine (below1 g (w.heap.size + 1) 8 _ (by repeat' (first | (with_reducible exact hk3) | (with_reducible refine Cur.set ?_ _ _ ?_) | (with_reducible refine Cur.alloc ?_ _) | (with_reducible refine Cur.drewN ?_ _) | (with_reducible refine Cur.drew ?_) | omega | (simp; done) | (simp; omega))) (by omega)).mono ?_; rintro x w4 ⟨n, n0, n1, _, rfl, hk4, hm4⟩; have hs4 := hm4.size; (try simp at hs4); have lc := fun o => hm4.cell w2.heap.size o (by simp; omega) (by omega); have rc4 := fun o => hm4.cell w.heap.size o (by simp; omega) (by omega); have rf4 := fun o => hm4.frozen w.heap.size o (by simp; omega) (by omega)))
    have hb4 : Below w.heap.size w w4 := Below.trans (by repeat' (first | (with_reducible exact hb3) | (with_reducible refine Below.setCell ?_ ?_ _) | (with_reducible refine Below.alloc ?_ ?_ _) | (with_reducible refine Below.drew ?_) | (with_reducible refine bo_drewN _ ?_) | omega | (simp; done) | (simp; omega))) (hm4.below (by omega) (by simp; omega))
    go_wp2_with fail
    refine bodyPost_ret (v := .tuple #[.agg #[.int .i64 r, .string b, .bool e, .bool k], .int .i64 n]) (by simp [results, Try.results12, go_sem, *]) rfl ?_
    refine ⟨r, b, e, k, n, hb, rfl, ?_⟩
    repeat' (first | (with_reducible exact hb4) | (with_reducible refine Below.setCell ?_ ?_ _) | (with_reducible refine Below.alloc ?_ ?_ _) | (with_reducible refine Below.drew ?_) | (with_reducible refine bo_drewN _ ?_) | omega | (simp; done) | (simp; omega))
  · go_wp2_with fail
    go_region_with (go_at_call 38; refine (below1 g (w.heap.size + 1) 3 _ (by repeat' (first | (with_reducible exact hk3) | (with_reducible refine Cur.set ?_ _ _ ?_) | (with_reducible refine Cur.alloc ?_ _) | (with_reducible refine Cur.drewN ?_ _) | (with_reducible refine Cur.drew ?_) | omega | (simp; done) | (simp; omega))) (by omega)).mono ?_; rintro x w4 ⟨n, n0, n1, _, rfl, hk4, hm4⟩; have n3 : n < 3 := n1 (by omega); have hs4 := hm4.size; (try simp at hs4); obtain ⟨z, hz, hz2⟩ := three_at n n0 n3 (-1) 4611686018427387904 (-9223372036854775808); have hz' := hz; (try simp at hz'); have lc := fun o => hm4.cell w2.heap.size o (by first | (simp; done) | (simp; omega) | omega) (by omega); have rc4 := fun o => hm4.cell w.heap.size o (by first | (simp; done) | (simp; omega) | omega) (by omega); have rf4 := fun o => hm4.frozen w.heap.size o (by first | (simp; done) | (simp; omega) | omega) (by omega); have lz := fun o hlt => hm4.cell w3.heap.size o hlt (by omega); have h24 : w2.heap.size < w4.heap.size := (by omega); have h04 : w.heap.size < w4.heap.size := (by omega); have hb4 : Below w.heap.size w w4 := Below.trans (by repeat' (first | (with_reducible exact hb3) | (with_reducible refine Below.setCell ?_ ?_ _) | (with_reducible refine Below.alloc ?_ ?_ _) | (with_reducible refine Below.drew ?_) | (with_reducible refine bo_drewN _ ?_) | omega | (simp; done) | (simp; omega))) (hm4.below (by omega) (by first | (simp; done) | (simp; omega) | omega)))
    all_goals
      go_wp2_with fail
      refine bodyPost_ret (v := .tuple #[.agg #[.int .i64 r, .string b, .bool e, .bool k], .int .i64 z]) (by simp [results, Try.results12, go_sem, *]) rfl ?_
      refine ⟨r, b, e, k, z, hb, rfl, ?_⟩
      repeat' (first | (with_reducible exact hb4) | (with_reducible refine Below.setCell ?_ ?_ _) | (with_reducible refine Below.alloc ?_ ?_ _) | (with_reducible refine Below.drew ?_) | (with_reducible refine bo_drewN _ ?_) | omega | (simp; done) | (simp; omega))
end Go.Proofs.Ythjiiemhlijgkaa
