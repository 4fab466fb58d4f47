/- The law FnPipes returns true at every argument and leaves it as it was. No condition. -/
import Derived.Test.YthjiiemhlijgkaaPipeForms
import Derived.Test.YthjiiemhlijgkaaLater
import Derived.WalkKit
import Derived.ProofKit
import Derived.OpenShut
import Derived.ShutString
import Derived.ChangeOld
import Derived.Below
import Derived.Lib.SmallJoins
import Derived.Deep.RegionHeld3
import Derived.Deep.DeepCutAuto
import Derived.Handy

namespace Go.Proofs.Ythjiiemhlijgkaa
open Go.RowKit
namespace lawPipes
set_option linter.unusedVariables false
set_option linter.unusedSimpArgs false

set_option maxHeartbeats 4000000 in
set_option maxRecDepth 100000 in
theorem walk (a : Option Addr) (len cap : Nat) (w : World) (hl : len ≤ maxLen) (hcode : CodeAt w a len w.heap.size) :
    Calls Try.prog 3 #[.slice a len cap] w fun x w' => x = .returned (.bool true) ∧ Below w.heap.size w w' := by
  unfold maxLen at hl
  by_cases hbig : (4096 : Int) < len
  · go_enter Try.func3, Try.ntmps3
    go_wp2_with fail
    refine (big1 a len cap _).mono ?_; rw [decide_eq_true hbig]; rintro x w1 ⟨rfl, rfl⟩
    go_wp2_with fail
    go_ret
    exact ⟨rfl, Below.refl _ _⟩
  have hl' : len ≤ 4096 := by omega
  go_enter Try.func3, Try.ntmps3
  go_wp2_with fail
  refine (big1 a len cap _).mono ?_; rw [decide_eq_false (by omega)]; rintro x w0 ⟨rfl, rfl⟩
  go_wp2_with fail
  refine (drawPushed a len cap _ hl' hcode).mono ?_; rintro x w1 ⟨r, b, e, k, s, hbs, hss, rfl, hb1⟩
  have hs1 := hb1.size; (try simp at hs1)
  have hB : Below w0.heap.size w0 w1 := hb1
  have P1 : PipeAt (w1.alloc (.cells #[.int .i64 r, .string b, .bool e, .bool k] 25)) w1.heap.size r b e k := heap_alloc_new w1 _
  go_wp2_with fail
  refine (implPushedF r b s e k _ (by omega) (by omega)).mono ?_; rintro x w2 ⟨rfl, hb2⟩
  have hs2 := hb2.size; (try simp at hs2)
  replace P1 : PipeAt w2 w1.heap.size r b e k := PipeAt.below P1 hb2
  have ltP12 : w1.heap.size < w2.heap.size := P1.lt
  replace hB : Below w0.heap.size w0 w2 := bchain (bo_alloc hB _) hb2
  have P2 : PipeAt (w2.alloc (.cells #[.int .i64 (pR r b k), .string (pushB r b s e k), .bool (fl r b k e), .bool (fl r b k k)] 25)) w2.heap.size (pR r b k) (pushB r b s e k) (fl r b k e) (fl r b k k) := heap_alloc_new w2 _
  go_wp2_with fail
  refine (drawPulled a len cap _ hl' (hcode.next (bo_alloc hB _))).mono ?_; rintro x w3 ⟨qr, qb, qe, qk, qn, hqs, rfl, hb3⟩
  have hs3 := hb3.size; (try simp at hs3)
  replace P1 : PipeAt w3 w1.heap.size r b e k := PipeAt.below (P1.alloc _) hb3
  have ltP13 : w1.heap.size < w3.heap.size := P1.lt
  replace P2 : PipeAt w3 w2.heap.size (pR r b k) (pushB r b s e k) (fl r b k e) (fl r b k k) := PipeAt.below P2 hb3
  have ltP23 : w2.heap.size < w3.heap.size := P2.lt
  replace hB : Below w0.heap.size w0 w3 := bchain (bo_alloc hB _) hb3
  have P3 : PipeAt (w3.alloc (.cells #[.int .i64 qr, .string qb, .bool qe, .bool qk] 25)) w3.heap.size qr qb qe qk := heap_alloc_new w3 _
  go_wp2_with fail
  refine (implPulledF qr qb qe qk qn _ (by omega)).mono ?_; rintro x w4 ⟨rfl, hb4⟩
  have hs4 := hb4.size; (try simp at hs4)
  replace P1 : PipeAt w4 w1.heap.size r b e k := PipeAt.below (P1.alloc _) hb4
  have ltP14 : w1.heap.size < w4.heap.size := P1.lt
  replace P2 : PipeAt w4 w2.heap.size (pR r b k) (pushB r b s e k) (fl r b k e) (fl r b k k) := PipeAt.below (P2.alloc _) hb4
  have ltP24 : w2.heap.size < w4.heap.size := P2.lt
  replace P3 : PipeAt w4 w3.heap.size qr qb qe qk := PipeAt.below P3 hb4
  have ltP34 : w3.heap.size < w4.heap.size := P3.lt
  replace hB : Below w0.heap.size w0 w4 := bchain (bo_alloc hB _) hb4
  have P4 : PipeAt (w4.alloc (.cells #[.int .i64 (pR qr qb qk), .string (pullB qr qb qk qn), .bool (fl qr qb qk qe), .bool (fl qr qb qk qk)] 25)) w4.heap.size (pR qr qb qk) (pullB qr qb qk qn) (fl qr qb qk qe) (fl qr qb qk qk) := heap_alloc_new w4 _
  go_wp2_with fail
  refine (drawClosed a len cap _ hl' (hcode.next (bo_alloc hB _))).mono ?_; rintro x w5 ⟨cr, cb, ce, ck, hcs, rfl, hb5⟩
  have hs5 := hb5.size; (try simp at hs5)
  replace P1 : PipeAt w5 w1.heap.size r b e k := PipeAt.below (P1.alloc _) hb5
  have ltP15 : w1.heap.size < w5.heap.size := P1.lt
  replace P2 : PipeAt w5 w2.heap.size (pR r b k) (pushB r b s e k) (fl r b k e) (fl r b k k) := PipeAt.below (P2.alloc _) hb5
  have ltP25 : w2.heap.size < w5.heap.size := P2.lt
  replace P3 : PipeAt w5 w3.heap.size qr qb qe qk := PipeAt.below (P3.alloc _) hb5
  have ltP35 : w3.heap.size < w5.heap.size := P3.lt
  replace P4 : PipeAt w5 w4.heap.size (pR qr qb qk) (pullB qr qb qk qn) (fl qr qb qk qe) (fl qr qb qk qk) := PipeAt.below P4 hb5
  have ltP45 : w4.heap.size < w5.heap.size := P4.lt
  replace hB : Below w0.heap.size w0 w5 := bchain (bo_alloc hB _) hb5
  have P5 : PipeAt (w5.alloc (.cells #[.int .i64 cr, .string cb, .bool ce, .bool ck] 25)) w5.heap.size cr cb ce ck := heap_alloc_new w5 _
  go_wp2_with fail
  refine (drawDry a len cap _ hl' (hcode.next (bo_alloc hB _))).mono ?_; rintro x w6 ⟨dr, db, de, dk, hds, rfl, hb6⟩
  have hs6 := hb6.size; (try simp at hs6)
  replace P1 : PipeAt w6 w1.heap.size r b e k := PipeAt.below (P1.alloc _) hb6
  have ltP16 : w1.heap.size < w6.heap.size := P1.lt
  replace P2 : PipeAt w6 w2.heap.size (pR r b k) (pushB r b s e k) (fl r b k e) (fl r b k k) := PipeAt.below (P2.alloc _) hb6
  have ltP26 : w2.heap.size < w6.heap.size := P2.lt
  replace P3 : PipeAt w6 w3.heap.size qr qb qe qk := PipeAt.below (P3.alloc _) hb6
  have ltP36 : w3.heap.size < w6.heap.size := P3.lt
  replace P4 : PipeAt w6 w4.heap.size (pR qr qb qk) (pullB qr qb qk qn) (fl qr qb qk qe) (fl qr qb qk qk) := PipeAt.below (P4.alloc _) hb6
  have ltP46 : w4.heap.size < w6.heap.size := P4.lt
  replace P5 : PipeAt w6 w5.heap.size cr cb ce ck := PipeAt.below P5 hb6
  have ltP56 : w5.heap.size < w6.heap.size := P5.lt
  replace hB : Below w0.heap.size w0 w6 := bchain (bo_alloc hB _) hb6
  have P6 : PipeAt (w6.alloc (.cells #[.int .i64 dr, .string db, .bool de, .bool dk] 25)) w6.heap.size dr db de dk := heap_alloc_new w6 _
  go_wp2_with fail
  refine (drawNew a len cap _ hl' (hcode.next (bo_alloc hB _))).mono ?_; rintro x w7 ⟨nr, rfl, hb7⟩
  have hs7 := hb7.size; (try simp at hs7)
  replace P1 : PipeAt w7 w1.heap.size r b e k := PipeAt.below (P1.alloc _) hb7
  have ltP17 : w1.heap.size < w7.heap.size := P1.lt
  replace P2 : PipeAt w7 w2.heap.size (pR r b k) (pushB r b s e k) (fl r b k e) (fl r b k k) := PipeAt.below (P2.alloc _) hb7
  have ltP27 : w2.heap.size < w7.heap.size := P2.lt
  replace P3 : PipeAt w7 w3.heap.size qr qb qe qk := PipeAt.below (P3.alloc _) hb7
  have ltP37 : w3.heap.size < w7.heap.size := P3.lt
  replace P4 : PipeAt w7 w4.heap.size (pR qr qb qk) (pullB qr qb qk qn) (fl qr qb qk qe) (fl qr qb qk qk) := PipeAt.below (P4.alloc _) hb7
  have ltP47 : w4.heap.size < w7.heap.size := P4.lt
  replace P5 : PipeAt w7 w5.heap.size cr cb ce ck := PipeAt.below (P5.alloc _) hb7
  have ltP57 : w5.heap.size < w7.heap.size := P5.lt
  replace P6 : PipeAt w7 w6.heap.size dr db de dk := PipeAt.below P6 hb7
  have ltP67 : w6.heap.size < w7.heap.size := P6.lt
  replace hB : Below w0.heap.size w0 w7 := bchain (bo_alloc hB _) hb7
  go_wp2_with fail
  refine (implNewF nr _).mono ?_; rintro x w8 ⟨rfl, hb8⟩
  have hs8 := hb8.size; (try simp at hs8)
  replace P1 : PipeAt w8 w1.heap.size r b e k := PipeAt.below P1 hb8
  have ltP18 : w1.heap.size < w8.heap.size := P1.lt
  replace P2 : PipeAt w8 w2.heap.size (pR r b k) (pushB r b s e k) (fl r b k e) (fl r b k k) := PipeAt.below P2 hb8
  have ltP28 : w2.heap.size < w8.heap.size := P2.lt
  replace P3 : PipeAt w8 w3.heap.size qr qb qe qk := PipeAt.below P3 hb8
  have ltP38 : w3.heap.size < w8.heap.size := P3.lt
  replace P4 : PipeAt w8 w4.heap.size (pR qr qb qk) (pullB qr qb qk qn) (fl qr qb qk qe) (fl qr qb qk qk) := PipeAt.below P4 hb8
  have ltP48 : w4.heap.size < w8.heap.size := P4.lt
  replace P5 : PipeAt w8 w5.heap.size cr cb ce ck := PipeAt.below P5 hb8
  have ltP58 : w5.heap.size < w8.heap.size := P5.lt
  replace P6 : PipeAt w8 w6.heap.size dr db de dk := PipeAt.below P6 hb8
  have ltP68 : w6.heap.size < w8.heap.size := P6.lt
  replace hB : Below w0.heap.size w0 w8 := bchain (hB) hb8
  have P7 : PipeAt (w8.alloc (.cells #[.int .i64 (newR nr), .string ⟨#[]⟩, .bool false, .bool false] 25)) w8.heap.size (newR nr) ⟨#[]⟩ false false := heap_alloc_new w8 _
  obtain ⟨p0, p1, p2, p3, _⟩ := P1.cells
  go_wp2_with fail
  clear p0 p1 p2 p3
  refine (specPushedF r b s e k _ (by omega) (by omega)).mono ?_; rintro x w9 ⟨rfl, hb9⟩
  have hs9 := hb9.size; (try simp at hs9)
  replace P1 : PipeAt w9 w1.heap.size r b e k := PipeAt.below (P1.alloc _) hb9
  have ltP19 : w1.heap.size < w9.heap.size := P1.lt
  replace P2 : PipeAt w9 w2.heap.size (pR r b k) (pushB r b s e k) (fl r b k e) (fl r b k k) := PipeAt.below (P2.alloc _) hb9
  have ltP29 : w2.heap.size < w9.heap.size := P2.lt
  replace P3 : PipeAt w9 w3.heap.size qr qb qe qk := PipeAt.below (P3.alloc _) hb9
  have ltP39 : w3.heap.size < w9.heap.size := P3.lt
  replace P4 : PipeAt w9 w4.heap.size (pR qr qb qk) (pullB qr qb qk qn) (fl qr qb qk qe) (fl qr qb qk qk) := PipeAt.below (P4.alloc _) hb9
  have ltP49 : w4.heap.size < w9.heap.size := P4.lt
  replace P5 : PipeAt w9 w5.heap.size cr cb ce ck := PipeAt.below (P5.alloc _) hb9
  have ltP59 : w5.heap.size < w9.heap.size := P5.lt
  replace P6 : PipeAt w9 w6.heap.size dr db de dk := PipeAt.below (P6.alloc _) hb9
  have ltP69 : w6.heap.size < w9.heap.size := P6.lt
  replace P7 : PipeAt w9 w8.heap.size (newR nr) ⟨#[]⟩ false false := PipeAt.below P7 hb9
  have ltP79 : w8.heap.size < w9.heap.size := P7.lt
  replace hB : Below w0.heap.size w0 w9 := bchain (bo_alloc hB _) hb9
  have P8 : PipeAt (w9.alloc (.cells #[.int .i64 (pR r b k), .string (pushB r b s e k), .bool (fl r b k e), .bool (fl r b k k)] 25)) w9.heap.size (pR r b k) (pushB r b s e k) (fl r b k e) (fl r b k k) := heap_alloc_new w9 _
  go_wp2_with fail
  go_cut [102] (fun c wx => c = .bool false ∧ Below (w9.alloc (.cells #[.int .i64 (pR r b k), .string (pushB r b s e k), .bool (fl r b k e), .bool (fl r b k k)] 25)).heap.size (w9.alloc (.cells #[.int .i64 (pR r b k), .string (pushB r b s e k), .bool (fl r b k e), .bool (fl r b k k)] 25)) wx)
  case first =>
    as_aux_lemma =>
      obtain ⟨cP10, cP11, cP12, cP13, _⟩ := P1.cells
      obtain ⟨cP20, cP21, cP22, cP23, _⟩ := P2.cells
      obtain ⟨cP50, cP51, cP52, cP53, _⟩ := P5.cells
      obtain ⟨cP60, cP61, cP62, cP63, _⟩ := P6.cells
      go_region_held3 (fun w' => w'.cell? ⟨w1.heap.size, 0, none⟩ = some (.int .i64 r) ∧ w'.cell? ⟨w1.heap.size, 1, none⟩ = some (.string b) ∧ w'.cell? ⟨w1.heap.size, 2, none⟩ = some (.bool e) ∧ w'.cell? ⟨w1.heap.size, 3, none⟩ = some (.bool k) ∧ w'.cell? ⟨w2.heap.size, 0, none⟩ = some (.int .i64 (pR r b k)) ∧ w'.cell? ⟨w2.heap.size, 1, none⟩ = some (.string (pushB r b s e k)) ∧ w'.cell? ⟨w2.heap.size, 2, none⟩ = some (.bool (fl r b k e)) ∧ w'.cell? ⟨w2.heap.size, 3, none⟩ = some (.bool (fl r b k k)) ∧ w'.cell? ⟨w5.heap.size, 0, none⟩ = some (.int .i64 cr) ∧ w'.cell? ⟨w5.heap.size, 1, none⟩ = some (.string cb) ∧ w'.cell? ⟨w5.heap.size, 2, none⟩ = some (.bool ce) ∧ w'.cell? ⟨w5.heap.size, 3, none⟩ = some (.bool ck) ∧ w'.cell? ⟨w6.heap.size, 0, none⟩ = some (.int .i64 dr) ∧ w'.cell? ⟨w6.heap.size, 1, none⟩ = some (.string db) ∧ w'.cell? ⟨w6.heap.size, 2, none⟩ = some (.bool de) ∧ w'.cell? ⟨w6.heap.size, 3, none⟩ = some (.bool dk) ∧ w'.cell? ⟨w9.heap.size, 0, none⟩ = some (.int .i64 (pR r b k)) ∧ w'.cell? ⟨w9.heap.size, 1, none⟩ = some (.string (pushB r b s e k)) ∧ w'.cell? ⟨w9.heap.size, 2, none⟩ = some (.bool (fl r b k e)) ∧ w'.cell? ⟨w9.heap.size, 3, none⟩ = some (.bool (fl r b k k))) (simp [*, go_sem, World.cell?_alloc_past])
        (first
          | (go_at_call 19; refine (implOkF r b e k _ (by omega)).mono ?_; rintro x wA ⟨rfl, hbA⟩; have hsA := hbA.size; (try simp at hsA); have fAP1 := fun o => hbA.cell (p := ⟨w1.heap.size, o, none⟩) (by first | (simp; done) | (simp; omega) | omega); have fAP2 := fun o => hbA.cell (p := ⟨w2.heap.size, o, none⟩) (by first | (simp; done) | (simp; omega) | omega); have fAP5 := fun o => hbA.cell (p := ⟨w5.heap.size, o, none⟩) (by first | (simp; done) | (simp; omega) | omega); have fAP6 := fun o => hbA.cell (p := ⟨w6.heap.size, o, none⟩) (by first | (simp; done) | (simp; omega) | omega); have fAP8 := fun o => hbA.cell (p := ⟨w9.heap.size, o, none⟩) (by first | (simp; done) | (simp; omega) | omega))
          | (go_at_call 20; refine (specOkF r b e k _ (by omega)).mono ?_; rintro x wA ⟨rfl, hbA⟩; have hsA := hbA.size; (try simp at hsA); have fAP1 := fun o => hbA.cell (p := ⟨w1.heap.size, o, none⟩) (by first | (simp; done) | (simp; omega) | omega); have fAP2 := fun o => hbA.cell (p := ⟨w2.heap.size, o, none⟩) (by first | (simp; done) | (simp; omega) | omega); have fAP5 := fun o => hbA.cell (p := ⟨w5.heap.size, o, none⟩) (by first | (simp; done) | (simp; omega) | omega); have fAP6 := fun o => hbA.cell (p := ⟨w6.heap.size, o, none⟩) (by first | (simp; done) | (simp; omega) | omega); have fAP8 := fun o => hbA.cell (p := ⟨w9.heap.size, o, none⟩) (by first | (simp; done) | (simp; omega) | omega))
          | (go_at_call 21; refine (implClosedF cr cb ce ck _ (by omega)).mono ?_; rintro x wA ⟨rfl, hbA⟩; have hsA := hbA.size; (try simp at hsA); have fAP1 := fun o => hbA.cell (p := ⟨w1.heap.size, o, none⟩) (by first | (simp; done) | (simp; omega) | omega); have fAP2 := fun o => hbA.cell (p := ⟨w2.heap.size, o, none⟩) (by first | (simp; done) | (simp; omega) | omega); have fAP5 := fun o => hbA.cell (p := ⟨w5.heap.size, o, none⟩) (by first | (simp; done) | (simp; omega) | omega); have fAP6 := fun o => hbA.cell (p := ⟨w6.heap.size, o, none⟩) (by first | (simp; done) | (simp; omega) | omega); have fAP8 := fun o => hbA.cell (p := ⟨w9.heap.size, o, none⟩) (by first | (simp; done) | (simp; omega) | omega))
          | (go_at_call 22; refine (specClosedF cr cb ce ck _ (by omega)).mono ?_; rintro x wA ⟨rfl, hbA⟩; have hsA := hbA.size; (try simp at hsA); have fAP1 := fun o => hbA.cell (p := ⟨w1.heap.size, o, none⟩) (by first | (simp; done) | (simp; omega) | omega); have fAP2 := fun o => hbA.cell (p := ⟨w2.heap.size, o, none⟩) (by first | (simp; done) | (simp; omega) | omega); have fAP5 := fun o => hbA.cell (p := ⟨w5.heap.size, o, none⟩) (by first | (simp; done) | (simp; omega) | omega); have fAP6 := fun o => hbA.cell (p := ⟨w6.heap.size, o, none⟩) (by first | (simp; done) | (simp; omega) | omega); have fAP8 := fun o => hbA.cell (p := ⟨w9.heap.size, o, none⟩) (by first | (simp; done) | (simp; omega) | omega))
          | (go_at_call 23; refine (implBurstF cr cb ce ck _ (by omega)).mono ?_; rintro x wA ⟨rfl, hbA⟩; have hsA := hbA.size; (try simp at hsA); have fAP1 := fun o => hbA.cell (p := ⟨w1.heap.size, o, none⟩) (by first | (simp; done) | (simp; omega) | omega); have fAP2 := fun o => hbA.cell (p := ⟨w2.heap.size, o, none⟩) (by first | (simp; done) | (simp; omega) | omega); have fAP5 := fun o => hbA.cell (p := ⟨w5.heap.size, o, none⟩) (by first | (simp; done) | (simp; omega) | omega); have fAP6 := fun o => hbA.cell (p := ⟨w6.heap.size, o, none⟩) (by first | (simp; done) | (simp; omega) | omega); have fAP8 := fun o => hbA.cell (p := ⟨w9.heap.size, o, none⟩) (by first | (simp; done) | (simp; omega) | omega))
          | (go_at_call 24; refine (specBurstF cr cb ce ck _ (by omega)).mono ?_; rintro x wA ⟨rfl, hbA⟩; have hsA := hbA.size; (try simp at hsA); have fAP1 := fun o => hbA.cell (p := ⟨w1.heap.size, o, none⟩) (by first | (simp; done) | (simp; omega) | omega); have fAP2 := fun o => hbA.cell (p := ⟨w2.heap.size, o, none⟩) (by first | (simp; done) | (simp; omega) | omega); have fAP5 := fun o => hbA.cell (p := ⟨w5.heap.size, o, none⟩) (by first | (simp; done) | (simp; omega) | omega); have fAP6 := fun o => hbA.cell (p := ⟨w6.heap.size, o, none⟩) (by first | (simp; done) | (simp; omega) | omega); have fAP8 := fun o => hbA.cell (p := ⟨w9.heap.size, o, none⟩) (by first | (simp; done) | (simp; omega) | omega))
          | (go_at_call 25; refine (implDryF dr db de dk _ (by omega)).mono ?_; rintro x wA ⟨rfl, hbA⟩; have hsA := hbA.size; (try simp at hsA); have fAP1 := fun o => hbA.cell (p := ⟨w1.heap.size, o, none⟩) (by first | (simp; done) | (simp; omega) | omega); have fAP2 := fun o => hbA.cell (p := ⟨w2.heap.size, o, none⟩) (by first | (simp; done) | (simp; omega) | omega); have fAP5 := fun o => hbA.cell (p := ⟨w5.heap.size, o, none⟩) (by first | (simp; done) | (simp; omega) | omega); have fAP6 := fun o => hbA.cell (p := ⟨w6.heap.size, o, none⟩) (by first | (simp; done) | (simp; omega) | omega); have fAP8 := fun o => hbA.cell (p := ⟨w9.heap.size, o, none⟩) (by first | (simp; done) | (simp; omega) | omega))
          | (go_at_call 26; refine (specDryF dr db de dk _ (by omega)).mono ?_; rintro x wA ⟨rfl, hbA⟩; have hsA := hbA.size; (try simp at hsA); have fAP1 := fun o => hbA.cell (p := ⟨w1.heap.size, o, none⟩) (by first | (simp; done) | (simp; omega) | omega); have fAP2 := fun o => hbA.cell (p := ⟨w2.heap.size, o, none⟩) (by first | (simp; done) | (simp; omega) | omega); have fAP5 := fun o => hbA.cell (p := ⟨w5.heap.size, o, none⟩) (by first | (simp; done) | (simp; omega) | omega); have fAP6 := fun o => hbA.cell (p := ⟨w6.heap.size, o, none⟩) (by first | (simp; done) | (simp; omega) | omega); have fAP8 := fun o => hbA.cell (p := ⟨w9.heap.size, o, none⟩) (by first | (simp; done) | (simp; omega) | omega)))
      go_wp2_with fail
      go_meet
      exact ⟨rfl, (by repeat' (first | (with_reducible exact Below.refl _ _) | (with_reducible refine Below.drew ?_) | (with_reducible refine bo_drewN _ ?_) | (with_reducible refine bo_alloc ?_ _) | (refine bchain ?_ (by with_reducible assumption)) | (with_reducible refine Below.setCell ?_ ?_ _) | go_size))⟩
  case rest =>
    obtain ⟨rfl, hR⟩ := hcut
    obtain ⟨w10, rfl⟩ : ∃ v : World, v = wc := ⟨_, rfl⟩
    have hsw10 := hR.size; (try simp at hsw10)
    replace P1 : PipeAt w10 w1.heap.size r b e k := PipeAt.below (P1.alloc _) hR
    have ltP1w10 : w1.heap.size < w10.heap.size := P1.lt
    replace P2 : PipeAt w10 w2.heap.size (pR r b k) (pushB r b s e k) (fl r b k e) (fl r b k k) := PipeAt.below (P2.alloc _) hR
    have ltP2w10 : w2.heap.size < w10.heap.size := P2.lt
    replace P3 : PipeAt w10 w3.heap.size qr qb qe qk := PipeAt.below (P3.alloc _) hR
    have ltP3w10 : w3.heap.size < w10.heap.size := P3.lt
    replace P4 : PipeAt w10 w4.heap.size (pR qr qb qk) (pullB qr qb qk qn) (fl qr qb qk qe) (fl qr qb qk qk) := PipeAt.below (P4.alloc _) hR
    have ltP4w10 : w4.heap.size < w10.heap.size := P4.lt
    replace P5 : PipeAt w10 w5.heap.size cr cb ce ck := PipeAt.below (P5.alloc _) hR
    have ltP5w10 : w5.heap.size < w10.heap.size := P5.lt
    replace P6 : PipeAt w10 w6.heap.size dr db de dk := PipeAt.below (P6.alloc _) hR
    have ltP6w10 : w6.heap.size < w10.heap.size := P6.lt
    replace P7 : PipeAt w10 w8.heap.size (newR nr) ⟨#[]⟩ false false := PipeAt.below (P7.alloc _) hR
    have ltP7w10 : w8.heap.size < w10.heap.size := P7.lt
    replace P8 : PipeAt w10 w9.heap.size (pR r b k) (pushB r b s e k) (fl r b k e) (fl r b k k) := PipeAt.below P8 hR
    have ltP8w10 : w9.heap.size < w10.heap.size := P8.lt
    replace hB : Below w0.heap.size w0 w10 := bchain (bo_alloc hB _) hR
    obtain ⟨cP30, cP31, cP32, cP33, _⟩ := P3.cells
    go_wp2_with fail
    clear cP30 cP31 cP32 cP33
    refine (specPulledF qr qb qe qk qn _ (by omega)).mono ?_; rintro x w11 ⟨rfl, hb11⟩
    have hs11 := hb11.size; (try simp at hs11)
    replace P1 : PipeAt w11 w1.heap.size r b e k := PipeAt.below P1 hb11
    have ltP111 : w1.heap.size < w11.heap.size := P1.lt
    replace P2 : PipeAt w11 w2.heap.size (pR r b k) (pushB r b s e k) (fl r b k e) (fl r b k k) := PipeAt.below P2 hb11
    have ltP211 : w2.heap.size < w11.heap.size := P2.lt
    replace P3 : PipeAt w11 w3.heap.size qr qb qe qk := PipeAt.below P3 hb11
    have ltP311 : w3.heap.size < w11.heap.size := P3.lt
    replace P4 : PipeAt w11 w4.heap.size (pR qr qb qk) (pullB qr qb qk qn) (fl qr qb qk qe) (fl qr qb qk qk) := PipeAt.below P4 hb11
    have ltP411 : w4.heap.size < w11.heap.size := P4.lt
    replace P5 : PipeAt w11 w5.heap.size cr cb ce ck := PipeAt.below P5 hb11
    have ltP511 : w5.heap.size < w11.heap.size := P5.lt
    replace P6 : PipeAt w11 w6.heap.size dr db de dk := PipeAt.below P6 hb11
    have ltP611 : w6.heap.size < w11.heap.size := P6.lt
    replace P7 : PipeAt w11 w8.heap.size (newR nr) ⟨#[]⟩ false false := PipeAt.below P7 hb11
    have ltP711 : w8.heap.size < w11.heap.size := P7.lt
    replace P8 : PipeAt w11 w9.heap.size (pR r b k) (pushB r b s e k) (fl r b k e) (fl r b k k) := PipeAt.below P8 hb11
    have ltP811 : w9.heap.size < w11.heap.size := P8.lt
    replace hB : Below w0.heap.size w0 w11 := bchain (hB) hb11
    have P9 : PipeAt (w11.alloc (.cells #[.int .i64 (pR qr qb qk), .string (pullB qr qb qk qn), .bool (fl qr qb qk qe), .bool (fl qr qb qk qk)] 25)) w11.heap.size (pR qr qb qk) (pullB qr qb qk qn) (fl qr qb qk qe) (fl qr qb qk qk) := heap_alloc_new w11 _
    obtain ⟨cP40, cP41, cP42, cP43, _⟩ := P4.cells
    go_wp2_with fail
    clear cP40 cP41 cP42 cP43
    refine (specNewF nr _).mono ?_; rintro x w12 ⟨rfl, hb12⟩
    have hs12 := hb12.size; (try simp at hs12)
    replace P1 : PipeAt w12 w1.heap.size r b e k := PipeAt.below (P1.alloc _) hb12
    have ltP112 : w1.heap.size < w12.heap.size := P1.lt
    replace P2 : PipeAt w12 w2.heap.size (pR r b k) (pushB r b s e k) (fl r b k e) (fl r b k k) := PipeAt.below (P2.alloc _) hb12
    have ltP212 : w2.heap.size < w12.heap.size := P2.lt
    replace P3 : PipeAt w12 w3.heap.size qr qb qe qk := PipeAt.below (P3.alloc _) hb12
    have ltP312 : w3.heap.size < w12.heap.size := P3.lt
    replace P4 : PipeAt w12 w4.heap.size (pR qr qb qk) (pullB qr qb qk qn) (fl qr qb qk qe) (fl qr qb qk qk) := PipeAt.below (P4.alloc _) hb12
    have ltP412 : w4.heap.size < w12.heap.size := P4.lt
    replace P5 : PipeAt w12 w5.heap.size cr cb ce ck := PipeAt.below (P5.alloc _) hb12
    have ltP512 : w5.heap.size < w12.heap.size := P5.lt
    replace P6 : PipeAt w12 w6.heap.size dr db de dk := PipeAt.below (P6.alloc _) hb12
    have ltP612 : w6.heap.size < w12.heap.size := P6.lt
    replace P7 : PipeAt w12 w8.heap.size (newR nr) ⟨#[]⟩ false false := PipeAt.below (P7.alloc _) hb12
    have ltP712 : w8.heap.size < w12.heap.size := P7.lt
    replace P8 : PipeAt w12 w9.heap.size (pR r b k) (pushB r b s e k) (fl r b k e) (fl r b k k) := PipeAt.below (P8.alloc _) hb12
    have ltP812 : w9.heap.size < w12.heap.size := P8.lt
    replace P9 : PipeAt w12 w11.heap.size (pR qr qb qk) (pullB qr qb qk qn) (fl qr qb qk qe) (fl qr qb qk qk) := PipeAt.below P9 hb12
    have ltP912 : w11.heap.size < w12.heap.size := P9.lt
    replace hB : Below w0.heap.size w0 w12 := bchain (bo_alloc hB _) hb12
    have P10 : PipeAt (w12.alloc (.cells #[.int .i64 (newR nr), .string ⟨#[]⟩, .bool false, .bool false] 25)) w12.heap.size (newR nr) ⟨#[]⟩ false false := heap_alloc_new w12 _
    go_upto_region 18 with fail
    go_cut [15, 21, 137] (fun i1 i2 c wx => c = .bool false ∧ Below (w12.alloc (.cells #[.int .i64 (newR nr), .string ⟨#[]⟩, .bool false, .bool false] 25)).heap.size (w12.alloc (.cells #[.int .i64 (newR nr), .string ⟨#[]⟩, .bool false, .bool false] 25)) wx)
    case first =>
      as_aux_lemma =>
        obtain ⟨cP70, cP71, cP72, cP73, _⟩ := P7.cells
        have hnew : okB (newR nr) ⟨#[]⟩ false = newB nr := okB_newR nr
        cases hv : newB nr
        · go_wp2_with fail
          go_meet
          exact ⟨rfl, (by repeat' (first | (with_reducible exact Below.refl _ _) | (with_reducible refine Below.drew ?_) | (with_reducible refine bo_drewN _ ?_) | (with_reducible refine bo_alloc ?_ _) | (refine bchain ?_ (by with_reducible assumption)) | (with_reducible refine Below.setCell ?_ ?_ _) | go_size))⟩
        · go_wp2_with fail
          refine (implOkF (newR nr) ⟨#[]⟩ false false _ (by show 0 ≤ 4000; omega)).mono ?_; rw [hnew, hv]; rintro x w13 ⟨rfl, hb13⟩
          go_wp2_with fail
          go_meet
          exact ⟨rfl, (by repeat' (first | (with_reducible exact Below.refl _ _) | (with_reducible refine Below.drew ?_) | (with_reducible refine bo_drewN _ ?_) | (with_reducible refine bo_alloc ?_ _) | (refine bchain ?_ (by with_reducible assumption)) | (with_reducible refine Below.setCell ?_ ?_ _) | go_size))⟩
    case rest =>
      obtain ⟨rfl, hR⟩ := hcut
      obtain ⟨w14, rfl⟩ : ∃ v : World, v = wc := ⟨_, rfl⟩
      have hsw14 := hR.size; (try simp at hsw14)
      replace P1 : PipeAt w14 w1.heap.size r b e k := PipeAt.below (P1.alloc _) hR
      have ltP1w14 : w1.heap.size < w14.heap.size := P1.lt
      replace P2 : PipeAt w14 w2.heap.size (pR r b k) (pushB r b s e k) (fl r b k e) (fl r b k k) := PipeAt.below (P2.alloc _) hR
      have ltP2w14 : w2.heap.size < w14.heap.size := P2.lt
      replace P3 : PipeAt w14 w3.heap.size qr qb qe qk := PipeAt.below (P3.alloc _) hR
      have ltP3w14 : w3.heap.size < w14.heap.size := P3.lt
      replace P4 : PipeAt w14 w4.heap.size (pR qr qb qk) (pullB qr qb qk qn) (fl qr qb qk qe) (fl qr qb qk qk) := PipeAt.below (P4.alloc _) hR
      have ltP4w14 : w4.heap.size < w14.heap.size := P4.lt
      replace P5 : PipeAt w14 w5.heap.size cr cb ce ck := PipeAt.below (P5.alloc _) hR
      have ltP5w14 : w5.heap.size < w14.heap.size := P5.lt
      replace P6 : PipeAt w14 w6.heap.size dr db de dk := PipeAt.below (P6.alloc _) hR
      have ltP6w14 : w6.heap.size < w14.heap.size := P6.lt
      replace P7 : PipeAt w14 w8.heap.size (newR nr) ⟨#[]⟩ false false := PipeAt.below (P7.alloc _) hR
      have ltP7w14 : w8.heap.size < w14.heap.size := P7.lt
      replace P8 : PipeAt w14 w9.heap.size (pR r b k) (pushB r b s e k) (fl r b k e) (fl r b k k) := PipeAt.below (P8.alloc _) hR
      have ltP8w14 : w9.heap.size < w14.heap.size := P8.lt
      replace P9 : PipeAt w14 w11.heap.size (pR qr qb qk) (pullB qr qb qk qn) (fl qr qb qk qe) (fl qr qb qk qk) := PipeAt.below (P9.alloc _) hR
      have ltP9w14 : w11.heap.size < w14.heap.size := P9.lt
      replace P10 : PipeAt w14 w12.heap.size (newR nr) ⟨#[]⟩ false false := PipeAt.below P10 hR
      have ltP10w14 : w12.heap.size < w14.heap.size := P10.lt
      replace hB : Below w0.heap.size w0 w14 := bchain (bo_alloc hB _) hR
      go_upto_region 20 with fail
      go_cut [153] (fun c wx => c = .bool false ∧ Below w14.heap.size w14 wx)
      case first =>
        as_aux_lemma =>
          obtain ⟨cP30, cP31, cP32, cP33, _⟩ := P3.cells
          obtain ⟨cP40, cP41, cP42, cP43, _⟩ := P4.cells
          cases hv : okB qr qb qk
          · go_wp2_with fail
            refine (specOkF qr qb qe qk _ (by omega)).mono ?_; rw [hv]; rintro x w15 ⟨rfl, hb15⟩
            go_wp2_with fail
            go_meet
            exact ⟨rfl, (by repeat' (first | (with_reducible exact Below.refl _ _) | (with_reducible refine Below.drew ?_) | (with_reducible refine bo_drewN _ ?_) | (with_reducible refine bo_alloc ?_ _) | (refine bchain ?_ (by with_reducible assumption)) | (with_reducible refine Below.setCell ?_ ?_ _) | go_size))⟩
          · have hcat := pull_cat qr qb qk qn hv
            have hok4 := pull_ok qr qb qk qn hv
            have hsz4 := pullB_size qr qb qk qn
            have hszS := pullS_size qr qb qk qn
            go_wp2_with fail
            refine (specOkF qr qb qe qk _ (by omega)).mono ?_; rw [hv]; rintro x w15 ⟨rfl, hb15⟩
            have d3 := fun o => hb15.cell (p := ⟨w3.heap.size, o, none⟩) ltP3w14
            have d4 := fun o => hb15.cell (p := ⟨w4.heap.size, o, none⟩) ltP4w14
            go_wp2_with fail
            refine (implOkF (pR qr qb qk) (pullB qr qb qk qn) (fl qr qb qk qe) (fl qr qb qk qk) _ (by omega)).mono ?_; rw [hok4]; rintro x w16 ⟨rfl, hb16⟩
            go_wp2_with fail
            go_meet
            exact ⟨rfl, (by repeat' (first | (with_reducible exact Below.refl _ _) | (with_reducible refine Below.drew ?_) | (with_reducible refine bo_drewN _ ?_) | (with_reducible refine bo_alloc ?_ _) | (refine bchain ?_ (by with_reducible assumption)) | (with_reducible refine Below.setCell ?_ ?_ _) | go_size))⟩
      case rest =>
        obtain ⟨rfl, hR⟩ := hcut
        obtain ⟨w17, rfl⟩ : ∃ v : World, v = wc := ⟨_, rfl⟩
        have hsw17 := hR.size; (try simp at hsw17)
        replace P1 : PipeAt w17 w1.heap.size r b e k := PipeAt.below P1 hR
        have ltP1w17 : w1.heap.size < w17.heap.size := P1.lt
        replace P2 : PipeAt w17 w2.heap.size (pR r b k) (pushB r b s e k) (fl r b k e) (fl r b k k) := PipeAt.below P2 hR
        have ltP2w17 : w2.heap.size < w17.heap.size := P2.lt
        replace P3 : PipeAt w17 w3.heap.size qr qb qe qk := PipeAt.below P3 hR
        have ltP3w17 : w3.heap.size < w17.heap.size := P3.lt
        replace P4 : PipeAt w17 w4.heap.size (pR qr qb qk) (pullB qr qb qk qn) (fl qr qb qk qe) (fl qr qb qk qk) := PipeAt.below P4 hR
        have ltP4w17 : w4.heap.size < w17.heap.size := P4.lt
        replace P5 : PipeAt w17 w5.heap.size cr cb ce ck := PipeAt.below P5 hR
        have ltP5w17 : w5.heap.size < w17.heap.size := P5.lt
        replace P6 : PipeAt w17 w6.heap.size dr db de dk := PipeAt.below P6 hR
        have ltP6w17 : w6.heap.size < w17.heap.size := P6.lt
        replace P7 : PipeAt w17 w8.heap.size (newR nr) ⟨#[]⟩ false false := PipeAt.below P7 hR
        have ltP7w17 : w8.heap.size < w17.heap.size := P7.lt
        replace P8 : PipeAt w17 w9.heap.size (pR r b k) (pushB r b s e k) (fl r b k e) (fl r b k k) := PipeAt.below P8 hR
        have ltP8w17 : w9.heap.size < w17.heap.size := P8.lt
        replace P9 : PipeAt w17 w11.heap.size (pR qr qb qk) (pullB qr qb qk qn) (fl qr qb qk qe) (fl qr qb qk qk) := PipeAt.below P9 hR
        have ltP9w17 : w11.heap.size < w17.heap.size := P9.lt
        replace P10 : PipeAt w17 w12.heap.size (newR nr) ⟨#[]⟩ false false := PipeAt.below P10 hR
        have ltP10w17 : w12.heap.size < w17.heap.size := P10.lt
        replace hB : Below w0.heap.size w0 w17 := bchain (hB) hR
        obtain ⟨cP50, cP51, cP52, cP53, _⟩ := P5.cells
        go_wp2_with fail
        clear cP50 cP51 cP52 cP53
        refine (specOkF cr cb ce ck _ (by omega)).mono ?_; rintro x w18 ⟨rfl, hb18⟩
        have hs18 := hb18.size; (try simp at hs18)
        replace P1 : PipeAt w18 w1.heap.size r b e k := PipeAt.below P1 hb18
        have ltP118 : w1.heap.size < w18.heap.size := P1.lt
        replace P2 : PipeAt w18 w2.heap.size (pR r b k) (pushB r b s e k) (fl r b k e) (fl r b k k) := PipeAt.below P2 hb18
        have ltP218 : w2.heap.size < w18.heap.size := P2.lt
        replace P3 : PipeAt w18 w3.heap.size qr qb qe qk := PipeAt.below P3 hb18
        have ltP318 : w3.heap.size < w18.heap.size := P3.lt
        replace P4 : PipeAt w18 w4.heap.size (pR qr qb qk) (pullB qr qb qk qn) (fl qr qb qk qe) (fl qr qb qk qk) := PipeAt.below P4 hb18
        have ltP418 : w4.heap.size < w18.heap.size := P4.lt
        replace P5 : PipeAt w18 w5.heap.size cr cb ce ck := PipeAt.below P5 hb18
        have ltP518 : w5.heap.size < w18.heap.size := P5.lt
        replace P6 : PipeAt w18 w6.heap.size dr db de dk := PipeAt.below P6 hb18
        have ltP618 : w6.heap.size < w18.heap.size := P6.lt
        replace P7 : PipeAt w18 w8.heap.size (newR nr) ⟨#[]⟩ false false := PipeAt.below P7 hb18
        have ltP718 : w8.heap.size < w18.heap.size := P7.lt
        replace P8 : PipeAt w18 w9.heap.size (pR r b k) (pushB r b s e k) (fl r b k e) (fl r b k k) := PipeAt.below P8 hb18
        have ltP818 : w9.heap.size < w18.heap.size := P8.lt
        replace P9 : PipeAt w18 w11.heap.size (pR qr qb qk) (pullB qr qb qk qn) (fl qr qb qk qe) (fl qr qb qk qk) := PipeAt.below P9 hb18
        have ltP918 : w11.heap.size < w18.heap.size := P9.lt
        replace P10 : PipeAt w18 w12.heap.size (newR nr) ⟨#[]⟩ false false := PipeAt.below P10 hb18
        have ltP1018 : w12.heap.size < w18.heap.size := P10.lt
        replace hB : Below w0.heap.size w0 w18 := bchain (hB) hb18
        go_upto_if 155 with fail
        go_cut [22, 23] (fun m1 m2 wx => Below w18.heap.size w18 wx)
        case first =>
          as_aux_lemma =>
            obtain ⟨cP50, cP51, cP52, cP53, _⟩ := P5.cells
            cases hv : okB cr cb ck
            · go_wp2_with fail
              go_meet
              exact Below.refl _ _
            · have hpn := push_shutN cr cb ck
              have hdry := burst_dry cr cb ce ck hv
              have hkb := kB_size cr cb ck
              go_wp2_with fail
              refine (implClosedF cr cb ce ck _ (by omega)).mono ?_; rw [hv]; rintro x w19 ⟨rfl, hb19⟩
              have hs19 := hb19.size; (try simp at hs19)
              have e19 := fun o => hb19.cell (p := ⟨w5.heap.size, o, none⟩) ltP518
              go_wp2_with fail
              refine (implPushedF (pR cr cb ck) (kB cr cb ck) ⟨#[109, 111, 114, 101]⟩ true (fl cr cb ck ck) _ (by omega) (by show 4 ≤ 1048576; omega)).mono ?_; rw [hpn]; rintro x w20 ⟨rfl, hb20⟩
              have hs20 := hb20.size; (try simp at hs20)
              have l20 : w5.heap.size < w20.heap.size := (by omega)
              have e20 := fun o => hb20.cell (p := ⟨w5.heap.size, o, none⟩) (by show w5.heap.size < w19.heap.size; omega)
              go_wp2_with fail
              refine (implBurstF cr cb ce ck _ (by omega)).mono ?_; rw [hv]; rintro x w21 ⟨rfl, hb21⟩
              go_wp2_with fail
              refine (implDryF (pR cr cb ck) ⟨#[]⟩ (fl cr cb ck ce) true _ (by show 0 ≤ 4000; omega)).mono ?_; rw [hdry]; rintro x w22 ⟨rfl, hb22⟩
              go_wp2_with fail
              go_meet
              exact (by repeat' (first | (with_reducible exact Below.refl _ _) | (with_reducible refine Below.drew ?_) | (with_reducible refine bo_drewN _ ?_) | (with_reducible refine bo_alloc ?_ _) | (refine bchain ?_ (by with_reducible assumption)) | (with_reducible refine Below.setCell ?_ ?_ _) | go_size))
        case rest =>
          have hR := hcut
          obtain ⟨w23, rfl⟩ : ∃ v : World, v = wc := ⟨_, rfl⟩
          have hsw23 := hR.size; (try simp at hsw23)
          replace P1 : PipeAt w23 w1.heap.size r b e k := PipeAt.below P1 hR
          have ltP1w23 : w1.heap.size < w23.heap.size := P1.lt
          replace P2 : PipeAt w23 w2.heap.size (pR r b k) (pushB r b s e k) (fl r b k e) (fl r b k k) := PipeAt.below P2 hR
          have ltP2w23 : w2.heap.size < w23.heap.size := P2.lt
          replace P3 : PipeAt w23 w3.heap.size qr qb qe qk := PipeAt.below P3 hR
          have ltP3w23 : w3.heap.size < w23.heap.size := P3.lt
          replace P4 : PipeAt w23 w4.heap.size (pR qr qb qk) (pullB qr qb qk qn) (fl qr qb qk qe) (fl qr qb qk qk) := PipeAt.below P4 hR
          have ltP4w23 : w4.heap.size < w23.heap.size := P4.lt
          replace P5 : PipeAt w23 w5.heap.size cr cb ce ck := PipeAt.below P5 hR
          have ltP5w23 : w5.heap.size < w23.heap.size := P5.lt
          replace P6 : PipeAt w23 w6.heap.size dr db de dk := PipeAt.below P6 hR
          have ltP6w23 : w6.heap.size < w23.heap.size := P6.lt
          replace P7 : PipeAt w23 w8.heap.size (newR nr) ⟨#[]⟩ false false := PipeAt.below P7 hR
          have ltP7w23 : w8.heap.size < w23.heap.size := P7.lt
          replace P8 : PipeAt w23 w9.heap.size (pR r b k) (pushB r b s e k) (fl r b k e) (fl r b k k) := PipeAt.below P8 hR
          have ltP8w23 : w9.heap.size < w23.heap.size := P8.lt
          replace P9 : PipeAt w23 w11.heap.size (pR qr qb qk) (pullB qr qb qk qn) (fl qr qb qk qe) (fl qr qb qk qk) := PipeAt.below P9 hR
          have ltP9w23 : w11.heap.size < w23.heap.size := P9.lt
          replace P10 : PipeAt w23 w12.heap.size (newR nr) ⟨#[]⟩ false false := PipeAt.below P10 hR
          have ltP10w23 : w12.heap.size < w23.heap.size := P10.lt
          replace hB : Below w0.heap.size w0 w23 := bchain (hB) hR
          obtain ⟨cP10, cP11, cP12, cP13, _⟩ := P1.cells
          obtain ⟨cP20, cP21, cP22, cP23, _⟩ := P2.cells
          cases hv : okB r b k
          · obtain ⟨z1, z2, z3, z4, z5⟩ := push_zero r b s e k hv
            go_wp2_with fail
            refine (specOkF r b e k _ (by omega)).mono ?_; rw [hv]; rintro x w24 ⟨rfl, hb24⟩
            have f2 := fun o => hb24.cell (p := ⟨w2.heap.size, o, none⟩) ltP2w23
            go_wp2_with fail
            go_ret
            exact ⟨rfl, (by repeat' (first | (with_reducible exact Below.refl _ _) | (with_reducible refine Below.drew ?_) | (with_reducible refine bo_drewN _ ?_) | (with_reducible refine bo_alloc ?_ _) | (refine bchain ?_ (by with_reducible assumption)) | (with_reducible refine Below.setCell ?_ ?_ _) | go_size))⟩
          · have hx := push_ok r b s e k hv
            have hout := push_out r b s e k hv
            have hfull := push_full_or r b s e k hv
            have hnl := pushN_le r b s e k
            have hsz := pushB_size r b s e k hv
            have hp := okB_parts hx
            have HX : Hid (okB (pR r b k) (pushB r b s e k) (fl r b k k) = true) := hx
            have HO : Hid (pullS (pR r b k) (pushB r b s e k) (fl r b k k) 5000 = b ++ s.extract 0 (pushN r b s e k)) := hout
            have HZ : Hid ((pushB r b s e k).size = b.size + pushN r b s e k) := hsz
            have hsz2 : (pushB r b s e k).size ≤ 2000 := (by omega)
            have HF : Hid (pushN r b s e k = s.size ∨ ((pushB r b s e k).size : Int) = pR r b k ∨ e = true ∨ k = true) := hfull
            clear hx hout hsz hfull hp
            go_wp2_with fail
            refine (specOkF r b e k _ (by omega)).mono ?_; rw [hv]; rintro x w24 ⟨rfl, hb24⟩
            have hs24 := hb24.size; (try simp at hs24)
            have f1 := fun o => hb24.cell (p := ⟨w1.heap.size, o, none⟩) ltP1w23
            have f2 := fun o => hb24.cell (p := ⟨w2.heap.size, o, none⟩) ltP2w23
            have l241 : w1.heap.size < w24.heap.size := (by omega)
            have l242 : w2.heap.size < w24.heap.size := (by omega)
            go_wp2_with fail
            refine (implPulledF (pR r b k) (pushB r b s e k) (fl r b k e) (fl r b k k) 5000 _ (by omega)).mono ?_; rw [HO.out]; rintro x w25 ⟨rfl, hb25⟩
            have hs25 := hb25.size; (try simp at hs25)
            have g1 := fun o => hb25.cell (p := ⟨w1.heap.size, o, none⟩) l241
            have g2 := fun o => hb25.cell (p := ⟨w2.heap.size, o, none⟩) l242
            have l251 : w1.heap.size < w25.heap.size := (by omega)
            have l252 : w2.heap.size < w25.heap.size := (by omega)
            go_wp2_with fail
            have hpre : pushN r b s e k ≤ s.size ∧ b.size + pushN r b s e k ≤ 2000 := ⟨hnl, by rw [← HZ.out]; exact hsz2⟩
            have hpre2 := hpre.2
            have hBV : Below w0.heap.size w0 (w25.alloc (.cells #[.int .i64 (pR (pR r b k) (pushB r b s e k) (fl r b k k)), .string (pullB (pR r b k) (pushB r b s e k) (fl r b k k) 5000), .bool (fl (pR r b k) (pushB r b s e k) (fl r b k k) (fl r b k e)), .bool (fl (pR r b k) (pushB r b s e k) (fl r b k k) (fl r b k k))] 25)) := bo_alloc (bchain (bchain hB hb24) hb25) _
            have lv1 : w1.heap.size < (w25.alloc (.cells #[.int .i64 (pR (pR r b k) (pushB r b s e k) (fl r b k k)), .string (pullB (pR r b k) (pushB r b s e k) (fl r b k k) 5000), .bool (fl (pR r b k) (pushB r b s e k) (fl r b k k) (fl r b k e)), .bool (fl (pR r b k) (pushB r b s e k) (fl r b k k) (fl r b k k))] 25)).heap.size := (by simp; omega)
            have lv2 : w2.heap.size < (w25.alloc (.cells #[.int .i64 (pR (pR r b k) (pushB r b s e k) (fl r b k k)), .string (pullB (pR r b k) (pushB r b s e k) (fl r b k k) 5000), .bool (fl (pR r b k) (pushB r b s e k) (fl r b k k) (fl r b k e)), .bool (fl (pR r b k) (pushB r b s e k) (fl r b k k) (fl r b k k))] 25)).heap.size := (by simp; omega)
            have vc11 : (w25.alloc (.cells #[.int .i64 (pR (pR r b k) (pushB r b s e k) (fl r b k k)), .string (pullB (pR r b k) (pushB r b s e k) (fl r b k k) 5000), .bool (fl (pR r b k) (pushB r b s e k) (fl r b k k) (fl r b k e)), .bool (fl (pR r b k) (pushB r b s e k) (fl r b k k) (fl r b k k))] 25)).cell? ⟨w1.heap.size, 1, none⟩ = some (.string b) := (by simp [go_sem, g1, f1, cP11, World.cell?_alloc_past, l251])
            have vc12 : (w25.alloc (.cells #[.int .i64 (pR (pR r b k) (pushB r b s e k) (fl r b k k)), .string (pullB (pR r b k) (pushB r b s e k) (fl r b k k) 5000), .bool (fl (pR r b k) (pushB r b s e k) (fl r b k k) (fl r b k e)), .bool (fl (pR r b k) (pushB r b s e k) (fl r b k k) (fl r b k k))] 25)).cell? ⟨w1.heap.size, 2, none⟩ = some (.bool e) := (by simp [go_sem, g1, f1, cP12, World.cell?_alloc_past, l251])
            have vc13 : (w25.alloc (.cells #[.int .i64 (pR (pR r b k) (pushB r b s e k) (fl r b k k)), .string (pullB (pR r b k) (pushB r b s e k) (fl r b k k) 5000), .bool (fl (pR r b k) (pushB r b s e k) (fl r b k k) (fl r b k e)), .bool (fl (pR r b k) (pushB r b s e k) (fl r b k k) (fl r b k k))] 25)).cell? ⟨w1.heap.size, 3, none⟩ = some (.bool k) := (by simp [go_sem, g1, f1, cP13, World.cell?_alloc_past, l251])
            have vd0 : (w25.alloc (.cells #[.int .i64 (pR (pR r b k) (pushB r b s e k) (fl r b k k)), .string (pullB (pR r b k) (pushB r b s e k) (fl r b k k) 5000), .bool (fl (pR r b k) (pushB r b s e k) (fl r b k k) (fl r b k e)), .bool (fl (pR r b k) (pushB r b s e k) (fl r b k k) (fl r b k k))] 25)).cell? ⟨w2.heap.size, 0, none⟩ = some (.int .i64 (pR r b k)) := (by simp [go_sem, g2, f2, cP20, World.cell?_alloc_past, l252])
            have vd1 : (w25.alloc (.cells #[.int .i64 (pR (pR r b k) (pushB r b s e k) (fl r b k k)), .string (pullB (pR r b k) (pushB r b s e k) (fl r b k k) 5000), .bool (fl (pR r b k) (pushB r b s e k) (fl r b k k) (fl r b k e)), .bool (fl (pR r b k) (pushB r b s e k) (fl r b k k) (fl r b k k))] 25)).cell? ⟨w2.heap.size, 1, none⟩ = some (.string (pushB r b s e k)) := (by simp [go_sem, g2, f2, cP21, World.cell?_alloc_past, l252])
            have vd2 : (w25.alloc (.cells #[.int .i64 (pR (pR r b k) (pushB r b s e k) (fl r b k k)), .string (pullB (pR r b k) (pushB r b s e k) (fl r b k k) 5000), .bool (fl (pR r b k) (pushB r b s e k) (fl r b k k) (fl r b k e)), .bool (fl (pR r b k) (pushB r b s e k) (fl r b k k) (fl r b k k))] 25)).cell? ⟨w2.heap.size, 2, none⟩ = some (.bool (fl r b k e)) := (by simp [go_sem, g2, f2, cP22, World.cell?_alloc_past, l252])
            have vd3 : (w25.alloc (.cells #[.int .i64 (pR (pR r b k) (pushB r b s e k) (fl r b k k)), .string (pullB (pR r b k) (pushB r b s e k) (fl r b k k) 5000), .bool (fl (pR r b k) (pushB r b s e k) (fl r b k k) (fl r b k e)), .bool (fl (pR r b k) (pushB r b s e k) (fl r b k k) (fl r b k k))] 25)).cell? ⟨w2.heap.size, 3, none⟩ = some (.bool (fl r b k k)) := (by simp [go_sem, g2, f2, cP23, World.cell?_alloc_past, l252])
            generalize (w25.alloc (.cells #[.int .i64 (pR (pR r b k) (pushB r b s e k) (fl r b k k)), .string (pullB (pR r b k) (pushB r b s e k) (fl r b k k) 5000), .bool (fl (pR r b k) (pushB r b s e k) (fl r b k k) (fl r b k e)), .bool (fl (pR r b k) (pushB r b s e k) (fl r b k k) (fl r b k k))] 25)) = VV at hBV lv1 lv2 vc11 vc12 vc13 vd0 vd1 vd2 vd3 ⊢
            clear g1 g2 f1 f2 cP10 cP11 cP12 cP13 cP20 cP21 cP22 cP23
            have p0 : ∀ x : Later VV, x.w.cell? ⟨w2.heap.size, 0, none⟩ = some (.int .i64 (pR r b k)) := fun x => (x.b.cell (p := ⟨w2.heap.size, 0, none⟩) lv2).trans vd0
            have p1 : ∀ x : Later VV, x.w.cell? ⟨w2.heap.size, 1, none⟩ = some (.string (pushB r b s e k)) := fun x => (x.b.cell (p := ⟨w2.heap.size, 1, none⟩) lv2).trans vd1
            have p2 : ∀ x : Later VV, x.w.cell? ⟨w2.heap.size, 2, none⟩ = some (.bool (fl r b k e)) := fun x => (x.b.cell (p := ⟨w2.heap.size, 2, none⟩) lv2).trans vd2
            have p3 : ∀ x : Later VV, x.w.cell? ⟨w2.heap.size, 3, none⟩ = some (.bool (fl r b k k)) := fun x => (x.b.cell (p := ⟨w2.heap.size, 3, none⟩) lv2).trans vd3
            clear vd0 vd1 vd2 vd3
            cases hA : ((pushN r b s e k : Int) == (s.size : Int))
            · cases hBf : (((pushB r b s e k).size : Int) == pR r b k)
              · have hek : e = true ∨ k = true := by
                  rcases HF.out with h | h | h
                  · rw [h] at hA; simp at hA
                  · rw [h] at hBf; simp at hBf
                  · exact h
                by_cases he : e = true
                · rw [he] at vc12
                  have HE : Hid (e = true) := he
                  clear he hek
                  have q1 : ∀ x : Later VV, x.w.cell? ⟨w1.heap.size, 1, none⟩ = some (.string b) := fun x => (x.b.cell (p := ⟨w1.heap.size, 1, none⟩) lv1).trans vc11
                  have q2 : ∀ x : Later VV, x.w.cell? ⟨w1.heap.size, 2, none⟩ = some (.bool true) := fun x => (x.b.cell (p := ⟨w1.heap.size, 2, none⟩) lv1).trans vc12
                  have q3 : ∀ x : Later VV, x.w.cell? ⟨w1.heap.size, 3, none⟩ = some (.bool k) := fun x => (x.b.cell (p := ⟨w1.heap.size, 3, none⟩) lv1).trans vc13
                  clear vc11 vc12 vc13
                  have hne : Nonempty (Later VV) := ⟨⟨VV, Below.refl _ _⟩⟩
                  refine region_later (by kernel_rfl) (by kernel_rfl) ?_
                  go_big_quiet_step (fail)
                  go_big_quiet_want; go_big_quiet_op
                  refine ⟨.bool true, fun y => later_calls (x := y) ?_, ?_⟩
                  · have h := implOkF (pR r b k) (pushB r b s e k) (fl r b k e) (fl r b k k) y.w (by omega)
                    rw [HX.out] at h
                    exact h
                  go_big_quiet_on
                  repeat (go_big_quiet_step (fail))
                  refine wpQuiet_nil ?_
                  intro _ hw'
                  obtain ⟨y, hw''⟩ := hw'
                  subst hw''
                  have hby := y.b
                  go_wp2_with fail
                  go_ret
                  exact ⟨rfl, bchain hBV hby⟩
                · have hk : k = true := hek.resolve_left he
                  have he2 : e = false := by simpa using he
                  rw [he2] at vc12
                  rw [hk] at vc13
                  have HE : Hid (e = false) := he2
                  have HK : Hid (k = true) := hk
                  clear he hek he2 hk
                  have q1 : ∀ x : Later VV, x.w.cell? ⟨w1.heap.size, 1, none⟩ = some (.string b) := fun x => (x.b.cell (p := ⟨w1.heap.size, 1, none⟩) lv1).trans vc11
                  have q2 : ∀ x : Later VV, x.w.cell? ⟨w1.heap.size, 2, none⟩ = some (.bool false) := fun x => (x.b.cell (p := ⟨w1.heap.size, 2, none⟩) lv1).trans vc12
                  have q3 : ∀ x : Later VV, x.w.cell? ⟨w1.heap.size, 3, none⟩ = some (.bool true) := fun x => (x.b.cell (p := ⟨w1.heap.size, 3, none⟩) lv1).trans vc13
                  clear vc11 vc12 vc13
                  have hne : Nonempty (Later VV) := ⟨⟨VV, Below.refl _ _⟩⟩
                  refine region_later (by kernel_rfl) (by kernel_rfl) ?_
                  go_big_quiet_step (fail)
                  go_big_quiet_want; go_big_quiet_op
                  refine ⟨.bool true, fun y => later_calls (x := y) ?_, ?_⟩
                  · have h := implOkF (pR r b k) (pushB r b s e k) (fl r b k e) (fl r b k k) y.w (by omega)
                    rw [HX.out] at h
                    exact h
                  go_big_quiet_on
                  repeat (go_big_quiet_step (fail))
                  refine wpQuiet_nil ?_
                  intro _ hw'
                  obtain ⟨y, hw''⟩ := hw'
                  subst hw''
                  have hby := y.b
                  go_wp2_with fail
                  go_ret
                  exact ⟨rfl, bchain hBV hby⟩
              · skip
                as_aux_lemma =>
                  have q1 : ∀ x : Later VV, x.w.cell? ⟨w1.heap.size, 1, none⟩ = some (.string b) := fun x => (x.b.cell (p := ⟨w1.heap.size, 1, none⟩) lv1).trans vc11
                  have q2 : ∀ x : Later VV, x.w.cell? ⟨w1.heap.size, 2, none⟩ = some (.bool e) := fun x => (x.b.cell (p := ⟨w1.heap.size, 2, none⟩) lv1).trans vc12
                  have q3 : ∀ x : Later VV, x.w.cell? ⟨w1.heap.size, 3, none⟩ = some (.bool k) := fun x => (x.b.cell (p := ⟨w1.heap.size, 3, none⟩) lv1).trans vc13
                  clear vc11 vc12 vc13
                  have hne : Nonempty (Later VV) := ⟨⟨VV, Below.refl _ _⟩⟩
                  refine region_later (by kernel_rfl) (by kernel_rfl) ?_
                  go_big_quiet_step (fail)
                  go_big_quiet_want; go_big_quiet_op
                  refine ⟨.bool true, fun y => later_calls (x := y) ?_, ?_⟩
                  · have h := implOkF (pR r b k) (pushB r b s e k) (fl r b k e) (fl r b k k) y.w (by omega)
                    rw [HX.out] at h
                    exact h
                  go_big_quiet_on
                  repeat (go_big_quiet_step (fail))
                  refine wpQuiet_nil ?_
                  intro _ hw'
                  obtain ⟨y, hw''⟩ := hw'
                  subst hw''
                  have hby := y.b
                  go_wp2_with fail
                  go_ret
                  exact ⟨rfl, bchain hBV hby⟩
            · skip
              as_aux_lemma =>
                have q1 : ∀ x : Later VV, x.w.cell? ⟨w1.heap.size, 1, none⟩ = some (.string b) := fun x => (x.b.cell (p := ⟨w1.heap.size, 1, none⟩) lv1).trans vc11
                have q2 : ∀ x : Later VV, x.w.cell? ⟨w1.heap.size, 2, none⟩ = some (.bool e) := fun x => (x.b.cell (p := ⟨w1.heap.size, 2, none⟩) lv1).trans vc12
                have q3 : ∀ x : Later VV, x.w.cell? ⟨w1.heap.size, 3, none⟩ = some (.bool k) := fun x => (x.b.cell (p := ⟨w1.heap.size, 3, none⟩) lv1).trans vc13
                clear vc11 vc12 vc13
                have hne : Nonempty (Later VV) := ⟨⟨VV, Below.refl _ _⟩⟩
                refine region_later (by kernel_rfl) (by kernel_rfl) ?_
                go_big_quiet_step (fail)
                go_big_quiet_want; go_big_quiet_op
                refine ⟨.bool true, fun y => later_calls (x := y) ?_, ?_⟩
                · have h := implOkF (pR r b k) (pushB r b s e k) (fl r b k e) (fl r b k k) y.w (by omega)
                  rw [HX.out] at h
                  exact h
                go_big_quiet_on
                repeat (go_big_quiet_step (fail))
                refine wpQuiet_nil ?_
                intro _ hw'
                obtain ⟨y, hw''⟩ := hw'
                subst hw''
                have hby := y.b
                go_wp2_with fail
                go_ret
                exact ⟨rfl, bchain hBV hby⟩
open Go.ChangeShapes Go.WideShapes Go.ChangeAt Go.Joins
open Go.ChangeMaps (open_string shut_string)

theorem open_code {H : Type} {enc : TypeId × Value → H} {W : World} {a : Option Addr} {len cap : Nat} {d : DataW H} {p : List MemPlace}
    (h : DataW.Trod enc Try.prog W 0 (fun _ => true) true 22 (.slice a len cap) d p) : len ≤ maxLen ∧ CodeAt W a len W.heap.size := by
  obtain ⟨fuel, hf⟩ := h
  rcases open_ints Try.underlying22 Try.underlying5 (by kernel_rfl) hf with ⟨hcs, _⟩ | ⟨x, l, c, zs, hcs, _, hl, hm, hz, _, hcell, hwz⟩
  · simp [Value.cells] at hcs
    obtain ⟨rfl, rfl, rfl⟩ := hcs
    exact ⟨Nat.zero_le _, fun j hj => by omega⟩
  · simp [Value.cells] at hcs
    obtain ⟨rfl, rfl, rfl⟩ := hcs
    have hz' : zs.length = cap := by simpa using hz
    refine ⟨by omega, fun j hj => ?_⟩
    obtain ⟨b, o, sp⟩ := x
    have hc0 := hcell 0 (by omega)
    have hsp : sp = none := by simpa [Addr.add] using World.cell?_spot hc0
    subst hsp
    have hc := hcell j (by omega)
    have hr := range_u8 hwz j
    have hc' : W.cell? ⟨b, o + j, none⟩ = some (.int .u8 (zs.getD j 0)) := by
      by_cases h0 : j = 0
      · subst h0; simpa [Addr.add] using hc
      · simpa [Addr.add, h0] using hc
    refine ⟨b, o, zs.getD j 0, rfl, World.block_lt_of_cell? W _ hc', ?_, ?_, hc'⟩
    · rw [List.getD_eq_getElem?_getD]; exact hr.1
    · rw [List.getD_eq_getElem?_getD]; exact hr.2


theorem own : ownKnob Try.prog.godebug = none := by kernel_rfl
theorem laidOut : laidOutB Try.prog = true := by kernel_rfl

set_option maxRecDepth 100000 in
theorem lifted (os : Os) (started : os.Started) (H : Type) (enc : TypeId × Value → H) :
    ReturnsInHanded {} Try.checked os 3 .any (Rows.fnPipesSpec.pre6 enc Try.prog Try.f3 Rows.fnPipesRow.domain false) (Rows.fnPipesSpec.post enc Try.prog Try.f3 false true false false) := by
  refine returnsInHanded_of_change (C := Try.checked) own started (by kernel_rfl) Try.func3
    (ChangeSpec.witness6 (enc := enc) (C := Try.checked) false ⟨#[], #[.slice none 0 0], []⟩ 8 (by kernel_rfl) (by kernel_rfl) (by kernel_rfl) (by kernel_rfl)) ?_
  intro W base args ds gs before hval0 hW hcnd _
  have hval : ∀ (j : Nat) t v, Try.f3.params[j]? = some t → args[j]? = some v → Value.okWide Try.prog W .any base t v := hval0
  have hW' := hW
  obtain ⟨p, q, hA0, hV, rfl, hfz, hnd⟩ := hW
  have hA : DataW.TrodAll enc Try.prog W 0 (fun _ => true) true Try.f3.params.toList args.toList ds p := hA0
  rw [Try.params3] at hA hval
  obtain ⟨v0, vs0, d0, ds0, p0, q0, hargs, rfl, rfl, h0, r0⟩ := trodAll_cons hA
  obtain ⟨rfl, rfl, rfl⟩ := trodAll_nil r0
  obtain rfl : args = #[v0] := by cases args; simp_all
  obtain ⟨rfl, rfl⟩ := trodVars_none hV
  have k0 := h0
  have lt0 : ∀ x ∈ p0, x.block < W.heap.size := by obtain ⟨m, hm⟩ := k0; exact DataW.trod_lt m _ _ _ hm
  obtain ⟨a0, len0, cap0, rfl⟩ := okWide_slice Try.underlying22 (hval 0 22 v0 rfl rfl); obtain ⟨hl0, hc0⟩ := open_code h0
  clear hA0 hval0
  refine (walk a0 len0 cap0 W hl0 hc0).mono fun e W' ⟨he, bel⟩ => ?_
  subst he
  exact ⟨_, rfl, _, _, _, [], _, [], hW', trodAll_mk1 (shut_bool Try.underlying4 _), (trodAll_cons_mk (Below.trod laidOut (by kernel_rfl) (of_decide_eq_true (by kernel_rfl)) k0 bel lt0) trodAll_mk0), rfl, bel.frame _, fun h => by cases h⟩

theorem over : Rows.fnPipesRow.holds Try.pinned (OpenSpec.ofChange Rows.fnPipesSpec) :=
  OpenClaim.holds_of_wide 3 Try.f3 rfl rfl rfl rfl rfl rfl rfl ⟨rfl, rfl, rfl, rfl, rfl⟩ rfl rfl rfl rfl rfl (by kernel_rfl) Try.func3 (by kernel_rfl)
    (of_decide_eq_true (by kernel_rfl)) (by unfold Func.isWrapper; first | (rw [if_pos (by decide +kernel)]; kernel_rfl) | (rw [if_neg (by decide +kernel)]; exact ⟨rfl, rfl⟩))
    (fun os started H enc _ => lifted os started H enc)

end lawPipes

theorem lawPipes_proved : Rows.FnPipesSaid := lawPipes.over
#print axioms lawPipes_proved
end Go.Proofs.Ythjiiemhlijgkaa
