/- Several small texts of one level, one behind the other. -/
import Derived.Test.YtfmeinkhdgbgjaaGreatQTkG4
import Derived.Test.YtfmeinkhdgbgjaaGreatQTkG2
import Derived.Test.YtfmeinkhdgbgjaaGreatQTkG5
import Derived.Shelf.Lays
import Derived.Shelf.Small.Strs
import Derived.Test.YtfmeinkhdgbgjaaGreatQTkBase
import Derived.Handy
/- Registry in memory: its datum, its make; counted, copied, held against each other, marked, read again (by gen_shape.py). -/
namespace Go.Proofs.YtfmeinkhdgbgjaaGreat
open Go.RowKit
set_option maxRecDepth 100000
set_option linter.unusedSimpArgs false
set_option linter.unusedVariables false

/-- What a Registry holds. -/
structure RegistryD where
  lim : Int
  top : Int
  es : List EntryD
/-- How much it holds, as the laws count. -/
def szRegistry (d : RegistryD) : Int := szEntryS d.es
theorem szRegistry_nn (d : RegistryD) : 0 ≤ szRegistry d := by unfold szRegistry; have := szEntryS_nn d.es; omega
set_option maxHeartbeats 1000000 in
theorem toRegistry1 (d : RegistryD) (ves : Value) (w : World) (hves : RdR entryS w ves d.es) (hs : szRegistry d ≤ 1048576) :
    Calls Tryz.prog 71 #[.agg #[.int .i64 d.lim, .int .i64 d.top, ves]] w fun x w' => ∃ ves' : Value, x = .returned (.agg #[.int .i64 d.lim, .int .i64 d.top, ves']) ∧ OwX entryS w' w.heap.size w'.heap.size ves' d.es ∧ Below w.heap.size w w' := by
  have Hves := hide hves
  obtain ⟨aves, pves, rfl, _⟩ := hves.form
  clear hves
  have hz : szEntryS d.es ≤ 1048576 := by unfold szRegistry at hs; omega
  go_enter Tryz.func71, Tryz.ntmps71
  go_wp2_with fail
  refine (toEntryS d.es _ _ ?c1 hz).mono ?_
  case c1 => exact Hves.out.new (by repeat' (first | (with_reducible exact Below.refl _ _) | (with_reducible refine Below.drew ?_) | (with_reducible refine bo_drewN _ ?_) | (with_reducible refine bo_alloc ?_ _) | (refine bchain ?_ (by with_reducible assumption)) | (with_reducible refine Below.setCell ?_ ?_ _) | go_size))
  rintro x w1 ⟨v1, rfl, ho, hb1⟩; have hz1 := hb1.size; (try simp at hz1); have hc1 := fun o => hb1.cell (p := ⟨w.heap.size, o, none⟩) (by first | (simp; done) | (simp; omega) | omega); have hf1 := fun o => hb1.frozen (p := ⟨w.heap.size, o, none⟩) (by first | (simp; done) | (simp; omega) | omega); have hcn1 := fun o => hb1.cell (p := ⟨w.heap.size + 1, o, none⟩) (by first | (simp; done) | (simp; omega) | omega); have hfn1 := fun o => hb1.frozen (p := ⟨w.heap.size + 1, o, none⟩) (by first | (simp; done) | (simp; omega) | omega); have hcm1 := fun o => hb1.cell (p := ⟨w.heap.size + 2, o, none⟩) (by first | (simp; done) | (simp; omega) | omega); have hfm1 := fun o => hb1.frozen (p := ⟨w.heap.size + 2, o, none⟩) (by first | (simp; done) | (simp; omega) | omega)
  have hbw : Below w.heap.size w w1 := (by repeat' (first | (with_reducible exact Below.refl _ _) | (with_reducible refine Below.drew ?_) | (with_reducible refine bo_drewN _ ?_) | (with_reducible refine bo_alloc ?_ _) | (refine bchain ?_ (by with_reducible assumption)) | (with_reducible refine Below.setCell ?_ ?_ _) | go_size))
  obtain ⟨ad1, cap1, rfl, _⟩ := ho.form
  have HO := hide ho
  clear ho
  go_wp2_with fail
  refine bodyPost_ret (v := .agg #[.int .i64 d.lim, .int .i64 d.top, .slice ad1 d.es.length cap1]) (by simp [results, Tryz.results71, go_sem, *]) rfl ?_
  refine ⟨_, rfl, ?_, (by repeat' (first | (with_reducible exact Below.refl _ _) | (with_reducible refine Below.drew ?_) | (with_reducible refine bo_drewN _ ?_) | (with_reducible refine bo_alloc ?_ _) | (refine bchain ?_ (by with_reducible assumption)) | (with_reducible refine Below.setCell ?_ ?_ _) | go_size))⟩
  refine (OwX.wide (lo' := w.heap.size) ?_ (Nat.le_refl _) (Nat.le_refl _))
  have ho := HO.out.wide (lo' := w.heap.size + 3) (by simp) (Nat.le_refl _)
  have hz1 := HO.out
  refine OwX.top (hi := w1.heap.size) ?_
  refine OwX.wide (lo := w.heap.size + 3) ?_ (by omega) (Nat.le_refl _)
  (repeat' (first | (with_reducible exact ho) | (with_reducible refine OwX.far ?_ _ _ ?_) | (simp; done) | (simp; omega)))
set_option maxHeartbeats 1000000 in
theorem eqRegistry1 (d : RegistryD) (ves : Value) (uves : Value) (w : World) (hves : RdR entryS w ves d.es) (huves : RdR entryS w uves d.es) :
    Calls Tryz.prog 78 #[.agg #[.int .i64 d.lim, .int .i64 d.top, ves], .agg #[.int .i64 d.lim, .int .i64 d.top, uves]] w fun x w' => x = .returned (.bool true) ∧ Below w.heap.size w w' := by
  have Hves := hide hves
  obtain ⟨aves, pves, rfl, _⟩ := hves.form
  clear hves
  have Huves := hide huves
  obtain ⟨auves, puves, rfl, _⟩ := huves.form
  clear huves
  go_enter Tryz.func78, Tryz.ntmps78
  go_wp2_with fail
  refine (eqEntryS d.es _ _ _ ?c1 ?c2).mono ?_
  case c1 => exact Hves.out.new (by repeat' (first | (with_reducible exact Below.refl _ _) | (with_reducible refine Below.drew ?_) | (with_reducible refine bo_drewN _ ?_) | (with_reducible refine bo_alloc ?_ _) | (refine bchain ?_ (by with_reducible assumption)) | (with_reducible refine Below.setCell ?_ ?_ _) | go_size))
  case c2 => exact Huves.out.new (by repeat' (first | (with_reducible exact Below.refl _ _) | (with_reducible refine Below.drew ?_) | (with_reducible refine bo_drewN _ ?_) | (with_reducible refine bo_alloc ?_ _) | (refine bchain ?_ (by with_reducible assumption)) | (with_reducible refine Below.setCell ?_ ?_ _) | go_size))
  rintro x w1 ⟨rfl, hb1⟩; have hz1 := hb1.size; (try simp at hz1); have hc1 := fun o => hb1.cell (p := ⟨w.heap.size, o, none⟩) (by first | (simp; done) | (simp; omega) | omega); have hf1 := fun o => hb1.frozen (p := ⟨w.heap.size, o, none⟩) (by first | (simp; done) | (simp; omega) | omega); have hcn1 := fun o => hb1.cell (p := ⟨w.heap.size + 1, o, none⟩) (by first | (simp; done) | (simp; omega) | omega); have hfn1 := fun o => hb1.frozen (p := ⟨w.heap.size + 1, o, none⟩) (by first | (simp; done) | (simp; omega) | omega)
  go_wp2_with fail
  go_ret
  exact ⟨rfl, (by repeat' (first | (with_reducible exact Below.refl _ _) | (with_reducible refine Below.drew ?_) | (with_reducible refine bo_drewN _ ?_) | (with_reducible refine bo_alloc ?_ _) | (refine bchain ?_ (by with_reducible assumption)) | (with_reducible refine Below.setCell ?_ ?_ _) | go_size))⟩
set_option maxHeartbeats 1000000 in
theorem szRegistry1 (d : RegistryD) (ves : Value) (left : Int) (w : World) (hves : RdR entryS w ves d.es) (h0 : 0 ≤ left) (h1 : left ≤ 1048576) :
    Calls Tryz.prog 67 #[.agg #[.int .i64 d.lim, .int .i64 d.top, ves], .int .i64 left] w fun x w' => (x = .returned (.int .i64 (-1)) ∨ (x = .returned (.int .i64 (left - szRegistry d)) ∧ 0 ≤ left - szRegistry d)) ∧ Below w.heap.size w w' := by
  have Hves := hide hves
  obtain ⟨aves, pves, rfl, _⟩ := hves.form
  clear hves
  unfold szRegistry
  obtain ⟨R, hR⟩ : ∃ R, left - szEntryS d.es = R := ⟨_, rfl⟩
  rw [hR]
  have hcall := fun v w h => szEntryS1 d.es v left w h h0 h1
  rw [hR] at hcall
  clear hR
  go_enter Tryz.func67, Tryz.ntmps67
  go_wp2_with fail
  refine (hcall _ _ ?c1).mono ?_
  case c1 => exact Hves.out.new (by repeat' (first | (with_reducible exact Below.refl _ _) | (with_reducible refine Below.drew ?_) | (with_reducible refine bo_drewN _ ?_) | (with_reducible refine bo_alloc ?_ _) | (refine bchain ?_ (by with_reducible assumption)) | (with_reducible refine Below.setCell ?_ ?_ _) | go_size))
  rintro x w1 ⟨rfl | ⟨rfl, hp⟩, hb1⟩
  · go_wp2_with fail
    go_ret
    exact ⟨.inl rfl, (by repeat' (first | (with_reducible exact Below.refl _ _) | (with_reducible refine Below.drew ?_) | (with_reducible refine bo_drewN _ ?_) | (with_reducible refine bo_alloc ?_ _) | (refine bchain ?_ (by with_reducible assumption)) | (with_reducible refine Below.setCell ?_ ?_ _) | go_size))⟩
  · have hp' : ¬ R < 0 := by omega
    go_wp2_with fail
    go_ret
    exact ⟨.inr ⟨rfl, hp⟩, (by repeat' (first | (with_reducible exact Below.refl _ _) | (with_reducible refine Below.drew ?_) | (with_reducible refine bo_drewN _ ?_) | (with_reducible refine bo_alloc ?_ _) | (refine bchain ?_ (by with_reducible assumption)) | (with_reducible refine Below.setCell ?_ ?_ _) | go_size))⟩
set_option maxHeartbeats 1000000 in
theorem markRegistry1 (d : RegistryD) (ves : Value) (k : Nat) (bs : List Nat) (w : World) (ho : OwR entryS w ves d.es bs) (hn : bs.Nodup) (hk1 : k + cntEntryS d.es ≤ 1000000000) :
    Calls Tryz.prog 82 #[.agg #[.int .i64 d.lim, .int .i64 d.top, ves], .int .i64 k] w fun x w' => x = .returned (.int .i64 ((k + cntEntryS d.es : Nat) : Int)) ∧ OwR entryS w' ves (mkEntryS d.es k) bs ∧ TurnB bs w w' := by
  obtain ⟨ad, cap, rfl, h1, h2⟩ := ho.rd.form
  have HO := hide ho
  clear ho
  obtain ⟨K, hK⟩ : ∃ K : Nat, K = k + cntEntryS d.es := ⟨_, rfl⟩
  rw [← hK]
  have HK := hide hK
  clear hK
  go_enter Tryz.func82, Tryz.ntmps82
  go_wp2_with fail
  have hbx : Below w.heap.size w (w.alloc (.cells #[.int .i64 d.lim, .int .i64 d.top, .slice ad d.es.length cap] 26)) := (Below.refl _ _).alloc (Nat.le_refl _) _
  refine (markEntryS d.es k _ bs _ (HO.out.keep hbx.size (fun b hb => hbx.block b (HO.out.lt b hb))) hn hk1).mono ?_
  rw [← HK.out]
  rintro x w1 ⟨rfl, ho1, ht1⟩
  have HO1 := hide ho1
  have HT1 := hide ((TurnB.new (bs := bs) hbx).trans ht1)
  clear ho1 ht1
  go_wp2_with fail
  go_ret
  exact ⟨rfl, HO1.out, HT1.out⟩
set_option maxHeartbeats 1000000 in
theorem heldRegistry1 (d : RegistryD) (ves : Value) (k : Nat) (w : World) (L : List EntryD) (hr : RdR entryS w ves (mkEntryS L k)) (hk1 : k + cntEntryS L ≤ 1000000000) :
    Calls Tryz.prog 86 #[.agg #[.int .i64 d.lim, .int .i64 d.top, ves], .int .i64 k] w fun x w' => x = .returned (.int .i64 ((k + cntEntryS L : Nat) : Int)) ∧ Below w.heap.size w w' := by
  obtain ⟨ad, cap, rfl, h1, h2⟩ := hr.form
  have HR := hide hr
  clear hr
  obtain ⟨K, hK⟩ : ∃ K : Nat, K = k + cntEntryS L := ⟨_, rfl⟩
  rw [← hK]
  have HK := hide hK
  clear hK
  go_enter Tryz.func86, Tryz.ntmps86
  go_wp2_with fail
  refine (heldEntryS L k _ _ ?c1 hk1).mono ?_
  case c1 => exact HR.out.new (by repeat' (first | (with_reducible exact Below.refl _ _) | (with_reducible refine Below.drew ?_) | (with_reducible refine bo_drewN _ ?_) | (with_reducible refine bo_alloc ?_ _) | (refine bchain ?_ (by with_reducible assumption)) | (with_reducible refine Below.setCell ?_ ?_ _) | go_size))
  rw [← HK.out]
  rintro x w1 ⟨rfl, hb1⟩
  go_wp2_with fail
  go_ret
  exact ⟨rfl, (by repeat' (first | (with_reducible exact Below.refl _ _) | (with_reducible refine Below.drew ?_) | (with_reducible refine bo_drewN _ ?_) | (with_reducible refine bo_alloc ?_ _) | (refine bchain ?_ (by with_reducible assumption)) | (with_reducible refine Below.setCell ?_ ?_ _) | go_size))⟩
end Go.Proofs.YtfmeinkhdgbgjaaGreat
/- The signs of chapter 4 and their numbers: l4Sign, l4Byte and the place in the row of signs. -/
namespace Go.Proofs.YtfmeinkhdgbgjaaGreat
open Go.RowKit
set_option maxRecDepth 100000
set_option linter.unusedSimpArgs false
set_option linter.unusedVariables false

/-- The sign of a number. -/
def sch (n : Int) : Int := if n < 26 then 97 + n else if n = 26 then 45 else if n = 27 then 46 else if n = 28 then 47 else if n = 29 then 58 else 61
/-- The row of signs, as the program keeps it. -/
def signs : ByteArray := ⟨#[97, 98, 99, 100, 101, 102, 103, 104, 105, 106, 107, 108, 109, 110, 111, 112, 113, 114, 115, 116, 117, 118, 119, 120, 121, 122, 45, 46, 47, 58, 61]⟩
end Go.Proofs.YtfmeinkhdgbgjaaGreat
/- The ring in plain words: 112 slots, the newest row at first, the older ones behind it, round the end. -/
namespace Go.Proofs.YtfmeinkhdgbgjaaGreat
open Go.RowKit
set_option maxRecDepth 100000
set_option linter.unusedSimpArgs false
set_option linter.unusedVariables false

def zF : Fd := ⟨⟨#[]⟩, ⟨#[]⟩⟩
/-- The slots of a ring whose rows are L. -/
def ringS (first : Nat) (L : List Fd) : List Fd := (List.range 112).map fun k => L.getD ((k + 112 - first) % 112) zF
theorem ringS_len (first : Nat) (L : List Fd) : (ringS first L).length = 112 := by simp [ringS]
theorem ringS_get (first : Nat) (L : List Fd) (k : Nat) (hk : k < (ringS first L).length) : (ringS first L)[k] = L.getD ((k + 112 - first) % 112) zF := by simp [ringS]
theorem ringS_at {first : Nat} {L : List Fd} (hf : first < 112) (hL : L.length ≤ 112) (n : Nat) (hn : n < L.length) : (ringS first L)[(first + n) % 112]'(by rw [ringS_len]; omega) = L[n] := by
  rw [ringS_get, show ((first + n) % 112 + 112 - first) % 112 = n by omega]
  simp [hn]
theorem ringS_last {first : Nat} {L : List Fd} (f : Fd) (hf : first < 112) (hL : L.length < 112) : (ringS first L).set ((first + L.length) % 112) f = ringS first (L ++ [f]) := by
  refine List.ext_getElem (by simp [ringS_len]) fun k h1 h2 => ?_
  have hk : k < 112 := by rw [ringS_len] at h2; exact h2
  rw [List.getElem_set, ringS_get, ringS_get]
  split
  · rename_i e
    rw [show (k + 112 - first) % 112 = L.length by omega]
    simp
  · rename_i e
    have : (k + 112 - first) % 112 ≠ L.length := by omega
    generalize (k + 112 - first) % 112 = i at *
    simp only [List.getD_eq_getElem?_getD, List.getElem?_append]
    split
    · rfl
    · rw [List.getElem?_eq_none (by omega), List.getElem?_eq_none (by simp; omega)]
theorem ringS_drop {first : Nat} {L : List Fd} (hf : first < 112) (h0 : 0 < L.length) (hL : L.length ≤ 112) : (ringS first L).set ((first + (L.length - 1)) % 112) zF = ringS first L.dropLast := by
  refine List.ext_getElem (by simp [ringS_len]) fun k h1 h2 => ?_
  have hk : k < 112 := by rw [ringS_len] at h2; exact h2
  rw [List.getElem_set, ringS_get, ringS_get]
  split
  · rename_i e
    rw [show (k + 112 - first) % 112 = L.length - 1 by omega]
    simp [List.getD_eq_getElem?_getD, List.getElem?_dropLast]
  · rename_i e
    have : (k + 112 - first) % 112 ≠ L.length - 1 := by omega
    generalize (k + 112 - first) % 112 = i at *
    simp only [List.getD_eq_getElem?_getD, List.getElem?_dropLast]
    split
    · rfl
    · rw [List.getElem?_eq_none (by omega)]
theorem okF_zF : okF zF = false := by decide
/-- Where no row of the longer one is the zero Field, slots alike have rows alike. -/
theorem ringS_eq {L : List Fd} {j : Nat} (hL : L.length ≤ 112) (hok : ∀ f ∈ L, okF f = true) (h : ringS 0 (L.take j) = ringS 0 L) : L.take j = L := by
  by_cases hj : j < L.length
  · have h1 := ringS_at (first := 0) (L := L) (by omega) hL j hj
    have h2 : (ringS 0 (L.take j))[(0 + j) % 112]'(by rw [ringS_len]; omega) = zF := by
      rw [ringS_get, show ((0 + j) % 112 + 112 - 0) % 112 = j by omega, List.getD_eq_getElem?_getD, List.getElem?_eq_none (by simp; omega)]
      rfl
    have h3 : L[j] = zF := by rw [← h1, ← h2]; congr 1; exact h.symm
    have h4 := hok L[j] (List.getElem_mem hj)
    rw [h3, okF_zF] at h4
    cases h4
  · exact List.take_of_length_le (by omega)
theorem shr_take (room : Int) (L : List Fd) : ∃ j, shr room L = L.take j := by
  have : ∀ n (L : List Fd), ∃ j, shrN room n L = L.take j := fun n => by
    induction n with
    | zero => intro L; exact ⟨L.length, by simp [shrN]⟩
    | succ n ih =>
      intro L
      rw [shrN]
      split
      · obtain ⟨j, hj⟩ := ih L.dropLast
        refine ⟨min j (L.length - 1), ?_⟩
        rw [hj, List.dropLast_eq_take, List.take_take]
      · exact ⟨L.length, by simp⟩
  exact this _ _
theorem shr_sum {room : Int} (h : 0 ≤ room) (L : List Fd) : sumW (shr room L) ≤ room := by
  have : ∀ n (L : List Fd), L.length ≤ n → sumW (shrN room n L) ≤ room := fun n => by
    induction n with
    | zero =>
      intro L hL
      have : L = [] := List.length_eq_zero_iff.1 (by omega)
      subst this
      simpa [shrN, sumW] using h
    | succ n ih =>
      intro L hL
      rw [shrN]
      split
      · exact ih _ (by rw [List.length_dropLast]; omega)
      · omega
  exact this _ _ (Nat.le_refl _)
/-- The slots are alike just where nothing went. -/
theorem ring_fits {room : Int} {L : List Fd} (h : 0 ≤ room) (hL : L.length ≤ 112) (hok : ∀ f ∈ L, okF f = true) : (ringS 0 (shr room L) = ringS 0 L) ↔ sumW L ≤ room := by
  constructor
  · intro e
    obtain ⟨j, hj⟩ := shr_take room L
    rw [hj] at e
    have h1 := ringS_eq hL hok e
    have h2 := shr_sum h L
    rw [hj, h1] at h2
    exact h2
  · intro e
    rw [shr_stop (by omega)]

/-- The cells of a ring. -/
def rC (sl : List Fd) (first count g : Int) : List Value := fv sl ++ [.int .i64 first, .int .i64 count, .int .i64 g]
theorem rC_len {sl : List Fd} (h : sl.length = 112) (f c g : Int) : (rC sl f c g).length = 227 := by simp [rC, fv_len, h]
theorem rC_one (sl : List Fd) (f c g : Int) : ∀ u ∈ rC sl f c g, u.oneCell' = true := by
  intro u hu
  rcases List.mem_append.1 hu with h | h
  · exact fv_one sl u h
  · simp only [List.mem_cons, List.not_mem_nil, or_false] at h
    rcases h with rfl | rfl | rfl <;> rfl
theorem rC_slot {sl : List Fd} (h : sl.length = 112) (f c g : Int) (k : Nat) (hk : k < 112) : (rC sl f c g)[k * 2]? = some (.string (sl[k]'(by omega)).n) ∧ (rC sl f c g)[k * 2 + 1]? = some (.string (sl[k]'(by omega)).v) := by
  have := fv_get sl k (by omega)
  unfold rC
  rw [List.getElem?_append_left (by rw [fv_len]; omega), List.getElem?_append_left (by rw [fv_len]; omega)]
  exact this
theorem rC_num {sl : List Fd} (h : sl.length = 112) (f c g : Int) : (rC sl f c g)[224]? = some (.int .i64 f) ∧ (rC sl f c g)[225]? = some (.int .i64 c) ∧ (rC sl f c g)[226]? = some (.int .i64 g) := by
  unfold rC
  rw [List.getElem?_append_right (by rw [fv_len]; omega), List.getElem?_append_right (by rw [fv_len]; omega), List.getElem?_append_right (by rw [fv_len]; omega), fv_len, h]
  exact ⟨rfl, rfl, rfl⟩
theorem rC_set225 {sl : List Fd} (h : sl.length = 112) (f c g c' : Int) : (rC sl f c g).set 225 (.int .i64 c') = rC sl f c' g := by
  unfold rC; rw [List.set_append_right _ _ (by rw [fv_len]; omega), fv_len, h]; rfl
theorem rC_set226 {sl : List Fd} (h : sl.length = 112) (f c g g' : Int) : (rC sl f c g).set 226 (.int .i64 g') = rC sl f c g' := by
  unfold rC; rw [List.set_append_right _ _ (by rw [fv_len]; omega), fv_len, h]; rfl
theorem rC_setF {sl : List Fd} (h : sl.length = 112) (f c g : Int) (k : Nat) (hk : k < 112) (x : Fd) : ((rC sl f c g).set (k * 2) (.string x.n)).set (k * 2 + 1) (.string x.v) = rC (sl.set k x) f c g := by
  unfold rC
  rw [List.set_append_left _ _ (by rw [fv_len]; omega), List.set_append_left _ _ (by rw [List.length_set, fv_len]; omega)]
  congr 1
  have h1 := flat_set Fd.cs 2 fcs_len sl k (by omega) 0 (by omega) (.string x.n) ⟨x.n, (sl[k]'(by omega)).v⟩ rfl
  have h2 := flat_set Fd.cs 2 fcs_len (sl.set k ⟨x.n, (sl[k]'(by omega)).v⟩) k (by simp; omega) 1 (by omega) (.string x.v) x (by simp [Fd.cs])
  unfold fv
  rw [show k * 2 = k * 2 + 0 from rfl, h1, show k * 2 + 0 + 1 = k * 2 + 1 from rfl, h2, List.set_set]
end Go.Proofs.YtfmeinkhdgbgjaaGreat
/- The model's word on a Table. -/
namespace Go.Proofs.YtfmeinkhdgbgjaaGreat
open Go.RowKit
set_option maxRecDepth 100000
set_option linter.unusedSimpArgs false
set_option linter.unusedVariables false

theorem all_take_succ (L : List Fd) (k : Nat) (h : k < L.length) (ha : ∀ f ∈ L.take k, okF f = true) (hk : okF L[k] = true) : ∀ f ∈ L.take (k + 1), okF f = true := by
  rw [List.take_succ_eq_append_getElem h]
  intro f hf
  rcases List.mem_append.1 hf with h | h
  · exact ha f h
  · simp only [List.mem_singleton] at h; rw [h]; exact hk
theorem okT_room {room : Int} {L : List Fd} (h : inB room 0 1000 = false) : okT room L = false := by simp [okT, h]
theorem okT_long {room : Int} {L : List Fd} (h : 111 < L.length) : okT room L = false := by
  cases he : okT room L
  · rfl
  · have := (okT_parts he).2.2.2.2; omega
theorem okT_bad {room : Int} {L : List Fd} (k : Nat) (hk : k < L.length) (h : okF L[k] = false) : okT room L = false := by
  cases he : okT room L
  · rfl
  · have := (okT_parts he).2.2.1 _ (List.getElem_mem hk); rw [h] at this; cases this
theorem okT_sum {room : Int} {L : List Fd} (h1 : inB room 0 1000 = true) (h2 : ∀ f ∈ L, okF f = true) : okT room L = decide (sumW L ≤ room) := by
  have : L.all okF = true := List.all_eq_true.2 h2
  simp [okT, h1, this]

set_option maxHeartbeats 1000000 in
theorem specTOk (L : List Fd) (room : Int) (v : Value) (w : World) (hr0 : Reads w v L.length 2 (fv L)) (hf : ∀ f ∈ L, f.fine) :
    Calls Tryz.prog 53 #[.agg #[.int .i64 room, v]] w fun x w' => x = .returned (.bool (okT room L)) ∧ Below w.heap.size w w' := by
  have HR := hide hr0; have HF := hide hf
  obtain ⟨hl, ad, cap, rfl, h1, h2, h3⟩ := hr0
  have H3 := hide h3
  clear h3 hf
  unfold maxLen at h2
  cases hrm : inB room 0 1000
  · rw [okT_room hrm]
    go_enter Tryz.func53, Tryz.ntmps53
    go_wp2_with fail
    refine (specIn _ _ _ _).mono ?_; rw [hrm]; rintro e w1 ⟨rfl, rfl⟩
    go_wp2_with fail
    go_ret
    exact ⟨rfl, (by repeat' (first | (with_reducible exact Below.refl _ _) | (with_reducible refine Below.drew ?_) | (with_reducible refine bo_drewN _ ?_) | (with_reducible refine bo_alloc ?_ _) | (refine bchain ?_ (by with_reducible assumption)) | (with_reducible refine Below.setCell ?_ ?_ _) | go_size))⟩
  · by_cases hlen : (200 : Int) < L.length
    · rw [okT_long (by omega)]
      go_enter Tryz.func53, Tryz.ntmps53
      go_wp2_with fail
      refine (specIn _ _ _ _).mono ?_; rw [hrm]; rintro e w1 ⟨rfl, rfl⟩
      go_wp2_with fail
      go_ret
      exact ⟨rfl, (by repeat' (first | (with_reducible exact Below.refl _ _) | (with_reducible refine Below.drew ?_) | (with_reducible refine bo_drewN _ ?_) | (with_reducible refine bo_alloc ?_ _) | (refine bchain ?_ (by with_reducible assumption)) | (with_reducible refine Below.setCell ?_ ?_ _) | go_size))⟩
    · obtain ⟨R, hR⟩ : ∃ R, R = okT room L := ⟨_, rfl⟩
      rw [← hR]
      have HRR := hide hR
      clear hR
      go_enter Tryz.func53, Tryz.ntmps53
      go_wp2_with fail
      refine (specIn _ _ _ _).mono ?_; rw [hrm]; rintro e w1 ⟨rfl, rfl⟩
      go_wp2_with fail
      generalize hV : w.alloc (.cells #[.int .i64 room, .slice ad L.length cap] 29) = V
      have hbV : Below w.heap.size w V := by rw [← hV]; exact (Below.refl _ _).alloc (Nat.le_refl _) _
      have x0 : V.cell? ⟨w.heap.size, 0, none⟩ = some (.int .i64 room) := by rw [← hV]; simp
      have x1 : V.cell? ⟨w.heap.size, 1, none⟩ = some (.slice ad L.length cap) := by rw [← hV]; simp
      have hlV : w.heap.size < V.heap.size := by rw [← hV]; simp
      clear hV
      go_loopw [3] (fun i wr => ∃ (k : Nat), i = .int .i64 k ∧ k ≤ L.length ∧ (∀ f ∈ L.take k, okF f = true) ∧ Below V.heap.size V wr) (fun i _ => L.length - (intOf i).toNat)
      case atStart => exact ⟨0, rfl, Nat.zero_le _, by simp, Below.refl _ _⟩
      case round =>
        obtain ⟨k, rfl, hk, hall, hb⟩ := hrel
        have y0 := (hb.cell (p := ⟨w.heap.size, 0, none⟩) hlV).trans x0
        have y1 := (hb.cell (p := ⟨w.heap.size, 1, none⟩) hlV).trans x1
        have hly : w.heap.size < wr.heap.size := Nat.lt_of_lt_of_le hlV hb.size
        clear x0 x1
        by_cases hlt : k < L.length
        · obtain ⟨b, o, rfl, hbw, hc⟩ := H3.out (by omega)
          obtain ⟨s0, s1⟩ := fv_get L k hlt
          have hfk := HF.out _ (List.getElem_mem hlt)
          have hbr := hbV.trans (hb.mono hbV.size)
          have HA := hide (all_take_succ L k hlt hall)
          have HB := hide (okT_bad (room := room) k hlt)
          obtain ⟨f, hff⟩ : ∃ f, f = L[k] := ⟨_, rfl⟩
          rw [← hff] at s0 s1 hfk HA HB
          have c0 : wr.cell? ⟨b, o + k * 2, none⟩ = some (.string f.n) := by rw [hbr.cell (p := ⟨b, o + k * 2, none⟩) hbw]; exact hc _ _ s0
          have c1 : wr.cell? ⟨b, o + k * 2 + 1, none⟩ = some (.string f.v) := by rw [hbr.cell (p := ⟨b, o + k * 2 + 1, none⟩) hbw]; exact hc _ _ s1
          clear hc s0 s1 hff hall hbr
          cases hok : okF f
          · have hRf := HRR.out.trans (HB.out hok)
            subst hRf
            clear HB HRR HA
            go_wp2_with fail
            refine (specField f _ hfk).mono ?_; rw [hok]; rintro x w1 ⟨rfl, hb1⟩
            go_wp2_with fail
            go_ret
            exact ⟨rfl, (hbV.trans (hb.mono hbV.size)).trans (hb1.mono (by have := hb.size; have := hbV.size; omega))⟩
          · go_wp2_with fail
            refine (specField f _ hfk).mono ?_; rw [hok]; rintro x w1 ⟨rfl, hb1⟩
            have hy' := (hb1.cell (p := ⟨w.heap.size, 1, none⟩) hly).trans y1
            go_wp2_with fail
            exact ⟨⟨k + 1, by go_num, by omega, HA.out hok, bchain hb hb1⟩, by simp [intOf]; omega⟩
        · obtain rfl : k = L.length := by omega
          rw [List.take_length] at hall
          have hRf := HRR.out.trans (okT_sum hrm hall)
          subst hRf
          clear HRR hall H3
          have HR' := hide (HR.out.new (hbV.trans (hb.mono hbV.size)))
          have hsl := Nat.le_trans hbV.size hb.size
          go_wp2_with fail
          have q0 : ∀ y : Later wr, y.w.cell? ⟨w.heap.size, 0, none⟩ = some (.int .i64 room) := fun y => (y.b.cell (p := ⟨w.heap.size, 0, none⟩) hly).trans y0
          have q1 : ∀ y : Later wr, y.w.cell? ⟨w.heap.size, 1, none⟩ = some (.slice ad L.length cap) := fun y => (y.b.cell (p := ⟨w.heap.size, 1, none⟩) hly).trans y1
          have hne : Nonempty (Later wr) := ⟨⟨wr, Below.refl _ _⟩⟩; refine region_later (by kernel_rfl) (by kernel_rfl) ?_
          repeat (go_big_quiet_step (fail))
          go_big_quiet_want; go_big_quiet_op; refine ⟨.int .i64 (sumW L), fun y => later_calls (x := y) ((fun _ => specSum L _ y.w (HR'.out.new y.b) HF.out (by omega)) y.w), ?_⟩; go_big_quiet_on
          repeat (go_big_quiet_step (fail))
          refine wpQuiet_nil ?_; intro _ hw'; obtain ⟨y, hw''⟩ := hw'; subst hw''; have hby := y.b
          go_wp2_with fail
          go_ret
          exact ⟨rfl, (hbV.trans (hb.mono hbV.size)).trans (hby.mono hsl)⟩
end Go.Proofs.YtfmeinkhdgbgjaaGreat
/- A Tunnel in the midst of a block: push and pull, in, out, back, torn. -/
namespace Go.Proofs.YtfmeinkhdgbgjaaGreat
open Go.RowKit
set_option maxRecDepth 100000
set_option linter.unusedSimpArgs false
set_option linter.unusedVariables false
theorem pullM (b : ByteArray) (n : Int) (g op : Nat) (w : World) (hb : b.size ≤ maxLen)
    (hg : w.cell? ⟨g, op + 1, none⟩ = some (.string b)) (hf : w.frozen? ⟨g, op + 1, none⟩ = false) :
    Calls Tryz.prog 143 #[.pointer (some ⟨g, op, none⟩), .int .i64 n] w fun x w' => x = .returned (.string (b.extract 0 (max 0 (min n b.size)).toNat)) ∧ w' = w.setCell ⟨g, op + 1, none⟩ (.string (b.extract (max 0 (min n b.size)).toNat b.size)) := by
  unfold maxLen at hb
  have h1 : 0 ≤ max 0 (min n (b.size : Int)) := by omega
  have h2 : max 0 (min n (b.size : Int)) ≤ b.size := by omega
  go_enter Tryz.func143, Tryz.ntmps143
  go_wp2_with fail
  refine (specMin16 _ _ _).mono ?_; rintro x w1 ⟨rfl, rfl⟩
  go_wp2_with fail
  refine (specMax16 _ _ _).mono ?_; rintro x w1 ⟨rfl, rfl⟩
  go_wp2_with fail
  go_ret
  exact ⟨rfl, rfl⟩
set_option maxHeartbeats 1000000 in
theorem l16OutM (r : Int) (b : ByteArray) (e k : Bool) (r2 : Int) (b2 : ByteArray) (e2 k2 : Bool) (wt cm : Int) (n : Int) (g ot : Nat) (ty : TypeId) (A C : List Value) (w : World) (R : MidIs w g ty A C ot [.int .i64 r, .string b, .bool e, .bool k, .int .i64 r2, .string b2, .bool e2, .bool k2, .int .i64 wt, .int .i64 cm]) (hb : b.size ≤ maxLen) (hb2 : b.size ≤ 2000) (hw0 : 0 ≤ wt) (hw1 : wt ≤ 1000000) :
    Calls Tryz.prog 152 #[.pointer (some ⟨g, ot, none⟩), .int .i64 n] w fun x w' => x = .returned (.string (b.extract 0 (max 0 (min (min n (1000000 - wt)) (b.size : Int))).toNat)) ∧ MidIs w' g ty A C ot [.int .i64 r, .string (b.extract (max 0 (min (min n (1000000 - wt)) (b.size : Int))).toNat b.size), .bool e, .bool k, .int .i64 r2, .string b2, .bool e2, .bool k2, .int .i64 (wt + ((max 0 (min (min n (1000000 - wt)) (b.size : Int))).toNat : Int)), .int .i64 cm] ∧ Turn g (g + 1) w w' := by
  obtain ⟨m, hm⟩ : ∃ m : Nat, (max 0 (min (min n (1000000 - wt)) (b.size : Int))).toNat = m := ⟨_, rfl⟩
  have hm1 : (m : Int) ≤ b.size := by omega
  have hm2 : (m : Int) ≤ 1000000 := by omega
  have hx1 : World.cell? _ ⟨g, ot + 1, none⟩ = some _ := MidIs.cell (j := 1) R rfl
  have hx8 : World.cell? _ ⟨g, ot + 8, none⟩ = some _ := MidIs.cell (j := 8) R rfl
  have hf1 := MidIs.frozen R (ot + 1)
  have e1 : IntKind.i64.wrap (1000000 - wt) = 1000000 - wt := by rw [IntKind.wrap_i64]; omega
  rw [hm]
  go_enter Tryz.func152, Tryz.ntmps152
  go_wp2_with fail
  refine wp_region_held_drew (S := (fun u => u.cell? ⟨g, ot + 8, none⟩ = some (.int .i64 wt))) (by kernel_rfl) hx8 (fun hS => ?_)
  refine wpAnyH_take (i := 0) (v := ?_) rfl (by kernel_rfl) (by kernel_rfl) (by kernel_rfl) (fun _ _ _ h => h) (Or.inl ⟨by kernel_rfl, ?_⟩) hS ?_; rotate_left; focus (intro uu hu; clear hu; go_simp; try with_reducible rfl)
  try simp only [Act.put, List.getElem_toArray, List.getElem_cons_succ, List.getElem_cons_zero, List.setIfInBounds_toArray, List.set_cons_zero, List.set_cons_succ]
  refine wpAnyH_take (i := 1) (v := ?_) rfl (by kernel_rfl) (by kernel_rfl) (by kernel_rfl) (fun _ _ _ h => h) (Or.inl ⟨by kernel_rfl, ?_⟩) hS ?_; rotate_left; focus (intro uu hu; clear hu; go_simp; try with_reducible rfl)
  try simp only [Act.put, List.getElem_toArray, List.getElem_cons_succ, List.getElem_cons_zero, List.setIfInBounds_toArray, List.set_cons_zero, List.set_cons_succ]
  refine wpAnyH_take (i := 2) (v := ?_) rfl (by kernel_rfl) (by kernel_rfl) (by kernel_rfl) (fun _ _ _ h => h) (Or.inl ⟨by kernel_rfl, ?_⟩) hS ?_; rotate_left; focus (intro uu hu; clear hu; go_simp; try with_reducible rfl)
  try simp only [Act.put, List.getElem_toArray, List.getElem_cons_succ, List.getElem_cons_zero, List.setIfInBounds_toArray, List.set_cons_zero, List.set_cons_succ]
  refine wpAnyH_take (i := 3) (v := ?_) rfl (by kernel_rfl) (by kernel_rfl) (by kernel_rfl) (fun _ _ _ h => h) (Or.inl ⟨by kernel_rfl, ?_⟩) hS ?_; rotate_left; focus (intro uu hu; clear hu; go_simp; try with_reducible rfl)
  try simp only [Act.put, List.getElem_toArray, List.getElem_cons_succ, List.getElem_cons_zero, List.setIfInBounds_toArray, List.set_cons_zero, List.set_cons_succ]
  refine wpAnyH_take (i := 4) (v := ?_) rfl (by kernel_rfl) (by kernel_rfl) (by kernel_rfl) (fun _ _ _ h => h) (Or.inl ⟨by kernel_rfl, ?_⟩) hS ?_; rotate_left; focus (intro uu hu; clear hu; go_simp; try with_reducible rfl)
  try simp only [Act.put, List.getElem_toArray, List.getElem_cons_succ, List.getElem_cons_zero, List.setIfInBounds_toArray, List.set_cons_zero, List.set_cons_succ]
  refine wpAnyH_take (i := 5) (v := ?_) rfl (by kernel_rfl) (by kernel_rfl) (by kernel_rfl) (fun _ _ _ h => h) (Or.inl ⟨by kernel_rfl, ?_⟩) hS ?_; rotate_left; focus (intro uu hu; clear hu; go_simp; try with_reducible rfl)
  try simp only [Act.put, List.getElem_toArray, List.getElem_cons_succ, List.getElem_cons_zero, List.setIfInBounds_toArray, List.set_cons_zero, List.set_cons_succ]
  refine wpAnyH_take (i := 6) (v := ?_) rfl (by kernel_rfl) (by kernel_rfl) (by kernel_rfl) (fun _ _ _ h => h) (Or.inl ⟨by kernel_rfl, ?_⟩) hS ?_; rotate_left; focus (intro uu hu; clear hu; go_simp; try with_reducible rfl)
  try simp only [Act.put, List.getElem_toArray, List.getElem_cons_succ, List.getElem_cons_zero, List.setIfInBounds_toArray, List.set_cons_zero, List.set_cons_succ]
  refine wpAnyH_take (i := 7) (v := .int .i64 wt) rfl (by kernel_rfl) (by kernel_rfl) (by kernel_rfl) (fun _ _ _ h => h) (Or.inl ⟨by kernel_rfl, ?ld⟩) hS ?_; case ld => (intro uu hu; go_simp)
  try simp only [Act.put, List.getElem_toArray, List.getElem_cons_succ, List.getElem_cons_zero, List.setIfInBounds_toArray, List.set_cons_zero, List.set_cons_succ]
  refine wpAnyH_take (i := 8) (v := .int .i64 (1000000 - wt)) rfl (by kernel_rfl) (by kernel_rfl) (by kernel_rfl) (fun _ _ _ h => h) (Or.inl ⟨by kernel_rfl, ?ld⟩) hS ?_; case ld => (intro uu hu; clear hu; go_simp)
  try simp only [Act.put, List.getElem_toArray, List.getElem_cons_succ, List.getElem_cons_zero, List.setIfInBounds_toArray, List.set_cons_zero, List.set_cons_succ]
  refine wpAnyH_ready (rs := [9]) (by kernel_rfl) (by simp) ?_; refine AllReadyH.cons rfl (fun K hK => ?_) AllReadyH.nil; rw [if_pos (by kernel_rfl)]; go_simp
  refine (specMin16 _ _ _).mono ?_; rintro x w9 ⟨rfl, hsame⟩; obtain rfl := hsame.symm; clear hsame
  refine hK.out _ _ hS (fun hS => ?_)
  clear hK K
  try simp only [Act.put, List.getElem_toArray, List.getElem_cons_succ, List.getElem_cons_zero, List.setIfInBounds_toArray, List.set_cons_zero, List.set_cons_succ]
  refine wpAnyH_ready (rs := [10]) (by kernel_rfl) (by simp) ?_; refine AllReadyH.cons rfl (fun K hK => ?_) AllReadyH.nil; rw [if_pos (by kernel_rfl)]; go_simp
  have hpl := pullM b (min n (1000000 - wt)) g ot (World.drew w) hb hx1 hf1
  rw [hm] at hpl
  refine hpl.mono ?_; clear hpl; rintro x w1 ⟨rfl, rfl⟩
  have R1 : MidIs ((World.drew w).setCell ⟨g, ot + 1, none⟩ (.string (b.extract m b.size))) g ty A C ot [.int .i64 r, .string (b.extract m b.size), .bool e, .bool k, .int .i64 r2, .string b2, .bool e2, .bool k2, .int .i64 wt, .int .i64 cm] := MidIs.set (w := World.drew w) ⟨R.row, R.off⟩ 1 _ (by simp)
  have B1 : Turn g (g + 1) w ((World.drew w).setCell ⟨g, ot + 1, none⟩ (.string (b.extract m b.size))) := (Turn.refl g (g + 1) w).drew.setCell _ (.inl ⟨Nat.le_refl _, Nat.lt_succ_self _⟩)
  clear hx1 hx8 hf1 R
  generalize (World.drew w).setCell ⟨g, ot + 1, none⟩ (.string (b.extract m b.size)) = V at *
  refine hK.out _ _ (MidIs.cell (j := 8) R1 rfl) (fun hS => ?_)
  clear hK K
  try simp only [Act.put, List.getElem_toArray, List.getElem_cons_succ, List.getElem_cons_zero, List.setIfInBounds_toArray, List.set_cons_zero, List.set_cons_succ]
  refine wpAnyH_take (i := 11) (v := ?_) rfl (by kernel_rfl) (by kernel_rfl) (by kernel_rfl) (fun _ _ _ h => h) (Or.inl ⟨by kernel_rfl, ?_⟩) hS ?_; rotate_left; focus (intro uu hu; clear hu; go_simp; try with_reducible rfl)
  try simp only [Act.put, List.getElem_toArray, List.getElem_cons_succ, List.getElem_cons_zero, List.setIfInBounds_toArray, List.set_cons_zero, List.set_cons_succ]
  refine wpAnyH_done (by kernel_rfl) ?_ _
  clear hS
  have hsz : (b.extract 0 m).size = m := by rw [ByteArray.size_extract]; omega
  have hy8 : World.cell? _ ⟨g, ot + 8, none⟩ = some _ := MidIs.cell (j := 8) R1 rfl
  have hyf := MidIs.frozen R1 (ot + 8)
  obtain ⟨s, hs⟩ : ∃ s, b.extract 0 m = s := ⟨_, rfl⟩
  rw [hs] at hsz ⊢
  have HS := hide hs
  clear hs hm
  have hszI : (s.size : Int) = m := by omega
  have e2 : IntKind.i64.wrap (wt + (m : Int)) = wt + m := by rw [IntKind.wrap_i64]; omega
  go_wp2_with fail
  go_ret
  exact ⟨by rw [HS.out]; rfl, by have := R1.set 8 (.int .i64 (wt + (m : Int))) (by simp); exact this, B1.setCell _ (.inl ⟨Nat.le_refl _, Nat.lt_succ_self _⟩)⟩
end Go.Proofs.YtfmeinkhdgbgjaaGreat
