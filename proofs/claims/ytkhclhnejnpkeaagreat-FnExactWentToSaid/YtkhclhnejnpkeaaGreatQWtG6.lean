/- Several small texts of one level, one behind the other. -/
import Derived.Test.YtkhclhnejnpkeaaGreatQWtG4
import Derived.Test.YtkhclhnejnpkeaaGreatQWtG2
import Derived.Test.YtkhclhnejnpkeaaGreatQWtG5
import Derived.Shelf.Lays
import Derived.Shelf.Small.Strs
import Derived.Test.YtkhclhnejnpkeaaGreatQWtBase
import Derived.Handy
import Derived.WalkKit
import Derived.ProofKit
import Derived.Deep.QuietTactic
import Derived.BigQuiet
import Derived.Lib.IndexBytes
import Derived.Shelf.Small.Wraps
import Derived.Shelf.Strings.Prefix
import Derived.Lib.ItoaNum
import Derived.Lib.ParseIntB
import Derived.Lib.Split
import Derived.Shelf.LaysC
import Derived.Shelf.LaysM
import Derived.Lib.AppendIntMem
import Derived.Shelf.Strconv.Itoa4
import Derived.Shelf.Strconv.ErrVarParseInt
import Derived.Shelf.Strings.SplitShaped
/- Registry in memory: its datum, its make; counted, copied, held against each other, marked, read again (by gen_shape.py). -/
namespace Go.Proofs.YtkhclhnejnpkeaaGreat
open Go.RowKit
set_option maxRecDepth 100000
set_option linter.unusedSimpArgs false
set_option linter.unusedVariables false

/-- What a Registry holds. -/
structure RegistryD where
  lim : Int
  top : Int
  es : List EntryD
/-- How much it holds, as the laws count. -/
def szRegistry (d : RegistryD) : Int := szEntryS d.es
theorem szRegistry_nn (d : RegistryD) : 0 ≤ szRegistry d := by unfold szRegistry; have := szEntryS_nn d.es; omega
set_option maxHeartbeats 1000000 in
theorem toRegistry1 (d : RegistryD) (ves : Value) (w : World) (hves : RdR entryS w ves d.es) (hs : szRegistry d ≤ 1048576) :
    Calls Tryz.prog 119 #[.agg #[.int .i64 d.lim, .int .i64 d.top, ves]] w fun x w' => ∃ ves' : Value, x = .returned (.agg #[.int .i64 d.lim, .int .i64 d.top, ves']) ∧ OwX entryS w' w.heap.size w'.heap.size ves' d.es ∧ Below w.heap.size w w' := by
  have Hves := hide hves
  obtain ⟨aves, pves, rfl, _⟩ := hves.form
  clear hves
  have hz : szEntryS d.es ≤ 1048576 := by unfold szRegistry at hs; omega
  go_enter Tryz.func119, Tryz.ntmps119
  go_wp2_with fail
  refine (toEntryS d.es _ _ ?c1 hz).mono ?_
  case c1 => exact Hves.out.new (by repeat' (first | (with_reducible exact Below.refl _ _) | (with_reducible refine Below.drew ?_) | (with_reducible refine bo_drewN _ ?_) | (with_reducible refine bo_alloc ?_ _) | (refine bchain ?_ (by with_reducible assumption)) | (with_reducible refine Below.setCell ?_ ?_ _) | go_size))
  rintro x w1 ⟨v1, rfl, ho, hb1⟩; have hz1 := hb1.size; (try simp at hz1); have hc1 := fun o => hb1.cell (p := ⟨w.heap.size, o, none⟩) (by first | (simp; done) | (simp; omega) | omega); have hf1 := fun o => hb1.frozen (p := ⟨w.heap.size, o, none⟩) (by first | (simp; done) | (simp; omega) | omega); have hcn1 := fun o => hb1.cell (p := ⟨w.heap.size + 1, o, none⟩) (by first | (simp; done) | (simp; omega) | omega); have hfn1 := fun o => hb1.frozen (p := ⟨w.heap.size + 1, o, none⟩) (by first | (simp; done) | (simp; omega) | omega); have hcm1 := fun o => hb1.cell (p := ⟨w.heap.size + 2, o, none⟩) (by first | (simp; done) | (simp; omega) | omega); have hfm1 := fun o => hb1.frozen (p := ⟨w.heap.size + 2, o, none⟩) (by first | (simp; done) | (simp; omega) | omega)
  have hbw : Below w.heap.size w w1 := (by repeat' (first | (with_reducible exact Below.refl _ _) | (with_reducible refine Below.drew ?_) | (with_reducible refine bo_drewN _ ?_) | (with_reducible refine bo_alloc ?_ _) | (refine bchain ?_ (by with_reducible assumption)) | (with_reducible refine Below.setCell ?_ ?_ _) | go_size))
  obtain ⟨ad1, cap1, rfl, _⟩ := ho.form
  have HO := hide ho
  clear ho
  go_wp2_with fail
  refine bodyPost_ret (v := .agg #[.int .i64 d.lim, .int .i64 d.top, .slice ad1 d.es.length cap1]) (by simp [results, Tryz.results119, go_sem, *]) rfl ?_
  refine ⟨_, rfl, ?_, (by repeat' (first | (with_reducible exact Below.refl _ _) | (with_reducible refine Below.drew ?_) | (with_reducible refine bo_drewN _ ?_) | (with_reducible refine bo_alloc ?_ _) | (refine bchain ?_ (by with_reducible assumption)) | (with_reducible refine Below.setCell ?_ ?_ _) | go_size))⟩
  refine (OwX.wide (lo' := w.heap.size) ?_ (Nat.le_refl _) (Nat.le_refl _))
  have ho := HO.out.wide (lo' := w.heap.size + 3) (by simp) (Nat.le_refl _)
  have hz1 := HO.out
  refine OwX.top (hi := w1.heap.size) ?_
  refine OwX.wide (lo := w.heap.size + 3) ?_ (by omega) (Nat.le_refl _)
  (repeat' (first | (with_reducible exact ho) | (with_reducible refine OwX.far ?_ _ _ ?_) | (simp; done) | (simp; omega)))
set_option maxHeartbeats 1000000 in
theorem eqRegistry1 (d : RegistryD) (ves : Value) (uves : Value) (w : World) (hves : RdR entryS w ves d.es) (huves : RdR entryS w uves d.es) :
    Calls Tryz.prog 124 #[.agg #[.int .i64 d.lim, .int .i64 d.top, ves], .agg #[.int .i64 d.lim, .int .i64 d.top, uves]] w fun x w' => x = .returned (.bool true) ∧ Below w.heap.size w w' := by
  have Hves := hide hves
  obtain ⟨aves, pves, rfl, _⟩ := hves.form
  clear hves
  have Huves := hide huves
  obtain ⟨auves, puves, rfl, _⟩ := huves.form
  clear huves
  go_enter Tryz.func124, Tryz.ntmps124
  go_wp2_with fail
  refine (eqEntryS d.es _ _ _ ?c1 ?c2).mono ?_
  case c1 => exact Hves.out.new (by repeat' (first | (with_reducible exact Below.refl _ _) | (with_reducible refine Below.drew ?_) | (with_reducible refine bo_drewN _ ?_) | (with_reducible refine bo_alloc ?_ _) | (refine bchain ?_ (by with_reducible assumption)) | (with_reducible refine Below.setCell ?_ ?_ _) | go_size))
  case c2 => exact Huves.out.new (by repeat' (first | (with_reducible exact Below.refl _ _) | (with_reducible refine Below.drew ?_) | (with_reducible refine bo_drewN _ ?_) | (with_reducible refine bo_alloc ?_ _) | (refine bchain ?_ (by with_reducible assumption)) | (with_reducible refine Below.setCell ?_ ?_ _) | go_size))
  rintro x w1 ⟨rfl, hb1⟩; have hz1 := hb1.size; (try simp at hz1); have hc1 := fun o => hb1.cell (p := ⟨w.heap.size, o, none⟩) (by first | (simp; done) | (simp; omega) | omega); have hf1 := fun o => hb1.frozen (p := ⟨w.heap.size, o, none⟩) (by first | (simp; done) | (simp; omega) | omega); have hcn1 := fun o => hb1.cell (p := ⟨w.heap.size + 1, o, none⟩) (by first | (simp; done) | (simp; omega) | omega); have hfn1 := fun o => hb1.frozen (p := ⟨w.heap.size + 1, o, none⟩) (by first | (simp; done) | (simp; omega) | omega)
  go_wp2_with fail
  go_ret
  exact ⟨rfl, (by repeat' (first | (with_reducible exact Below.refl _ _) | (with_reducible refine Below.drew ?_) | (with_reducible refine bo_drewN _ ?_) | (with_reducible refine bo_alloc ?_ _) | (refine bchain ?_ (by with_reducible assumption)) | (with_reducible refine Below.setCell ?_ ?_ _) | go_size))⟩
set_option maxHeartbeats 1000000 in
theorem szRegistry1 (d : RegistryD) (ves : Value) (left : Int) (w : World) (hves : RdR entryS w ves d.es) (h0 : 0 ≤ left) (h1 : left ≤ 1048576) :
    Calls Tryz.prog 115 #[.agg #[.int .i64 d.lim, .int .i64 d.top, ves], .int .i64 left] w fun x w' => (x = .returned (.int .i64 (-1)) ∨ (x = .returned (.int .i64 (left - szRegistry d)) ∧ 0 ≤ left - szRegistry d)) ∧ Below w.heap.size w w' := by
  have Hves := hide hves
  obtain ⟨aves, pves, rfl, _⟩ := hves.form
  clear hves
  unfold szRegistry
  obtain ⟨R, hR⟩ : ∃ R, left - szEntryS d.es = R := ⟨_, rfl⟩
  rw [hR]
  have hcall := fun v w h => szEntryS1 d.es v left w h h0 h1
  rw [hR] at hcall
  clear hR
  go_enter Tryz.func115, Tryz.ntmps115
  go_wp2_with fail
  refine (hcall _ _ ?c1).mono ?_
  case c1 => exact Hves.out.new (by repeat' (first | (with_reducible exact Below.refl _ _) | (with_reducible refine Below.drew ?_) | (with_reducible refine bo_drewN _ ?_) | (with_reducible refine bo_alloc ?_ _) | (refine bchain ?_ (by with_reducible assumption)) | (with_reducible refine Below.setCell ?_ ?_ _) | go_size))
  rintro x w1 ⟨rfl | ⟨rfl, hp⟩, hb1⟩
  · go_wp2_with fail
    go_ret
    exact ⟨.inl rfl, (by repeat' (first | (with_reducible exact Below.refl _ _) | (with_reducible refine Below.drew ?_) | (with_reducible refine bo_drewN _ ?_) | (with_reducible refine bo_alloc ?_ _) | (refine bchain ?_ (by with_reducible assumption)) | (with_reducible refine Below.setCell ?_ ?_ _) | go_size))⟩
  · have hp' : ¬ R < 0 := by omega
    go_wp2_with fail
    go_ret
    exact ⟨.inr ⟨rfl, hp⟩, (by repeat' (first | (with_reducible exact Below.refl _ _) | (with_reducible refine Below.drew ?_) | (with_reducible refine bo_drewN _ ?_) | (with_reducible refine bo_alloc ?_ _) | (refine bchain ?_ (by with_reducible assumption)) | (with_reducible refine Below.setCell ?_ ?_ _) | go_size))⟩
end Go.Proofs.YtkhclhnejnpkeaaGreat
/- The signs of chapter 4 and their numbers: l4Sign, l4Byte and the place in the row of signs. -/
namespace Go.Proofs.YtkhclhnejnpkeaaGreat
open Go.RowKit
set_option maxRecDepth 100000
set_option linter.unusedSimpArgs false
set_option linter.unusedVariables false

/-- The sign of a number. -/
def sch (n : Int) : Int := if n < 26 then 97 + n else if n = 26 then 45 else if n = 27 then 46 else if n = 28 then 47 else if n = 29 then 58 else 61
/-- The row of signs, as the program keeps it. -/
def signs : ByteArray := ⟨#[97, 98, 99, 100, 101, 102, 103, 104, 105, 106, 107, 108, 109, 110, 111, 112, 113, 114, 115, 116, 117, 118, 119, 120, 121, 122, 45, 46, 47, 58, 61]⟩
end Go.Proofs.YtkhclhnejnpkeaaGreat
/- The ring in plain words: 112 slots, the newest row at first, the older ones behind it, round the end. -/
namespace Go.Proofs.YtkhclhnejnpkeaaGreat
open Go.RowKit
set_option maxRecDepth 100000
set_option linter.unusedSimpArgs false
set_option linter.unusedVariables false

def zF : Fd := ⟨⟨#[]⟩, ⟨#[]⟩⟩
/-- The slots of a ring whose rows are L. -/
def ringS (first : Nat) (L : List Fd) : List Fd := (List.range 112).map fun k => L.getD ((k + 112 - first) % 112) zF
theorem ringS_len (first : Nat) (L : List Fd) : (ringS first L).length = 112 := by simp [ringS]
theorem ringS_get (first : Nat) (L : List Fd) (k : Nat) (hk : k < (ringS first L).length) : (ringS first L)[k] = L.getD ((k + 112 - first) % 112) zF := by simp [ringS]
theorem ringS_at {first : Nat} {L : List Fd} (hf : first < 112) (hL : L.length ≤ 112) (n : Nat) (hn : n < L.length) : (ringS first L)[(first + n) % 112]'(by rw [ringS_len]; omega) = L[n] := by
  rw [ringS_get, show ((first + n) % 112 + 112 - first) % 112 = n by omega]
  simp [hn]
theorem ringS_last {first : Nat} {L : List Fd} (f : Fd) (hf : first < 112) (hL : L.length < 112) : (ringS first L).set ((first + L.length) % 112) f = ringS first (L ++ [f]) := by
  refine List.ext_getElem (by simp [ringS_len]) fun k h1 h2 => ?_
  have hk : k < 112 := by rw [ringS_len] at h2; exact h2
  rw [List.getElem_set, ringS_get, ringS_get]
  split
  · rename_i e
    rw [show (k + 112 - first) % 112 = L.length by omega]
    simp
  · rename_i e
    have : (k + 112 - first) % 112 ≠ L.length := by omega
    generalize (k + 112 - first) % 112 = i at *
    simp only [List.getD_eq_getElem?_getD, List.getElem?_append]
    split
    · rfl
    · rw [List.getElem?_eq_none (by omega), List.getElem?_eq_none (by simp; omega)]
theorem ringS_drop {first : Nat} {L : List Fd} (hf : first < 112) (h0 : 0 < L.length) (hL : L.length ≤ 112) : (ringS first L).set ((first + (L.length - 1)) % 112) zF = ringS first L.dropLast := by
  refine List.ext_getElem (by simp [ringS_len]) fun k h1 h2 => ?_
  have hk : k < 112 := by rw [ringS_len] at h2; exact h2
  rw [List.getElem_set, ringS_get, ringS_get]
  split
  · rename_i e
    rw [show (k + 112 - first) % 112 = L.length - 1 by omega]
    simp [List.getD_eq_getElem?_getD, List.getElem?_dropLast]
  · rename_i e
    have : (k + 112 - first) % 112 ≠ L.length - 1 := by omega
    generalize (k + 112 - first) % 112 = i at *
    simp only [List.getD_eq_getElem?_getD, List.getElem?_dropLast]
    split
    · rfl
    · rw [List.getElem?_eq_none (by omega)]
theorem okF_zF : okF zF = false := by decide
/-- Where no row of the longer one is the zero Field, slots alike have rows alike. -/
theorem ringS_eq {L : List Fd} {j : Nat} (hL : L.length ≤ 112) (hok : ∀ f ∈ L, okF f = true) (h : ringS 0 (L.take j) = ringS 0 L) : L.take j = L := by
  by_cases hj : j < L.length
  · have h1 := ringS_at (first := 0) (L := L) (by omega) hL j hj
    have h2 : (ringS 0 (L.take j))[(0 + j) % 112]'(by rw [ringS_len]; omega) = zF := by
      rw [ringS_get, show ((0 + j) % 112 + 112 - 0) % 112 = j by omega, List.getD_eq_getElem?_getD, List.getElem?_eq_none (by simp; omega)]
      rfl
    have h3 : L[j] = zF := by rw [← h1, ← h2]; congr 1; exact h.symm
    have h4 := hok L[j] (List.getElem_mem hj)
    rw [h3, okF_zF] at h4
    cases h4
  · exact List.take_of_length_le (by omega)
theorem shr_take (room : Int) (L : List Fd) : ∃ j, shr room L = L.take j := by
  have : ∀ n (L : List Fd), ∃ j, shrN room n L = L.take j := fun n => by
    induction n with
    | zero => intro L; exact ⟨L.length, by simp [shrN]⟩
    | succ n ih =>
      intro L
      rw [shrN]
      split
      · obtain ⟨j, hj⟩ := ih L.dropLast
        refine ⟨min j (L.length - 1), ?_⟩
        rw [hj, List.dropLast_eq_take, List.take_take]
      · exact ⟨L.length, by simp⟩
  exact this _ _
theorem shr_sum {room : Int} (h : 0 ≤ room) (L : List Fd) : sumW (shr room L) ≤ room := by
  have : ∀ n (L : List Fd), L.length ≤ n → sumW (shrN room n L) ≤ room := fun n => by
    induction n with
    | zero =>
      intro L hL
      have : L = [] := List.length_eq_zero_iff.1 (by omega)
      subst this
      simpa [shrN, sumW] using h
    | succ n ih =>
      intro L hL
      rw [shrN]
      split
      · exact ih _ (by rw [List.length_dropLast]; omega)
      · omega
  exact this _ _ (Nat.le_refl _)
/-- The slots are alike just where nothing went. -/
theorem ring_fits {room : Int} {L : List Fd} (h : 0 ≤ room) (hL : L.length ≤ 112) (hok : ∀ f ∈ L, okF f = true) : (ringS 0 (shr room L) = ringS 0 L) ↔ sumW L ≤ room := by
  constructor
  · intro e
    obtain ⟨j, hj⟩ := shr_take room L
    rw [hj] at e
    have h1 := ringS_eq hL hok e
    have h2 := shr_sum h L
    rw [hj, h1] at h2
    exact h2
  · intro e
    rw [shr_stop (by omega)]

/-- The cells of a ring. -/
def rC (sl : List Fd) (first count g : Int) : List Value := fv sl ++ [.int .i64 first, .int .i64 count, .int .i64 g]
theorem rC_len {sl : List Fd} (h : sl.length = 112) (f c g : Int) : (rC sl f c g).length = 227 := by simp [rC, fv_len, h]
theorem rC_one (sl : List Fd) (f c g : Int) : ∀ u ∈ rC sl f c g, u.oneCell' = true := by
  intro u hu
  rcases List.mem_append.1 hu with h | h
  · exact fv_one sl u h
  · simp only [List.mem_cons, List.not_mem_nil, or_false] at h
    rcases h with rfl | rfl | rfl <;> rfl
theorem rC_slot {sl : List Fd} (h : sl.length = 112) (f c g : Int) (k : Nat) (hk : k < 112) : (rC sl f c g)[k * 2]? = some (.string (sl[k]'(by omega)).n) ∧ (rC sl f c g)[k * 2 + 1]? = some (.string (sl[k]'(by omega)).v) := by
  have := fv_get sl k (by omega)
  unfold rC
  rw [List.getElem?_append_left (by rw [fv_len]; omega), List.getElem?_append_left (by rw [fv_len]; omega)]
  exact this
theorem rC_num {sl : List Fd} (h : sl.length = 112) (f c g : Int) : (rC sl f c g)[224]? = some (.int .i64 f) ∧ (rC sl f c g)[225]? = some (.int .i64 c) ∧ (rC sl f c g)[226]? = some (.int .i64 g) := by
  unfold rC
  rw [List.getElem?_append_right (by rw [fv_len]; omega), List.getElem?_append_right (by rw [fv_len]; omega), List.getElem?_append_right (by rw [fv_len]; omega), fv_len, h]
  exact ⟨rfl, rfl, rfl⟩
theorem rC_set225 {sl : List Fd} (h : sl.length = 112) (f c g c' : Int) : (rC sl f c g).set 225 (.int .i64 c') = rC sl f c' g := by
  unfold rC; rw [List.set_append_right _ _ (by rw [fv_len]; omega), fv_len, h]; rfl
theorem rC_set226 {sl : List Fd} (h : sl.length = 112) (f c g g' : Int) : (rC sl f c g).set 226 (.int .i64 g') = rC sl f c g' := by
  unfold rC; rw [List.set_append_right _ _ (by rw [fv_len]; omega), fv_len, h]; rfl
theorem rC_setF {sl : List Fd} (h : sl.length = 112) (f c g : Int) (k : Nat) (hk : k < 112) (x : Fd) : ((rC sl f c g).set (k * 2) (.string x.n)).set (k * 2 + 1) (.string x.v) = rC (sl.set k x) f c g := by
  unfold rC
  rw [List.set_append_left _ _ (by rw [fv_len]; omega), List.set_append_left _ _ (by rw [List.length_set, fv_len]; omega)]
  congr 1
  have h1 := flat_set Fd.cs 2 fcs_len sl k (by omega) 0 (by omega) (.string x.n) ⟨x.n, (sl[k]'(by omega)).v⟩ rfl
  have h2 := flat_set Fd.cs 2 fcs_len (sl.set k ⟨x.n, (sl[k]'(by omega)).v⟩) k (by simp; omega) 1 (by omega) (.string x.v) x (by simp [Fd.cs])
  unfold fv
  rw [show k * 2 = k * 2 + 0 from rfl, h1, show k * 2 + 0 + 1 = k * 2 + 1 from rfl, h2, List.set_set]
end Go.Proofs.YtkhclhnejnpkeaaGreat
/- The model's word on a Table. -/
namespace Go.Proofs.YtkhclhnejnpkeaaGreat
open Go.RowKit
set_option maxRecDepth 100000
set_option linter.unusedSimpArgs false
set_option linter.unusedVariables false

theorem all_take_succ (L : List Fd) (k : Nat) (h : k < L.length) (ha : ∀ f ∈ L.take k, okF f = true) (hk : okF L[k] = true) : ∀ f ∈ L.take (k + 1), okF f = true := by
  rw [List.take_succ_eq_append_getElem h]
  intro f hf
  rcases List.mem_append.1 hf with h | h
  · exact ha f h
  · simp only [List.mem_singleton] at h; rw [h]; exact hk
theorem okT_room {room : Int} {L : List Fd} (h : inB room 0 1000 = false) : okT room L = false := by simp [okT, h]
theorem okT_long {room : Int} {L : List Fd} (h : 111 < L.length) : okT room L = false := by
  cases he : okT room L
  · rfl
  · have := (okT_parts he).2.2.2.2; omega
theorem okT_bad {room : Int} {L : List Fd} (k : Nat) (hk : k < L.length) (h : okF L[k] = false) : okT room L = false := by
  cases he : okT room L
  · rfl
  · have := (okT_parts he).2.2.1 _ (List.getElem_mem hk); rw [h] at this; cases this
theorem okT_sum {room : Int} {L : List Fd} (h1 : inB room 0 1000 = true) (h2 : ∀ f ∈ L, okF f = true) : okT room L = decide (sumW L ≤ room) := by
  have : L.all okF = true := List.all_eq_true.2 h2
  simp [okT, h1, this]

set_option maxHeartbeats 1000000 in
theorem specTOk (L : List Fd) (room : Int) (v : Value) (w : World) (hr0 : Reads w v L.length 2 (fv L)) (hf : ∀ f ∈ L, f.fine) :
    Calls Tryz.prog 63 #[.agg #[.int .i64 room, v]] w fun x w' => x = .returned (.bool (okT room L)) ∧ Below w.heap.size w w' := by
  have HR := hide hr0; have HF := hide hf
  obtain ⟨hl, ad, cap, rfl, h1, h2, h3⟩ := hr0
  have H3 := hide h3
  clear h3 hf
  unfold maxLen at h2
  cases hrm : inB room 0 1000
  · rw [okT_room hrm]
    go_enter Tryz.func63, Tryz.ntmps63
    go_wp2_with fail
    refine (specIn _ _ _ _).mono ?_; rw [hrm]; rintro e w1 ⟨rfl, rfl⟩
    go_wp2_with fail
    go_ret
    exact ⟨rfl, (by repeat' (first | (with_reducible exact Below.refl _ _) | (with_reducible refine Below.drew ?_) | (with_reducible refine bo_drewN _ ?_) | (with_reducible refine bo_alloc ?_ _) | (refine bchain ?_ (by with_reducible assumption)) | (with_reducible refine Below.setCell ?_ ?_ _) | go_size))⟩
  · by_cases hlen : (200 : Int) < L.length
    · rw [okT_long (by omega)]
      go_enter Tryz.func63, Tryz.ntmps63
      go_wp2_with fail
      refine (specIn _ _ _ _).mono ?_; rw [hrm]; rintro e w1 ⟨rfl, rfl⟩
      go_wp2_with fail
      go_ret
      exact ⟨rfl, (by repeat' (first | (with_reducible exact Below.refl _ _) | (with_reducible refine Below.drew ?_) | (with_reducible refine bo_drewN _ ?_) | (with_reducible refine bo_alloc ?_ _) | (refine bchain ?_ (by with_reducible assumption)) | (with_reducible refine Below.setCell ?_ ?_ _) | go_size))⟩
    · obtain ⟨R, hR⟩ : ∃ R, R = okT room L := ⟨_, rfl⟩
      rw [← hR]
      have HRR := hide hR
      clear hR
      go_enter Tryz.func63, Tryz.ntmps63
      go_wp2_with fail
      refine (specIn _ _ _ _).mono ?_; rw [hrm]; rintro e w1 ⟨rfl, rfl⟩
      go_wp2_with fail
      generalize hV : w.alloc (.cells #[.int .i64 room, .slice ad L.length cap] 60) = V
      have hbV : Below w.heap.size w V := by rw [← hV]; exact (Below.refl _ _).alloc (Nat.le_refl _) _
      have x0 : V.cell? ⟨w.heap.size, 0, none⟩ = some (.int .i64 room) := by rw [← hV]; simp
      have x1 : V.cell? ⟨w.heap.size, 1, none⟩ = some (.slice ad L.length cap) := by rw [← hV]; simp
      have hlV : w.heap.size < V.heap.size := by rw [← hV]; simp
      clear hV
      go_loopw [3] (fun i wr => ∃ (k : Nat), i = .int .i64 k ∧ k ≤ L.length ∧ (∀ f ∈ L.take k, okF f = true) ∧ Below V.heap.size V wr) (fun i _ => L.length - (intOf i).toNat)
      case atStart => exact ⟨0, rfl, Nat.zero_le _, by simp, Below.refl _ _⟩
      case round =>
        obtain ⟨k, rfl, hk, hall, hb⟩ := hrel
        have y0 := (hb.cell (p := ⟨w.heap.size, 0, none⟩) hlV).trans x0
        have y1 := (hb.cell (p := ⟨w.heap.size, 1, none⟩) hlV).trans x1
        have hly : w.heap.size < wr.heap.size := Nat.lt_of_lt_of_le hlV hb.size
        clear x0 x1
        by_cases hlt : k < L.length
        · obtain ⟨b, o, rfl, hbw, hc⟩ := H3.out (by omega)
          obtain ⟨s0, s1⟩ := fv_get L k hlt
          have hfk := HF.out _ (List.getElem_mem hlt)
          have hbr := hbV.trans (hb.mono hbV.size)
          have HA := hide (all_take_succ L k hlt hall)
          have HB := hide (okT_bad (room := room) k hlt)
          obtain ⟨f, hff⟩ : ∃ f, f = L[k] := ⟨_, rfl⟩
          rw [← hff] at s0 s1 hfk HA HB
          have c0 : wr.cell? ⟨b, o + k * 2, none⟩ = some (.string f.n) := by rw [hbr.cell (p := ⟨b, o + k * 2, none⟩) hbw]; exact hc _ _ s0
          have c1 : wr.cell? ⟨b, o + k * 2 + 1, none⟩ = some (.string f.v) := by rw [hbr.cell (p := ⟨b, o + k * 2 + 1, none⟩) hbw]; exact hc _ _ s1
          clear hc s0 s1 hff hall hbr
          cases hok : okF f
          · have hRf := HRR.out.trans (HB.out hok)
            subst hRf
            clear HB HRR HA
            go_wp2_with fail
            refine (specField f _ hfk).mono ?_; rw [hok]; rintro x w1 ⟨rfl, hb1⟩
            go_wp2_with fail
            go_ret
            exact ⟨rfl, (hbV.trans (hb.mono hbV.size)).trans (hb1.mono (by have := hb.size; have := hbV.size; omega))⟩
          · go_wp2_with fail
            refine (specField f _ hfk).mono ?_; rw [hok]; rintro x w1 ⟨rfl, hb1⟩
            have hy' := (hb1.cell (p := ⟨w.heap.size, 1, none⟩) hly).trans y1
            go_wp2_with fail
            exact ⟨⟨k + 1, by go_num, by omega, HA.out hok, bchain hb hb1⟩, by simp [intOf]; omega⟩
        · obtain rfl : k = L.length := by omega
          rw [List.take_length] at hall
          have hRf := HRR.out.trans (okT_sum hrm hall)
          subst hRf
          clear HRR hall H3
          have HR' := hide (HR.out.new (hbV.trans (hb.mono hbV.size)))
          have hsl := Nat.le_trans hbV.size hb.size
          go_wp2_with fail
          have q0 : ∀ y : Later wr, y.w.cell? ⟨w.heap.size, 0, none⟩ = some (.int .i64 room) := fun y => (y.b.cell (p := ⟨w.heap.size, 0, none⟩) hly).trans y0
          have q1 : ∀ y : Later wr, y.w.cell? ⟨w.heap.size, 1, none⟩ = some (.slice ad L.length cap) := fun y => (y.b.cell (p := ⟨w.heap.size, 1, none⟩) hly).trans y1
          have hne : Nonempty (Later wr) := ⟨⟨wr, Below.refl _ _⟩⟩; refine region_later (by kernel_rfl) (by kernel_rfl) ?_
          repeat (go_big_quiet_step (fail))
          go_big_quiet_want; go_big_quiet_op; refine ⟨.int .i64 (sumW L), fun y => later_calls (x := y) ((fun _ => specSum L _ y.w (HR'.out.new y.b) HF.out (by omega)) y.w), ?_⟩; go_big_quiet_on
          repeat (go_big_quiet_step (fail))
          refine wpQuiet_nil ?_; intro _ hw'; obtain ⟨y, hw''⟩ := hw'; subst hw''; have hby := y.b
          go_wp2_with fail
          go_ret
          exact ⟨rfl, (hbV.trans (hb.mono hbV.size)).trans (hby.mono hsl)⟩
end Go.Proofs.YtkhclhnejnpkeaaGreat
/- Tenant in memory: its datum, its make; counted, copied, held against each other, marked, read again (by gen_shape.py). -/
namespace Go.Proofs.YtkhclhnejnpkeaaGreat
open Go.RowKit
set_option maxRecDepth 100000
set_option linter.unusedSimpArgs false
set_option linter.unusedVariables false

/-- What a Tenant holds. -/
structure TenantD where
  nm : ByteArray
  key : ByteArray
  list : List ByteArray
  quota : Int
def tenantS : Shp TenantD where
  size := 4
  ty := 88
  rd := fun w cs d => ∃ vlist : Value, cs = [.string d.nm, .string d.key, vlist, .int .i64 d.quota] ∧ d.nm.size ≤ 9223372036854775807 ∧ d.key.size ≤ 9223372036854775807 ∧ RdR strS w vlist d.list
  own := fun w cs d bs => ∃ (vlist : Value) (b0 : List Nat), cs = [.string d.nm, .string d.key, vlist, .int .i64 d.quota] ∧ d.nm.size ≤ 9223372036854775807 ∧ d.key.size ≤ 9223372036854775807 ∧ OwR strS w vlist d.list b0 ∧ bs = b0
  pos := by decide
  rd_len := fun h => by obtain ⟨vlist, rfl, _⟩ := h; rfl
  rd_one := fun h u hu => by
    obtain ⟨vlist, rfl, f0, f1, h0⟩ := h
    obtain ⟨_, _, rfl, _⟩ := h0.form
    simp only [List.mem_cons, List.not_mem_nil, or_false] at hu
    rcases hu with rfl | rfl | rfl | rfl <;> rfl
  rd_new := fun h hb => by obtain ⟨vlist, rfl, f0, f1, h0⟩ := h; exact ⟨vlist, rfl, f0, f1, h0.new hb⟩
  own_rd := fun h => by obtain ⟨vlist, b0, rfl, f0, f1, h0, rfl⟩ := h; exact ⟨vlist, rfl, f0, f1, h0.rd⟩
  own_keep := fun h hs hk => by obtain ⟨vlist, b0, rfl, f0, f1, h0, rfl⟩ := h; exact ⟨vlist, _, rfl, f0, f1, h0.keep hs (fun b hb => hk b (by simp [hb])), rfl⟩
  own_lt := fun h b hb => by obtain ⟨vlist, b0, rfl, f0, f1, h0, rfl⟩ := h; exact h0.lt b hb
/-- How much it holds, as the laws count. -/
def szTenant (d : TenantD) : Int := (d.nm.size : Int) + (d.key.size : Int) + szStringS d.list
theorem szTenant_nn (d : TenantD) : 0 ≤ szTenant d := by unfold szTenant; have := szStringS_nn d.list; omega
def szTenantS (L : List TenantD) : Int := L.length + sumLs szTenant L
theorem szTenantS_nn (L : List TenantD) : 0 ≤ szTenantS L := by unfold szTenantS; have := sum_nn szTenant szTenant_nn L; omega
theorem szTenantS_mem {L : List TenantD} {d : TenantD} (h : d ∈ L) : szTenant d ≤ szTenantS L := by unfold szTenantS; have := sum_mem szTenant szTenant_nn L d h; omega
theorem szTenantS_len (L : List TenantD) : (L.length : Int) ≤ szTenantS L := by unfold szTenantS; have := sum_nn szTenant szTenant_nn L; omega
set_option maxHeartbeats 1000000 in
theorem toTenant1 (d : TenantD) (vlist : Value) (w : World) (hvlist : RdR strS w vlist d.list) (hf0 : d.nm.size ≤ 9223372036854775807) (hf1 : d.key.size ≤ 9223372036854775807) (hs : szTenant d ≤ 1048576) :
    Calls Tryz.prog 40 #[.agg #[.string d.nm, .string d.key, vlist, .int .i64 d.quota]] w fun x w' => ∃ vlist' : Value, x = .returned (.agg #[.string d.nm, .string d.key, vlist', .int .i64 d.quota]) ∧ OwX strS w' w.heap.size w'.heap.size vlist' d.list ∧ Below w.heap.size w w' := by
  have Hvlist := hide hvlist
  obtain ⟨avlist, pvlist, rfl, _⟩ := hvlist.form
  clear hvlist
  have hz : szStringS d.list ≤ 1048576 := by unfold szTenant at hs; omega
  go_enter Tryz.func40, Tryz.ntmps40
  go_wp2_with fail
  refine (toStringS d.list _ _ ?c1 hz).mono ?_
  case c1 => exact Hvlist.out.new (by repeat' (first | (with_reducible exact Below.refl _ _) | (with_reducible refine Below.drew ?_) | (with_reducible refine bo_drewN _ ?_) | (with_reducible refine bo_alloc ?_ _) | (refine bchain ?_ (by with_reducible assumption)) | (with_reducible refine Below.setCell ?_ ?_ _) | go_size))
  rintro x w1 ⟨v1, rfl, ho, hb1⟩; have hz1 := hb1.size; (try simp at hz1); have hc1 := fun o => hb1.cell (p := ⟨w.heap.size, o, none⟩) (by first | (simp; done) | (simp; omega) | omega); have hf1 := fun o => hb1.frozen (p := ⟨w.heap.size, o, none⟩) (by first | (simp; done) | (simp; omega) | omega); have hcn1 := fun o => hb1.cell (p := ⟨w.heap.size + 1, o, none⟩) (by first | (simp; done) | (simp; omega) | omega); have hfn1 := fun o => hb1.frozen (p := ⟨w.heap.size + 1, o, none⟩) (by first | (simp; done) | (simp; omega) | omega); have hcm1 := fun o => hb1.cell (p := ⟨w.heap.size + 2, o, none⟩) (by first | (simp; done) | (simp; omega) | omega); have hfm1 := fun o => hb1.frozen (p := ⟨w.heap.size + 2, o, none⟩) (by first | (simp; done) | (simp; omega) | omega)
  have hbw : Below w.heap.size w w1 := (by repeat' (first | (with_reducible exact Below.refl _ _) | (with_reducible refine Below.drew ?_) | (with_reducible refine bo_drewN _ ?_) | (with_reducible refine bo_alloc ?_ _) | (refine bchain ?_ (by with_reducible assumption)) | (with_reducible refine Below.setCell ?_ ?_ _) | go_size))
  obtain ⟨ad1, cap1, rfl, _⟩ := ho.form
  have HO := hide ho
  clear ho
  go_wp2_with fail
  refine bodyPost_ret (v := .agg #[.string d.nm, .string d.key, .slice ad1 d.list.length cap1, .int .i64 d.quota]) (by simp [results, Tryz.results40, go_sem, *]) rfl ?_
  refine ⟨_, rfl, ?_, (by repeat' (first | (with_reducible exact Below.refl _ _) | (with_reducible refine Below.drew ?_) | (with_reducible refine bo_drewN _ ?_) | (with_reducible refine bo_alloc ?_ _) | (refine bchain ?_ (by with_reducible assumption)) | (with_reducible refine Below.setCell ?_ ?_ _) | go_size))⟩
  refine (OwX.wide (lo' := w.heap.size) ?_ (Nat.le_refl _) (Nat.le_refl _))
  have ho := HO.out.wide (lo' := w.heap.size + 3) (by simp) (Nat.le_refl _)
  have hz1 := HO.out
  refine OwX.top (hi := w1.heap.size) ?_
  refine OwX.wide (lo := w.heap.size + 3) ?_ (by omega) (Nat.le_refl _)
  (repeat' (first | (with_reducible exact ho) | (with_reducible refine OwX.far ?_ _ _ ?_) | (simp; done) | (simp; omega)))
set_option maxHeartbeats 1000000 in
theorem eqTenant1 (d : TenantD) (vlist : Value) (uvlist : Value) (w : World) (hvlist : RdR strS w vlist d.list) (hf0 : d.nm.size ≤ 9223372036854775807) (hf1 : d.key.size ≤ 9223372036854775807) (huvlist : RdR strS w uvlist d.list) :
    Calls Tryz.prog 45 #[.agg #[.string d.nm, .string d.key, vlist, .int .i64 d.quota], .agg #[.string d.nm, .string d.key, uvlist, .int .i64 d.quota]] w fun x w' => x = .returned (.bool true) ∧ Below w.heap.size w w' := by
  have Hvlist := hide hvlist
  obtain ⟨avlist, pvlist, rfl, _⟩ := hvlist.form
  clear hvlist
  have Huvlist := hide huvlist
  obtain ⟨auvlist, puvlist, rfl, _⟩ := huvlist.form
  clear huvlist
  go_enter Tryz.func45, Tryz.ntmps45
  go_wp2_with fail
  refine (eqStringS d.list _ _ _ ?c1 ?c2).mono ?_
  case c1 => exact Hvlist.out.new (by repeat' (first | (with_reducible exact Below.refl _ _) | (with_reducible refine Below.drew ?_) | (with_reducible refine bo_drewN _ ?_) | (with_reducible refine bo_alloc ?_ _) | (refine bchain ?_ (by with_reducible assumption)) | (with_reducible refine Below.setCell ?_ ?_ _) | go_size))
  case c2 => exact Huvlist.out.new (by repeat' (first | (with_reducible exact Below.refl _ _) | (with_reducible refine Below.drew ?_) | (with_reducible refine bo_drewN _ ?_) | (with_reducible refine bo_alloc ?_ _) | (refine bchain ?_ (by with_reducible assumption)) | (with_reducible refine Below.setCell ?_ ?_ _) | go_size))
  rintro x w1 ⟨rfl, hb1⟩; have hz1 := hb1.size; (try simp at hz1); have hc1 := fun o => hb1.cell (p := ⟨w.heap.size, o, none⟩) (by first | (simp; done) | (simp; omega) | omega); have hf1 := fun o => hb1.frozen (p := ⟨w.heap.size, o, none⟩) (by first | (simp; done) | (simp; omega) | omega); have hcn1 := fun o => hb1.cell (p := ⟨w.heap.size + 1, o, none⟩) (by first | (simp; done) | (simp; omega) | omega); have hfn1 := fun o => hb1.frozen (p := ⟨w.heap.size + 1, o, none⟩) (by first | (simp; done) | (simp; omega) | omega)
  go_wp2_with fail
  go_ret
  exact ⟨rfl, (by repeat' (first | (with_reducible exact Below.refl _ _) | (with_reducible refine Below.drew ?_) | (with_reducible refine bo_drewN _ ?_) | (with_reducible refine bo_alloc ?_ _) | (refine bchain ?_ (by with_reducible assumption)) | (with_reducible refine Below.setCell ?_ ?_ _) | go_size))⟩
set_option maxHeartbeats 1000000 in
theorem szTenant1 (d : TenantD) (vlist : Value) (left : Int) (w : World) (hvlist : RdR strS w vlist d.list) (hf0 : d.nm.size ≤ 9223372036854775807) (hf1 : d.key.size ≤ 9223372036854775807) (h0 : 0 ≤ left) (h1 : left ≤ 1048576) :
    Calls Tryz.prog 37 #[.agg #[.string d.nm, .string d.key, vlist, .int .i64 d.quota], .int .i64 left] w fun x w' => (x = .returned (.int .i64 (-1)) ∨ (x = .returned (.int .i64 (left - szTenant d)) ∧ 0 ≤ left - szTenant d)) ∧ Below w.heap.size w w' := by
  have Hvlist := hide hvlist
  obtain ⟨avlist, pvlist, rfl, _⟩ := hvlist.form
  clear hvlist
  unfold szTenant
  by_cases g0 : left - d.nm.size < 0
  · go_enter Tryz.func37, Tryz.ntmps37
    go_wp2_with fail
    go_ret
    exact ⟨.inl rfl, (by repeat' (first | (with_reducible exact Below.refl _ _) | (with_reducible refine Below.drew ?_) | (with_reducible refine bo_drewN _ ?_) | (with_reducible refine bo_alloc ?_ _) | (refine bchain ?_ (by with_reducible assumption)) | (with_reducible refine Below.setCell ?_ ?_ _) | go_size))⟩
  by_cases g1 : left - d.nm.size - d.key.size < 0
  · go_enter Tryz.func37, Tryz.ntmps37
    go_wp2_with fail
    go_ret
    exact ⟨.inl rfl, (by repeat' (first | (with_reducible exact Below.refl _ _) | (with_reducible refine Below.drew ?_) | (with_reducible refine bo_drewN _ ?_) | (with_reducible refine bo_alloc ?_ _) | (refine bchain ?_ (by with_reducible assumption)) | (with_reducible refine Below.setCell ?_ ?_ _) | go_size))⟩
  obtain ⟨R, hR⟩ : ∃ R, left - d.nm.size - d.key.size - szStringS d.list = R := ⟨_, rfl⟩
  have hR2 : left - ((d.nm.size : Int) + (d.key.size : Int) + szStringS d.list) = R := by omega
  rw [hR2]
  have hcall := fun v w h => szStringS1 d.list v (left - d.nm.size - d.key.size) w h (by omega) (by omega)
  rw [hR] at hcall
  clear hR hR2
  go_enter Tryz.func37, Tryz.ntmps37
  go_wp2_with fail
  refine (hcall _ _ ?c1).mono ?_
  case c1 => exact Hvlist.out.new (by repeat' (first | (with_reducible exact Below.refl _ _) | (with_reducible refine Below.drew ?_) | (with_reducible refine bo_drewN _ ?_) | (with_reducible refine bo_alloc ?_ _) | (refine bchain ?_ (by with_reducible assumption)) | (with_reducible refine Below.setCell ?_ ?_ _) | go_size))
  rintro x w1 ⟨rfl | ⟨rfl, hp⟩, hb1⟩
  · go_wp2_with fail
    go_ret
    exact ⟨.inl rfl, (by repeat' (first | (with_reducible exact Below.refl _ _) | (with_reducible refine Below.drew ?_) | (with_reducible refine bo_drewN _ ?_) | (with_reducible refine bo_alloc ?_ _) | (refine bchain ?_ (by with_reducible assumption)) | (with_reducible refine Below.setCell ?_ ?_ _) | go_size))⟩
  · have hp' : ¬ R < 0 := by omega
    go_wp2_with fail
    go_ret
    exact ⟨.inr ⟨rfl, hp⟩, (by repeat' (first | (with_reducible exact Below.refl _ _) | (with_reducible refine Below.drew ?_) | (with_reducible refine bo_drewN _ ?_) | (with_reducible refine bo_alloc ?_ _) | (refine bchain ?_ (by with_reducible assumption)) | (with_reducible refine Below.setCell ?_ ?_ _) | go_size))⟩
set_option maxHeartbeats 2000000 in
theorem toTenantS (L : List TenantD) (v : Value) (w : World) (hr : RdR tenantS w v L) (hz : szTenantS L ≤ 1048576) :
    Calls Tryz.prog 13 #[v] w fun x w' => ∃ v', x = .returned v' ∧ OwX tenantS w' w.heap.size w'.heap.size v' L ∧ Below w.heap.size w w' := by
  have hL : L.length ≤ 1048576 := by have := szTenantS_len L; omega
  obtain ⟨M, hM, hmk⟩ := make_row 30 88 (.agg #[.string ⟨#[]⟩, .string ⟨#[]⟩, .slice none 0 0, .int .i64 0]) 4 64 Tryz.underlying30 (by kernel_rfl) rfl (by decide) (by decide) L.length hL
  have hst := filling_start (E := tenantS) (owns_made w M 88 4 L.length hM hL)
  obtain ⟨ad, cap, rfl, h1, h2⟩ := hr.form
  have HR := hide hr
  clear hr
  have HZ := hide hz
  clear hz
  go_enter Tryz.func13, Tryz.ntmps13
  go_wp2_with fail
  go_loopw [4] (fun i wr => ∃ (k : Nat), i = .int .i64 k ∧ k ≤ L.length ∧ Hid (Filling tenantS w wr L k)) (fun i _ => L.length - (intOf i).toNat)
  case atStart => exact ⟨0, rfl, Nat.zero_le _, hst⟩
  case round =>
    clear hst hmk
    obtain ⟨k, rfl, hk, HFI⟩ := hrel
    by_cases hlt : k < L.length
    · have hb : Below w.heap.size w wr := HFI.out.2.1
      have hrk := (HR.out.new hb).at k hlt
      have hmem : L[k] ∈ L := List.getElem_mem hlt
      obtain ⟨d, hd⟩ : ∃ d, d = L[k] := ⟨_, rfl⟩
      rw [← hd] at hrk hmem
      obtain ⟨b, o, cs, rfl, hbw, hrd, hc⟩ := hrk
      obtain ⟨vlist, rfl, hf0, hf1, hvlist⟩ := hrd
      have Hvlist := hide hvlist
      obtain ⟨avlist, pvlist, rfl, _⟩ := hvlist.form
      clear hvlist
      have hzd : szTenant d ≤ 1048576 := by have := szTenantS_mem hmem; have := HZ.out; omega
      have c0 : wr.cell? ⟨b, o + k * 4, none⟩ = some (.string d.nm) := hc 0 _ rfl
      have c1 : wr.cell? ⟨b, o + k * 4 + 1, none⟩ = some (.string d.key) := hc 1 _ rfl
      have c2 : wr.cell? ⟨b, o + k * 4 + 2, none⟩ = some ((.slice avlist d.list.length pvlist)) := hc 2 _ rfl
      have c3 : wr.cell? ⟨b, o + k * 4 + 3, none⟩ = some (.int .i64 d.quota) := hc 3 _ rfl
      clear hc
      have HD := hide hd
      clear hd hmem
      go_wp2_with fail
      refine (toTenant1 d _ _ Hvlist.out hf0 hf1 hzd).mono ?_
      rintro x w1 ⟨zvlist, rfl, qvlist, hb1⟩
      obtain ⟨ad1, cap1, rfl, _⟩ := qvlist.form
      have hoe : OwE tenantS w1 wr.heap.size w1.heap.size [.string d.nm, .string d.key, .slice ad1 d.list.length cap1, .int .i64 d.quota] d := by
        obtain ⟨bs, g1, g2, g3⟩ := qvlist
        exact ⟨bs, ⟨_, _, rfl, hf0, hf1, g1, rfl⟩, g2, g3⟩
      clear qvlist
      rw [HD.out] at hoe
      obtain ⟨hcell, hfr, hlw, hfi⟩ := filling_step HFI.out hlt hb1 hoe
      rw [← HD.out] at hfi
      obtain ⟨x0, hx0⟩ : ∃ u, w1.cell? ⟨w.heap.size, k * 4, none⟩ = some u := hcell 0 (by decide)
      obtain ⟨x1, hx1⟩ : ∃ u, w1.cell? ⟨w.heap.size, k * 4 + 1, none⟩ = some u := hcell 1 (by decide)
      obtain ⟨x2, hx2⟩ : ∃ u, w1.cell? ⟨w.heap.size, k * 4 + 2, none⟩ = some u := hcell 2 (by decide)
      obtain ⟨x3, hx3⟩ : ∃ u, w1.cell? ⟨w.heap.size, k * 4 + 3, none⟩ = some u := hcell 3 (by decide)
      have e6 := hfr
      have HF2 := hide hfi
      clear hcell hfr hfi hoe
      go_wp2_with fail
      go_roundw
      case rel => exact ⟨k + 1, by go_num, by omega, HF2.out⟩
      case measure => simp [intOf]; omega
    · obtain rfl : k = L.length := by omega
      obtain ⟨hox, hbx⟩ := filling_end HFI.out
      have HX := hide hox
      clear hox
      go_wp2_with fail
      go_ret
      exact ⟨_, rfl, HX.out, hbx⟩
set_option maxHeartbeats 1000000 in
theorem eqTenantS (L : List TenantD) (v v' : Value) (w : World) (hr0 : RdR tenantS w v L) (hr1 : RdR tenantS w v' L) :
    Calls Tryz.prog 15 #[v, v'] w fun x w' => x = .returned (.bool true) ∧ Below w.heap.size w w' := by
  obtain ⟨ad, cap, rfl, h1, h2⟩ := hr0.form
  obtain ⟨ad', cap', rfl, h1', h2'⟩ := hr1.form
  have HR := hide hr0; have HR' := hide hr1
  clear hr0 hr1
  go_enter Tryz.func15, Tryz.ntmps15
  go_wp2_with fail
  go_loopw [5] (fun i wr => ∃ (k : Nat), i = .int .i64 k ∧ k ≤ L.length ∧ Below w.heap.size w wr) (fun i _ => L.length - (intOf i).toNat)
  case atStart => exact ⟨0, rfl, Nat.zero_le _, Below.refl _ _⟩
  case round =>
    obtain ⟨k, rfl, hk, hb⟩ := hrel
    by_cases hlt : k < L.length
    · have hrk := (HR.out.new hb).at k hlt
      have hrk' := (HR'.out.new hb).at k hlt
      obtain ⟨d, hd⟩ : ∃ d, d = L[k] := ⟨_, rfl⟩
      rw [← hd] at hrk hrk'
      clear hd
      obtain ⟨b, o, cs, rfl, hb1, hrd, hc⟩ := hrk
      obtain ⟨b', o', cs', rfl, hb2, hrd', hc'⟩ := hrk'
      obtain ⟨vlist, rfl, hf0, hf1, hvlist⟩ := hrd
      have Hvlist := hide hvlist
      obtain ⟨avlist, pvlist, rfl, _⟩ := hvlist.form
      clear hvlist
      obtain ⟨uvlist, rfl, hfu0, hfu1, huvlist⟩ := hrd'
      have Huvlist := hide huvlist
      obtain ⟨auvlist, puvlist, rfl, _⟩ := huvlist.form
      clear huvlist
      have c0 : wr.cell? ⟨b, o + k * 4, none⟩ = some (.string d.nm) := hc 0 _ rfl
      have c1 : wr.cell? ⟨b, o + k * 4 + 1, none⟩ = some (.string d.key) := hc 1 _ rfl
      have c2 : wr.cell? ⟨b, o + k * 4 + 2, none⟩ = some ((.slice avlist d.list.length pvlist)) := hc 2 _ rfl
      have c3 : wr.cell? ⟨b, o + k * 4 + 3, none⟩ = some (.int .i64 d.quota) := hc 3 _ rfl
      have d0 : wr.cell? ⟨b', o' + k * 4, none⟩ = some (.string d.nm) := hc' 0 _ rfl
      have d1 : wr.cell? ⟨b', o' + k * 4 + 1, none⟩ = some (.string d.key) := hc' 1 _ rfl
      have d2 : wr.cell? ⟨b', o' + k * 4 + 2, none⟩ = some ((.slice auvlist d.list.length puvlist)) := hc' 2 _ rfl
      have d3 : wr.cell? ⟨b', o' + k * 4 + 3, none⟩ = some (.int .i64 d.quota) := hc' 3 _ rfl
      clear hc hc'
      go_wp2_with fail
      have qa0 : ∀ y : Later wr, y.w.cell? ⟨b, o + k * 4, none⟩ = some (.string d.nm) := fun y => (y.b.cell (p := ⟨b, o + k * 4, none⟩) hb1).trans c0
      have qa1 : ∀ y : Later wr, y.w.cell? ⟨b, o + k * 4 + 1, none⟩ = some (.string d.key) := fun y => (y.b.cell (p := ⟨b, o + k * 4 + 1, none⟩) hb1).trans c1
      have qa2 : ∀ y : Later wr, y.w.cell? ⟨b, o + k * 4 + 2, none⟩ = some ((.slice avlist d.list.length pvlist)) := fun y => (y.b.cell (p := ⟨b, o + k * 4 + 2, none⟩) hb1).trans c2
      have qa3 : ∀ y : Later wr, y.w.cell? ⟨b, o + k * 4 + 3, none⟩ = some (.int .i64 d.quota) := fun y => (y.b.cell (p := ⟨b, o + k * 4 + 3, none⟩) hb1).trans c3
      have qb0 : ∀ y : Later wr, y.w.cell? ⟨b', o' + k * 4, none⟩ = some (.string d.nm) := fun y => (y.b.cell (p := ⟨b', o' + k * 4, none⟩) hb2).trans d0
      have qb1 : ∀ y : Later wr, y.w.cell? ⟨b', o' + k * 4 + 1, none⟩ = some (.string d.key) := fun y => (y.b.cell (p := ⟨b', o' + k * 4 + 1, none⟩) hb2).trans d1
      have qb2 : ∀ y : Later wr, y.w.cell? ⟨b', o' + k * 4 + 2, none⟩ = some ((.slice auvlist d.list.length puvlist)) := fun y => (y.b.cell (p := ⟨b', o' + k * 4 + 2, none⟩) hb2).trans d2
      have qb3 : ∀ y : Later wr, y.w.cell? ⟨b', o' + k * 4 + 3, none⟩ = some (.int .i64 d.quota) := fun y => (y.b.cell (p := ⟨b', o' + k * 4 + 3, none⟩) hb2).trans d3
      clear c0 c1 c2 c3 d0 d1 d2 d3
      have hne : Nonempty (Later wr) := ⟨⟨wr, Below.refl _ _⟩⟩; refine region_later (by kernel_rfl) (by kernel_rfl) ?_
      repeat (go_big_quiet_step (fail))
      go_big_quiet_want; go_big_quiet_op
      refine ⟨.bool true, fun y => later_calls (x := y) (eqTenant1 d _ _ y.w (Hvlist.out.new y.b) hf0 hf1 (Huvlist.out.new y.b)), ?_⟩
      go_big_quiet_on
      repeat (go_big_quiet_step (fail))
      refine wpQuiet_nil ?_; intro _ hw'; obtain ⟨y, hw''⟩ := hw'; subst hw''; have hby := y.b
      go_wp2_with fail
      go_roundw
      case rel => exact ⟨k + 1, by go_num, by omega, bchain hb hby⟩
      case measure => simp [intOf]; omega
    · go_wp2_with fail
      go_ret
      exact ⟨rfl, hb⟩
set_option maxHeartbeats 1000000 in
theorem szTenantS1 (L : List TenantD) (v : Value) (left : Int) (w : World) (hr : RdR tenantS w v L) (h0 : 0 ≤ left) (h1 : left ≤ 1048576) :
    Calls Tryz.prog 11 #[v, .int .i64 left] w fun x w' => (x = .returned (.int .i64 (-1)) ∨ (x = .returned (.int .i64 (left - szTenantS L)) ∧ 0 ≤ left - szTenantS L)) ∧ Below w.heap.size w w' := by
  obtain ⟨ad, cap, rfl, h2, h3⟩ := hr.form
  have HR := hide hr
  clear hr
  unfold szTenantS
  by_cases h : left - L.length < 0
  · go_enter Tryz.func11, Tryz.ntmps11
    go_wp2
    go_ret
    exact ⟨.inl rfl, Below.refl _ _⟩
  · go_enter Tryz.func11, Tryz.ntmps11
    go_wp2_with fail
    go_loopw [1, 5] (fun l i wr => ∃ (k : Nat), i = .int .i64 k ∧ k ≤ L.length ∧ l = .int .i64 (left - L.length - sumLs szTenant (L.take k)) ∧ 0 ≤ left - L.length - sumLs szTenant (L.take k) ∧ Below w.heap.size w wr) (fun _ i _ => L.length - (intOf i).toNat)
    case atStart => exact ⟨0, rfl, Nat.zero_le _, by simp [sumLs], by simp [sumLs]; omega, Below.refl _ _⟩
    case round =>
      obtain ⟨k, rfl, hk, rfl, hk0, hb⟩ := hrel
      by_cases hlt : k < L.length
      · have hrk := (HR.out.new hb).at k hlt
        have hsn := sum_take szTenant L k hlt
        have hnn := sum_nn szTenant szTenant_nn (L.take k)
        obtain ⟨d, hd⟩ : ∃ d, d = L[k] := ⟨_, rfl⟩
        rw [← hd] at hrk hsn
        clear hd
        obtain ⟨b, o, cs, rfl, hb1, hrd, hc⟩ := hrk
        obtain ⟨vlist, rfl, hf0, hf1, hvlist⟩ := hrd
        have Hvlist := hide hvlist
        obtain ⟨avlist, pvlist, rfl, _⟩ := hvlist.form
        clear hvlist
        have c0 : wr.cell? ⟨b, o + k * 4, none⟩ = some (.string d.nm) := hc 0 _ rfl
        have c1 : wr.cell? ⟨b, o + k * 4 + 1, none⟩ = some (.string d.key) := hc 1 _ rfl
        have c2 : wr.cell? ⟨b, o + k * 4 + 2, none⟩ = some ((.slice avlist d.list.length pvlist)) := hc 2 _ rfl
        have c3 : wr.cell? ⟨b, o + k * 4 + 3, none⟩ = some (.int .i64 d.quota) := hc 3 _ rfl
        clear hc
        generalize hq : sumLs szTenant (List.take k L) = q at *
        generalize hq' : sumLs szTenant (List.take (k + 1) L) = q' at *
        have HQ := hide hq'
        have HSN := hide hsn
        clear hq hq' hsn
        go_wp2_with fail
        refine (szTenant1 d _ _ _ Hvlist.out hf0 hf1 (by omega) (by omega)).mono ?_
        rintro x w1 ⟨rfl | ⟨rfl, hp⟩, hb1⟩
        · go_wp2_with fail
          go_ret
          exact ⟨.inl rfl, bchain hb hb1⟩
        · have hp' : ¬ left - L.length - q - szTenant d < 0 := by omega
          generalize hX : left - L.length - q - szTenant d = X at *
          have HX := hide hX
          clear hX
          go_wp2_with fail
          go_roundw
          case rel => exact ⟨k + 1, by go_num, by omega, int_eq (by have := HX.out; have := HQ.out; have := HSN.out; omega), by have := HX.out; have := HQ.out; have := HSN.out; omega, bchain hb hb1⟩
          case measure => simp [intOf]; omega
      · obtain rfl : k = L.length := by omega
        rw [List.take_length] at *
        obtain ⟨X, hX⟩ : ∃ X, left - L.length - sumLs szTenant L = X := ⟨_, rfl⟩
        rw [hX] at hk0 ⊢
        have HX := hide hX
        clear hX
        go_wp2_with fail
        go_ret
        have e : left - (L.length + sumLs szTenant L) = X := by have := HX.out; omega
        rw [e]
        have := szTenant_nn
        exact ⟨.inr ⟨rfl, hk0⟩, hb⟩
open Go.ChangeShapes Go.WideShapes Go.ChangeAt Go.Joins in
theorem open_cellsTenant {H : Type} {enc : TypeId × Value → H} {W : World} {base : Nat} {spare : Nat → Bool} {held : Bool} {fuel : Nat} {cs : List Value} {x : DataW H × List MemPlace} (h : DataW.trod enc Tryz.prog W base spare held fuel 84 cs = some x) : ∃ d : TenantD, tenantS.rd W cs d := by
  obtain ⟨c0, c1, c2, c3, y0, y1, y2, y3, n, rfl, h0, h1, h2, h3⟩ := scells4 Tryz.underlying84 (by kernel_rfl) (by kernel_rfl) h
  obtain ⟨i0, e0, _, hs0⟩ := DataW.trod_string Tryz.underlying9 h0
  simp only [List.cons.injEq, and_true] at e0
  subst e0
  obtain ⟨i1, e1, _, hs1⟩ := DataW.trod_string Tryz.underlying9 h1
  simp only [List.cons.injEq, and_true] at e1
  subst e1
  obtain ⟨L2, hL2⟩ := open_shape (E := strS) ⟨#[]⟩ Tryz.underlying82 (by kernel_rfl) (fun cs n y hy => open_cellsStr hy) h2
  obtain ⟨i3, e3, _⟩ := DataW.trod_int Tryz.underlying2 h3
  simp only [List.cons.injEq, and_true] at e3
  subst e3
  exact ⟨⟨i0, i1, L2, i3⟩, c2, rfl, by unfold maxLen at hs0; simp only; omega, by unfold maxLen at hs1; simp only; omega, hL2⟩
end Go.Proofs.YtkhclhnejnpkeaaGreat
/- Chapter 14's program: whether a place is listed. -/
namespace Go.Proofs.YtkhclhnejnpkeaaGreat
open Go.RowKit
set_option maxRecDepth 100000
set_option linter.unusedSimpArgs false
set_option linter.unusedVariables false
def plcB (L : List ByteArray) : Bool := decide (L.length ≤ 20 ∧ ∀ x ∈ L, x.size ≤ 60)
theorem implPlaces (L : List ByteArray) (v : Value) (w : World) (hr : Reads w v L.length 1 (L.map Value.string)) (hLs : ∀ x ∈ L, x.size ≤ maxLen) : Calls Tryz.prog 109 #[v] w fun x w' => x = .returned (.bool (plcB L)) ∧ w' = w := by
  obtain ⟨hl, ad, cap, rfl, hcap, hcm, hc⟩ := hr
  unfold maxLen at hcm
  have HC := hide hc; have HLS := hide hLs
  clear hc hLs hl
  obtain ⟨A, hA⟩ : ∃ A, plcB L = A := ⟨_, rfl⟩
  rw [hA]
  have HA := hide hA
  clear hA
  by_cases h20 : (20 : Int) < L.length
  · have HF : Hid (A = false) := by show A = false; rw [← HA.out]; exact decide_eq_false (fun c => by omega)
    go_enter Tryz.func109, Tryz.ntmps109
    go_wp2_with fail
    go_ret
    exact ⟨by rw [HF.out]; rfl, rfl⟩
  go_enter Tryz.func109, Tryz.ntmps109
  go_wp2_with fail
  go_loop [10] (fun i => ∃ k : Nat, i = .int .i64 k ∧ k ≤ L.length ∧ Hid (∀ x ∈ L.take k, x.size ≤ 60)) (fun i => L.length - (intOf i).toNat)
  case atStart => exact ⟨0, rfl, by omega, by show ∀ x ∈ L.take 0, _; simp⟩
  case round =>
    obtain ⟨k, rfl, hk, HS⟩ := hrel
    by_cases hlt : k < L.length
    · have hltI : (k : Int) < L.length := by omega
      obtain ⟨b, o, rfl, hbw, hcc⟩ := HC.out (by omega)
      obtain ⟨x, hx⟩ : ∃ x, L[k] = x := ⟨_, rfl⟩
      have cx := hcc k (.string x) (by rw [List.getElem?_map, List.getElem?_eq_getElem hlt, hx]; rfl)
      have hxm : x.size ≤ 9223372036854775807 := by have := HLS.out x (by rw [← hx]; exact List.getElem_mem hlt); unfold maxLen at this; exact this
      clear hcc
      by_cases hx60 : (60 : Int) < x.size
      · have HF : Hid (A = false) := by show A = false; rw [← HA.out]; exact decide_eq_false (fun c => by have := c.2 x (by rw [← hx]; exact List.getElem_mem hlt); omega)
        clear hx
        go_wp2_with fail
        go_ret
        exact ⟨by rw [HF.out]; rfl, rfl⟩
      have HS2 : Hid (∀ y ∈ L.take (k + 1), y.size ≤ 60) := by
        show ∀ y ∈ _, _
        intro y hy
        rw [List.take_add_one, List.getElem?_eq_getElem hlt, hx] at hy
        rcases List.mem_append.1 hy with h | h
        · exact HS.out y h
        · simp at h; subst h; omega
      clear hx
      go_wp2_with fail
      go_round
      case rel => exact ⟨k + 1, by go_num, by omega, HS2⟩
      case measure => simp [intOf]; omega
    · obtain rfl : k = L.length := by omega
      have HF : Hid (A = true) := by
        show A = true
        rw [← HA.out]
        exact decide_eq_true ⟨by omega, by have := HS.out; rw [List.take_of_length_le (Nat.le_refl _)] at this; exact this⟩
      go_wp2_with fail
      go_ret
      exact ⟨by rw [HF.out]; rfl, rfl⟩
end Go.Proofs.YtkhclhnejnpkeaaGreat
/- Numbers as texts by the library (strconv.FormatInt, strconv.ParseInt) and texts parted (strings.SplitN): what is asked of the package-level variables that they read; the program's names and numbers. -/
namespace Go.Proofs.YtkhclhnejnpkeaaGreat
open Go.RowKit
set_option maxRecDepth 100000
set_option linter.unusedSimpArgs false
set_option linter.unusedVariables false
theorem var_new {w w' : World} {n : String} {cs : Array Value} (hb : Below w.heap.size w w') (h : w.var? Tryz.prog n = some cs) : w'.var? Tryz.prog n = some cs := by
  unfold World.var? at h ⊢
  cases hg : Tryz.prog.globalNamed n with
  | none => simp [hg] at h
  | some g =>
    simp only [hg, Option.bind_some] at h ⊢
    have hlt : g < w.heap.size := by
      rcases Nat.lt_or_ge g w.heap.size with h' | h'
      · exact h'
      · simp [Array.getElem?_eq_none h'] at h
    rw [hb.block g hlt]
    exact h
/-- The table of the powers of ten lies as the library's text lays it. -/
def TabV (w : World) : Prop := Lib.TabIs Tryz.prog w "internal/strconv.uint64pow10" .u64 Lib.pow10Tab
theorem TabV.new {w w' : World} (h : TabV w) (hb : Below w.heap.size w w') : TabV w' := var_new hb h
set_option maxHeartbeats 1000000 in
theorem implName (s : ByteArray) (w : World) (hs : s.size ≤ maxLen) : Calls Tryz.prog 108 #[.string s] w fun x w' => x = .returned (.bool (nameB s)) ∧ w' = w := by
  unfold maxLen at hs
  obtain ⟨A, hA⟩ : ∃ A, nameB s = A := ⟨_, rfl⟩
  rw [hA]
  have HA := hide hA
  clear hA
  have hin := fun w => implWithin (s.size : Int) 1 20 w
  cases h20 : inB (s.size : Int) 1 20
  · rw [h20] at hin
    have HF : Hid (A = false) := by show A = false; rw [← HA.out]; unfold nameB; rw [h20]; simp
    go_enter Tryz.func108, Tryz.ntmps108
    go_wp2_with fail
    refine (hin _).mono ?_; rintro e w1 ⟨rfl, hsame⟩; obtain rfl := hsame.symm; clear hsame
    go_wp2_with fail
    go_ret
    exact ⟨by rw [HF.out]; rfl, rfl⟩
  rw [h20] at hin
  go_enter Tryz.func108, Tryz.ntmps108
  go_wp2_with fail
  refine (hin _).mono ?_; rintro e w1 ⟨rfl, hsame⟩; obtain rfl := hsame.symm; clear hsame
  clear hin
  go_wp2_with fail
  go_loop [10] (fun i => ∃ k : Nat, i = .int .i64 k ∧ k ≤ s.size ∧ Hid (∀ j (hj : j < s.size), j < k → 97 ≤ (s[j].toNat : Int) ∧ (s[j].toNat : Int) ≤ 122)) (fun i => s.size - (intOf i).toNat)
  case atStart => exact ⟨0, rfl, Nat.zero_le _, fun j _ hj => absurd hj (Nat.not_lt_zero _)⟩
  case round =>
    obtain ⟨k, rfl, hk, HN⟩ := hrel
    by_cases hlt : k < s.size
    · have hltI : (k : Int) < s.size := by omega
      obtain ⟨b, hb⟩ : ∃ b, (s[k].toNat : Int) = b := ⟨_, rfl⟩
      have hb0 : 0 ≤ b ∧ b ≤ 255 := by have := s[k].toNat_lt; omega
      have HB := hide hb
      by_cases h1 : b < 97
      · have HF : Hid (A = false) := by show A = false; rw [← HA.out]; exact nameB_no hlt (by rw [hb]; omega)
        go_wp2_with fail
        go_ret
        exact ⟨by rw [HF.out]; rfl, rfl⟩
      · by_cases h2 : 122 < b
        · have HF : Hid (A = false) := by show A = false; rw [← HA.out]; exact nameB_no hlt (by rw [hb]; omega)
          go_wp2_with fail
          go_ret
          exact ⟨by rw [HF.out]; rfl, rfl⟩
        · have HN2 : Hid (∀ j (hj : j < s.size), j < k + 1 → 97 ≤ (s[j].toNat : Int) ∧ (s[j].toNat : Int) ≤ 122) := fun j hj hjk => by
            by_cases e : j = k
            · subst e; rw [HB.out]; omega
            · exact HN.out j hj (by omega)
          go_wp2_with fail
          go_round
          case rel => exact ⟨k + 1, by go_num, by omega, HN2⟩
          case measure => simp [intOf]; omega
    · obtain rfl : k = s.size := by omega
      have HF : Hid (A = true) := by show A = true; rw [← HA.out, ← h20]; exact nameB_yes (fun j hj => HN.out j hj hj)
      go_wp2_with fail
      go_ret
      exact ⟨by rw [HF.out]; rfl, rfl⟩
end Go.Proofs.YtkhclhnejnpkeaaGreat
