/- The gate in plain words: which is right; a new one; what went out of a flight. -/
import Derived.Test.YtkhclhnejnpkeaaGreatQWtG19
import Derived.Test.YtkhclhnejnpkeaaGreatQWtG5
import Derived.Test.YtkhclhnejnpkeaaGreatQWtG7
import Derived.Test.YtkhclhnejnpkeaaGreatQWtG2
namespace Go.Proofs.YtkhclhnejnpkeaaGreat
open Go.RowKit
set_option maxRecDepth 100000
set_option linter.unusedSimpArgs false
set_option linter.unusedVariables false
/-- What a Gate holds. -/
structure GtD where
  now : Int
  tens : List TenantD
  seats : List StD
  dials : List DlD
  flights : List FgD
  drained : Bool
def zSt : StD := ⟨zCn, ⟨#[]⟩, ⟨#[]⟩, false⟩
def zDl : DlD := ⟨0, 0, ⟨#[]⟩⟩
def zFg : FgD := ⟨0, 0, ⟨#[]⟩, ⟨#[]⟩⟩
abbrev st (L : List StD) (i : Nat) : StD := L.getD i zSt
abbrev dl (L : List DlD) (i : Nat) : DlD := L.getD i zDl
abbrev fg (L : List FgD) (i : Nat) : FgD := L.getD i zFg
theorem st_get {L : List StD} {i : Nat} (h : i < L.length) : st L i = L[i] := by simp [st, h]
theorem dl_get {L : List DlD} {i : Nat} (h : i < L.length) : dl L i = L[i] := by simp [dl, h]
theorem fg_get {L : List FgD} {i : Nat} (h : i < L.length) : fg L i = L[i] := by simp [fg, h]
def okSt (s : StD) : Bool := okCn s.cn && (decide (s.rest.size ≤ 2000) && decide (s.out.size ≤ 400000))
/-- A Dial, or a Flight, of one of n seats, with a right number, of a tenant. -/
def okCall (n : Nat) (T : List TenantD) (s i : Int) (nm : ByteArray) : Bool := inB s 0 ((n : Int) - 1) && (!decide (i < 1) && decide (0 ≤ atV T nm))
def brD (d : DlD) : Int × Int := (d.seat, d.id)
def brF (d : FgD) : Int × Int := (d.seat, d.id)
def DlOk (g : GtD) (i : Nat) : Prop := okCall g.seats.length g.tens (dl g.dials i).seat (dl g.dials i).id (dl g.dials i).nm = true ∧ ∀ k, k < i → brD (dl g.dials i) ≠ brD (dl g.dials k)
def FgOk (g : GtD) (i : Nat) : Prop := (okCall g.seats.length g.tens (fg g.flights i).seat (fg g.flights i).id (fg g.flights i).nm = true ∧ (fg g.flights i).tx.size ≤ 1000000) ∧ (∀ k, k < i → brF (fg g.flights i) ≠ brF (fg g.flights k)) ∧ ∀ k, k < g.dials.length → brF (fg g.flights i) ≠ brD (dl g.dials k)
structure GtOk (g : GtD) : Prop where
  now : timeB g.now = true
  tens : okTs g.tens = true
  n1 : 1 ≤ g.seats.length
  n4 : g.seats.length ≤ 4
  nd : g.dials.length ≤ 100
  nf : g.flights.length ≤ 100
  seats : ∀ i, i < g.seats.length → okSt (st g.seats i) = true
  dials : ∀ i, i < g.dials.length → DlOk g i
  flights : ∀ i, i < g.flights.length → FgOk g i
def dlB (g : GtD) (i : Nat) : Bool := okCall g.seats.length g.tens (dl g.dials i).seat (dl g.dials i).id (dl g.dials i).nm && (List.range i).all (fun k => decide (brD (dl g.dials i) ≠ brD (dl g.dials k)))
theorem dlB_iff {g : GtD} {i : Nat} : dlB g i = true ↔ DlOk g i := by
  unfold dlB DlOk
  simp only [Bool.and_eq_true, List.all_eq_true, List.mem_range, decide_eq_true_eq]
def fgB (g : GtD) (i : Nat) : Bool := (okCall g.seats.length g.tens (fg g.flights i).seat (fg g.flights i).id (fg g.flights i).nm && decide ((fg g.flights i).tx.size ≤ 1000000)) && ((List.range i).all (fun k => decide (brF (fg g.flights i) ≠ brF (fg g.flights k))) && (List.range g.dials.length).all (fun k => decide (brF (fg g.flights i) ≠ brD (dl g.dials k))))
theorem fgB_iff {g : GtD} {i : Nat} : fgB g i = true ↔ FgOk g i := by
  unfold fgB FgOk
  simp only [Bool.and_eq_true, List.all_eq_true, List.mem_range, decide_eq_true_eq]
def okGt (g : GtD) : Bool :=
  timeB g.now && (okTs g.tens && (decide (1 ≤ g.seats.length) && (decide (g.seats.length ≤ 4) && (decide (g.dials.length ≤ 100) && (decide (g.flights.length ≤ 100) &&
    ((List.range g.seats.length).all (fun i => okSt (st g.seats i)) && ((List.range g.dials.length).all (fun i => dlB g i) && (List.range g.flights.length).all (fun i => fgB g i))))))))
theorem gt_true {g : GtD} : okGt g = true ↔ GtOk g := by
  unfold okGt
  simp only [Bool.and_eq_true, List.all_eq_true, List.mem_range, decide_eq_true_eq, dlB_iff, fgB_iff]
  constructor
  · rintro ⟨a, b, c, d, e, f, x, y, z⟩
    exact ⟨a, b, c, d, e, f, x, y, z⟩
  · rintro ⟨a, b, c, d, e, f, x, y, z⟩
    exact ⟨a, b, c, d, e, f, x, y, z⟩
theorem gt_false {g : GtD} (h : ¬ GtOk g) : okGt g = false := by
  cases e : okGt g
  · rfl
  · exact absurd (gt_true.1 e) h
/-- The dials, and the flights behind them. -/
def callsG (g : GtD) : List DlD := g.dials ++ g.flights.map (fun f => ⟨f.seat, f.id, f.nm⟩)
theorem calls_len (g : GtD) : (callsG g).length = g.dials.length + g.flights.length := by unfold callsG; simp
theorem gt_way (g : GtD) : GtOk g ↔ timeB g.now = true ∧ okTs g.tens = true ∧ 1 ≤ g.seats.length ∧ g.seats.length ≤ 4 ∧ g.dials.length ≤ 100 ∧ g.flights.length ≤ 100 ∧ (∀ s ∈ g.seats, okSt s = true) ∧ (∀ f ∈ g.flights, f.tx.size ≤ 1000000) ∧ (∀ c ∈ callsG g, okCall g.seats.length g.tens c.seat c.id c.nm = true) ∧ ((callsG g).map brD).Nodup := by
  have hmap : (callsG g).map brD = g.dials.map brD ++ g.flights.map brF := by unfold callsG; rw [List.map_append, List.map_map]; rfl
  rw [hmap]
  unfold List.Nodup
  rw [List.pairwise_append]
  constructor
  · intro h
    refine ⟨h.now, h.tens, h.n1, h.n4, h.nd, h.nf, ?_, ?_, ?_, ?_, ?_, ?_⟩
    · intro s hs
      obtain ⟨i, hi, rfl⟩ := List.getElem_of_mem hs
      have := h.seats i hi
      rwa [st_get hi] at this
    · intro f hf
      obtain ⟨i, hi, rfl⟩ := List.getElem_of_mem hf
      have := (h.flights i hi).1.2
      rwa [fg_get hi] at this
    · intro c hc
      unfold callsG at hc
      rcases List.mem_append.1 hc with hc | hc
      · obtain ⟨i, hi, rfl⟩ := List.getElem_of_mem hc
        have := (h.dials i hi).1
        rwa [dl_get hi] at this
      · obtain ⟨f, hf, rfl⟩ := List.mem_map.1 hc
        obtain ⟨i, hi, rfl⟩ := List.getElem_of_mem hf
        have := (h.flights i hi).1.1
        rwa [fg_get hi] at this
    · rw [List.pairwise_iff_getElem]
      intro i j hi hj hij e
      simp only [List.length_map] at hi hj
      simp only [List.getElem_map] at e
      have := (h.dials j hj).2 i hij
      rw [dl_get hj, dl_get hi] at this
      exact this e.symm
    · rw [List.pairwise_iff_getElem]
      intro i j hi hj hij e
      simp only [List.length_map] at hi hj
      simp only [List.getElem_map] at e
      have := (h.flights j hj).2.1 i hij
      rw [fg_get hj, fg_get hi] at this
      exact this e.symm
    · intro a ha b hb e
      obtain ⟨d, hd, rfl⟩ := List.mem_map.1 ha
      obtain ⟨f, hf, rfl⟩ := List.mem_map.1 hb
      obtain ⟨i, hi, rfl⟩ := List.getElem_of_mem hd
      obtain ⟨j, hj, rfl⟩ := List.getElem_of_mem hf
      have := (h.flights j hj).2.2 i hi
      rw [fg_get hj, dl_get hi] at this
      exact this e.symm
  · rintro ⟨h1, h2, h3, h4, h5, h6, h7, h8, h9, hp, hq, hr⟩
    rw [List.pairwise_iff_getElem] at hp hq
    refine ⟨h1, h2, h3, h4, h5, h6, fun i hi => ?_, fun i hi => ⟨?_, fun k hk => ?_⟩, fun i hi => ⟨⟨?_, ?_⟩, fun k hk => ?_, fun k hk => ?_⟩⟩
    · rw [st_get hi]; exact h7 _ (List.getElem_mem hi)
    · rw [dl_get hi]; exact h9 _ (by unfold callsG; exact List.mem_append_left _ (List.getElem_mem hi))
    · rw [dl_get hi, dl_get (by omega)]
      have := hp k i (by simpa using (by omega : k < g.dials.length)) (by simpa using hi) hk
      simp only [List.getElem_map] at this
      exact fun e => this e.symm
    · rw [fg_get hi]; exact h9 ⟨_, _, _⟩ (by unfold callsG; exact List.mem_append_right _ (List.mem_map.2 ⟨_, List.getElem_mem hi, rfl⟩))
    · rw [fg_get hi]; exact h8 _ (List.getElem_mem hi)
    · rw [fg_get hi, fg_get (by omega)]
      have := hq k i (by simpa using (by omega : k < g.flights.length)) (by simpa using hi) hk
      simp only [List.getElem_map] at this
      exact fun e => this e.symm
    · rw [fg_get hi, dl_get hk]
      exact fun e => hr _ (List.mem_map.2 ⟨_, List.getElem_mem hk, rfl⟩) _ (List.mem_map.2 ⟨_, List.getElem_mem hi, rfl⟩) e.symm
/-- Where the flight of a stream is. -/
def atG (L : List FgD) (s i : Int) : Option Nat := L.findIdx? (fun f => decide (brF f = (s, i)))
/-- Where the flight of a stream is, as the program tells it. -/
def atGI (L : List FgD) (s i : Int) : Int := match atG L s i with | some k => k | none => -1
theorem atGI_some {L : List FgD} {s i : Int} {k : Nat} (h : k < L.length) (h1 : brF (fg L k) = (s, i)) (h2 : ∀ j, j < k → brF (fg L j) ≠ (s, i)) : atG L s i = some k := by
  unfold atG
  rw [List.findIdx?_eq_some_iff_getElem]
  refine ⟨h, ?_, fun j hj => ?_⟩
  · rw [fg_get h] at h1; simpa using h1
  · have := h2 j hj
    rw [fg_get (by omega)] at this
    simpa using this
theorem atGI_none {L : List FgD} {s i : Int} (h : ∀ j, j < L.length → brF (fg L j) ≠ (s, i)) : atG L s i = none := by
  unfold atG
  rw [List.findIdx?_eq_none_iff]
  intro x hx
  obtain ⟨j, hj, rfl⟩ := List.getElem_of_mem hx
  have := h j hj
  rw [fg_get hj] at this
  simpa using this
theorem atG_lt {L : List FgD} {s i : Int} {k : Nat} (h : atG L s i = some k) : k < L.length := by
  unfold atG at h
  rw [List.findIdx?_eq_some_iff_getElem] at h
  exact h.1
def wentV (g : GtD) (s i : Int) : ByteArray × Bool := if okGt g = true then (match atG g.flights s i with | some k => ((fg g.flights k).tx, true) | none => (⟨#[]⟩, false)) else (⟨#[]⟩, false)
end Go.Proofs.YtkhclhnejnpkeaaGreat
