/- Several small texts of one level, one behind the other. -/
import Derived.Test.YtkhclhnejnpkeaaGreatQWtG4
import Derived.Test.YtkhclhnejnpkeaaGreatQWtG2
import Derived.Test.YtkhclhnejnpkeaaGreatQWtG3
import Derived.Handy
import Derived.Lib.SmallJoins
import Derived.Lib.EndianBits
import Derived.RangeFuncNested
import Derived.RangeFuncBound
import Derived.RangeFuncCalls
import Derived.RangeFuncLeaves
import Derived.Shelf.Abstract
import Derived.Shelf.RegionOpen
import Derived.WalkKit
import Derived.OwnWalkIn
import Derived.TacticsInMore
import Derived.LoopNIn
import Derived.LoopIn
import Derived.Maps.AppendAt
import Derived.RangeFuncBox
import Derived.Laws.AppendOwn
import Derived.Laws.IdiomStrings
import Derived.Lib.BufferRead
import Derived.ProofKit
import Derived.Deep.Cut
import Derived.Deep.DeepCutAuto
import Derived.Deep.WholeRow
/- Entry in memory: its datum, its make; counted, copied, held against each other, marked, read again (by gen_shape.py). -/
namespace Go.Proofs.YtkhclhnejnpkeaaGreat
open Go.RowKit
set_option maxRecDepth 100000
set_option linter.unusedSimpArgs false
set_option linter.unusedVariables false

/-- What a Entry holds. -/
structure EntryD where
  id : Int
  state : Int
def EntryD.cs (d : EntryD) : List Value := [.int .i64 d.id, .int .i64 d.state]
def entryS : Shp EntryD where
  size := 2
  ty := 127
  rd := fun _ cs d => cs = d.cs
  own := fun _ cs d bs => cs = d.cs ∧ bs = []
  pos := by decide
  rd_len := fun h => by subst h; rfl
  rd_one := fun h u hu => by subst h; simp only [EntryD.cs, List.mem_cons, List.not_mem_nil, or_false] at hu; rcases hu with rfl | rfl <;> rfl
  rd_new := fun h _ => h
  own_rd := fun h => h.1
  own_keep := fun h _ _ => h
  own_lt := fun h b hb => by rw [h.2] at hb; cases hb
def szEntryS (L : List EntryD) : Int := L.length
theorem szEntryS_nn (L : List EntryD) : 0 ≤ szEntryS L := by unfold szEntryS; omega
theorem szEntryS_len (L : List EntryD) : (L.length : Int) ≤ szEntryS L := by unfold szEntryS; omega
theorem toEntry1 (d : EntryD) (w : World) : Calls Tryz.prog 156 #[.agg #[.int .i64 d.id, .int .i64 d.state]] w fun x w' => x = .returned (.agg #[.int .i64 d.id, .int .i64 d.state]) ∧ Below w.heap.size w w' := by
  go_enter Tryz.func156, Tryz.ntmps156
  go_wp2
  go_returns
  exact ⟨rfl, (by repeat' (first | (with_reducible exact Below.refl _ _) | (with_reducible refine Below.drew ?_) | (with_reducible refine bo_drewN _ ?_) | (with_reducible refine bo_alloc ?_ _) | (refine bchain ?_ (by with_reducible assumption)) | (with_reducible refine Below.setCell ?_ ?_ _) | go_size))⟩
theorem eqEntry1 (d : EntryD) (w : World) : Calls Tryz.prog 159 #[.agg #[.int .i64 d.id, .int .i64 d.state], .agg #[.int .i64 d.id, .int .i64 d.state]] w fun x w' => x = .returned (.bool true) ∧ Below w.heap.size w w' := by
  go_enter Tryz.func159, Tryz.ntmps159
  go_wp2
  go_ret
  exact ⟨rfl, (by repeat' (first | (with_reducible exact Below.refl _ _) | (with_reducible refine Below.drew ?_) | (with_reducible refine bo_drewN _ ?_) | (with_reducible refine bo_alloc ?_ _) | (refine bchain ?_ (by with_reducible assumption)) | (with_reducible refine Below.setCell ?_ ?_ _) | go_size))⟩
set_option maxHeartbeats 2000000 in
theorem toEntryS (L : List EntryD) (v : Value) (w : World) (hr : RdR entryS w v L) (hz : szEntryS L ≤ 1048576) :
    Calls Tryz.prog 134 #[v] w fun x w' => ∃ v', x = .returned v' ∧ OwX entryS w' w.heap.size w'.heap.size v' L ∧ Below w.heap.size w w' := by
  have hL : L.length ≤ 1048576 := by have := szEntryS_len L; omega
  obtain ⟨M, hM, hmk⟩ := make_row 55 127 (.agg #[.int .i64 0, .int .i64 0]) 2 16 Tryz.underlying55 (by kernel_rfl) rfl (by decide) (by decide) L.length hL
  have hst := filling_start (E := entryS) (owns_made w M 127 2 L.length hM hL)
  obtain ⟨ad, cap, rfl, h1, h2⟩ := hr.form
  have HR := hide hr
  clear hr
  have HZ := hide hz
  clear hz
  go_enter Tryz.func134, Tryz.ntmps134
  go_wp2_with fail
  go_loopw [4] (fun i wr => ∃ (k : Nat), i = .int .i64 k ∧ k ≤ L.length ∧ Hid (Filling entryS w wr L k)) (fun i _ => L.length - (intOf i).toNat)
  case atStart => exact ⟨0, rfl, Nat.zero_le _, hst⟩
  case round =>
    clear hst hmk
    obtain ⟨k, rfl, hk, HFI⟩ := hrel
    by_cases hlt : k < L.length
    · have hb : Below w.heap.size w wr := HFI.out.2.1
      have hrk := (HR.out.new hb).at k hlt
      have hmem : L[k] ∈ L := List.getElem_mem hlt
      obtain ⟨d, hd⟩ : ∃ d, d = L[k] := ⟨_, rfl⟩
      rw [← hd] at hrk hmem
      obtain ⟨b, o, cs, rfl, hbw, hrd, hc⟩ := hrk
      obtain rfl := hrd
      have c0 : wr.cell? ⟨b, o + k * 2, none⟩ = some (.int .i64 d.id) := hc 0 _ rfl
      have c1 : wr.cell? ⟨b, o + k * 2 + 1, none⟩ = some (.int .i64 d.state) := hc 1 _ rfl
      clear hc
      have HD := hide hd
      clear hd hmem
      go_wp2_with fail
      refine (toEntry1 d _).mono ?_; rintro x w1 ⟨rfl, hb1⟩
      have hoe : OwE entryS w1 wr.heap.size w1.heap.size [.int .i64 d.id, .int .i64 d.state] d := ⟨[], ⟨rfl, rfl⟩, by simp, fun b hb => by cases hb⟩
      rw [HD.out] at hoe
      obtain ⟨hcell, hfr, hlw, hfi⟩ := filling_step HFI.out hlt hb1 hoe
      rw [← HD.out] at hfi
      obtain ⟨x0, hx0⟩ : ∃ u, w1.cell? ⟨w.heap.size, k * 2, none⟩ = some u := hcell 0 (by decide)
      obtain ⟨x1, hx1⟩ : ∃ u, w1.cell? ⟨w.heap.size, k * 2 + 1, none⟩ = some u := hcell 1 (by decide)
      have e6 := hfr
      have HF2 := hide hfi
      clear hcell hfr hfi hoe
      go_wp2_with fail
      go_roundw
      case rel => exact ⟨k + 1, by go_num, by omega, HF2.out⟩
      case measure => simp [intOf]; omega
    · obtain rfl : k = L.length := by omega
      obtain ⟨hox, hbx⟩ := filling_end HFI.out
      have HX := hide hox
      clear hox
      go_wp2_with fail
      go_ret
      exact ⟨_, rfl, HX.out, hbx⟩
set_option maxHeartbeats 1000000 in
theorem eqEntryS (L : List EntryD) (v v' : Value) (w : World) (hr0 : RdR entryS w v L) (hr1 : RdR entryS w v' L) :
    Calls Tryz.prog 137 #[v, v'] w fun x w' => x = .returned (.bool true) ∧ Below w.heap.size w w' := by
  obtain ⟨ad, cap, rfl, h1, h2⟩ := hr0.form
  obtain ⟨ad', cap', rfl, h1', h2'⟩ := hr1.form
  have HR := hide hr0; have HR' := hide hr1
  clear hr0 hr1
  go_enter Tryz.func137, Tryz.ntmps137
  go_wp2_with fail
  go_loopw [5] (fun i wr => ∃ (k : Nat), i = .int .i64 k ∧ k ≤ L.length ∧ Below w.heap.size w wr) (fun i _ => L.length - (intOf i).toNat)
  case atStart => exact ⟨0, rfl, Nat.zero_le _, Below.refl _ _⟩
  case round =>
    obtain ⟨k, rfl, hk, hb⟩ := hrel
    by_cases hlt : k < L.length
    · have hrk := (HR.out.new hb).at k hlt
      have hrk' := (HR'.out.new hb).at k hlt
      obtain ⟨d, hd⟩ : ∃ d, d = L[k] := ⟨_, rfl⟩
      rw [← hd] at hrk hrk'
      clear hd
      obtain ⟨b, o, cs, rfl, hb1, hrd, hc⟩ := hrk
      obtain ⟨b', o', cs', rfl, hb2, hrd', hc'⟩ := hrk'
      obtain rfl := hrd
      obtain rfl := hrd'
      have c0 : wr.cell? ⟨b, o + k * 2, none⟩ = some (.int .i64 d.id) := hc 0 _ rfl
      have c1 : wr.cell? ⟨b, o + k * 2 + 1, none⟩ = some (.int .i64 d.state) := hc 1 _ rfl
      have d0 : wr.cell? ⟨b', o' + k * 2, none⟩ = some (.int .i64 d.id) := hc' 0 _ rfl
      have d1 : wr.cell? ⟨b', o' + k * 2 + 1, none⟩ = some (.int .i64 d.state) := hc' 1 _ rfl
      clear hc hc'
      go_wp2_with fail
      have qa0 : ∀ y : Later wr, y.w.cell? ⟨b, o + k * 2, none⟩ = some (.int .i64 d.id) := fun y => (y.b.cell (p := ⟨b, o + k * 2, none⟩) hb1).trans c0
      have qa1 : ∀ y : Later wr, y.w.cell? ⟨b, o + k * 2 + 1, none⟩ = some (.int .i64 d.state) := fun y => (y.b.cell (p := ⟨b, o + k * 2 + 1, none⟩) hb1).trans c1
      have qb0 : ∀ y : Later wr, y.w.cell? ⟨b', o' + k * 2, none⟩ = some (.int .i64 d.id) := fun y => (y.b.cell (p := ⟨b', o' + k * 2, none⟩) hb2).trans d0
      have qb1 : ∀ y : Later wr, y.w.cell? ⟨b', o' + k * 2 + 1, none⟩ = some (.int .i64 d.state) := fun y => (y.b.cell (p := ⟨b', o' + k * 2 + 1, none⟩) hb2).trans d1
      clear c0 c1 d0 d1
      have hne : Nonempty (Later wr) := ⟨⟨wr, Below.refl _ _⟩⟩; refine region_later (by kernel_rfl) (by kernel_rfl) ?_
      repeat (go_big_quiet_step (fail))
      go_big_quiet_want; go_big_quiet_op
      refine ⟨.bool true, fun y => later_calls (x := y) (eqEntry1 d y.w), ?_⟩
      go_big_quiet_on
      repeat (go_big_quiet_step (fail))
      refine wpQuiet_nil ?_; intro _ hw'; obtain ⟨y, hw''⟩ := hw'; subst hw''; have hby := y.b
      go_wp2_with fail
      go_roundw
      case rel => exact ⟨k + 1, by go_num, by omega, bchain hb hby⟩
      case measure => simp [intOf]; omega
    · go_wp2_with fail
      go_ret
      exact ⟨rfl, hb⟩
set_option maxHeartbeats 1000000 in
theorem szEntryS1 (L : List EntryD) (v : Value) (left : Int) (w : World) (hr : RdR entryS w v L) (h0 : 0 ≤ left) (h1 : left ≤ 1048576) :
    Calls Tryz.prog 131 #[v, .int .i64 left] w fun x w' => (x = .returned (.int .i64 (-1)) ∨ (x = .returned (.int .i64 (left - szEntryS L)) ∧ 0 ≤ left - szEntryS L)) ∧ Below w.heap.size w w' := by
  obtain ⟨ad, cap, rfl, h2, h3⟩ := hr.form
  have HR := hide hr
  clear hr
  unfold szEntryS
  by_cases h : left - L.length < 0
  · go_enter Tryz.func131, Tryz.ntmps131
    go_wp2
    go_ret
    exact ⟨.inl rfl, Below.refl _ _⟩
  · go_enter Tryz.func131, Tryz.ntmps131
    go_wp2
    go_ret
    exact ⟨.inr ⟨rfl, by omega⟩, Below.refl _ _⟩
open Go.ChangeShapes Go.WideShapes Go.ChangeAt Go.Joins in
theorem open_cellsEntry {H : Type} {enc : TypeId × Value → H} {W : World} {base : Nat} {spare : Nat → Bool} {held : Bool} {fuel : Nat} {cs : List Value} {x : DataW H × List MemPlace} (h : DataW.trod enc Tryz.prog W base spare held fuel 230 cs = some x) : ∃ d : EntryD, entryS.rd W cs d := by
  obtain ⟨c0, c1, y0, y1, n, rfl, h0, h1⟩ := scells2 Tryz.underlying230 (by kernel_rfl) (by kernel_rfl) h
  obtain ⟨i0, e0, _⟩ := DataW.trod_int Tryz.underlying2 h0
  simp only [List.cons.injEq, and_true] at e0
  subst e0
  obtain ⟨i1, e1, _⟩ := DataW.trod_int Tryz.underlying2 h1
  simp only [List.cons.injEq, and_true] at e1
  subst e1
  exact ⟨⟨i0, i1⟩, rfl⟩
end Go.Proofs.YtkhclhnejnpkeaaGreat
/- A text that is bent: the walk. -/
namespace Go.Proofs.YtkhclhnejnpkeaaGreat
open Go.RowKit
set_option maxRecDepth 100000
set_option linter.unusedSimpArgs false
set_option linter.unusedVariables false
attribute [local go_sem ↓] Go.wp_at_zero Go.wp_at_succ

theorem BR.set {w : World} {base n cap blk : Nat} (h : BR w base (some ⟨blk, 0, none⟩) n cap) (k : Nat) (u : Value) (hu : ByteVal u) : BR (w.setCell ⟨blk, k, none⟩ u) base (some ⟨blk, 0, none⟩) n cap := by
  obtain ⟨h1, h2, h3⟩ := h
  refine ⟨h1, h2, fun hn => ?_⟩
  obtain ⟨b', e, hb, hl, hc⟩ := h3 hn
  simp only [Option.some.injEq, Addr.mk.injEq, and_true] at e
  subst e
  refine ⟨blk, rfl, hb, by simpa using hl, fun j hj => ?_⟩
  obtain ⟨⟨v, hv, hcv⟩, hf⟩ := hc j hj
  refine ⟨?_, by rw [World.frozen?_setCell]; exact hf⟩
  by_cases hjk : k = j
  · subst hjk
    exact ⟨u, hu, World.cell?_setCell_same' _ _ _ (by rw [hcv]; rfl)⟩
  · refine ⟨v, hv, ?_⟩
    exact (World.cell?_setCell_other _ ⟨blk, k, none⟩ ⟨blk, j, none⟩ _ (by simp [hjk])).trans hcv

end Go.Proofs.YtkhclhnejnpkeaaGreat
/- Packing signs of five bits into bytes, and back, in plain words: what is unpacked of what was packed is what was packed, and what ends well is what it is packed as. -/
namespace Go.Proofs.YtkhclhnejnpkeaaGreat

/-- Two to the h, for a few bits. -/
def tw (h : Nat) : Int := 2 ^ h
/-- The bytes that signs ns take behind h bits, whose number is v. -/
def packF : List Int → Nat → Int → List Int
  | [], h, v => if 0 < h then [v * tw (8 - h) + (tw (8 - h) - 1)] else []
  | n :: ns, h, v => if 8 ≤ h + 5 then ((v * 32 + n) / tw (h + 5 - 8)) :: packF ns (h + 5 - 8) ((v * 32 + n) % tw (h + 5 - 8)) else packF ns (h + 5) (v * 32 + n)

theorem packF_nil {h : Nat} {v : Int} : packF [] h v = if 0 < h then [v * tw (8 - h) + (tw (8 - h) - 1)] else [] := rfl
theorem packF_full {n : Int} {ns : List Int} {h : Nat} {v : Int} (k : 8 ≤ h + 5) : packF (n :: ns) h v = ((v * 32 + n) / tw (h + 5 - 8)) :: packF ns (h + 5 - 8) ((v * 32 + n) % tw (h + 5 - 8)) := by rw [packF, if_pos k]
theorem packF_part {n : Int} {ns : List Int} {h : Nat} {v : Int} (k : ¬ 8 ≤ h + 5) : packF (n :: ns) h v = packF ns (h + 5) (v * 32 + n) := by rw [packF, if_neg k]

theorem packF_len : ∀ (ns : List Int) (h : Nat) (v : Int), h < 8 → (packF ns h v).length = (h + 5 * ns.length + 7) / 8 := by
  intro ns
  induction ns with
  | nil => intro h v hh; rw [packF_nil]; split <;> simp <;> omega
  | cons n ns ih =>
    intro h v hh
    by_cases k : 8 ≤ h + 5
    · rw [packF_full k, List.length_cons, ih _ _ (by omega), List.length_cons]; omega
    · rw [packF_part k, ih _ _ (by omega), List.length_cons]; omega

/-- Reading signs: c bits are held, their number is u; bs are to come. The signs, and what is left when no byte is to come and no further sign is; none: a number of ones only ahead of a byte. -/
def rawF : Nat → Nat → Int → List Int → Option (List Int × Nat × Int)
  | 0, _, _, _ => none
  | k + 1, c, u, bs => if c < 5 then (match bs with
      | [] => some ([], c, u)
      | b :: bs => rawF k (c + 8) (u * 256 + b) bs)
    else if 31 ≤ u / tw (c - 5) then (if bs = [] then some ([], c, u) else none)
    else (rawF k (c - 5) (u % tw (c - 5)) bs).map fun r => (u / tw (c - 5) :: r.1, r.2)

/-- How many steps are enough. -/
def enF (c : Nat) (bs : List Int) : Nat := 9 * bs.length + c + 1

theorem rawF_more {k c : Nat} {u b : Int} {bs : List Int} (h : c < 5) : rawF (k + 1) c u (b :: bs) = rawF k (c + 8) (u * 256 + b) bs := by rw [rawF, if_pos h]
theorem rawF_end {k c : Nat} {u : Int} (h : c < 5) : rawF (k + 1) c u [] = some ([], c, u) := by rw [rawF, if_pos h]
theorem rawF_ones {k c : Nat} {u : Int} {bs : List Int} (h : ¬ c < 5) (h1 : 31 ≤ u / tw (c - 5)) : rawF (k + 1) c u bs = if bs = [] then some ([], c, u) else none := by cases bs <;> simp [rawF, h, h1]
theorem rawF_sign {k c : Nat} {u : Int} {bs : List Int} (h : ¬ c < 5) (h1 : ¬ 31 ≤ u / tw (c - 5)) : rawF (k + 1) c u bs = (rawF k (c - 5) (u % tw (c - 5)) bs).map fun r => (u / tw (c - 5) :: r.1, r.2) := by cases bs <;> simp [rawF, h, h1]

/-- What is left is ones only, less than a byte of them. -/
def okEnd (r : List Int × Nat × Int) : Prop := r.2.1 < 8 ∧ r.2.2 = tw r.2.1 - 1

/-- The bytes that are to come, those of which bits are held among them, the bits ahead of these being v. -/
def ahead (c : Nat) (u : Int) (bs : List Int) (v : Int) : List Int :=
  if c = 0 then bs else if c < 8 then (v * tw c + u) :: bs else if c = 8 then u :: bs else (v * tw (c - 8) + u / 256) :: (u % 256) :: bs
def hidden (c : Nat) : Nat := if c = 0 then 0 else if c < 8 then 8 - c else if c = 8 then 0 else 8 - (c - 8)

set_option maxHeartbeats 2000000 in
theorem raw_pack : ∀ (k c : Nat) (u : Int) (bs : List Int) (r : List Int × Nat × Int), rawF k c u bs = some r → c ≤ 12 → 0 ≤ u → u < tw c → (∀ b ∈ bs, 0 ≤ b ∧ b ≤ 255) →
    ∀ v, 0 ≤ v → v < tw (hidden c) → (okEnd r ↔ packF r.1 (hidden c) v = ahead c u bs v) := by
  intro k
  induction k with
  | zero => intro c u bs r h; simp [rawF] at h
  | succ k ih =>
    intro c u bs r h hc h0 h1 hb v v0 v1
    by_cases h5 : c < 5
    · cases bs with
      | nil =>
        rw [rawF_end h5] at h
        obtain rfl := (Option.some.inj h).symm
        have : c = 0 ∨ c = 1 ∨ c = 2 ∨ c = 3 ∨ c = 4 := by omega
        rcases this with rfl | rfl | rfl | rfl | rfl <;> simp [okEnd, hidden, ahead, packF_nil, tw] at * <;> omega
      | cons b bs =>
        rw [rawF_more h5] at h
        have hb0 := hb b (by simp)
        have hbs : ∀ x ∈ bs, 0 ≤ x ∧ x ≤ 255 := fun x hx => hb x (by simp [hx])
        have K := ih _ _ _ _ h (by omega) (by omega)
        have : c = 0 ∨ c = 1 ∨ c = 2 ∨ c = 3 ∨ c = 4 := by omega
        rcases this with rfl | rfl | rfl | rfl | rfl
        · obtain rfl : u = 0 := by simp [tw] at h1; omega
          have K := K (by simp [tw]; omega) hbs v v0 v1
          rw [K]; simp [hidden, ahead]
        all_goals
          have K := K (by simp [tw] at *; omega) hbs v v0 v1
          rw [K]
          have e1 : (u * 256 + b) / 256 = u := by omega
          have e2 : (u * 256 + b) % 256 = b := by omega
          simp [hidden, ahead, e1, e2]
    · by_cases hs : 31 ≤ u / tw (c - 5)
      · rw [rawF_ones h5 hs] at h
        split at h
        · rename_i hbs
          subst hbs
          obtain rfl := (Option.some.inj h).symm
          have : c = 5 ∨ c = 6 ∨ c = 7 ∨ c = 8 ∨ c = 9 ∨ c = 10 ∨ c = 11 ∨ c = 12 := by omega
          rcases this with rfl | rfl | rfl | rfl | rfl | rfl | rfl | rfl <;> simp [okEnd, hidden, ahead, packF_nil, tw] at * <;> omega
        · cases h
      · rw [rawF_sign h5 hs] at h
        cases hr : rawF k (c - 5) (u % tw (c - 5)) bs with
        | none => rw [hr] at h; cases h
        | some r' =>
          rw [hr] at h
          obtain rfl := (Option.some.inj h).symm
          have hok : okEnd (u / tw (c - 5) :: r'.1, r'.2) ↔ okEnd r' := Iff.rfl
          rw [hok]
          have K := ih _ _ _ _ hr (by omega)
          have : c = 5 ∨ c = 6 ∨ c = 7 ∨ c = 8 ∨ c = 9 ∨ c = 10 ∨ c = 11 ∨ c = 12 := by omega
          rcases this with rfl | rfl | rfl | rfl | rfl | rfl | rfl | rfl
          · have K := K (by simp [tw]) (by simp [tw]) hb 0 (by omega) (by simp [hidden, tw])
            rw [K]; simp [hidden, ahead, packF, tw] at h0 h1 v0 v1 ⊢
          · have K := K (by simp [tw] at *; omega) (by simp [tw] at *; omega) hb (v * 32 + u / 2) (by simp [hidden, tw] at *; omega) (by simp [hidden, tw] at *; omega)
            rw [K]; simp [hidden, ahead, packF, tw] at h0 h1 v0 v1 ⊢
            rw [show (v * 32 + u / 2) * 2 + u % 2 = v * 64 + u from by omega]
          · have K := K (by simp [tw] at *; omega) (by simp [tw] at *; omega) hb (v * 32 + u / 4) (by simp [hidden, tw] at *; omega) (by simp [hidden, tw] at *; omega)
            rw [K]; simp [hidden, ahead, packF, tw] at h0 h1 v0 v1 ⊢
            rw [show (v * 32 + u / 4) * 4 + u % 4 = v * 128 + u from by omega]
          · have K := K (by simp [tw] at *; omega) (by simp [tw] at *; omega) hb (v * 32 + u / 8) (by simp [hidden, tw] at *; omega) (by simp [hidden, tw] at *; omega)
            rw [K]; simp [hidden, ahead, packF, tw] at h0 h1 v0 v1 ⊢
            rw [show (v * 32 + u / 8) * 8 + u % 8 = u from by omega]
          · have K := K (by simp [tw] at *; omega) (by simp [tw] at *; omega) hb ((v * 32 + u / 16) % 16) (by simp [hidden, tw] at *; omega) (by simp [hidden, tw] at *; omega)
            rw [K]; simp [hidden, ahead, packF, tw] at h0 h1 v0 v1 ⊢
            rw [show (v * 32 + u / 16) % 16 * 16 + u % 16 = u % 256 from by omega, show (v * 32 + u / 16) / 16 = v * 2 + u / 256 from by omega]; simp
          · have K := K (by simp [tw] at *; omega) (by simp [tw] at *; omega) hb ((v * 32 + u / 32) % 8) (by simp [hidden, tw] at *; omega) (by simp [hidden, tw] at *; omega)
            rw [K]; simp [hidden, ahead, packF, tw] at h0 h1 v0 v1 ⊢
            rw [show (v * 32 + u / 32) % 8 * 32 + u % 32 = u % 256 from by omega, show (v * 32 + u / 32) / 8 = v * 4 + u / 256 from by omega]; simp
          · have K := K (by simp [tw] at *; omega) (by simp [tw] at *; omega) hb ((v * 32 + u / 64) % 4) (by simp [hidden, tw] at *; omega) (by simp [hidden, tw] at *; omega)
            rw [K]; simp [hidden, ahead, packF, tw] at h0 h1 v0 v1 ⊢
            rw [show (v * 32 + u / 64) % 4 * 64 + u % 64 = u % 256 from by omega, show (v * 32 + u / 64) / 4 = v * 8 + u / 256 from by omega]; simp
          · have K := K (by simp [tw] at *; omega) (by simp [tw] at *; omega) hb ((v * 32 + u / 128) % 2) (by simp [hidden, tw] at *; omega) (by simp [hidden, tw] at *; omega)
            rw [K]; simp [hidden, ahead, packF, tw] at h0 h1 v0 v1 ⊢
            rw [show (v * 32 + u / 128) % 2 * 128 + u % 128 = u % 256 from by omega, show (v * 32 + u / 128) / 2 = v * 16 + u / 256 from by omega]; simp

end Go.Proofs.YtkhclhnejnpkeaaGreat
/- What a Field weighs, and the rows of a Table: in plain words, of the program and of the model. -/
namespace Go.Proofs.YtkhclhnejnpkeaaGreat
open Go.RowKit
set_option maxRecDepth 100000
set_option linter.unusedSimpArgs false
set_option linter.unusedVariables false

/-- Is it right? -/
def okF (f : Fd) : Bool := inB f.n.size 1 40 && decide ((f.v.size : Int) ≤ 60)
/-- What it weighs. -/
def wt (f : Fd) : Int := if okF f then (f.n.size : Int) + f.v.size + 8 else 0
def sumW : List Fd → Int
  | [] => 0
  | f :: L => wt f + sumW L
theorem okF_parts {f : Fd} (h : okF f = true) : (1 : Int) ≤ f.n.size ∧ (f.n.size : Int) ≤ 40 ∧ (f.v.size : Int) ≤ 60 := by
  unfold okF at h
  simp only [Bool.and_eq_true, decide_eq_true_eq] at h
  have := inB_true h.1
  omega
theorem wt_ok {f : Fd} (h : okF f = true) : wt f = f.n.size + f.v.size + 8 := by simp [wt, h]
theorem wt_no {f : Fd} (h : okF f = false) : wt f = 0 := by simp [wt, h]
theorem wt_range (f : Fd) : 0 ≤ wt f ∧ wt f ≤ 108 := by
  cases h : okF f
  · rw [wt_no h]; omega
  · rw [wt_ok h]; have := okF_parts h; omega
theorem wt_pos {f : Fd} (h : okF f = true) : 9 ≤ wt f := by rw [wt_ok h]; have := okF_parts h; omega
theorem wt_zero (f : Fd) : (wt f = 0) ↔ okF f = false := by
  cases h : okF f
  · simp [wt_no h]
  · have := wt_pos h; simp; omega
theorem sumW_range (L : List Fd) : 0 ≤ sumW L ∧ sumW L ≤ 108 * L.length := by
  induction L with
  | nil => simp [sumW]
  | cons f L ih => have := wt_range f; simp only [sumW, List.length_cons]; omega
theorem sumW_app (A B : List Fd) : sumW (A ++ B) = sumW A + sumW B := by
  induction A with
  | nil => simp [sumW]
  | cons f A ih => simp only [List.cons_append, sumW, ih]; omega
theorem sumW_succ (L : List Fd) (k : Nat) (h : k < L.length) : sumW (L.take (k + 1)) = sumW (L.take k) + wt L[k] := by
  rw [List.take_succ_eq_append_getElem h, sumW_app]; simp [sumW]
theorem sumW_ge {L : List Fd} (h : ∀ f ∈ L, okF f = true) : 9 * (L.length : Int) ≤ sumW L := by
  induction L with
  | nil => simp [sumW]
  | cons f L ih => have := wt_pos (h f (by simp)); have := ih fun g hg => h g (by simp [hg]); simp only [sumW, List.length_cons]; omega

/-- Is a Table of this Room and these Rows right? -/
def okT (room : Int) (L : List Fd) : Bool := inB room 0 1000 && (L.all okF && decide (sumW L ≤ room))
theorem okT_parts {room : Int} {L : List Fd} (h : okT room L = true) : 0 ≤ room ∧ room ≤ 1000 ∧ (∀ f ∈ L, okF f = true) ∧ sumW L ≤ room ∧ L.length ≤ 111 := by
  unfold okT at h
  simp only [Bool.and_eq_true, decide_eq_true_eq, List.all_eq_true] at h
  have h1 := inB_true h.1
  have h2 := sumW_ge h.2.1
  exact ⟨h1.1, h1.2, h.2.1, h.2.2, by omega⟩

/-- The last ones go as long as they weigh more than the room. -/
def shrN (room : Int) : Nat → List Fd → List Fd
  | 0, L => L
  | n + 1, L => if room < sumW L then shrN room n L.dropLast else L
def shr (room : Int) (L : List Fd) : List Fd := shrN room L.length L
theorem shr_stop {room : Int} {L : List Fd} (h : ¬ room < sumW L) : shr room L = L := by
  unfold shr
  cases L.length with
  | zero => rfl
  | succ n => simp [shrN, h]
theorem shr_go {room : Int} {L : List Fd} (h : room < sumW L) : shr room L = shr room L.dropLast := by
  unfold shr
  cases hn : L.length with
  | zero =>
    have : L = [] := List.length_eq_zero_iff.1 hn
    subst this
    rfl
  | succ n => rw [shrN, if_pos h, List.length_dropLast, hn]; rfl
theorem shr_mem {room : Int} (n : Nat) : ∀ {L : List Fd}, ∀ f ∈ shrN room n L, f ∈ L := by
  induction n with
  | zero => intro L f hf; exact hf
  | succ n ih =>
    intro L f hf
    rw [shrN] at hf
    split at hf
    · exact (List.dropLast_sublist _).subset (ih f hf)
    · exact hf
theorem shr_all {room : Int} {L : List Fd} (h : ∀ f ∈ L, okF f = true) : ∀ f ∈ shr room L, okF f = true := fun f hf => h f (shr_mem _ f hf)
theorem fine_of {f : Fd} (h : okF f = true) : f.fine := by have := okF_parts h; exact ⟨by omega, by omega⟩

theorem implWt (f : Fd) (w : World) (hf : f.fine) : Calls Tryz.prog 163 #[.agg #[.string f.n, .string f.v]] w fun x w' => x = .returned (.int .i64 (wt f)) ∧ Below w.heap.size w w' := by
  obtain ⟨hn, hv⟩ := hf
  cases h : okF f
  · rw [wt_no h]
    unfold okF at h
    cases h1 : inB f.n.size 1 40
    · clear h
      go_enter Tryz.func163, Tryz.ntmps163
      go_wp2_with fail
      go_quiet (fail)
      go_wp2_with fail
      refine (implWithin _ _ _ _).mono ?_; rw [h1]; rintro e w1 ⟨rfl, rfl⟩
      go_wp2_with fail
      go_ret
      exact ⟨rfl, (by repeat' (first | (with_reducible exact Below.refl _ _) | (with_reducible refine Below.drew ?_) | (with_reducible refine bo_drewN _ ?_) | (with_reducible refine bo_alloc ?_ _) | (refine bchain ?_ (by with_reducible assumption)) | (with_reducible refine Below.setCell ?_ ?_ _) | go_size))⟩
    · have h2 : ¬ ((f.v.size : Int) ≤ 60) := by simpa [h1] using h
      clear h
      go_enter Tryz.func163, Tryz.ntmps163
      go_wp2_with fail
      go_quiet (fail)
      go_wp2_with fail
      refine (implWithin _ _ _ _).mono ?_; rw [h1]; rintro e w1 ⟨rfl, rfl⟩
      go_wp2_with fail
      go_ret
      exact ⟨rfl, (by repeat' (first | (with_reducible exact Below.refl _ _) | (with_reducible refine Below.drew ?_) | (with_reducible refine bo_drewN _ ?_) | (with_reducible refine bo_alloc ?_ _) | (refine bchain ?_ (by with_reducible assumption)) | (with_reducible refine Below.setCell ?_ ?_ _) | go_size))⟩
  · rw [wt_ok h]
    obtain ⟨p1, p2, p3⟩ := okF_parts h
    have h1 : inB f.n.size 1 40 = true := by unfold okF at h; simp only [Bool.and_eq_true] at h; exact h.1
    clear h
    go_enter Tryz.func163, Tryz.ntmps163
    go_wp2_with fail
    go_quiet (fail)
    go_wp2_with fail
    refine (implWithin _ _ _ _).mono ?_; rw [h1]; rintro e w1 ⟨rfl, rfl⟩
    go_wp2_with fail
    go_ret
    exact ⟨rfl, (by repeat' (first | (with_reducible exact Below.refl _ _) | (with_reducible refine Below.drew ?_) | (with_reducible refine bo_drewN _ ?_) | (with_reducible refine bo_alloc ?_ _) | (refine bchain ?_ (by with_reducible assumption)) | (with_reducible refine Below.setCell ?_ ?_ _) | go_size))⟩

theorem implRight (f : Fd) (w : World) (hf : f.fine) : Calls Tryz.prog 149 #[.agg #[.string f.n, .string f.v]] w fun x w' => x = .returned (.bool (okF f)) ∧ Below w.heap.size w w' := by
  have hz := wt_zero f
  cases h : okF f
  · have h0 := hz.2 h
    go_enter Tryz.func149, Tryz.ntmps149
    go_wp2_with fail
    refine (implWt f _ hf).mono ?_; rw [h0]; rintro e w1 ⟨rfl, hb1⟩
    go_wp2_with fail
    go_ret
    exact ⟨rfl, (by repeat' (first | (with_reducible exact Below.refl _ _) | (with_reducible refine Below.drew ?_) | (with_reducible refine bo_drewN _ ?_) | (with_reducible refine bo_alloc ?_ _) | (refine bchain ?_ (by with_reducible assumption)) | (with_reducible refine Below.setCell ?_ ?_ _) | go_size))⟩
  · have h0 : ¬ wt f = 0 := fun e => by rw [hz.1 e] at h; cases h
    go_enter Tryz.func149, Tryz.ntmps149
    go_wp2_with fail
    refine (implWt f _ hf).mono ?_; rintro e w1 ⟨rfl, hb1⟩
    generalize wt f = z at *
    clear hz
    go_wp2_with fail
    go_ret
    exact ⟨by simp [h0], (by repeat' (first | (with_reducible exact Below.refl _ _) | (with_reducible refine Below.drew ?_) | (with_reducible refine bo_drewN _ ?_) | (with_reducible refine bo_alloc ?_ _) | (refine bchain ?_ (by with_reducible assumption)) | (with_reducible refine Below.setCell ?_ ?_ _) | go_size))⟩
theorem implRoom (r : Int) (w : World) : Calls Tryz.prog 148 #[.int .i64 r] w fun e w' => e = .returned (.bool (inB r 0 1000)) ∧ w' = w := by
  go_enter Tryz.func148, Tryz.ntmps148
  go_wp2_with (go_at_call 42; refine (implWithin _ _ _ _).mono ?_; rintro e w' ⟨rfl, rfl⟩)
  go_ret
  exact ⟨rfl, rfl⟩
theorem specField (f : Fd) (w : World) (hf : f.fine) : Calls Tryz.prog 99 #[.agg #[.string f.n, .string f.v]] w fun x w' => x = .returned (.bool (okF f)) ∧ Below w.heap.size w w' := by
  obtain ⟨hn, hv⟩ := hf
  unfold okF
  cases h1 : inB f.n.size 1 40
  · go_enter Tryz.func99, Tryz.ntmps99
    go_wp2_with fail
    refine (specIn _ _ _ _).mono ?_; rw [h1]; rintro e w1 ⟨rfl, rfl⟩
    go_wp2_with fail
    go_ret
    exact ⟨rfl, (by repeat' (first | (with_reducible exact Below.refl _ _) | (with_reducible refine Below.drew ?_) | (with_reducible refine bo_drewN _ ?_) | (with_reducible refine bo_alloc ?_ _) | (refine bchain ?_ (by with_reducible assumption)) | (with_reducible refine Below.setCell ?_ ?_ _) | go_size))⟩
  · go_enter Tryz.func99, Tryz.ntmps99
    go_wp2_with fail
    refine (specIn _ _ _ _).mono ?_; rw [h1]; rintro e w1 ⟨rfl, rfl⟩
    go_wp2_with fail
    go_ret
    exact ⟨by simp, (by repeat' (first | (with_reducible exact Below.refl _ _) | (with_reducible refine Below.drew ?_) | (with_reducible refine bo_drewN _ ?_) | (with_reducible refine bo_alloc ?_ _) | (refine bchain ?_ (by with_reducible assumption)) | (with_reducible refine Below.setCell ?_ ?_ _) | go_size))⟩
theorem specWt (f : Fd) (w : World) (hf : f.fine) : Calls Tryz.prog 118 #[.agg #[.string f.n, .string f.v]] w fun x w' => x = .returned (.int .i64 (wt f)) ∧ Below w.heap.size w w' := by
  have hf' := hf
  obtain ⟨hn, hv⟩ := hf'
  cases h : okF f
  · rw [wt_no h]
    go_enter Tryz.func118, Tryz.ntmps118
    go_wp2_with fail
    refine (specField f _ hf).mono ?_; rw [h]; rintro e w1 ⟨rfl, hb1⟩
    go_wp2_with fail
    go_ret
    exact ⟨rfl, (by repeat' (first | (with_reducible exact Below.refl _ _) | (with_reducible refine Below.drew ?_) | (with_reducible refine bo_drewN _ ?_) | (with_reducible refine bo_alloc ?_ _) | (refine bchain ?_ (by with_reducible assumption)) | (with_reducible refine Below.setCell ?_ ?_ _) | go_size))⟩
  · rw [wt_ok h]
    obtain ⟨p1, p2, p3⟩ := okF_parts h
    go_enter Tryz.func118, Tryz.ntmps118
    go_wp2_with fail
    refine (specField f _ hf).mono ?_; rw [h]; rintro e w1 ⟨rfl, hb1⟩; have hc1 := fun o => hb1.cell (p := ⟨w.heap.size, o, none⟩) (by first | (simp; done) | (simp; omega) | omega); have hf1 := fun o => hb1.frozen (p := ⟨w.heap.size, o, none⟩) (by first | (simp; done) | (simp; omega) | omega)
    go_wp2_with fail
    go_ret
    exact ⟨rfl, (by repeat' (first | (with_reducible exact Below.refl _ _) | (with_reducible refine Below.drew ?_) | (with_reducible refine bo_drewN _ ?_) | (with_reducible refine bo_alloc ?_ _) | (refine bchain ?_ (by with_reducible assumption)) | (with_reducible refine Below.setCell ?_ ?_ _) | go_size))⟩
set_option maxHeartbeats 1000000 in
theorem specSum (L : List Fd) (v : Value) (w : World) (hr0 : Reads w v L.length 2 (fv L)) (hf : ∀ f ∈ L, f.fine) (hL : L.length ≤ 201) :
    Calls Tryz.prog 100 #[v] w fun x w' => x = .returned (.int .i64 (sumW L)) ∧ Below w.heap.size w w' := by
  obtain ⟨hl, ad, cap, rfl, h1, h2, h3⟩ := hr0
  have H3 := hide h3; have HF := hide hf
  clear h3 hf
  unfold maxLen at h2
  go_enter Tryz.func100, Tryz.ntmps100
  go_wp2_with fail
  go_loopw [3, 4] (fun s i wr => ∃ (k : Nat), i = .int .i64 k ∧ s = .int .i64 (sumW (L.take k)) ∧ k ≤ L.length ∧ Below w.heap.size w wr) (fun _ i _ => L.length - (intOf i).toNat)
  case atStart => exact ⟨0, rfl, by simp [sumW], Nat.zero_le _, Below.refl _ _⟩
  case round =>
    obtain ⟨k, rfl, rfl, hk, hb⟩ := hrel
    by_cases hlt : k < L.length
    · obtain ⟨b, o, rfl, hbw, hc⟩ := H3.out (by omega)
      obtain ⟨s0, s1⟩ := fv_get L k hlt
      have hfk := HF.out _ (List.getElem_mem hlt)
      have hsu := sumW_succ L k hlt
      have hrg := sumW_range (L.take k)
      rw [List.length_take, Nat.min_eq_left (by omega)] at hrg
      obtain ⟨f, hff⟩ : ∃ f, f = L[k] := ⟨_, rfl⟩
      rw [← hff] at s0 s1 hfk hsu
      have c0 : wr.cell? ⟨b, o + k * 2, none⟩ = some (.string f.n) := by rw [hb.cell (p := ⟨b, o + k * 2, none⟩) hbw]; exact hc _ _ s0
      have c1 : wr.cell? ⟨b, o + k * 2 + 1, none⟩ = some (.string f.v) := by rw [hb.cell (p := ⟨b, o + k * 2 + 1, none⟩) hbw]; exact hc _ _ s1
      clear hc s0 s1 hff
      have HU := hide hsu
      have hwr := wt_range f
      generalize sumW (L.take k) = A at *
      clear hsu
      go_wp2_with fail
      refine (specWt f _ hfk).mono ?_; rintro x w1 ⟨rfl, hb1⟩
      generalize wt f = z at *
      go_wp2_with fail
      exact ⟨⟨k + 1, by go_num, by rw [HU.out], by omega, bchain hb hb1⟩, by simp [intOf]; omega⟩
    · obtain rfl : k = L.length := by omega
      rw [List.take_length]
      go_wp2_with fail
      go_ret
      exact ⟨rfl, hb⟩
end Go.Proofs.YtkhclhnejnpkeaaGreat
/- Rows of Fields as a make: counted, copied, held against each other, marked, read again. -/
namespace Go.Proofs.YtkhclhnejnpkeaaGreat
open Go.RowKit
set_option maxRecDepth 100000
set_option linter.unusedSimpArgs false
set_option linter.unusedVariables false
section
variable {D : Type} {E : Shp D}
theorem OwR.flat {f : D → List Value} (hf : ∀ w cs d bs, E.own w cs d bs → cs = f d ∧ bs = []) {w : World} {v : Value} {L : List D} {bs : List Nat} (h : OwR E w v L bs) : w.ownsRow 0 E.ty E.size v L.length (L.flatMap f) ∧ bs = v.ownBlock.toList := by
  obtain ⟨ts, rfl, ho, hE, rfl⟩ := h
  have e : ts.flatMap (fun t => t.1) = (ts.map (fun t => t.2.1)).flatMap f := by
    rw [List.flatMap_map]
    have hh : ∀ t ∈ ts, t.1 = f t.2.1 := fun t ht => (hf _ _ _ _ (hE t ht)).1
    clear ho hE
    induction ts with
    | nil => rfl
    | cons t ts ih => simp only [List.flatMap_cons]; rw [ih (fun x hx => hh x (by simp [hx])), ← hh t (by simp)]
  have e2 : ts.flatMap (fun t => t.2.2) = [] := by
    have hh : ∀ t ∈ ts, t.2.2 = [] := fun t ht => (hf _ _ _ _ (hE t ht)).2
    clear ho hE e
    induction ts with
    | nil => rfl
    | cons t ts ih => simp only [List.flatMap_cons]; rw [ih (fun x hx => hh x (by simp [hx])), hh t (by simp)]; rfl
  rw [e] at ho
  exact ⟨by simpa using ho, by rw [e2]; simp⟩
end
def fieldS : Shp Fd where
  size := 2
  ty := 160
  rd := fun _ cs d => cs = d.cs ∧ d.fine
  own := fun _ cs d bs => cs = d.cs ∧ d.fine ∧ bs = []
  pos := by decide
  rd_len := fun h => by obtain ⟨rfl, _⟩ := h; rfl
  rd_one := fun h u hu => by obtain ⟨rfl, _⟩ := h; simp only [Fd.cs, List.mem_cons, List.not_mem_nil, or_false] at hu; rcases hu with rfl | rfl <;> rfl
  rd_new := fun h _ => h
  own_rd := fun h => ⟨h.1, h.2.1⟩
  own_keep := fun h _ _ => h
  own_lt := fun h b hb => by rw [h.2.2] at hb; cases hb
theorem rd_fv {w : World} {v : Value} {L : List Fd} (h : RdR fieldS w v L) : Reads w v L.length 2 (fv L) := RdR.flat (E := fieldS) (f := Fd.cs) (fun _ _ _ h => h.1) h
theorem rd_fine {w : World} {v : Value} {L : List Fd} (h : RdR fieldS w v L) : ∀ f ∈ L, f.fine := by
  obtain ⟨ts, rfl, _, hE⟩ := h
  intro x hx
  obtain ⟨t, ht, rfl⟩ := List.mem_map.1 hx
  exact (hE t ht).2
theorem fv_ow {w : World} {lo : Nat} {v : Value} {L : List Fd} (h : w.ownsRow lo 160 2 v L.length (fv L)) (hs : ∀ f ∈ L, f.fine) : OwX fieldS w lo w.heap.size v L := owX_flat (E := fieldS) (f := Fd.cs) (fun d hd => ⟨rfl, hs d hd, rfl⟩) h
/-- How much they hold, as the laws count. -/
def szFieldS (L : List Fd) : Int := L.length + szL L
theorem szFieldS_nn (L : List Fd) : 0 ≤ szFieldS L := by unfold szFieldS; have := szL_pos L; omega
theorem szFieldS_len (L : List Fd) : (L.length : Int) ≤ szFieldS L := by unfold szFieldS; have := szL_pos L; omega
theorem toFieldS (L : List Fd) (v : Value) (w : World) (hr : RdR fieldS w v L) (hz : szFieldS L ≤ 1048576) :
    Calls Tryz.prog 135 #[v] w fun x w' => ∃ v', x = .returned v' ∧ OwX fieldS w' w.heap.size w'.heap.size v' L ∧ Below w.heap.size w w' := by
  refine (toFields L v w (rd_fv hr) (by have := szFieldS_len L; omega)).mono ?_
  rintro x w' ⟨v', rfl, ho, hb⟩
  exact ⟨v', rfl, fv_ow ho (rd_fine hr), hb⟩
theorem eqFieldS (L : List Fd) (v v' : Value) (w : World) (hr0 : RdR fieldS w v L) (hr1 : RdR fieldS w v' L) :
    Calls Tryz.prog 138 #[v, v'] w fun x w' => x = .returned (.bool true) ∧ Below w.heap.size w w' := eqFields L v v' w (rd_fv hr0) (rd_fv hr1)
theorem szFieldS1 (L : List Fd) (v : Value) (left : Int) (w : World) (hr : RdR fieldS w v L) (h0 : 0 ≤ left) (h1 : left ≤ 1048576) :
    Calls Tryz.prog 132 #[v, .int .i64 left] w fun x w' => (x = .returned (.int .i64 (-1)) ∨ (x = .returned (.int .i64 (left - szFieldS L)) ∧ 0 ≤ left - szFieldS L)) ∧ Below w.heap.size w w' := by
  refine (szFields L v left w (rd_fv hr) (rd_fine hr) h0 h1).mono ?_
  rintro x w' ⟨rfl, hb⟩
  refine ⟨?_, hb⟩
  unfold szFieldS
  by_cases c : left - L.length - szL L < 0
  · exact .inl (by rw [if_pos c])
  · exact .inr ⟨by rw [if_neg c, show left - L.length - szL L = left - (L.length + szL L) by omega], by omega⟩
open Go.ChangeShapes Go.WideShapes Go.ChangeAt Go.Joins in
theorem open_cellsField {H : Type} {enc : TypeId × Value → H} {W : World} {base : Nat} {spare : Nat → Bool} {held : Bool} {fuel : Nat} {cs : List Value} {x : DataW H × List MemPlace} (h : DataW.trod enc Tryz.prog W base spare held fuel 227 cs = some x) : ∃ d : Fd, fieldS.rd W cs d := by
  obtain ⟨c0, c1, y0, y1, n, rfl, h0, h1⟩ := scells2 Tryz.underlying227 (by kernel_rfl) (by kernel_rfl) h
  obtain ⟨i0, e0, _, hs0⟩ := DataW.trod_string Tryz.underlying9 h0
  simp only [List.cons.injEq, and_true] at e0
  subst e0
  obtain ⟨i1, e1, _, hs1⟩ := DataW.trod_string Tryz.underlying9 h1
  simp only [List.cons.injEq, and_true] at e1
  subst e1
  exact ⟨⟨i0, i1⟩, rfl, by unfold maxLen at hs0; simp only; omega, by unfold maxLen at hs1; simp only; omega⟩
end Go.Proofs.YtkhclhnejnpkeaaGreat
/- Tables of the laws: counted, copied, held against each other, marked, read again; and one that came in. -/
namespace Go.Proofs.YtkhclhnejnpkeaaGreat
open Go.RowKit
set_option maxRecDepth 100000
set_option linter.unusedSimpArgs false
set_option linter.unusedVariables false

theorem szTable1 (L : List Fd) (room : Int) (v : Value) (left : Int) (w : World) (hr0 : Reads w v L.length 2 (fv L)) (hf : ∀ f ∈ L, f.fine) (h0 : 0 ≤ left) (h1 : left ≤ 1048576) :
    Calls Tryz.prog 116 #[.agg #[.int .i64 room, v], .int .i64 left] w fun x w' => x = .returned (.int .i64 (if left - L.length - szL L < 0 then -1 else left - L.length - szL L)) ∧ Below w.heap.size w w' := by
  obtain ⟨ad, cap, rfl, _⟩ := hr0.2
  have HR := hide hr0
  clear hr0
  obtain ⟨R, hR⟩ : ∃ R : Int, R = if left - L.length - szL L < 0 then -1 else left - L.length - szL L := ⟨_, rfl⟩
  rw [← hR]
  go_enter Tryz.func116, Tryz.ntmps116
  have HRR := hide hR
  clear hR
  go_wp2_with fail
  refine (szFields L _ left _ (HR.out.new ((Below.refl _ _).alloc (Nat.le_refl _) _)) hf h0 h1).mono ?_; rw [← HRR.out]; rintro x w1 ⟨rfl, hb1⟩
  have hz := HRR.out
  by_cases h : left - L.length - szL L < 0
  · rw [if_pos h] at hz
    subst hz
    go_wp2_with fail
    go_ret
    exact ⟨rfl, (by repeat' (first | (with_reducible exact Below.refl _ _) | (with_reducible refine Below.drew ?_) | (with_reducible refine bo_drewN _ ?_) | (with_reducible refine bo_alloc ?_ _) | (refine bchain ?_ (by with_reducible assumption)) | (with_reducible refine Below.setCell ?_ ?_ _) | go_size))⟩
  · rw [if_neg h] at hz
    have hz0 : ¬ R < 0 := by omega
    clear hz
    go_wp2_with fail
    go_ret
    exact ⟨rfl, (by repeat' (first | (with_reducible exact Below.refl _ _) | (with_reducible refine Below.drew ?_) | (with_reducible refine bo_drewN _ ?_) | (with_reducible refine bo_alloc ?_ _) | (refine bchain ?_ (by with_reducible assumption)) | (with_reducible refine Below.setCell ?_ ?_ _) | go_size))⟩

theorem toTable1 (L : List Fd) (room : Int) (v : Value) (w : World) (hr0 : Reads w v L.length 2 (fv L)) (hL : L.length ≤ 1048576) :
    Calls Tryz.prog 120 #[.agg #[.int .i64 room, v]] w fun x w' => ∃ v', x = .returned (.agg #[.int .i64 room, v']) ∧ w'.ownsRow w.heap.size 160 2 v' L.length (fv L) ∧ Below w.heap.size w w' := by
  obtain ⟨ad, cap, rfl, _⟩ := hr0.2
  have HR := hide hr0
  clear hr0
  go_enter Tryz.func120, Tryz.ntmps120
  go_wp2_with fail
  refine (toFields L _ _ ?c1 hL).mono ?_
  case c1 => exact HR.out.new (by repeat' (first | (with_reducible exact Below.refl _ _) | (with_reducible refine Below.drew ?_) | (with_reducible refine bo_drewN _ ?_) | (with_reducible refine bo_alloc ?_ _) | (refine bchain ?_ (by with_reducible assumption)) | (with_reducible refine Below.setCell ?_ ?_ _) | go_size))
  rintro x w1 ⟨v1, rfl, ho, hb1⟩; have hz1 := hb1.size; (try simp at hz1); have hc1 := fun o => hb1.cell (p := ⟨w.heap.size, o, none⟩) (by first | (simp; done) | (simp; omega) | omega); have hf1 := fun o => hb1.frozen (p := ⟨w.heap.size, o, none⟩) (by first | (simp; done) | (simp; omega) | omega); have hcn1 := fun o => hb1.cell (p := ⟨w.heap.size + 1, o, none⟩) (by first | (simp; done) | (simp; omega) | omega); have hfn1 := fun o => hb1.frozen (p := ⟨w.heap.size + 1, o, none⟩) (by first | (simp; done) | (simp; omega) | omega); have hcm1 := fun o => hb1.cell (p := ⟨w.heap.size + 2, o, none⟩) (by first | (simp; done) | (simp; omega) | omega); have hfm1 := fun o => hb1.frozen (p := ⟨w.heap.size + 2, o, none⟩) (by first | (simp; done) | (simp; omega) | omega)
  have hbw : Below w.heap.size w w1 := (by repeat' (first | (with_reducible exact Below.refl _ _) | (with_reducible refine Below.drew ?_) | (with_reducible refine bo_drewN _ ?_) | (with_reducible refine bo_alloc ?_ _) | (refine bchain ?_ (by with_reducible assumption)) | (with_reducible refine Below.setCell ?_ ?_ _) | go_size))
  obtain ⟨ad1, cap1, rfl, _⟩ := owns_form ho
  have hc2 : ∀ k, (Value.slice ad1 L.length cap1).ownBlock = some k → w.heap.size + 3 ≤ k ∧ k < w1.heap.size := fun k hk => by have := ho.lt k hk; simpa using this
  have HO := hide ho
  clear ho
  have HC := hide hc2
  clear hc2
  go_wp2_with fail
  refine bodyPost_ret (v := .agg #[.int .i64 room, .slice ad1 L.length cap1]) (by simp [results, Tryz.results120, go_sem, *]) rfl ?_
  have ho : w1.ownsRow w.heap.size 160 2 (.slice ad1 L.length cap1) L.length (fv L) := owns_base HO.out fun k hk => by have := HC.out k hk; omega
  have hv : ∀ k, (Value.slice ad1 L.length cap1).ownBlock = some k → w.heap.size + 3 ≤ k := fun k hk => (HC.out k hk).1
  exact ⟨_, rfl, (by repeat' (first | (with_reducible exact ho) | (with_reducible refine owns_far _ ?_ hv _ _ ?_) | (with_reducible refine World.ownsRow.alloc ?_ _) | (simp; done) | (simp; omega))), (by repeat' (first | (with_reducible exact Below.refl _ _) | (with_reducible refine Below.drew ?_) | (with_reducible refine bo_drewN _ ?_) | (with_reducible refine bo_alloc ?_ _) | (refine bchain ?_ (by with_reducible assumption)) | (with_reducible refine Below.setCell ?_ ?_ _) | go_size))⟩

theorem eqTable1 (L : List Fd) (room : Int) (v v' : Value) (w : World) (hr0 : Reads w v L.length 2 (fv L)) (hr1 : Reads w v' L.length 2 (fv L)) :
    Calls Tryz.prog 125 #[.agg #[.int .i64 room, v], .agg #[.int .i64 room, v']] w fun x w' => x = .returned (.bool true) ∧ Below w.heap.size w w' := by
  obtain ⟨ad, cap, rfl, _⟩ := hr0.2
  obtain ⟨ad', cap', rfl, _⟩ := hr1.2
  have HR := hide hr0; have HR' := hide hr1
  clear hr0 hr1
  go_enter Tryz.func125, Tryz.ntmps125
  go_wp2_with fail
  refine (eqFields L _ _ _ ?c1 ?c2).mono ?_
  case c1 => exact HR.out.new (by repeat' (first | (with_reducible exact Below.refl _ _) | (with_reducible refine Below.drew ?_) | (with_reducible refine bo_drewN _ ?_) | (with_reducible refine bo_alloc ?_ _) | (refine bchain ?_ (by with_reducible assumption)) | (with_reducible refine Below.setCell ?_ ?_ _) | go_size))
  case c2 => exact HR'.out.new (by repeat' (first | (with_reducible exact Below.refl _ _) | (with_reducible refine Below.drew ?_) | (with_reducible refine bo_drewN _ ?_) | (with_reducible refine bo_alloc ?_ _) | (refine bchain ?_ (by with_reducible assumption)) | (with_reducible refine Below.setCell ?_ ?_ _) | go_size))
  rintro x w1 ⟨rfl, hb1⟩
  go_wp2_with fail
  go_ret
  exact ⟨rfl, (by repeat' (first | (with_reducible exact Below.refl _ _) | (with_reducible refine Below.drew ?_) | (with_reducible refine bo_drewN _ ?_) | (with_reducible refine bo_alloc ?_ _) | (refine bchain ?_ (by with_reducible assumption)) | (with_reducible refine Below.setCell ?_ ?_ _) | go_size))⟩

end Go.Proofs.YtkhclhnejnpkeaaGreat
/- Dial in memory: its datum, its make; counted, copied, held against each other, marked, read again (by gen_shape.py). -/
namespace Go.Proofs.YtkhclhnejnpkeaaGreat
open Go.RowKit
set_option maxRecDepth 100000
set_option linter.unusedSimpArgs false
set_option linter.unusedVariables false

/-- What a Dial holds. -/
structure DlD where
  seat : Int
  id : Int
  nm : ByteArray
def DlD.cs (d : DlD) : List Value := [.int .i64 d.seat, .int .i64 d.id, .string d.nm]
def dialS : Shp DlD where
  size := 3
  ty := 68
  rd := fun _ cs d => cs = d.cs ∧ d.nm.size ≤ 9223372036854775807
  own := fun _ cs d bs => cs = d.cs ∧ d.nm.size ≤ 9223372036854775807 ∧ bs = []
  pos := by decide
  rd_len := fun h => by replace h := h.1; subst h; rfl
  rd_one := fun h u hu => by replace h := h.1; subst h; simp only [DlD.cs, List.mem_cons, List.not_mem_nil, or_false] at hu; rcases hu with rfl | rfl | rfl <;> rfl
  rd_new := fun h _ => h
  own_rd := fun h => ⟨h.1, h.2.1⟩
  own_keep := fun h _ _ => h
  own_lt := fun h b hb => by rw [h.2.2] at hb; cases hb
/-- How much it holds, as the laws count. -/
def szDial (d : DlD) : Int := (d.nm.size : Int)
theorem szDial_nn (d : DlD) : 0 ≤ szDial d := by unfold szDial;  omega
def szDialS (L : List DlD) : Int := L.length + sumLs szDial L
theorem szDialS_nn (L : List DlD) : 0 ≤ szDialS L := by unfold szDialS; have := sum_nn szDial szDial_nn L; omega
theorem szDialS_len (L : List DlD) : (L.length : Int) ≤ szDialS L := by unfold szDialS; have := sum_nn szDial szDial_nn L; omega
theorem toDial1 (d : DlD) (w : World) : Calls Tryz.prog 68 #[.agg #[.int .i64 d.seat, .int .i64 d.id, .string d.nm]] w fun x w' => x = .returned (.agg #[.int .i64 d.seat, .int .i64 d.id, .string d.nm]) ∧ Below w.heap.size w w' := by
  go_enter Tryz.func68, Tryz.ntmps68
  go_wp2
  go_returns
  exact ⟨rfl, (by repeat' (first | (with_reducible exact Below.refl _ _) | (with_reducible refine Below.drew ?_) | (with_reducible refine bo_drewN _ ?_) | (with_reducible refine bo_alloc ?_ _) | (refine bchain ?_ (by with_reducible assumption)) | (with_reducible refine Below.setCell ?_ ?_ _) | go_size))⟩
theorem eqDial1 (d : DlD) (w : World) : Calls Tryz.prog 76 #[.agg #[.int .i64 d.seat, .int .i64 d.id, .string d.nm], .agg #[.int .i64 d.seat, .int .i64 d.id, .string d.nm]] w fun x w' => x = .returned (.bool true) ∧ Below w.heap.size w w' := by
  go_enter Tryz.func76, Tryz.ntmps76
  go_wp2
  go_ret
  exact ⟨rfl, (by repeat' (first | (with_reducible exact Below.refl _ _) | (with_reducible refine Below.drew ?_) | (with_reducible refine bo_drewN _ ?_) | (with_reducible refine bo_alloc ?_ _) | (refine bchain ?_ (by with_reducible assumption)) | (with_reducible refine Below.setCell ?_ ?_ _) | go_size))⟩
set_option maxHeartbeats 1000000 in
theorem szDial1 (d : DlD) (left : Int) (w : World) (hf0 : d.nm.size ≤ 9223372036854775807) (h0 : 0 ≤ left) (h1 : left ≤ 1048576) :
    Calls Tryz.prog 59 #[.agg #[.int .i64 d.seat, .int .i64 d.id, .string d.nm], .int .i64 left] w fun x w' => (x = .returned (.int .i64 (-1)) ∨ (x = .returned (.int .i64 (left - szDial d)) ∧ 0 ≤ left - szDial d)) ∧ Below w.heap.size w w' := by
  unfold szDial
  by_cases g0 : left - d.nm.size < 0
  · go_enter Tryz.func59, Tryz.ntmps59
    go_wp2_with fail
    go_ret
    exact ⟨.inl rfl, (by repeat' (first | (with_reducible exact Below.refl _ _) | (with_reducible refine Below.drew ?_) | (with_reducible refine bo_drewN _ ?_) | (with_reducible refine bo_alloc ?_ _) | (refine bchain ?_ (by with_reducible assumption)) | (with_reducible refine Below.setCell ?_ ?_ _) | go_size))⟩
  have hR2 : left - ((d.nm.size : Int)) = left - d.nm.size := by omega
  rw [hR2]
  clear hR2
  go_enter Tryz.func59, Tryz.ntmps59
  go_wp2_with fail
  go_ret
  exact ⟨.inr ⟨rfl, by omega⟩, (by repeat' (first | (with_reducible exact Below.refl _ _) | (with_reducible refine Below.drew ?_) | (with_reducible refine bo_drewN _ ?_) | (with_reducible refine bo_alloc ?_ _) | (refine bchain ?_ (by with_reducible assumption)) | (with_reducible refine Below.setCell ?_ ?_ _) | go_size))⟩
set_option maxHeartbeats 2000000 in
theorem toDialS (L : List DlD) (v : Value) (w : World) (hr : RdR dialS w v L) (hz : szDialS L ≤ 1048576) :
    Calls Tryz.prog 31 #[v] w fun x w' => ∃ v', x = .returned v' ∧ OwX dialS w' w.heap.size w'.heap.size v' L ∧ Below w.heap.size w w' := by
  have hL : L.length ≤ 1048576 := by have := szDialS_len L; omega
  obtain ⟨M, hM, hmk⟩ := make_row 32 68 (.agg #[.int .i64 0, .int .i64 0, .string ⟨#[]⟩]) 3 32 Tryz.underlying32 (by kernel_rfl) rfl (by decide) (by decide) L.length hL
  have hst := filling_start (E := dialS) (owns_made w M 68 3 L.length hM hL)
  obtain ⟨ad, cap, rfl, h1, h2⟩ := hr.form
  have HR := hide hr
  clear hr
  have HZ := hide hz
  clear hz
  go_enter Tryz.func31, Tryz.ntmps31
  go_wp2_with fail
  go_loopw [4] (fun i wr => ∃ (k : Nat), i = .int .i64 k ∧ k ≤ L.length ∧ Hid (Filling dialS w wr L k)) (fun i _ => L.length - (intOf i).toNat)
  case atStart => exact ⟨0, rfl, Nat.zero_le _, hst⟩
  case round =>
    clear hst hmk
    obtain ⟨k, rfl, hk, HFI⟩ := hrel
    by_cases hlt : k < L.length
    · have hb : Below w.heap.size w wr := HFI.out.2.1
      have hrk := (HR.out.new hb).at k hlt
      have hmem : L[k] ∈ L := List.getElem_mem hlt
      obtain ⟨d, hd⟩ : ∃ d, d = L[k] := ⟨_, rfl⟩
      rw [← hd] at hrk hmem
      obtain ⟨b, o, cs, rfl, hbw, hrd, hc⟩ := hrk
      obtain ⟨rfl, hf0⟩ := hrd
      have c0 : wr.cell? ⟨b, o + k * 3, none⟩ = some (.int .i64 d.seat) := hc 0 _ rfl
      have c1 : wr.cell? ⟨b, o + k * 3 + 1, none⟩ = some (.int .i64 d.id) := hc 1 _ rfl
      have c2 : wr.cell? ⟨b, o + k * 3 + 2, none⟩ = some (.string d.nm) := hc 2 _ rfl
      clear hc
      have HD := hide hd
      clear hd hmem
      go_wp2_with fail
      refine (toDial1 d _).mono ?_; rintro x w1 ⟨rfl, hb1⟩
      have hoe : OwE dialS w1 wr.heap.size w1.heap.size [.int .i64 d.seat, .int .i64 d.id, .string d.nm] d := ⟨[], ⟨rfl, hf0, rfl⟩, by simp, fun b hb => by cases hb⟩
      rw [HD.out] at hoe
      obtain ⟨hcell, hfr, hlw, hfi⟩ := filling_step HFI.out hlt hb1 hoe
      rw [← HD.out] at hfi
      obtain ⟨x0, hx0⟩ : ∃ u, w1.cell? ⟨w.heap.size, k * 3, none⟩ = some u := hcell 0 (by decide)
      obtain ⟨x1, hx1⟩ : ∃ u, w1.cell? ⟨w.heap.size, k * 3 + 1, none⟩ = some u := hcell 1 (by decide)
      obtain ⟨x2, hx2⟩ : ∃ u, w1.cell? ⟨w.heap.size, k * 3 + 2, none⟩ = some u := hcell 2 (by decide)
      have e6 := hfr
      have HF2 := hide hfi
      clear hcell hfr hfi hoe
      go_wp2_with fail
      go_roundw
      case rel => exact ⟨k + 1, by go_num, by omega, HF2.out⟩
      case measure => simp [intOf]; omega
    · obtain rfl : k = L.length := by omega
      obtain ⟨hox, hbx⟩ := filling_end HFI.out
      have HX := hide hox
      clear hox
      go_wp2_with fail
      go_ret
      exact ⟨_, rfl, HX.out, hbx⟩
set_option maxHeartbeats 1000000 in
theorem eqDialS (L : List DlD) (v v' : Value) (w : World) (hr0 : RdR dialS w v L) (hr1 : RdR dialS w v' L) :
    Calls Tryz.prog 35 #[v, v'] w fun x w' => x = .returned (.bool true) ∧ Below w.heap.size w w' := by
  obtain ⟨ad, cap, rfl, h1, h2⟩ := hr0.form
  obtain ⟨ad', cap', rfl, h1', h2'⟩ := hr1.form
  have HR := hide hr0; have HR' := hide hr1
  clear hr0 hr1
  go_enter Tryz.func35, Tryz.ntmps35
  go_wp2_with fail
  go_loopw [5] (fun i wr => ∃ (k : Nat), i = .int .i64 k ∧ k ≤ L.length ∧ Below w.heap.size w wr) (fun i _ => L.length - (intOf i).toNat)
  case atStart => exact ⟨0, rfl, Nat.zero_le _, Below.refl _ _⟩
  case round =>
    obtain ⟨k, rfl, hk, hb⟩ := hrel
    by_cases hlt : k < L.length
    · have hrk := (HR.out.new hb).at k hlt
      have hrk' := (HR'.out.new hb).at k hlt
      obtain ⟨d, hd⟩ : ∃ d, d = L[k] := ⟨_, rfl⟩
      rw [← hd] at hrk hrk'
      clear hd
      obtain ⟨b, o, cs, rfl, hb1, hrd, hc⟩ := hrk
      obtain ⟨b', o', cs', rfl, hb2, hrd', hc'⟩ := hrk'
      obtain ⟨rfl, hf0⟩ := hrd
      obtain ⟨rfl, _⟩ := hrd'
      have c0 : wr.cell? ⟨b, o + k * 3, none⟩ = some (.int .i64 d.seat) := hc 0 _ rfl
      have c1 : wr.cell? ⟨b, o + k * 3 + 1, none⟩ = some (.int .i64 d.id) := hc 1 _ rfl
      have c2 : wr.cell? ⟨b, o + k * 3 + 2, none⟩ = some (.string d.nm) := hc 2 _ rfl
      have d0 : wr.cell? ⟨b', o' + k * 3, none⟩ = some (.int .i64 d.seat) := hc' 0 _ rfl
      have d1 : wr.cell? ⟨b', o' + k * 3 + 1, none⟩ = some (.int .i64 d.id) := hc' 1 _ rfl
      have d2 : wr.cell? ⟨b', o' + k * 3 + 2, none⟩ = some (.string d.nm) := hc' 2 _ rfl
      clear hc hc'
      go_wp2_with fail
      have qa0 : ∀ y : Later wr, y.w.cell? ⟨b, o + k * 3, none⟩ = some (.int .i64 d.seat) := fun y => (y.b.cell (p := ⟨b, o + k * 3, none⟩) hb1).trans c0
      have qa1 : ∀ y : Later wr, y.w.cell? ⟨b, o + k * 3 + 1, none⟩ = some (.int .i64 d.id) := fun y => (y.b.cell (p := ⟨b, o + k * 3 + 1, none⟩) hb1).trans c1
      have qa2 : ∀ y : Later wr, y.w.cell? ⟨b, o + k * 3 + 2, none⟩ = some (.string d.nm) := fun y => (y.b.cell (p := ⟨b, o + k * 3 + 2, none⟩) hb1).trans c2
      have qb0 : ∀ y : Later wr, y.w.cell? ⟨b', o' + k * 3, none⟩ = some (.int .i64 d.seat) := fun y => (y.b.cell (p := ⟨b', o' + k * 3, none⟩) hb2).trans d0
      have qb1 : ∀ y : Later wr, y.w.cell? ⟨b', o' + k * 3 + 1, none⟩ = some (.int .i64 d.id) := fun y => (y.b.cell (p := ⟨b', o' + k * 3 + 1, none⟩) hb2).trans d1
      have qb2 : ∀ y : Later wr, y.w.cell? ⟨b', o' + k * 3 + 2, none⟩ = some (.string d.nm) := fun y => (y.b.cell (p := ⟨b', o' + k * 3 + 2, none⟩) hb2).trans d2
      clear c0 c1 c2 d0 d1 d2
      have hne : Nonempty (Later wr) := ⟨⟨wr, Below.refl _ _⟩⟩; refine region_later (by kernel_rfl) (by kernel_rfl) ?_
      repeat (go_big_quiet_step (fail))
      go_big_quiet_want; go_big_quiet_op
      refine ⟨.bool true, fun y => later_calls (x := y) (eqDial1 d y.w), ?_⟩
      go_big_quiet_on
      repeat (go_big_quiet_step (fail))
      refine wpQuiet_nil ?_; intro _ hw'; obtain ⟨y, hw''⟩ := hw'; subst hw''; have hby := y.b
      go_wp2_with fail
      go_roundw
      case rel => exact ⟨k + 1, by go_num, by omega, bchain hb hby⟩
      case measure => simp [intOf]; omega
    · go_wp2_with fail
      go_ret
      exact ⟨rfl, hb⟩
set_option maxHeartbeats 1000000 in
theorem szDialS1 (L : List DlD) (v : Value) (left : Int) (w : World) (hr : RdR dialS w v L) (h0 : 0 ≤ left) (h1 : left ≤ 1048576) :
    Calls Tryz.prog 22 #[v, .int .i64 left] w fun x w' => (x = .returned (.int .i64 (-1)) ∨ (x = .returned (.int .i64 (left - szDialS L)) ∧ 0 ≤ left - szDialS L)) ∧ Below w.heap.size w w' := by
  obtain ⟨ad, cap, rfl, h2, h3⟩ := hr.form
  have HR := hide hr
  clear hr
  unfold szDialS
  by_cases h : left - L.length < 0
  · go_enter Tryz.func22, Tryz.ntmps22
    go_wp2
    go_ret
    exact ⟨.inl rfl, Below.refl _ _⟩
  · go_enter Tryz.func22, Tryz.ntmps22
    go_wp2_with fail
    go_loopw [1, 5] (fun l i wr => ∃ (k : Nat), i = .int .i64 k ∧ k ≤ L.length ∧ l = .int .i64 (left - L.length - sumLs szDial (L.take k)) ∧ 0 ≤ left - L.length - sumLs szDial (L.take k) ∧ Below w.heap.size w wr) (fun _ i _ => L.length - (intOf i).toNat)
    case atStart => exact ⟨0, rfl, Nat.zero_le _, by simp [sumLs], by simp [sumLs]; omega, Below.refl _ _⟩
    case round =>
      obtain ⟨k, rfl, hk, rfl, hk0, hb⟩ := hrel
      by_cases hlt : k < L.length
      · have hrk := (HR.out.new hb).at k hlt
        have hsn := sum_take szDial L k hlt
        have hnn := sum_nn szDial szDial_nn (L.take k)
        obtain ⟨d, hd⟩ : ∃ d, d = L[k] := ⟨_, rfl⟩
        rw [← hd] at hrk hsn
        clear hd
        obtain ⟨b, o, cs, rfl, hb1, hrd, hc⟩ := hrk
        obtain ⟨rfl, hf0⟩ := hrd
        have c0 : wr.cell? ⟨b, o + k * 3, none⟩ = some (.int .i64 d.seat) := hc 0 _ rfl
        have c1 : wr.cell? ⟨b, o + k * 3 + 1, none⟩ = some (.int .i64 d.id) := hc 1 _ rfl
        have c2 : wr.cell? ⟨b, o + k * 3 + 2, none⟩ = some (.string d.nm) := hc 2 _ rfl
        clear hc
        generalize hq : sumLs szDial (List.take k L) = q at *
        generalize hq' : sumLs szDial (List.take (k + 1) L) = q' at *
        have HQ := hide hq'
        have HSN := hide hsn
        clear hq hq' hsn
        go_wp2_with fail
        refine (szDial1 d  _ _  hf0 (by omega) (by omega)).mono ?_
        rintro x w1 ⟨rfl | ⟨rfl, hp⟩, hb1⟩
        · go_wp2_with fail
          go_ret
          exact ⟨.inl rfl, bchain hb hb1⟩
        · have hp' : ¬ left - L.length - q - szDial d < 0 := by omega
          generalize hX : left - L.length - q - szDial d = X at *
          have HX := hide hX
          clear hX
          go_wp2_with fail
          go_roundw
          case rel => exact ⟨k + 1, by go_num, by omega, int_eq (by have := HX.out; have := HQ.out; have := HSN.out; omega), by have := HX.out; have := HQ.out; have := HSN.out; omega, bchain hb hb1⟩
          case measure => simp [intOf]; omega
      · obtain rfl : k = L.length := by omega
        rw [List.take_length] at *
        obtain ⟨X, hX⟩ : ∃ X, left - L.length - sumLs szDial L = X := ⟨_, rfl⟩
        rw [hX] at hk0 ⊢
        have HX := hide hX
        clear hX
        go_wp2_with fail
        go_ret
        have e : left - (L.length + sumLs szDial L) = X := by have := HX.out; omega
        rw [e]
        have := szDial_nn
        exact ⟨.inr ⟨rfl, hk0⟩, hb⟩
open Go.ChangeShapes Go.WideShapes Go.ChangeAt Go.Joins in
theorem open_cellsDial {H : Type} {enc : TypeId × Value → H} {W : World} {base : Nat} {spare : Nat → Bool} {held : Bool} {fuel : Nat} {cs : List Value} {x : DataW H × List MemPlace} (h : DataW.trod enc Tryz.prog W base spare held fuel 114 cs = some x) : ∃ d : DlD, dialS.rd W cs d := by
  obtain ⟨c0, c1, c2, y0, y1, y2, n, rfl, h0, h1, h2⟩ := scells3 Tryz.underlying114 (by kernel_rfl) (by kernel_rfl) h
  obtain ⟨i0, e0, _⟩ := DataW.trod_int Tryz.underlying2 h0
  simp only [List.cons.injEq, and_true] at e0
  subst e0
  obtain ⟨i1, e1, _⟩ := DataW.trod_int Tryz.underlying2 h1
  simp only [List.cons.injEq, and_true] at e1
  subst e1
  obtain ⟨i2, e2, _, hs2⟩ := DataW.trod_string Tryz.underlying9 h2
  simp only [List.cons.injEq, and_true] at e2
  subst e2
  exact ⟨⟨i0, i1, i2⟩, rfl, by unfold maxLen at hs2; simp only; omega⟩
end Go.Proofs.YtkhclhnejnpkeaaGreat
/- Flight in memory: its datum, its make; counted, copied, held against each other, marked, read again (by gen_shape.py). -/
namespace Go.Proofs.YtkhclhnejnpkeaaGreat
open Go.RowKit
set_option maxRecDepth 100000
set_option linter.unusedSimpArgs false
set_option linter.unusedVariables false

/-- What a Flight holds. -/
structure FgD where
  seat : Int
  id : Int
  nm : ByteArray
  tx : ByteArray
def FgD.cs (d : FgD) : List Value := [.int .i64 d.seat, .int .i64 d.id, .string d.nm, .string d.tx]
def flightS : Shp FgD where
  size := 4
  ty := 73
  rd := fun _ cs d => cs = d.cs ∧ d.nm.size ≤ 9223372036854775807 ∧ d.tx.size ≤ 9223372036854775807
  own := fun _ cs d bs => cs = d.cs ∧ d.nm.size ≤ 9223372036854775807 ∧ d.tx.size ≤ 9223372036854775807 ∧ bs = []
  pos := by decide
  rd_len := fun h => by replace h := h.1; subst h; rfl
  rd_one := fun h u hu => by replace h := h.1; subst h; simp only [FgD.cs, List.mem_cons, List.not_mem_nil, or_false] at hu; rcases hu with rfl | rfl | rfl | rfl <;> rfl
  rd_new := fun h _ => h
  own_rd := fun h => ⟨h.1, h.2.1, h.2.2.1⟩
  own_keep := fun h _ _ => h
  own_lt := fun h b hb => by rw [h.2.2.2] at hb; cases hb
/-- How much it holds, as the laws count. -/
def szFlight (d : FgD) : Int := (d.nm.size : Int) + (d.tx.size : Int)
theorem szFlight_nn (d : FgD) : 0 ≤ szFlight d := by unfold szFlight;  omega
def szFlightS (L : List FgD) : Int := L.length + sumLs szFlight L
theorem szFlightS_nn (L : List FgD) : 0 ≤ szFlightS L := by unfold szFlightS; have := sum_nn szFlight szFlight_nn L; omega
theorem szFlightS_len (L : List FgD) : (L.length : Int) ≤ szFlightS L := by unfold szFlightS; have := sum_nn szFlight szFlight_nn L; omega
theorem toFlight1 (d : FgD) (w : World) : Calls Tryz.prog 69 #[.agg #[.int .i64 d.seat, .int .i64 d.id, .string d.nm, .string d.tx]] w fun x w' => x = .returned (.agg #[.int .i64 d.seat, .int .i64 d.id, .string d.nm, .string d.tx]) ∧ Below w.heap.size w w' := by
  go_enter Tryz.func69, Tryz.ntmps69
  go_wp2
  go_returns
  exact ⟨rfl, (by repeat' (first | (with_reducible exact Below.refl _ _) | (with_reducible refine Below.drew ?_) | (with_reducible refine bo_drewN _ ?_) | (with_reducible refine bo_alloc ?_ _) | (refine bchain ?_ (by with_reducible assumption)) | (with_reducible refine Below.setCell ?_ ?_ _) | go_size))⟩
theorem eqFlight1 (d : FgD) (w : World) : Calls Tryz.prog 77 #[.agg #[.int .i64 d.seat, .int .i64 d.id, .string d.nm, .string d.tx], .agg #[.int .i64 d.seat, .int .i64 d.id, .string d.nm, .string d.tx]] w fun x w' => x = .returned (.bool true) ∧ Below w.heap.size w w' := by
  go_enter Tryz.func77, Tryz.ntmps77
  go_wp2
  go_ret
  exact ⟨rfl, (by repeat' (first | (with_reducible exact Below.refl _ _) | (with_reducible refine Below.drew ?_) | (with_reducible refine bo_drewN _ ?_) | (with_reducible refine bo_alloc ?_ _) | (refine bchain ?_ (by with_reducible assumption)) | (with_reducible refine Below.setCell ?_ ?_ _) | go_size))⟩
set_option maxHeartbeats 1000000 in
theorem szFlight1 (d : FgD) (left : Int) (w : World) (hf0 : d.nm.size ≤ 9223372036854775807) (hf1 : d.tx.size ≤ 9223372036854775807) (h0 : 0 ≤ left) (h1 : left ≤ 1048576) :
    Calls Tryz.prog 60 #[.agg #[.int .i64 d.seat, .int .i64 d.id, .string d.nm, .string d.tx], .int .i64 left] w fun x w' => (x = .returned (.int .i64 (-1)) ∨ (x = .returned (.int .i64 (left - szFlight d)) ∧ 0 ≤ left - szFlight d)) ∧ Below w.heap.size w w' := by
  unfold szFlight
  by_cases g0 : left - d.nm.size < 0
  · go_enter Tryz.func60, Tryz.ntmps60
    go_wp2_with fail
    go_ret
    exact ⟨.inl rfl, (by repeat' (first | (with_reducible exact Below.refl _ _) | (with_reducible refine Below.drew ?_) | (with_reducible refine bo_drewN _ ?_) | (with_reducible refine bo_alloc ?_ _) | (refine bchain ?_ (by with_reducible assumption)) | (with_reducible refine Below.setCell ?_ ?_ _) | go_size))⟩
  by_cases g1 : left - d.nm.size - d.tx.size < 0
  · go_enter Tryz.func60, Tryz.ntmps60
    go_wp2_with fail
    go_ret
    exact ⟨.inl rfl, (by repeat' (first | (with_reducible exact Below.refl _ _) | (with_reducible refine Below.drew ?_) | (with_reducible refine bo_drewN _ ?_) | (with_reducible refine bo_alloc ?_ _) | (refine bchain ?_ (by with_reducible assumption)) | (with_reducible refine Below.setCell ?_ ?_ _) | go_size))⟩
  have hR2 : left - ((d.nm.size : Int) + (d.tx.size : Int)) = left - d.nm.size - d.tx.size := by omega
  rw [hR2]
  clear hR2
  go_enter Tryz.func60, Tryz.ntmps60
  go_wp2_with fail
  go_ret
  exact ⟨.inr ⟨rfl, by omega⟩, (by repeat' (first | (with_reducible exact Below.refl _ _) | (with_reducible refine Below.drew ?_) | (with_reducible refine bo_drewN _ ?_) | (with_reducible refine bo_alloc ?_ _) | (refine bchain ?_ (by with_reducible assumption)) | (with_reducible refine Below.setCell ?_ ?_ _) | go_size))⟩
set_option maxHeartbeats 2000000 in
theorem toFlightS (L : List FgD) (v : Value) (w : World) (hr : RdR flightS w v L) (hz : szFlightS L ≤ 1048576) :
    Calls Tryz.prog 32 #[v] w fun x w' => ∃ v', x = .returned v' ∧ OwX flightS w' w.heap.size w'.heap.size v' L ∧ Below w.heap.size w w' := by
  have hL : L.length ≤ 1048576 := by have := szFlightS_len L; omega
  obtain ⟨M, hM, hmk⟩ := make_row 33 73 (.agg #[.int .i64 0, .int .i64 0, .string ⟨#[]⟩, .string ⟨#[]⟩]) 4 48 Tryz.underlying33 (by kernel_rfl) rfl (by decide) (by decide) L.length hL
  have hst := filling_start (E := flightS) (owns_made w M 73 4 L.length hM hL)
  obtain ⟨ad, cap, rfl, h1, h2⟩ := hr.form
  have HR := hide hr
  clear hr
  have HZ := hide hz
  clear hz
  go_enter Tryz.func32, Tryz.ntmps32
  go_wp2_with fail
  go_loopw [4] (fun i wr => ∃ (k : Nat), i = .int .i64 k ∧ k ≤ L.length ∧ Hid (Filling flightS w wr L k)) (fun i _ => L.length - (intOf i).toNat)
  case atStart => exact ⟨0, rfl, Nat.zero_le _, hst⟩
  case round =>
    clear hst hmk
    obtain ⟨k, rfl, hk, HFI⟩ := hrel
    by_cases hlt : k < L.length
    · have hb : Below w.heap.size w wr := HFI.out.2.1
      have hrk := (HR.out.new hb).at k hlt
      have hmem : L[k] ∈ L := List.getElem_mem hlt
      obtain ⟨d, hd⟩ : ∃ d, d = L[k] := ⟨_, rfl⟩
      rw [← hd] at hrk hmem
      obtain ⟨b, o, cs, rfl, hbw, hrd, hc⟩ := hrk
      obtain ⟨rfl, hf0, hf1⟩ := hrd
      have c0 : wr.cell? ⟨b, o + k * 4, none⟩ = some (.int .i64 d.seat) := hc 0 _ rfl
      have c1 : wr.cell? ⟨b, o + k * 4 + 1, none⟩ = some (.int .i64 d.id) := hc 1 _ rfl
      have c2 : wr.cell? ⟨b, o + k * 4 + 2, none⟩ = some (.string d.nm) := hc 2 _ rfl
      have c3 : wr.cell? ⟨b, o + k * 4 + 3, none⟩ = some (.string d.tx) := hc 3 _ rfl
      clear hc
      have HD := hide hd
      clear hd hmem
      go_wp2_with fail
      refine (toFlight1 d _).mono ?_; rintro x w1 ⟨rfl, hb1⟩
      have hoe : OwE flightS w1 wr.heap.size w1.heap.size [.int .i64 d.seat, .int .i64 d.id, .string d.nm, .string d.tx] d := ⟨[], ⟨rfl, hf0, hf1, rfl⟩, by simp, fun b hb => by cases hb⟩
      rw [HD.out] at hoe
      obtain ⟨hcell, hfr, hlw, hfi⟩ := filling_step HFI.out hlt hb1 hoe
      rw [← HD.out] at hfi
      obtain ⟨x0, hx0⟩ : ∃ u, w1.cell? ⟨w.heap.size, k * 4, none⟩ = some u := hcell 0 (by decide)
      obtain ⟨x1, hx1⟩ : ∃ u, w1.cell? ⟨w.heap.size, k * 4 + 1, none⟩ = some u := hcell 1 (by decide)
      obtain ⟨x2, hx2⟩ : ∃ u, w1.cell? ⟨w.heap.size, k * 4 + 2, none⟩ = some u := hcell 2 (by decide)
      obtain ⟨x3, hx3⟩ : ∃ u, w1.cell? ⟨w.heap.size, k * 4 + 3, none⟩ = some u := hcell 3 (by decide)
      have e6 := hfr
      have HF2 := hide hfi
      clear hcell hfr hfi hoe
      go_wp2_with fail
      go_roundw
      case rel => exact ⟨k + 1, by go_num, by omega, HF2.out⟩
      case measure => simp [intOf]; omega
    · obtain rfl : k = L.length := by omega
      obtain ⟨hox, hbx⟩ := filling_end HFI.out
      have HX := hide hox
      clear hox
      go_wp2_with fail
      go_ret
      exact ⟨_, rfl, HX.out, hbx⟩
set_option maxHeartbeats 1000000 in
theorem eqFlightS (L : List FgD) (v v' : Value) (w : World) (hr0 : RdR flightS w v L) (hr1 : RdR flightS w v' L) :
    Calls Tryz.prog 36 #[v, v'] w fun x w' => x = .returned (.bool true) ∧ Below w.heap.size w w' := by
  obtain ⟨ad, cap, rfl, h1, h2⟩ := hr0.form
  obtain ⟨ad', cap', rfl, h1', h2'⟩ := hr1.form
  have HR := hide hr0; have HR' := hide hr1
  clear hr0 hr1
  go_enter Tryz.func36, Tryz.ntmps36
  go_wp2_with fail
  go_loopw [5] (fun i wr => ∃ (k : Nat), i = .int .i64 k ∧ k ≤ L.length ∧ Below w.heap.size w wr) (fun i _ => L.length - (intOf i).toNat)
  case atStart => exact ⟨0, rfl, Nat.zero_le _, Below.refl _ _⟩
  case round =>
    obtain ⟨k, rfl, hk, hb⟩ := hrel
    by_cases hlt : k < L.length
    · have hrk := (HR.out.new hb).at k hlt
      have hrk' := (HR'.out.new hb).at k hlt
      obtain ⟨d, hd⟩ : ∃ d, d = L[k] := ⟨_, rfl⟩
      rw [← hd] at hrk hrk'
      clear hd
      obtain ⟨b, o, cs, rfl, hb1, hrd, hc⟩ := hrk
      obtain ⟨b', o', cs', rfl, hb2, hrd', hc'⟩ := hrk'
      obtain ⟨rfl, hf0, hf1⟩ := hrd
      obtain ⟨rfl, _, _⟩ := hrd'
      have c0 : wr.cell? ⟨b, o + k * 4, none⟩ = some (.int .i64 d.seat) := hc 0 _ rfl
      have c1 : wr.cell? ⟨b, o + k * 4 + 1, none⟩ = some (.int .i64 d.id) := hc 1 _ rfl
      have c2 : wr.cell? ⟨b, o + k * 4 + 2, none⟩ = some (.string d.nm) := hc 2 _ rfl
      have c3 : wr.cell? ⟨b, o + k * 4 + 3, none⟩ = some (.string d.tx) := hc 3 _ rfl
      have d0 : wr.cell? ⟨b', o' + k * 4, none⟩ = some (.int .i64 d.seat) := hc' 0 _ rfl
      have d1 : wr.cell? ⟨b', o' + k * 4 + 1, none⟩ = some (.int .i64 d.id) := hc' 1 _ rfl
      have d2 : wr.cell? ⟨b', o' + k * 4 + 2, none⟩ = some (.string d.nm) := hc' 2 _ rfl
      have d3 : wr.cell? ⟨b', o' + k * 4 + 3, none⟩ = some (.string d.tx) := hc' 3 _ rfl
      clear hc hc'
      go_wp2_with fail
      have qa0 : ∀ y : Later wr, y.w.cell? ⟨b, o + k * 4, none⟩ = some (.int .i64 d.seat) := fun y => (y.b.cell (p := ⟨b, o + k * 4, none⟩) hb1).trans c0
      have qa1 : ∀ y : Later wr, y.w.cell? ⟨b, o + k * 4 + 1, none⟩ = some (.int .i64 d.id) := fun y => (y.b.cell (p := ⟨b, o + k * 4 + 1, none⟩) hb1).trans c1
      have qa2 : ∀ y : Later wr, y.w.cell? ⟨b, o + k * 4 + 2, none⟩ = some (.string d.nm) := fun y => (y.b.cell (p := ⟨b, o + k * 4 + 2, none⟩) hb1).trans c2
      have qa3 : ∀ y : Later wr, y.w.cell? ⟨b, o + k * 4 + 3, none⟩ = some (.string d.tx) := fun y => (y.b.cell (p := ⟨b, o + k * 4 + 3, none⟩) hb1).trans c3
      have qb0 : ∀ y : Later wr, y.w.cell? ⟨b', o' + k * 4, none⟩ = some (.int .i64 d.seat) := fun y => (y.b.cell (p := ⟨b', o' + k * 4, none⟩) hb2).trans d0
      have qb1 : ∀ y : Later wr, y.w.cell? ⟨b', o' + k * 4 + 1, none⟩ = some (.int .i64 d.id) := fun y => (y.b.cell (p := ⟨b', o' + k * 4 + 1, none⟩) hb2).trans d1
      have qb2 : ∀ y : Later wr, y.w.cell? ⟨b', o' + k * 4 + 2, none⟩ = some (.string d.nm) := fun y => (y.b.cell (p := ⟨b', o' + k * 4 + 2, none⟩) hb2).trans d2
      have qb3 : ∀ y : Later wr, y.w.cell? ⟨b', o' + k * 4 + 3, none⟩ = some (.string d.tx) := fun y => (y.b.cell (p := ⟨b', o' + k * 4 + 3, none⟩) hb2).trans d3
      clear c0 c1 c2 c3 d0 d1 d2 d3
      have hne : Nonempty (Later wr) := ⟨⟨wr, Below.refl _ _⟩⟩; refine region_later (by kernel_rfl) (by kernel_rfl) ?_
      repeat (go_big_quiet_step (fail))
      go_big_quiet_want; go_big_quiet_op
      refine ⟨.bool true, fun y => later_calls (x := y) (eqFlight1 d y.w), ?_⟩
      go_big_quiet_on
      repeat (go_big_quiet_step (fail))
      refine wpQuiet_nil ?_; intro _ hw'; obtain ⟨y, hw''⟩ := hw'; subst hw''; have hby := y.b
      go_wp2_with fail
      go_roundw
      case rel => exact ⟨k + 1, by go_num, by omega, bchain hb hby⟩
      case measure => simp [intOf]; omega
    · go_wp2_with fail
      go_ret
      exact ⟨rfl, hb⟩
set_option maxHeartbeats 1000000 in
theorem szFlightS1 (L : List FgD) (v : Value) (left : Int) (w : World) (hr : RdR flightS w v L) (h0 : 0 ≤ left) (h1 : left ≤ 1048576) :
    Calls Tryz.prog 23 #[v, .int .i64 left] w fun x w' => (x = .returned (.int .i64 (-1)) ∨ (x = .returned (.int .i64 (left - szFlightS L)) ∧ 0 ≤ left - szFlightS L)) ∧ Below w.heap.size w w' := by
  obtain ⟨ad, cap, rfl, h2, h3⟩ := hr.form
  have HR := hide hr
  clear hr
  unfold szFlightS
  by_cases h : left - L.length < 0
  · go_enter Tryz.func23, Tryz.ntmps23
    go_wp2
    go_ret
    exact ⟨.inl rfl, Below.refl _ _⟩
  · go_enter Tryz.func23, Tryz.ntmps23
    go_wp2_with fail
    go_loopw [1, 5] (fun l i wr => ∃ (k : Nat), i = .int .i64 k ∧ k ≤ L.length ∧ l = .int .i64 (left - L.length - sumLs szFlight (L.take k)) ∧ 0 ≤ left - L.length - sumLs szFlight (L.take k) ∧ Below w.heap.size w wr) (fun _ i _ => L.length - (intOf i).toNat)
    case atStart => exact ⟨0, rfl, Nat.zero_le _, by simp [sumLs], by simp [sumLs]; omega, Below.refl _ _⟩
    case round =>
      obtain ⟨k, rfl, hk, rfl, hk0, hb⟩ := hrel
      by_cases hlt : k < L.length
      · have hrk := (HR.out.new hb).at k hlt
        have hsn := sum_take szFlight L k hlt
        have hnn := sum_nn szFlight szFlight_nn (L.take k)
        obtain ⟨d, hd⟩ : ∃ d, d = L[k] := ⟨_, rfl⟩
        rw [← hd] at hrk hsn
        clear hd
        obtain ⟨b, o, cs, rfl, hb1, hrd, hc⟩ := hrk
        obtain ⟨rfl, hf0, hf1⟩ := hrd
        have c0 : wr.cell? ⟨b, o + k * 4, none⟩ = some (.int .i64 d.seat) := hc 0 _ rfl
        have c1 : wr.cell? ⟨b, o + k * 4 + 1, none⟩ = some (.int .i64 d.id) := hc 1 _ rfl
        have c2 : wr.cell? ⟨b, o + k * 4 + 2, none⟩ = some (.string d.nm) := hc 2 _ rfl
        have c3 : wr.cell? ⟨b, o + k * 4 + 3, none⟩ = some (.string d.tx) := hc 3 _ rfl
        clear hc
        generalize hq : sumLs szFlight (List.take k L) = q at *
        generalize hq' : sumLs szFlight (List.take (k + 1) L) = q' at *
        have HQ := hide hq'
        have HSN := hide hsn
        clear hq hq' hsn
        go_wp2_with fail
        refine (szFlight1 d  _ _  hf0 hf1 (by omega) (by omega)).mono ?_
        rintro x w1 ⟨rfl | ⟨rfl, hp⟩, hb1⟩
        · go_wp2_with fail
          go_ret
          exact ⟨.inl rfl, bchain hb hb1⟩
        · have hp' : ¬ left - L.length - q - szFlight d < 0 := by omega
          generalize hX : left - L.length - q - szFlight d = X at *
          have HX := hide hX
          clear hX
          go_wp2_with fail
          go_roundw
          case rel => exact ⟨k + 1, by go_num, by omega, int_eq (by have := HX.out; have := HQ.out; have := HSN.out; omega), by have := HX.out; have := HQ.out; have := HSN.out; omega, bchain hb hb1⟩
          case measure => simp [intOf]; omega
      · obtain rfl : k = L.length := by omega
        rw [List.take_length] at *
        obtain ⟨X, hX⟩ : ∃ X, left - L.length - sumLs szFlight L = X := ⟨_, rfl⟩
        rw [hX] at hk0 ⊢
        have HX := hide hX
        clear hX
        go_wp2_with fail
        go_ret
        have e : left - (L.length + sumLs szFlight L) = X := by have := HX.out; omega
        rw [e]
        have := szFlight_nn
        exact ⟨.inr ⟨rfl, hk0⟩, hb⟩
open Go.ChangeShapes Go.WideShapes Go.ChangeAt Go.Joins in
theorem open_cellsFlight {H : Type} {enc : TypeId × Value → H} {W : World} {base : Nat} {spare : Nat → Bool} {held : Bool} {fuel : Nat} {cs : List Value} {x : DataW H × List MemPlace} (h : DataW.trod enc Tryz.prog W base spare held fuel 116 cs = some x) : ∃ d : FgD, flightS.rd W cs d := by
  obtain ⟨c0, c1, c2, c3, y0, y1, y2, y3, n, rfl, h0, h1, h2, h3⟩ := scells4 Tryz.underlying116 (by kernel_rfl) (by kernel_rfl) h
  obtain ⟨i0, e0, _⟩ := DataW.trod_int Tryz.underlying2 h0
  simp only [List.cons.injEq, and_true] at e0
  subst e0
  obtain ⟨i1, e1, _⟩ := DataW.trod_int Tryz.underlying2 h1
  simp only [List.cons.injEq, and_true] at e1
  subst e1
  obtain ⟨i2, e2, _, hs2⟩ := DataW.trod_string Tryz.underlying9 h2
  simp only [List.cons.injEq, and_true] at e2
  subst e2
  obtain ⟨i3, e3, _, hs3⟩ := DataW.trod_string Tryz.underlying9 h3
  simp only [List.cons.injEq, and_true] at e3
  subst e3
  exact ⟨⟨i0, i1, i2, i3⟩, rfl, by unfold maxLen at hs2; simp only; omega, by unfold maxLen at hs3; simp only; omega⟩
end Go.Proofs.YtkhclhnejnpkeaaGreat
/- Texts in rows, as a make of data: counted, copied, held against each other, marked, read again. -/
namespace Go.Proofs.YtkhclhnejnpkeaaGreat
open Go.RowKit
set_option maxRecDepth 100000
set_option linter.unusedSimpArgs false
set_option linter.unusedVariables false
def strS : Shp ByteArray where
  size := 1
  ty := 9
  rd := fun _ cs d => cs = [.string d] ∧ d.size ≤ 9223372036854775807
  own := fun _ cs d bs => cs = [.string d] ∧ d.size ≤ 9223372036854775807 ∧ bs = []
  pos := by decide
  rd_len := fun h => by obtain ⟨rfl, _⟩ := h; rfl
  rd_one := fun h u hu => by obtain ⟨rfl, _⟩ := h; simp only [List.mem_cons, List.not_mem_nil, or_false] at hu; rcases hu with rfl; rfl
  rd_new := fun h _ => h
  own_rd := fun h => ⟨h.1, h.2.1⟩
  own_keep := fun h _ _ => h
  own_lt := fun h b hb => by rw [h.2.2] at hb; cases hb
theorem sv_flat (L : List ByteArray) : L.flatMap (fun d => [Value.string d]) = L.map Value.string := by induction L <;> simp_all
theorem rd_strs {w : World} {v : Value} {L : List ByteArray} (h : RdR strS w v L) : Reads w v L.length 1 (L.map Value.string) := by
  have := RdR.flat (E := strS) (f := fun d => [Value.string d]) (fun _ _ _ h => h.1) h
  rw [sv_flat] at this
  exact this
theorem rd_small {w : World} {v : Value} {L : List ByteArray} (h : RdR strS w v L) : ∀ x ∈ L, x.size ≤ 9223372036854775807 := by
  obtain ⟨ts, rfl, _, hE⟩ := h
  intro x hx
  obtain ⟨t, ht, rfl⟩ := List.mem_map.1 hx
  exact (hE t ht).2
theorem strs_at {w : World} {ad : Option Addr} {n cap k : Nat} {L : List ByteArray} (h : RdR strS w (.slice ad n cap) L) (hk : k < L.length) : ∃ b o, ad = some ⟨b, o, none⟩ ∧ b < w.heap.size ∧ w.cell? ⟨b, o + k, none⟩ = some (.string L[k]) ∧ L[k].size ≤ 9223372036854775807 := by
  obtain ⟨b, o, cs, e, hb, hrd, hc⟩ := h.at k hk
  obtain ⟨rfl, hs⟩ := hrd
  have h0 := hc 0 _ rfl
  have e1 : o + k * strS.size + 0 = o + k := by show o + k * 1 + 0 = o + k; omega
  rw [e1] at h0
  exact ⟨b, o, e, hb, h0, hs⟩
def szStringS (L : List ByteArray) : Int := L.length + sumLs (fun d => (d.size : Int)) L
theorem szStr_nn (d : ByteArray) : 0 ≤ ((d.size : Int)) := by omega
theorem szStringS_nn (L : List ByteArray) : 0 ≤ szStringS L := by unfold szStringS; have := sum_nn (fun d : ByteArray => (d.size : Int)) szStr_nn L; omega
theorem szStringS_len (L : List ByteArray) : (L.length : Int) ≤ szStringS L := by unfold szStringS; have := sum_nn (fun d : ByteArray => (d.size : Int)) szStr_nn L; omega
set_option maxHeartbeats 1000000 in
theorem toStringS (L : List ByteArray) (v : Value) (w : World) (hr : RdR strS w v L) (hz : szStringS L ≤ 1048576) :
    Calls Tryz.prog 79 #[v] w fun x w' => ∃ v', x = .returned v' ∧ OwX strS w' w.heap.size w'.heap.size v' L ∧ Below w.heap.size w w' := by
  have hL : L.length ≤ 1048576 := by have := szStringS_len L; omega
  obtain ⟨M, hM, hmk⟩ := make_row 82 9 (.string ⟨#[]⟩) 1 16 Tryz.underlying82 (by kernel_rfl) rfl (by decide) (by decide) L.length hL
  have hst := filling_start (E := strS) (owns_made w M 9 1 L.length hM hL)
  obtain ⟨ad, cap, rfl, h1, h2⟩ := hr.form
  have HR := hide hr
  clear hr hz
  go_enter Tryz.func79, Tryz.ntmps79
  go_wp2_with fail
  go_loopw [4] (fun i wr => ∃ (k : Nat), i = .int .i64 k ∧ k ≤ L.length ∧ Hid (Filling strS w wr L k)) (fun i _ => L.length - (intOf i).toNat)
  case atStart => exact ⟨0, rfl, Nat.zero_le _, hst⟩
  case round =>
    clear hst hmk
    obtain ⟨k, rfl, hk, HFI⟩ := hrel
    by_cases hlt : k < L.length
    · have hb : Below w.heap.size w wr := HFI.out.2.1
      obtain ⟨b, o, rfl, hbw, cx, hsx⟩ := strs_at (HR.out.new hb) hlt
      obtain ⟨hcell, hfz, hgl, HF2⟩ := filling_step HFI.out hlt (Below.refl _ _) (cs := [.string L[k]]) ⟨[], ⟨rfl, hsx, rfl⟩, by simp, by simp⟩
      obtain ⟨u0, hu0⟩ := hcell 0 (by decide)
      have hu0' : wr.cell? ⟨w.heap.size, k, none⟩ = some u0 := by simpa [strS] using hu0
      have HF3 := hide HF2
      change Hid (Filling strS w (wr.setCell ⟨w.heap.size, k * 1, none⟩ (.string L[k])) L (k + 1)) at HF3
      rw [Nat.mul_one] at HF3
      have hfk := hfz k
      generalize L[k] = x at *
      clear hcell hfz hu0 HF2
      go_wp2_with fail
      refine ⟨⟨k + 1, by go_num, by omega, HF3⟩, by simp [intOf]; omega⟩
    · obtain rfl : k = L.length := by omega
      obtain ⟨ho, hb⟩ := filling_end HFI.out
      go_wp2_with fail
      go_ret
      exact ⟨_, rfl, ho, hb⟩
set_option maxHeartbeats 1000000 in
theorem eqStringS (L : List ByteArray) (v v' : Value) (w : World) (hr0 : RdR strS w v L) (hr1 : RdR strS w v' L) :
    Calls Tryz.prog 86 #[v, v'] w fun x w' => x = .returned (.bool true) ∧ Below w.heap.size w w' := by
  obtain ⟨ad, cap, rfl, h1, h2⟩ := hr0.form
  obtain ⟨ad', cap', rfl, h1', h2'⟩ := hr1.form
  have HR := hide hr0
  have HR' := hide hr1
  clear hr0 hr1
  go_enter Tryz.func86, Tryz.ntmps86
  go_wp2_with fail
  go_loopw [5] (fun i wr => ∃ (k : Nat), i = .int .i64 k ∧ k ≤ L.length ∧ Below w.heap.size w wr) (fun i _ => L.length - (intOf i).toNat)
  case atStart => exact ⟨0, rfl, Nat.zero_le _, Below.refl _ _⟩
  case round =>
    obtain ⟨k, rfl, hk, hb⟩ := hrel
    by_cases hlt : k < L.length
    · obtain ⟨b, o, rfl, hbw, cx, hsx⟩ := strs_at (HR.out.new hb) hlt
      obtain ⟨b', o', rfl, hbw', cx', _⟩ := strs_at (HR'.out.new hb) hlt
      generalize L[k] = x at *
      go_wp2_with fail
      go_quiet (fail)
      go_wp2_with fail
      go_roundw
      case rel => exact ⟨k + 1, by go_num, by omega, bchain hb (bo_drewN _ (Below.refl _ _))⟩
      case measure => simp [intOf]; omega
    · go_wp2_with fail
      go_ret
      exact ⟨rfl, hb⟩
set_option maxHeartbeats 1000000 in
theorem szStringS1 (L : List ByteArray) (v : Value) (left : Int) (w : World) (hr : RdR strS w v L) (h0 : 0 ≤ left) (h1 : left ≤ 1048576) :
    Calls Tryz.prog 78 #[v, .int .i64 left] w fun x w' => (x = .returned (.int .i64 (-1)) ∨ (x = .returned (.int .i64 (left - szStringS L)) ∧ 0 ≤ left - szStringS L)) ∧ Below w.heap.size w w' := by
  obtain ⟨ad, cap, rfl, h2, h3⟩ := hr.form
  have HR := hide hr
  clear hr
  unfold szStringS
  by_cases h : left - L.length < 0
  · go_enter Tryz.func78, Tryz.ntmps78
    go_wp2
    go_ret
    exact ⟨.inl rfl, Below.refl _ _⟩
  · go_enter Tryz.func78, Tryz.ntmps78
    go_wp2_with fail
    go_loop [1, 5] (fun l i => ∃ (k : Nat), i = .int .i64 k ∧ k ≤ L.length ∧ l = .int .i64 (left - L.length - sumLs (fun d => (d.size : Int)) (L.take k)) ∧ 0 ≤ left - L.length - sumLs (fun d => (d.size : Int)) (L.take k)) (fun _ i => L.length - (intOf i).toNat)
    case atStart => exact ⟨0, rfl, Nat.zero_le _, by simp [sumLs], by simp [sumLs]; omega⟩
    case round =>
      obtain ⟨k, rfl, hk, rfl, hk0⟩ := hrel
      by_cases hlt : k < L.length
      · obtain ⟨b, o, rfl, hbw, cx, hsx⟩ := strs_at HR.out hlt
        have hsn := sum_take (fun d : ByteArray => (d.size : Int)) L k hlt
        have hnn := sum_nn (fun d : ByteArray => (d.size : Int)) szStr_nn (L.take k)
        generalize hx : L[k] = x at *
        clear hx
        generalize hq : sumLs (fun d : ByteArray => (d.size : Int)) (List.take k L) = q at *
        generalize hq' : sumLs (fun d : ByteArray => (d.size : Int)) (List.take (k + 1) L) = q' at *
        have HQ := hide hq'
        have HSN : Hid (q' = q + x.size) := hsn
        clear hq hq' hsn
        by_cases hneg : left - L.length - q - x.size < 0
        · go_wp2_with fail
          go_ret
          exact ⟨.inl rfl, Below.refl _ _⟩
        · go_wp2_with fail
          go_round
          case rel => exact ⟨k + 1, by go_num, by omega, int_eq (by have := HQ.out; have := HSN.out; omega), by have := HQ.out; have := HSN.out; omega⟩
          case measure => simp [intOf]; omega
      · obtain rfl : k = L.length := by omega
        rw [List.take_length] at *
        obtain ⟨X, hX⟩ : ∃ X, left - L.length - sumLs (fun d : ByteArray => (d.size : Int)) L = X := ⟨_, rfl⟩
        rw [hX] at hk0 ⊢
        have HX := hide hX
        clear hX
        go_wp2_with fail
        go_ret
        have e : left - (L.length + sumLs (fun d : ByteArray => (d.size : Int)) L) = X := by have := HX.out; omega
        rw [e]
        exact ⟨.inr ⟨rfl, by first | exact hk0 | omega⟩, Below.refl _ _⟩
open Go.ChangeShapes Go.WideShapes Go.ChangeAt Go.Joins in
theorem open_cellsStr {H : Type} {enc : TypeId × Value → H} {W : World} {base : Nat} {spare : Nat → Bool} {held : Bool} {fuel : Nat} {cs : List Value} {x : DataW H × List MemPlace} (h : DataW.trod enc Tryz.prog W base spare held fuel 9 cs = some x) : ∃ d : ByteArray, strS.rd W cs d := by
  obtain ⟨s, rfl, _, ws⟩ := DataW.trod_string Tryz.underlying9 h
  exact ⟨s, rfl, by unfold maxLen at ws; omega⟩
end Go.Proofs.YtkhclhnejnpkeaaGreat
/- Chapter 14's model: times, names, the mac, a number's text. -/
namespace Go.Proofs.YtkhclhnejnpkeaaGreat
open Go.RowKit
set_option maxRecDepth 100000
set_option linter.unusedSimpArgs false
set_option linter.unusedVariables false
theorem specTime14 (t : Int) (w : World) : Calls Tryz.prog 24 #[.int .i64 t] w fun e w' => e = .returned (.bool (timeB t)) ∧ w' = w := by
  go_enter Tryz.func24, Tryz.ntmps24
  go_wp2_with fail
  refine (specIn _ _ _ _).mono ?_; rintro e w1 ⟨rfl, hsame⟩; obtain rfl := hsame.symm; clear hsame
  go_wp2_with fail
  go_ret
  exact ⟨rfl, rfl⟩
theorem nameB_no {s : ByteArray} {k : Nat} (hk : k < s.size) (h : ¬ (97 ≤ (s[k].toNat : Int) ∧ (s[k].toNat : Int) ≤ 122)) : nameB s = false := by
  unfold nameB
  have : (bys s).all (fun b => inB b 97 122) = false := by
    refine List.all_eq_false.2 ⟨(s[k].toNat : Int), ?_, ?_⟩
    · have := bys_drop s k hk
      exact List.mem_of_mem_drop (by rw [this]; simp)
    · rw [inB_not h]; simp
  rw [this]; rfl
theorem nameB_yes {s : ByteArray} (h : ∀ j (hj : j < s.size), 97 ≤ (s[j].toNat : Int) ∧ (s[j].toNat : Int) ≤ 122) : nameB s = inB (s.size : Int) 1 20 := by
  unfold nameB
  have : (bys s).all (fun b => inB b 97 122) = true := by
    refine List.all_eq_true.2 fun x hx => ?_
    obtain ⟨j, hj, rfl⟩ := List.mem_iff_getElem.1 hx
    have hj' : j < s.size := by rw [bys_len] at hj; exact hj
    have e : (bys s)[j] = (s[j].toNat : Int) := by simp [bys]; rfl
    rw [e]
    exact inB_of (h j hj').1 (h j hj').2
  rw [this]; simp
set_option maxHeartbeats 1000000 in
theorem specName (s : ByteArray) (w : World) (hs : s.size ≤ maxLen) : Calls Tryz.prog 61 #[.string s] w fun x w' => x = .returned (.bool (nameB s)) ∧ Below w.heap.size w w' := by
  unfold maxLen at hs
  obtain ⟨A, hA⟩ : ∃ A, nameB s = A := ⟨_, rfl⟩
  rw [hA]
  have HA := hide hA
  clear hA
  go_enter Tryz.func61, Tryz.ntmps61
  go_wp2_with fail
  go_loop [3] (fun i => ∃ k : Nat, i = .int .i64 k ∧ k ≤ s.size ∧ Hid (∀ j (hj : j < s.size), j < k → 97 ≤ (s[j].toNat : Int) ∧ (s[j].toNat : Int) ≤ 122)) (fun i => s.size - (intOf i).toNat)
  case atStart => exact ⟨0, rfl, Nat.zero_le _, fun j _ hj => absurd hj (Nat.not_lt_zero _)⟩
  case round =>
    obtain ⟨k, rfl, hk, HN⟩ := hrel
    by_cases hlt : k < s.size
    · have hltI : (k : Int) < s.size := by omega
      obtain ⟨b, hb⟩ : ∃ b, (s[k].toNat : Int) = b := ⟨_, rfl⟩
      have hb0 : 0 ≤ b ∧ b ≤ 255 := by have := s[k].toNat_lt; omega
      have HB := hide hb
      by_cases h1 : b < 97
      · have HF : Hid (A = false) := by show A = false; rw [← HA.out]; exact nameB_no hlt (by rw [hb]; omega)
        go_wp2_with fail
        go_ret
        exact ⟨by rw [HF.out]; rfl, (by repeat' (first | (with_reducible exact Below.refl _ _) | (with_reducible refine Below.drew ?_) | (with_reducible refine bo_drewN _ ?_) | (with_reducible refine bo_alloc ?_ _) | (refine bchain ?_ (by with_reducible assumption)) | (with_reducible refine Below.setCell ?_ ?_ _) | go_size))⟩
      · by_cases h2 : 122 < b
        · have HF : Hid (A = false) := by show A = false; rw [← HA.out]; exact nameB_no hlt (by rw [hb]; omega)
          go_wp2_with fail
          go_ret
          exact ⟨by rw [HF.out]; rfl, (by repeat' (first | (with_reducible exact Below.refl _ _) | (with_reducible refine Below.drew ?_) | (with_reducible refine bo_drewN _ ?_) | (with_reducible refine bo_alloc ?_ _) | (refine bchain ?_ (by with_reducible assumption)) | (with_reducible refine Below.setCell ?_ ?_ _) | go_size))⟩
        · have HN2 : Hid (∀ j (hj : j < s.size), j < k + 1 → 97 ≤ (s[j].toNat : Int) ∧ (s[j].toNat : Int) ≤ 122) := fun j hj hjk => by
            by_cases e : j = k
            · subst e; rw [HB.out]; omega
            · exact HN.out j hj (by omega)
          go_wp2_with fail
          go_round
          case rel => exact ⟨k + 1, by go_num, by omega, HN2⟩
          case measure => simp [intOf]; omega
    · obtain rfl : k = s.size := by omega
      have HF : Hid (A = inB (s.size : Int) 1 20) := by show A = _; rw [← HA.out]; exact nameB_yes (fun j hj => HN.out j hj hj)
      by_cases h1 : (1 : Int) ≤ s.size
      · by_cases h2 : (s.size : Int) ≤ 20
        · have e : inB (s.size : Int) 1 20 = true := inB_of h1 h2
          go_wp2_with fail
          go_ret
          exact ⟨by rw [HF.out, e]; rfl, (by repeat' (first | (with_reducible exact Below.refl _ _) | (with_reducible refine Below.drew ?_) | (with_reducible refine bo_drewN _ ?_) | (with_reducible refine bo_alloc ?_ _) | (refine bchain ?_ (by with_reducible assumption)) | (with_reducible refine Below.setCell ?_ ?_ _) | go_size))⟩
        · have e : inB (s.size : Int) 1 20 = false := inB_not (by omega)
          go_wp2_with fail
          go_ret
          exact ⟨by rw [HF.out, e]; rfl, (by repeat' (first | (with_reducible exact Below.refl _ _) | (with_reducible refine Below.drew ?_) | (with_reducible refine bo_drewN _ ?_) | (with_reducible refine bo_alloc ?_ _) | (refine bchain ?_ (by with_reducible assumption)) | (with_reducible refine Below.setCell ?_ ?_ _) | go_size))⟩
      · have e : inB (s.size : Int) 1 20 = false := inB_not (by omega)
        go_wp2_with fail
        go_ret
        exact ⟨by rw [HF.out, e]; rfl, (by repeat' (first | (with_reducible exact Below.refl _ _) | (with_reducible refine Below.drew ?_) | (with_reducible refine bo_drewN _ ?_) | (with_reducible refine bo_alloc ?_ _) | (refine bchain ?_ (by with_reducible assumption)) | (with_reducible refine Below.setCell ?_ ?_ _) | go_size))⟩
end Go.Proofs.YtkhclhnejnpkeaaGreat
/- A row that a slice literal makes, and rows of int64 behind an append. -/
namespace Go.Proofs.YtkhclhnejnpkeaaGreat
open Go.RowKit
set_option maxRecDepth 100000
set_option linter.unusedSimpArgs false
set_option linter.unusedVariables false
theorem owns_lit (w : World) (e : TypeId) (size n : Nat) (xs : Array Value) (hx : xs.size = n * size) (hn : n ≤ 1000000) : (w.alloc (.cells xs e)).ownsRow w.heap.size e size (.slice (some ⟨w.heap.size, 0, none⟩) n n) n xs.toList :=
  ⟨by simp [hx], .inr ⟨w.heap.size, n, xs, rfl, Nat.le_refl _, heap_alloc_last w _, Nat.le_refl _, by unfold maxLen; omega, hx, by rw [List.take_of_length_le (by simp [hx])]⟩⟩
end Go.Proofs.YtkhclhnejnpkeaaGreat
