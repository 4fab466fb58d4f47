/- Several small texts of one level, one behind the other. -/
import Derived.Test.YtkhclhnejnpkeaaGreatQNgG4
import Derived.Test.YtkhclhnejnpkeaaGreatQNgG2
import Derived.Test.YtkhclhnejnpkeaaGreatQNgBase
import Derived.Handy
import Derived.Lib.SmallJoins
import Derived.Lib.EndianBits
import Derived.Test.YtkhclhnejnpkeaaGreatQNgG3
import Derived.RangeFuncNested
import Derived.RangeFuncBound
import Derived.RangeFuncCalls
import Derived.RangeFuncLeaves
import Derived.Shelf.Abstract
import Derived.Shelf.RegionOpen
import Derived.WalkKit
import Derived.OwnWalkIn
import Derived.TacticsInMore
import Derived.LoopNIn
import Derived.LoopIn
import Derived.Maps.AppendAt
import Derived.RangeFuncBox
import Derived.Laws.AppendOwn
import Derived.Laws.IdiomStrings
import Derived.Lib.BufferRead
import Derived.Deep.Cut
import Derived.Deep.DeepCutAuto
import Derived.Deep.WholeRow
import Derived.Laws.CopyRow
/- Entry in memory: its datum, its make; counted, copied, held against each other, marked, read again (by gen_shape.py). -/
namespace Go.Proofs.YtkhclhnejnpkeaaGreat
open Go.RowKit
set_option maxRecDepth 100000
set_option linter.unusedSimpArgs false
set_option linter.unusedVariables false

/-- What a Entry holds. -/
structure EntryD where
  id : Int
  state : Int
def EntryD.cs (d : EntryD) : List Value := [.int .i64 d.id, .int .i64 d.state]
def entryS : Shp EntryD where
  size := 2
  ty := 127
  rd := fun _ cs d => cs = d.cs
  own := fun _ cs d bs => cs = d.cs ∧ bs = []
  pos := by decide
  rd_len := fun h => by subst h; rfl
  rd_one := fun h u hu => by subst h; simp only [EntryD.cs, List.mem_cons, List.not_mem_nil, or_false] at hu; rcases hu with rfl | rfl <;> rfl
  rd_new := fun h _ => h
  own_rd := fun h => h.1
  own_keep := fun h _ _ => h
  own_lt := fun h b hb => by rw [h.2] at hb; cases hb
/-- The marks of one in a row, from k on; how many; and of a row. -/
def mkEntry (d : EntryD) (k : Nat) : EntryD := ⟨((k : Nat) : Int), ((k + 1 : Nat) : Int)⟩
def cntEntry (d : EntryD) : Nat := 1 + 1
def mkEntryS (L : List EntryD) (k : Nat) : List EntryD := mkLs mkEntry cntEntry L k
def cntEntryS (L : List EntryD) : Nat := cntLs cntEntry L
theorem eqEntry1 (d : EntryD) (w : World) : Calls Tryz.prog 159 #[.agg #[.int .i64 d.id, .int .i64 d.state], .agg #[.int .i64 d.id, .int .i64 d.state]] w fun x w' => x = .returned (.bool true) ∧ Below w.heap.size w w' := by
  go_enter Tryz.func159, Tryz.ntmps159
  go_wp2
  go_ret
  exact ⟨rfl, (by repeat' (first | (with_reducible exact Below.refl _ _) | (with_reducible refine Below.drew ?_) | (with_reducible refine bo_drewN _ ?_) | (with_reducible refine bo_alloc ?_ _) | (refine bchain ?_ (by with_reducible assumption)) | (with_reducible refine Below.setCell ?_ ?_ _) | go_size))⟩
set_option maxHeartbeats 1000000 in
theorem eqEntryS (L : List EntryD) (v v' : Value) (w : World) (hr0 : RdR entryS w v L) (hr1 : RdR entryS w v' L) :
    Calls Tryz.prog 137 #[v, v'] w fun x w' => x = .returned (.bool true) ∧ Below w.heap.size w w' := by
  obtain ⟨ad, cap, rfl, h1, h2⟩ := hr0.form
  obtain ⟨ad', cap', rfl, h1', h2'⟩ := hr1.form
  have HR := hide hr0; have HR' := hide hr1
  clear hr0 hr1
  go_enter Tryz.func137, Tryz.ntmps137
  go_wp2_with fail
  go_loopw [5] (fun i wr => ∃ (k : Nat), i = .int .i64 k ∧ k ≤ L.length ∧ Below w.heap.size w wr) (fun i _ => L.length - (intOf i).toNat)
  case atStart => exact ⟨0, rfl, Nat.zero_le _, Below.refl _ _⟩
  case round =>
    obtain ⟨k, rfl, hk, hb⟩ := hrel
    by_cases hlt : k < L.length
    · have hrk := (HR.out.new hb).at k hlt
      have hrk' := (HR'.out.new hb).at k hlt
      obtain ⟨d, hd⟩ : ∃ d, d = L[k] := ⟨_, rfl⟩
      rw [← hd] at hrk hrk'
      clear hd
      obtain ⟨b, o, cs, rfl, hb1, hrd, hc⟩ := hrk
      obtain ⟨b', o', cs', rfl, hb2, hrd', hc'⟩ := hrk'
      obtain rfl := hrd
      obtain rfl := hrd'
      have c0 : wr.cell? ⟨b, o + k * 2, none⟩ = some (.int .i64 d.id) := hc 0 _ rfl
      have c1 : wr.cell? ⟨b, o + k * 2 + 1, none⟩ = some (.int .i64 d.state) := hc 1 _ rfl
      have d0 : wr.cell? ⟨b', o' + k * 2, none⟩ = some (.int .i64 d.id) := hc' 0 _ rfl
      have d1 : wr.cell? ⟨b', o' + k * 2 + 1, none⟩ = some (.int .i64 d.state) := hc' 1 _ rfl
      clear hc hc'
      go_wp2_with fail
      have qa0 : ∀ y : Later wr, y.w.cell? ⟨b, o + k * 2, none⟩ = some (.int .i64 d.id) := fun y => (y.b.cell (p := ⟨b, o + k * 2, none⟩) hb1).trans c0
      have qa1 : ∀ y : Later wr, y.w.cell? ⟨b, o + k * 2 + 1, none⟩ = some (.int .i64 d.state) := fun y => (y.b.cell (p := ⟨b, o + k * 2 + 1, none⟩) hb1).trans c1
      have qb0 : ∀ y : Later wr, y.w.cell? ⟨b', o' + k * 2, none⟩ = some (.int .i64 d.id) := fun y => (y.b.cell (p := ⟨b', o' + k * 2, none⟩) hb2).trans d0
      have qb1 : ∀ y : Later wr, y.w.cell? ⟨b', o' + k * 2 + 1, none⟩ = some (.int .i64 d.state) := fun y => (y.b.cell (p := ⟨b', o' + k * 2 + 1, none⟩) hb2).trans d1
      clear c0 c1 d0 d1
      have hne : Nonempty (Later wr) := ⟨⟨wr, Below.refl _ _⟩⟩; refine region_later (by kernel_rfl) (by kernel_rfl) ?_
      repeat (go_big_quiet_step (fail))
      go_big_quiet_want; go_big_quiet_op
      refine ⟨.bool true, fun y => later_calls (x := y) (eqEntry1 d y.w), ?_⟩
      go_big_quiet_on
      repeat (go_big_quiet_step (fail))
      refine wpQuiet_nil ?_; intro _ hw'; obtain ⟨y, hw''⟩ := hw'; subst hw''; have hby := y.b
      go_wp2_with fail
      go_roundw
      case rel => exact ⟨k + 1, by go_num, by omega, bchain hb hby⟩
      case measure => simp [intOf]; omega
    · go_wp2_with fail
      go_ret
      exact ⟨rfl, hb⟩
set_option maxHeartbeats 2000000 in
theorem markEntryS (L : List EntryD) (k : Nat) (v : Value) (bs : List Nat) (w : World) (ho : OwR entryS w v L bs) (hn : bs.Nodup) (hk1 : k + cntEntryS L ≤ 1000000000) :
    Calls Tryz.prog 87 #[v, .int .i64 k] w fun x w' => x = .returned (.int .i64 ((k + cntEntryS L : Nat) : Int)) ∧ OwR entryS w' v (mkEntryS L k) bs ∧ TurnB bs w w' := by
  obtain ⟨ad, cap, rfl, h1, h2⟩ := ho.rd.form
  unfold cntEntryS mkEntryS at *
  have HO0 : Hid (OwR entryS w (.slice ad L.length cap) (mixLs mkEntry cntEntry L k 0) bs) := by show OwR _ _ _ _ _; rw [mix_zero]; exact ho
  clear ho
  have HN := hide hn
  clear hn
  go_enter Tryz.func87, Tryz.ntmps87
  go_wp2_with fail
  go_loopw [1, 5] (fun kk i wr => ∃ (j : Nat), i = .int .i64 j ∧ kk = .int .i64 ((k + cntLs cntEntry (L.take j) : Nat) : Int) ∧ j ≤ L.length ∧ Hid (OwR entryS wr (.slice ad L.length cap) (mixLs mkEntry cntEntry L k j) bs) ∧ Hid (TurnB bs w wr)) (fun _ i _ => L.length - (intOf i).toNat)
  case atStart => exact ⟨0, rfl, by simp [cntLs], Nat.zero_le _, HO0, TurnB.refl _ _⟩
  case round =>
    clear HO0
    obtain ⟨j, rfl, rfl, hj, HO, HT⟩ := hrel
    by_cases hlt : j < L.length
    · have hct := cnt_take cntEntry L j hlt
      have hcl := cnt_le cntEntry L (j + 1)
      have hst := mix_step mkEntry cntEntry L k j hlt
      have hat := mix_at mkEntry cntEntry L k j hlt (by rw [mix_len _ _ L k j hj]; exact hlt)
      have hml := mix_len mkEntry cntEntry L k j hj
      obtain ⟨d, hd⟩ : ∃ d, d = L[j] := ⟨_, rfl⟩
      rw [← hd] at hct hst hat
      obtain ⟨K, hK⟩ : ∃ K : Nat, K = k + cntLs cntEntry (L.take j) := ⟨_, rfl⟩
      rw [← hK] at hst ⊢
      obtain ⟨M, hM⟩ : ∃ M, M = mixLs mkEntry cntEntry L k j := ⟨_, rfl⟩
      rw [← hM] at hst hml
      have HO1 : Hid (OwR entryS wr (.slice ad L.length cap) M bs) := by show OwR _ _ _ _ _; rw [hM]; exact HO.out
      have HAT : Hid (∀ h : j < M.length, M[j] = d) := fun h => by subst hM; exact hat
      have hKc : K + cntEntry d = k + cntLs cntEntry (L.take (j + 1)) := by omega
      have HKC := hide hKc
      have hKb : K + cntEntry d ≤ 1000000000 := by omega
      unfold cntEntry at hKb
      have HST := hide hst
      have hjM : j < M.length := by omega
      clear hct hcl hst hat hM HO hd hK hKc
      obtain ⟨g1, c1, cs, bb, e1, hgl1, hgm, hgb, hsub, hbn, hown, hcell, hfr, _, hkeep, hsets⟩ := HO1.out.put HN.out j (by simpa using hjM)
      have eq1 : (M)[j]'(by simpa using hjM) = d := HAT.out hjM
      rw [eq1] at hown
      obtain ⟨rfl, hbb⟩ := hown
      simp only [Value.slice.injEq] at e1
      obtain ⟨rfl, -, -⟩ := e1
      have c1_0 : wr.cell? ⟨g1, j * 2, none⟩ = some (.int .i64 d.id) := hcell 0 _ rfl
      have c1_1 : wr.cell? ⟨g1, j * 2 + 1, none⟩ = some (.int .i64 d.state) := hcell 1 _ rfl
      have HO2 : Hid (OwR entryS (setsFrom wr g1 (j * entryS.size + ([] : List Value).length) [.int .i64 ((K : Nat) : Int), .int .i64 ((K + 1 : Nat) : Int)]) _ ((M).set j ⟨((K : Nat) : Int), ((K + 1 : Nat) : Int)⟩) bs) := hsets [] [.int .i64 d.id, .int .i64 d.state] [] [.int .i64 ((K : Nat) : Int), .int .i64 ((K + 1 : Nat) : Int)] ⟨((K : Nat) : Int), ((K + 1 : Nat) : Int)⟩ rfl rfl ⟨rfl, hbb⟩
      have HT2 : Hid (TurnB bs w (setsFrom wr g1 (j * entryS.size + ([] : List Value).length) [.int .i64 ((K : Nat) : Int), .int .i64 ((K + 1 : Nat) : Int)])) := TurnB.setsFrom g1 hgm _ _ _ HT.out
      have f1 := hfr
      clear hcell hfr hkeep hsets hsub hbn hgb hbb eq1
      go_wp2_with fail
      change Hid (OwR entryS ((wr.setCell ⟨g1, j * 2, none⟩ (.int .i64 ((K : Nat) : Int))).setCell ⟨g1, j * 2 + 1, none⟩ (.int .i64 ((K + 1 : Nat) : Int))) _ _ _) at HO2
      change Hid (TurnB bs w ((wr.setCell ⟨g1, j * 2, none⟩ (.int .i64 ((K : Nat) : Int))).setCell ⟨g1, j * 2 + 1, none⟩ (.int .i64 ((K + 1 : Nat) : Int)))) at HT2
      refine ⟨⟨j + 1, ?_, ?_, ?_, ?_, ?_⟩, ?_⟩
      · go_num
      · exact int_eq (by have h1 := HKC.out; have h2 : cntEntry d = 1 + 1 := rfl; omega)
      · omega
      · show OwR _ _ _ _ _
        rw [← HST.out]
        exact HO2.out
      · exact HT2.out
      · simp [intOf]; omega
    · obtain rfl : j = L.length := by omega
      rw [mix_end] at HO
      rw [List.take_length]
      go_wp2_with fail
      go_ret
      exact ⟨rfl, HO.out, HT.out⟩
set_option maxHeartbeats 1000000 in
theorem heldEntryS (L : List EntryD) (k : Nat) (v : Value) (w : World) (hr : RdR entryS w v (mkEntryS L k)) (hk1 : k + cntEntryS L ≤ 1000000000) :
    Calls Tryz.prog 91 #[v, .int .i64 k] w fun x w' => x = .returned (.int .i64 ((k + cntEntryS L : Nat) : Int)) ∧ Below w.heap.size w w' := by
  obtain ⟨ad, cap, rfl, h1, h2⟩ := hr.form
  unfold cntEntryS mkEntryS at *
  rw [mk_len'] at h1 ⊢
  have HR := hide hr
  clear hr
  go_enter Tryz.func91, Tryz.ntmps91
  go_wp2_with fail
  go_loopw [1, 5] (fun kk i wr => ∃ (j : Nat), i = .int .i64 j ∧ kk = .int .i64 ((k + cntLs cntEntry (L.take j) : Nat) : Int) ∧ j ≤ L.length ∧ Below w.heap.size w wr) (fun _ i _ => L.length - (intOf i).toNat)
  case atStart => exact ⟨0, rfl, by simp [cntLs], Nat.zero_le _, Below.refl _ _⟩
  case round =>
    obtain ⟨j, rfl, rfl, hj, hb⟩ := hrel
    by_cases hlt : j < L.length
    · have hct := cnt_take cntEntry L j hlt
      have hcl := cnt_le cntEntry L (j + 1)
      have hrk := (HR.out.new hb).at j (by rw [mk_len']; exact hlt)
      rw [mk_at _ _ L k j hlt] at hrk
      obtain ⟨d, hd⟩ : ∃ d, d = L[j] := ⟨_, rfl⟩
      rw [← hd] at hct hrk
      obtain ⟨K, hK⟩ : ∃ K : Nat, K = k + cntLs cntEntry (L.take j) := ⟨_, rfl⟩
      rw [← hK] at hrk ⊢
      have hKc : K + cntEntry d = k + cntLs cntEntry (L.take (j + 1)) := by omega
      have HKC := hide hKc
      have hKb : K + cntEntry d ≤ 1000000000 := by omega
      unfold cntEntry at hKb
      clear hct hcl hd hK hKc
      obtain ⟨b, o, cs, rfl, hb1, hrd, hc⟩ := hrk
      obtain rfl := hrd
      have c0 : wr.cell? ⟨b, o + j * 2, none⟩ = some (.int .i64 ((K : Nat) : Int)) := hc 0 _ rfl
      have c1 : wr.cell? ⟨b, o + j * 2 + 1, none⟩ = some (.int .i64 ((K + 1 : Nat) : Int)) := hc 1 _ rfl
      clear hc
      go_wp2_with fail
      go_roundw
      case rel => exact ⟨j + 1, by go_num, int_eq (by have h1 := HKC.out; have h2 : cntEntry d = 1 + 1 := rfl; omega), by omega, hb⟩
      case measure => simp [intOf]; omega
    · obtain rfl : j = L.length := by omega
      rw [List.take_length]
      go_wp2_with fail
      go_ret
      exact ⟨rfl, hb⟩
end Go.Proofs.YtkhclhnejnpkeaaGreat
/- A text that is bent: the walk. -/
namespace Go.Proofs.YtkhclhnejnpkeaaGreat
open Go.RowKit
set_option maxRecDepth 100000
set_option linter.unusedSimpArgs false
set_option linter.unusedVariables false
attribute [local go_sem ↓] Go.wp_at_zero Go.wp_at_succ

theorem BR.set {w : World} {base n cap blk : Nat} (h : BR w base (some ⟨blk, 0, none⟩) n cap) (k : Nat) (u : Value) (hu : ByteVal u) : BR (w.setCell ⟨blk, k, none⟩ u) base (some ⟨blk, 0, none⟩) n cap := by
  obtain ⟨h1, h2, h3⟩ := h
  refine ⟨h1, h2, fun hn => ?_⟩
  obtain ⟨b', e, hb, hl, hc⟩ := h3 hn
  simp only [Option.some.injEq, Addr.mk.injEq, and_true] at e
  subst e
  refine ⟨blk, rfl, hb, by simpa using hl, fun j hj => ?_⟩
  obtain ⟨⟨v, hv, hcv⟩, hf⟩ := hc j hj
  refine ⟨?_, by rw [World.frozen?_setCell]; exact hf⟩
  by_cases hjk : k = j
  · subst hjk
    exact ⟨u, hu, World.cell?_setCell_same' _ _ _ (by rw [hcv]; rfl)⟩
  · refine ⟨v, hv, ?_⟩
    exact (World.cell?_setCell_other _ ⟨blk, k, none⟩ ⟨blk, j, none⟩ _ (by simp [hjk])).trans hcv

end Go.Proofs.YtkhclhnejnpkeaaGreat
/- Packing signs of five bits into bytes, and back, in plain words: what is unpacked of what was packed is what was packed, and what ends well is what it is packed as. -/
namespace Go.Proofs.YtkhclhnejnpkeaaGreat

/-- Two to the h, for a few bits. -/
def tw (h : Nat) : Int := 2 ^ h
/-- The bytes that signs ns take behind h bits, whose number is v. -/
def packF : List Int → Nat → Int → List Int
  | [], h, v => if 0 < h then [v * tw (8 - h) + (tw (8 - h) - 1)] else []
  | n :: ns, h, v => if 8 ≤ h + 5 then ((v * 32 + n) / tw (h + 5 - 8)) :: packF ns (h + 5 - 8) ((v * 32 + n) % tw (h + 5 - 8)) else packF ns (h + 5) (v * 32 + n)

theorem packF_nil {h : Nat} {v : Int} : packF [] h v = if 0 < h then [v * tw (8 - h) + (tw (8 - h) - 1)] else [] := rfl
theorem packF_full {n : Int} {ns : List Int} {h : Nat} {v : Int} (k : 8 ≤ h + 5) : packF (n :: ns) h v = ((v * 32 + n) / tw (h + 5 - 8)) :: packF ns (h + 5 - 8) ((v * 32 + n) % tw (h + 5 - 8)) := by rw [packF, if_pos k]
theorem packF_part {n : Int} {ns : List Int} {h : Nat} {v : Int} (k : ¬ 8 ≤ h + 5) : packF (n :: ns) h v = packF ns (h + 5) (v * 32 + n) := by rw [packF, if_neg k]

theorem packF_len : ∀ (ns : List Int) (h : Nat) (v : Int), h < 8 → (packF ns h v).length = (h + 5 * ns.length + 7) / 8 := by
  intro ns
  induction ns with
  | nil => intro h v hh; rw [packF_nil]; split <;> simp <;> omega
  | cons n ns ih =>
    intro h v hh
    by_cases k : 8 ≤ h + 5
    · rw [packF_full k, List.length_cons, ih _ _ (by omega), List.length_cons]; omega
    · rw [packF_part k, ih _ _ (by omega), List.length_cons]; omega

/-- Reading signs: c bits are held, their number is u; bs are to come. The signs, and what is left when no byte is to come and no further sign is; none: a number of ones only ahead of a byte. -/
def rawF : Nat → Nat → Int → List Int → Option (List Int × Nat × Int)
  | 0, _, _, _ => none
  | k + 1, c, u, bs => if c < 5 then (match bs with
      | [] => some ([], c, u)
      | b :: bs => rawF k (c + 8) (u * 256 + b) bs)
    else if 31 ≤ u / tw (c - 5) then (if bs = [] then some ([], c, u) else none)
    else (rawF k (c - 5) (u % tw (c - 5)) bs).map fun r => (u / tw (c - 5) :: r.1, r.2)

/-- How many steps are enough. -/
def enF (c : Nat) (bs : List Int) : Nat := 9 * bs.length + c + 1

theorem rawF_more {k c : Nat} {u b : Int} {bs : List Int} (h : c < 5) : rawF (k + 1) c u (b :: bs) = rawF k (c + 8) (u * 256 + b) bs := by rw [rawF, if_pos h]
theorem rawF_end {k c : Nat} {u : Int} (h : c < 5) : rawF (k + 1) c u [] = some ([], c, u) := by rw [rawF, if_pos h]
theorem rawF_ones {k c : Nat} {u : Int} {bs : List Int} (h : ¬ c < 5) (h1 : 31 ≤ u / tw (c - 5)) : rawF (k + 1) c u bs = if bs = [] then some ([], c, u) else none := by cases bs <;> simp [rawF, h, h1]
theorem rawF_sign {k c : Nat} {u : Int} {bs : List Int} (h : ¬ c < 5) (h1 : ¬ 31 ≤ u / tw (c - 5)) : rawF (k + 1) c u bs = (rawF k (c - 5) (u % tw (c - 5)) bs).map fun r => (u / tw (c - 5) :: r.1, r.2) := by cases bs <;> simp [rawF, h, h1]

/-- What is left is ones only, less than a byte of them. -/
def okEnd (r : List Int × Nat × Int) : Prop := r.2.1 < 8 ∧ r.2.2 = tw r.2.1 - 1

/-- The bytes that are to come, those of which bits are held among them, the bits ahead of these being v. -/
def ahead (c : Nat) (u : Int) (bs : List Int) (v : Int) : List Int :=
  if c = 0 then bs else if c < 8 then (v * tw c + u) :: bs else if c = 8 then u :: bs else (v * tw (c - 8) + u / 256) :: (u % 256) :: bs
def hidden (c : Nat) : Nat := if c = 0 then 0 else if c < 8 then 8 - c else if c = 8 then 0 else 8 - (c - 8)

set_option maxHeartbeats 2000000 in
theorem raw_pack : ∀ (k c : Nat) (u : Int) (bs : List Int) (r : List Int × Nat × Int), rawF k c u bs = some r → c ≤ 12 → 0 ≤ u → u < tw c → (∀ b ∈ bs, 0 ≤ b ∧ b ≤ 255) →
    ∀ v, 0 ≤ v → v < tw (hidden c) → (okEnd r ↔ packF r.1 (hidden c) v = ahead c u bs v) := by
  intro k
  induction k with
  | zero => intro c u bs r h; simp [rawF] at h
  | succ k ih =>
    intro c u bs r h hc h0 h1 hb v v0 v1
    by_cases h5 : c < 5
    · cases bs with
      | nil =>
        rw [rawF_end h5] at h
        obtain rfl := (Option.some.inj h).symm
        have : c = 0 ∨ c = 1 ∨ c = 2 ∨ c = 3 ∨ c = 4 := by omega
        rcases this with rfl | rfl | rfl | rfl | rfl <;> simp [okEnd, hidden, ahead, packF_nil, tw] at * <;> omega
      | cons b bs =>
        rw [rawF_more h5] at h
        have hb0 := hb b (by simp)
        have hbs : ∀ x ∈ bs, 0 ≤ x ∧ x ≤ 255 := fun x hx => hb x (by simp [hx])
        have K := ih _ _ _ _ h (by omega) (by omega)
        have : c = 0 ∨ c = 1 ∨ c = 2 ∨ c = 3 ∨ c = 4 := by omega
        rcases this with rfl | rfl | rfl | rfl | rfl
        · obtain rfl : u = 0 := by simp [tw] at h1; omega
          have K := K (by simp [tw]; omega) hbs v v0 v1
          rw [K]; simp [hidden, ahead]
        all_goals
          have K := K (by simp [tw] at *; omega) hbs v v0 v1
          rw [K]
          have e1 : (u * 256 + b) / 256 = u := by omega
          have e2 : (u * 256 + b) % 256 = b := by omega
          simp [hidden, ahead, e1, e2]
    · by_cases hs : 31 ≤ u / tw (c - 5)
      · rw [rawF_ones h5 hs] at h
        split at h
        · rename_i hbs
          subst hbs
          obtain rfl := (Option.some.inj h).symm
          have : c = 5 ∨ c = 6 ∨ c = 7 ∨ c = 8 ∨ c = 9 ∨ c = 10 ∨ c = 11 ∨ c = 12 := by omega
          rcases this with rfl | rfl | rfl | rfl | rfl | rfl | rfl | rfl <;> simp [okEnd, hidden, ahead, packF_nil, tw] at * <;> omega
        · cases h
      · rw [rawF_sign h5 hs] at h
        cases hr : rawF k (c - 5) (u % tw (c - 5)) bs with
        | none => rw [hr] at h; cases h
        | some r' =>
          rw [hr] at h
          obtain rfl := (Option.some.inj h).symm
          have hok : okEnd (u / tw (c - 5) :: r'.1, r'.2) ↔ okEnd r' := Iff.rfl
          rw [hok]
          have K := ih _ _ _ _ hr (by omega)
          have : c = 5 ∨ c = 6 ∨ c = 7 ∨ c = 8 ∨ c = 9 ∨ c = 10 ∨ c = 11 ∨ c = 12 := by omega
          rcases this with rfl | rfl | rfl | rfl | rfl | rfl | rfl | rfl
          · have K := K (by simp [tw]) (by simp [tw]) hb 0 (by omega) (by simp [hidden, tw])
            rw [K]; simp [hidden, ahead, packF, tw] at h0 h1 v0 v1 ⊢
          · have K := K (by simp [tw] at *; omega) (by simp [tw] at *; omega) hb (v * 32 + u / 2) (by simp [hidden, tw] at *; omega) (by simp [hidden, tw] at *; omega)
            rw [K]; simp [hidden, ahead, packF, tw] at h0 h1 v0 v1 ⊢
            rw [show (v * 32 + u / 2) * 2 + u % 2 = v * 64 + u from by omega]
          · have K := K (by simp [tw] at *; omega) (by simp [tw] at *; omega) hb (v * 32 + u / 4) (by simp [hidden, tw] at *; omega) (by simp [hidden, tw] at *; omega)
            rw [K]; simp [hidden, ahead, packF, tw] at h0 h1 v0 v1 ⊢
            rw [show (v * 32 + u / 4) * 4 + u % 4 = v * 128 + u from by omega]
          · have K := K (by simp [tw] at *; omega) (by simp [tw] at *; omega) hb (v * 32 + u / 8) (by simp [hidden, tw] at *; omega) (by simp [hidden, tw] at *; omega)
            rw [K]; simp [hidden, ahead, packF, tw] at h0 h1 v0 v1 ⊢
            rw [show (v * 32 + u / 8) * 8 + u % 8 = u from by omega]
          · have K := K (by simp [tw] at *; omega) (by simp [tw] at *; omega) hb ((v * 32 + u / 16) % 16) (by simp [hidden, tw] at *; omega) (by simp [hidden, tw] at *; omega)
            rw [K]; simp [hidden, ahead, packF, tw] at h0 h1 v0 v1 ⊢
            rw [show (v * 32 + u / 16) % 16 * 16 + u % 16 = u % 256 from by omega, show (v * 32 + u / 16) / 16 = v * 2 + u / 256 from by omega]; simp
          · have K := K (by simp [tw] at *; omega) (by simp [tw] at *; omega) hb ((v * 32 + u / 32) % 8) (by simp [hidden, tw] at *; omega) (by simp [hidden, tw] at *; omega)
            rw [K]; simp [hidden, ahead, packF, tw] at h0 h1 v0 v1 ⊢
            rw [show (v * 32 + u / 32) % 8 * 32 + u % 32 = u % 256 from by omega, show (v * 32 + u / 32) / 8 = v * 4 + u / 256 from by omega]; simp
          · have K := K (by simp [tw] at *; omega) (by simp [tw] at *; omega) hb ((v * 32 + u / 64) % 4) (by simp [hidden, tw] at *; omega) (by simp [hidden, tw] at *; omega)
            rw [K]; simp [hidden, ahead, packF, tw] at h0 h1 v0 v1 ⊢
            rw [show (v * 32 + u / 64) % 4 * 64 + u % 64 = u % 256 from by omega, show (v * 32 + u / 64) / 4 = v * 8 + u / 256 from by omega]; simp
          · have K := K (by simp [tw] at *; omega) (by simp [tw] at *; omega) hb ((v * 32 + u / 128) % 2) (by simp [hidden, tw] at *; omega) (by simp [hidden, tw] at *; omega)
            rw [K]; simp [hidden, ahead, packF, tw] at h0 h1 v0 v1 ⊢
            rw [show (v * 32 + u / 128) % 2 * 128 + u % 128 = u % 256 from by omega, show (v * 32 + u / 128) / 2 = v * 16 + u / 256 from by omega]; simp

end Go.Proofs.YtkhclhnejnpkeaaGreat
/- What a Field weighs, and the rows of a Table: in plain words, of the program and of the model. -/
namespace Go.Proofs.YtkhclhnejnpkeaaGreat
open Go.RowKit
set_option maxRecDepth 100000
set_option linter.unusedSimpArgs false
set_option linter.unusedVariables false

/-- Is it right? -/
def okF (f : Fd) : Bool := inB f.n.size 1 40 && decide ((f.v.size : Int) ≤ 60)
/-- What it weighs. -/
def wt (f : Fd) : Int := if okF f then (f.n.size : Int) + f.v.size + 8 else 0
def sumW : List Fd → Int
  | [] => 0
  | f :: L => wt f + sumW L
theorem okF_parts {f : Fd} (h : okF f = true) : (1 : Int) ≤ f.n.size ∧ (f.n.size : Int) ≤ 40 ∧ (f.v.size : Int) ≤ 60 := by
  unfold okF at h
  simp only [Bool.and_eq_true, decide_eq_true_eq] at h
  have := inB_true h.1
  omega
theorem wt_ok {f : Fd} (h : okF f = true) : wt f = f.n.size + f.v.size + 8 := by simp [wt, h]
theorem wt_no {f : Fd} (h : okF f = false) : wt f = 0 := by simp [wt, h]
theorem wt_range (f : Fd) : 0 ≤ wt f ∧ wt f ≤ 108 := by
  cases h : okF f
  · rw [wt_no h]; omega
  · rw [wt_ok h]; have := okF_parts h; omega
theorem wt_pos {f : Fd} (h : okF f = true) : 9 ≤ wt f := by rw [wt_ok h]; have := okF_parts h; omega
theorem wt_zero (f : Fd) : (wt f = 0) ↔ okF f = false := by
  cases h : okF f
  · simp [wt_no h]
  · have := wt_pos h; simp; omega
theorem sumW_range (L : List Fd) : 0 ≤ sumW L ∧ sumW L ≤ 108 * L.length := by
  induction L with
  | nil => simp [sumW]
  | cons f L ih => have := wt_range f; simp only [sumW, List.length_cons]; omega
theorem sumW_app (A B : List Fd) : sumW (A ++ B) = sumW A + sumW B := by
  induction A with
  | nil => simp [sumW]
  | cons f A ih => simp only [List.cons_append, sumW, ih]; omega
theorem sumW_ge {L : List Fd} (h : ∀ f ∈ L, okF f = true) : 9 * (L.length : Int) ≤ sumW L := by
  induction L with
  | nil => simp [sumW]
  | cons f L ih => have := wt_pos (h f (by simp)); have := ih fun g hg => h g (by simp [hg]); simp only [sumW, List.length_cons]; omega

/-- Is a Table of this Room and these Rows right? -/
def okT (room : Int) (L : List Fd) : Bool := inB room 0 1000 && (L.all okF && decide (sumW L ≤ room))
theorem okT_parts {room : Int} {L : List Fd} (h : okT room L = true) : 0 ≤ room ∧ room ≤ 1000 ∧ (∀ f ∈ L, okF f = true) ∧ sumW L ≤ room ∧ L.length ≤ 111 := by
  unfold okT at h
  simp only [Bool.and_eq_true, decide_eq_true_eq, List.all_eq_true] at h
  have h1 := inB_true h.1
  have h2 := sumW_ge h.2.1
  exact ⟨h1.1, h1.2, h.2.1, h.2.2, by omega⟩

/-- The last ones go as long as they weigh more than the room. -/
def shrN (room : Int) : Nat → List Fd → List Fd
  | 0, L => L
  | n + 1, L => if room < sumW L then shrN room n L.dropLast else L
def shr (room : Int) (L : List Fd) : List Fd := shrN room L.length L
theorem shr_stop {room : Int} {L : List Fd} (h : ¬ room < sumW L) : shr room L = L := by
  unfold shr
  cases L.length with
  | zero => rfl
  | succ n => simp [shrN, h]
theorem shr_go {room : Int} {L : List Fd} (h : room < sumW L) : shr room L = shr room L.dropLast := by
  unfold shr
  cases hn : L.length with
  | zero =>
    have : L = [] := List.length_eq_zero_iff.1 hn
    subst this
    rfl
  | succ n => rw [shrN, if_pos h, List.length_dropLast, hn]; rfl
theorem shr_mem {room : Int} (n : Nat) : ∀ {L : List Fd}, ∀ f ∈ shrN room n L, f ∈ L := by
  induction n with
  | zero => intro L f hf; exact hf
  | succ n ih =>
    intro L f hf
    rw [shrN] at hf
    split at hf
    · exact (List.dropLast_sublist _).subset (ih f hf)
    · exact hf
theorem shr_all {room : Int} {L : List Fd} (h : ∀ f ∈ L, okF f = true) : ∀ f ∈ shr room L, okF f = true := fun f hf => h f (shr_mem _ f hf)
theorem fine_of {f : Fd} (h : okF f = true) : f.fine := by have := okF_parts h; exact ⟨by omega, by omega⟩

theorem implWt (f : Fd) (w : World) (hf : f.fine) : Calls Tryz.prog 163 #[.agg #[.string f.n, .string f.v]] w fun x w' => x = .returned (.int .i64 (wt f)) ∧ Below w.heap.size w w' := by
  obtain ⟨hn, hv⟩ := hf
  cases h : okF f
  · rw [wt_no h]
    unfold okF at h
    cases h1 : inB f.n.size 1 40
    · clear h
      go_enter Tryz.func163, Tryz.ntmps163
      go_wp2_with fail
      go_quiet (fail)
      go_wp2_with fail
      refine (implWithin _ _ _ _).mono ?_; rw [h1]; rintro e w1 ⟨rfl, rfl⟩
      go_wp2_with fail
      go_ret
      exact ⟨rfl, (by repeat' (first | (with_reducible exact Below.refl _ _) | (with_reducible refine Below.drew ?_) | (with_reducible refine bo_drewN _ ?_) | (with_reducible refine bo_alloc ?_ _) | (refine bchain ?_ (by with_reducible assumption)) | (with_reducible refine Below.setCell ?_ ?_ _) | go_size))⟩
    · have h2 : ¬ ((f.v.size : Int) ≤ 60) := by simpa [h1] using h
      clear h
      go_enter Tryz.func163, Tryz.ntmps163
      go_wp2_with fail
      go_quiet (fail)
      go_wp2_with fail
      refine (implWithin _ _ _ _).mono ?_; rw [h1]; rintro e w1 ⟨rfl, rfl⟩
      go_wp2_with fail
      go_ret
      exact ⟨rfl, (by repeat' (first | (with_reducible exact Below.refl _ _) | (with_reducible refine Below.drew ?_) | (with_reducible refine bo_drewN _ ?_) | (with_reducible refine bo_alloc ?_ _) | (refine bchain ?_ (by with_reducible assumption)) | (with_reducible refine Below.setCell ?_ ?_ _) | go_size))⟩
  · rw [wt_ok h]
    obtain ⟨p1, p2, p3⟩ := okF_parts h
    have h1 : inB f.n.size 1 40 = true := by unfold okF at h; simp only [Bool.and_eq_true] at h; exact h.1
    clear h
    go_enter Tryz.func163, Tryz.ntmps163
    go_wp2_with fail
    go_quiet (fail)
    go_wp2_with fail
    refine (implWithin _ _ _ _).mono ?_; rw [h1]; rintro e w1 ⟨rfl, rfl⟩
    go_wp2_with fail
    go_ret
    exact ⟨rfl, (by repeat' (first | (with_reducible exact Below.refl _ _) | (with_reducible refine Below.drew ?_) | (with_reducible refine bo_drewN _ ?_) | (with_reducible refine bo_alloc ?_ _) | (refine bchain ?_ (by with_reducible assumption)) | (with_reducible refine Below.setCell ?_ ?_ _) | go_size))⟩

theorem implRight (f : Fd) (w : World) (hf : f.fine) : Calls Tryz.prog 149 #[.agg #[.string f.n, .string f.v]] w fun x w' => x = .returned (.bool (okF f)) ∧ Below w.heap.size w w' := by
  have hz := wt_zero f
  cases h : okF f
  · have h0 := hz.2 h
    go_enter Tryz.func149, Tryz.ntmps149
    go_wp2_with fail
    refine (implWt f _ hf).mono ?_; rw [h0]; rintro e w1 ⟨rfl, hb1⟩
    go_wp2_with fail
    go_ret
    exact ⟨rfl, (by repeat' (first | (with_reducible exact Below.refl _ _) | (with_reducible refine Below.drew ?_) | (with_reducible refine bo_drewN _ ?_) | (with_reducible refine bo_alloc ?_ _) | (refine bchain ?_ (by with_reducible assumption)) | (with_reducible refine Below.setCell ?_ ?_ _) | go_size))⟩
  · have h0 : ¬ wt f = 0 := fun e => by rw [hz.1 e] at h; cases h
    go_enter Tryz.func149, Tryz.ntmps149
    go_wp2_with fail
    refine (implWt f _ hf).mono ?_; rintro e w1 ⟨rfl, hb1⟩
    generalize wt f = z at *
    clear hz
    go_wp2_with fail
    go_ret
    exact ⟨by simp [h0], (by repeat' (first | (with_reducible exact Below.refl _ _) | (with_reducible refine Below.drew ?_) | (with_reducible refine bo_drewN _ ?_) | (with_reducible refine bo_alloc ?_ _) | (refine bchain ?_ (by with_reducible assumption)) | (with_reducible refine Below.setCell ?_ ?_ _) | go_size))⟩
theorem implRoom (r : Int) (w : World) : Calls Tryz.prog 148 #[.int .i64 r] w fun e w' => e = .returned (.bool (inB r 0 1000)) ∧ w' = w := by
  go_enter Tryz.func148, Tryz.ntmps148
  go_wp2_with (go_at_call 42; refine (implWithin _ _ _ _).mono ?_; rintro e w' ⟨rfl, rfl⟩)
  go_ret
  exact ⟨rfl, rfl⟩
end Go.Proofs.YtkhclhnejnpkeaaGreat
/- Rows of Fields as a make: counted, copied, held against each other, marked, read again. -/
namespace Go.Proofs.YtkhclhnejnpkeaaGreat
open Go.RowKit
set_option maxRecDepth 100000
set_option linter.unusedSimpArgs false
set_option linter.unusedVariables false
section
variable {D : Type} {E : Shp D}
theorem OwR.flat {f : D → List Value} (hf : ∀ w cs d bs, E.own w cs d bs → cs = f d ∧ bs = []) {w : World} {v : Value} {L : List D} {bs : List Nat} (h : OwR E w v L bs) : w.ownsRow 0 E.ty E.size v L.length (L.flatMap f) ∧ bs = v.ownBlock.toList := by
  obtain ⟨ts, rfl, ho, hE, rfl⟩ := h
  have e : ts.flatMap (fun t => t.1) = (ts.map (fun t => t.2.1)).flatMap f := by
    rw [List.flatMap_map]
    have hh : ∀ t ∈ ts, t.1 = f t.2.1 := fun t ht => (hf _ _ _ _ (hE t ht)).1
    clear ho hE
    induction ts with
    | nil => rfl
    | cons t ts ih => simp only [List.flatMap_cons]; rw [ih (fun x hx => hh x (by simp [hx])), ← hh t (by simp)]
  have e2 : ts.flatMap (fun t => t.2.2) = [] := by
    have hh : ∀ t ∈ ts, t.2.2 = [] := fun t ht => (hf _ _ _ _ (hE t ht)).2
    clear ho hE e
    induction ts with
    | nil => rfl
    | cons t ts ih => simp only [List.flatMap_cons]; rw [ih (fun x hx => hh x (by simp [hx])), hh t (by simp)]; rfl
  rw [e] at ho
  exact ⟨by simpa using ho, by rw [e2]; simp⟩
theorem owR_flat {f : D → List Value} {w : World} {v : Value} {L : List D} (hf : ∀ d ∈ L, E.own w (f d) d []) (h : w.ownsRow 0 E.ty E.size v L.length (L.flatMap f)) : OwR E w v L v.ownBlock.toList := by
  refine ⟨L.map fun d => (f d, d, []), by simp [Function.comp_def], ?_, fun t ht => ?_, ?_⟩
  · simpa [List.flatMap_map] using h
  · obtain ⟨d, hd, rfl⟩ := List.mem_map.1 ht
    exact hf d hd
  · have : ∀ M : List D, (M.map fun d => ((f d, d, []) : List Value × D × List Nat)).flatMap (fun t => t.2.2) = [] := fun M => by induction M <;> simp_all
    rw [this]; simp
end
def fieldS : Shp Fd where
  size := 2
  ty := 160
  rd := fun _ cs d => cs = d.cs ∧ d.fine
  own := fun _ cs d bs => cs = d.cs ∧ d.fine ∧ bs = []
  pos := by decide
  rd_len := fun h => by obtain ⟨rfl, _⟩ := h; rfl
  rd_one := fun h u hu => by obtain ⟨rfl, _⟩ := h; simp only [Fd.cs, List.mem_cons, List.not_mem_nil, or_false] at hu; rcases hu with rfl | rfl <;> rfl
  rd_new := fun h _ => h
  own_rd := fun h => ⟨h.1, h.2.1⟩
  own_keep := fun h _ _ => h
  own_lt := fun h b hb => by rw [h.2.2] at hb; cases hb
theorem rd_fv {w : World} {v : Value} {L : List Fd} (h : RdR fieldS w v L) : Reads w v L.length 2 (fv L) := RdR.flat (E := fieldS) (f := Fd.cs) (fun _ _ _ h => h.1) h
theorem rd_fine {w : World} {v : Value} {L : List Fd} (h : RdR fieldS w v L) : ∀ f ∈ L, f.fine := by
  obtain ⟨ts, rfl, _, hE⟩ := h
  intro x hx
  obtain ⟨t, ht, rfl⟩ := List.mem_map.1 hx
  exact (hE t ht).2
theorem owr_fv {w : World} {v : Value} {L : List Fd} {bs : List Nat} (h : OwR fieldS w v L bs) : w.ownsRow 0 160 2 v L.length (fv L) ∧ bs = v.ownBlock.toList := OwR.flat (E := fieldS) (f := Fd.cs) (fun _ _ _ _ h => ⟨h.1, h.2.2⟩) h
theorem fv_owr {w : World} {v : Value} {L : List Fd} (h : w.ownsRow 0 160 2 v L.length (fv L)) (hs : ∀ f ∈ L, f.fine) : OwR fieldS w v L v.ownBlock.toList := owR_flat (E := fieldS) (f := Fd.cs) (fun d hd => ⟨rfl, hs d hd, rfl⟩) h
/-- The marks, from k on. -/
def mkFieldS (L : List Fd) (k : Nat) : List Fd := mkLs (fun _ k => ⟨mtx k, mtx (k + 1)⟩) (fun _ => 2) L k
def cntFieldS (L : List Fd) : Nat := cntLs (fun _ => 2) L
theorem cntFieldS_len (L : List Fd) : cntFieldS L = L.length * 2 := by
  unfold cntFieldS
  induction L with
  | nil => rfl
  | cons x L ih => simp only [cntLs, List.length_cons, ih]; omega
theorem mkFld_len (L : List Fd) (k : Nat) : (mkFieldS L k).length = L.length := mk_len' _ _ L k
theorem mkFld_at (L : List Fd) (k j : Nat) (h : j < L.length) (h' : j < (mkFieldS L k).length) : (mkFieldS L k)[j] = ⟨mtx (k + j * 2), mtx (k + j * 2 + 1)⟩ := by
  have e := mk_at (fun (_ : Fd) k => (⟨mtx k, mtx (k + 1)⟩ : Fd)) (fun _ => 2) L k j h h'
  have h2 := cntFieldS_len (L.take j)
  unfold cntFieldS at h2
  rw [h2, List.length_take, Nat.min_eq_left (by omega)] at e
  exact e
theorem mkFld_fv (L : List Fd) (k : Nat) : fv (mkFieldS L k) = mkT k (L.length * 2) := by
  apply List.ext_getElem?
  intro i
  by_cases hi : i < L.length * 2
  · obtain ⟨j, r, hr, rfl⟩ : ∃ j r, r < 2 ∧ i = j * 2 + r := ⟨i / 2, i % 2, by omega, by omega⟩
    have hj : j < L.length := by omega
    have hj' : j < (mkFieldS L k).length := by rw [mkFld_len]; exact hj
    obtain ⟨g1, g2⟩ := fv_get (mkFieldS L k) j hj'
    rw [mkFld_at L k j hj hj'] at g1 g2
    rw [mkT_get k _ _ hi]
    rcases (show r = 0 ∨ r = 1 by omega) with rfl | rfl
    · rw [Nat.add_zero]; exact g1
    · exact g2
  · rw [List.getElem?_eq_none (by rw [fv_len, mkFld_len]; omega), List.getElem?_eq_none (by rw [mkT_len]; omega)]
theorem mkFld_fine (L : List Fd) (k : Nat) (hk : k + cntFieldS L ≤ 1000000000) : ∀ f ∈ mkFieldS L k, f.fine := by
  intro x hx
  obtain ⟨j, hj, rfl⟩ := List.getElem_of_mem hx
  have hj2 : j < L.length := by rw [← mkFld_len L k]; exact hj
  rw [mkFld_at L k j hj2]
  have h1 := mtx_size (k + j * 2)
  have h2 := mtx_size (k + j * 2 + 1)
  have h3 := cntFieldS_len L
  exact ⟨by simp only; omega, by simp only; omega⟩
theorem eqFieldS (L : List Fd) (v v' : Value) (w : World) (hr0 : RdR fieldS w v L) (hr1 : RdR fieldS w v' L) :
    Calls Tryz.prog 138 #[v, v'] w fun x w' => x = .returned (.bool true) ∧ Below w.heap.size w w' := eqFields L v v' w (rd_fv hr0) (rd_fv hr1)
theorem markFieldS (L : List Fd) (k : Nat) (v : Value) (bs : List Nat) (w : World) (ho : OwR fieldS w v L bs) (hn : bs.Nodup) (hk1 : k + cntFieldS L ≤ 1000000000) :
    Calls Tryz.prog 88 #[v, .int .i64 k] w fun x w' => x = .returned (.int .i64 ((k + cntFieldS L : Nat) : Int)) ∧ OwR fieldS w' v (mkFieldS L k) bs ∧ TurnB bs w w' := by
  obtain ⟨ho1, rfl⟩ := owr_fv ho
  have hc := cntFieldS_len L
  refine (markFields L.length k v (fv L) 0 w ho1 (by omega)).mono ?_
  rintro x w' ⟨rfl, ho2, hg⟩
  rw [hc]
  refine ⟨rfl, fv_owr ?_ (mkFld_fine L k hk1), ⟨hg.os, hg.tape, hg.output, hg.size, fun q hq hn => hg.block q hq fun e => hn (by rw [← e]; simp)⟩⟩
  rw [mkFld_fv, mkFld_len]
  exact ho2
theorem heldFieldS (L : List Fd) (k : Nat) (v : Value) (w : World) (hr : RdR fieldS w v (mkFieldS L k)) (hk1 : k + cntFieldS L ≤ 1000000000) :
    Calls Tryz.prog 92 #[v, .int .i64 k] w fun x w' => x = .returned (.int .i64 ((k + cntFieldS L : Nat) : Int)) ∧ Below w.heap.size w w' := by
  have h := rd_fv hr
  rw [mkFld_fv, mkFld_len] at h
  rw [cntFieldS_len] at hk1 ⊢
  exact heldFields L.length k v w h hk1
end Go.Proofs.YtkhclhnejnpkeaaGreat
/- Tables of the laws: counted, copied, held against each other, marked, read again; and one that came in. -/
namespace Go.Proofs.YtkhclhnejnpkeaaGreat
open Go.RowKit
set_option maxRecDepth 100000
set_option linter.unusedSimpArgs false
set_option linter.unusedVariables false

theorem eqTable1 (L : List Fd) (room : Int) (v v' : Value) (w : World) (hr0 : Reads w v L.length 2 (fv L)) (hr1 : Reads w v' L.length 2 (fv L)) :
    Calls Tryz.prog 125 #[.agg #[.int .i64 room, v], .agg #[.int .i64 room, v']] w fun x w' => x = .returned (.bool true) ∧ Below w.heap.size w w' := by
  obtain ⟨ad, cap, rfl, _⟩ := hr0.2
  obtain ⟨ad', cap', rfl, _⟩ := hr1.2
  have HR := hide hr0; have HR' := hide hr1
  clear hr0 hr1
  go_enter Tryz.func125, Tryz.ntmps125
  go_wp2_with fail
  refine (eqFields L _ _ _ ?c1 ?c2).mono ?_
  case c1 => exact HR.out.new (by repeat' (first | (with_reducible exact Below.refl _ _) | (with_reducible refine Below.drew ?_) | (with_reducible refine bo_drewN _ ?_) | (with_reducible refine bo_alloc ?_ _) | (refine bchain ?_ (by with_reducible assumption)) | (with_reducible refine Below.setCell ?_ ?_ _) | go_size))
  case c2 => exact HR'.out.new (by repeat' (first | (with_reducible exact Below.refl _ _) | (with_reducible refine Below.drew ?_) | (with_reducible refine bo_drewN _ ?_) | (with_reducible refine bo_alloc ?_ _) | (refine bchain ?_ (by with_reducible assumption)) | (with_reducible refine Below.setCell ?_ ?_ _) | go_size))
  rintro x w1 ⟨rfl, hb1⟩
  go_wp2_with fail
  go_ret
  exact ⟨rfl, (by repeat' (first | (with_reducible exact Below.refl _ _) | (with_reducible refine Below.drew ?_) | (with_reducible refine bo_drewN _ ?_) | (with_reducible refine bo_alloc ?_ _) | (refine bchain ?_ (by with_reducible assumption)) | (with_reducible refine Below.setCell ?_ ?_ _) | go_size))⟩

end Go.Proofs.YtkhclhnejnpkeaaGreat
/- Dial in memory: its datum, its make; counted, copied, held against each other, marked, read again (by gen_shape.py). -/
namespace Go.Proofs.YtkhclhnejnpkeaaGreat
open Go.RowKit
set_option maxRecDepth 100000
set_option linter.unusedSimpArgs false
set_option linter.unusedVariables false

/-- What a Dial holds. -/
structure DlD where
  seat : Int
  id : Int
  nm : ByteArray
def DlD.cs (d : DlD) : List Value := [.int .i64 d.seat, .int .i64 d.id, .string d.nm]
def dialS : Shp DlD where
  size := 3
  ty := 68
  rd := fun _ cs d => cs = d.cs ∧ d.nm.size ≤ 9223372036854775807
  own := fun _ cs d bs => cs = d.cs ∧ d.nm.size ≤ 9223372036854775807 ∧ bs = []
  pos := by decide
  rd_len := fun h => by replace h := h.1; subst h; rfl
  rd_one := fun h u hu => by replace h := h.1; subst h; simp only [DlD.cs, List.mem_cons, List.not_mem_nil, or_false] at hu; rcases hu with rfl | rfl | rfl <;> rfl
  rd_new := fun h _ => h
  own_rd := fun h => ⟨h.1, h.2.1⟩
  own_keep := fun h _ _ => h
  own_lt := fun h b hb => by rw [h.2.2] at hb; cases hb
/-- The marks of one in a row, from k on; how many; and of a row. -/
def mkDial (d : DlD) (k : Nat) : DlD := ⟨((k : Nat) : Int), ((k + 1 : Nat) : Int), mtx (k + 1 + 1)⟩
def cntDial (d : DlD) : Nat := 1 + 1 + 1
def mkDialS (L : List DlD) (k : Nat) : List DlD := mkLs mkDial cntDial L k
def cntDialS (L : List DlD) : Nat := cntLs cntDial L
theorem eqDial1 (d : DlD) (w : World) : Calls Tryz.prog 76 #[.agg #[.int .i64 d.seat, .int .i64 d.id, .string d.nm], .agg #[.int .i64 d.seat, .int .i64 d.id, .string d.nm]] w fun x w' => x = .returned (.bool true) ∧ Below w.heap.size w w' := by
  go_enter Tryz.func76, Tryz.ntmps76
  go_wp2
  go_ret
  exact ⟨rfl, (by repeat' (first | (with_reducible exact Below.refl _ _) | (with_reducible refine Below.drew ?_) | (with_reducible refine bo_drewN _ ?_) | (with_reducible refine bo_alloc ?_ _) | (refine bchain ?_ (by with_reducible assumption)) | (with_reducible refine Below.setCell ?_ ?_ _) | go_size))⟩
set_option maxHeartbeats 1000000 in
theorem eqDialS (L : List DlD) (v v' : Value) (w : World) (hr0 : RdR dialS w v L) (hr1 : RdR dialS w v' L) :
    Calls Tryz.prog 35 #[v, v'] w fun x w' => x = .returned (.bool true) ∧ Below w.heap.size w w' := by
  obtain ⟨ad, cap, rfl, h1, h2⟩ := hr0.form
  obtain ⟨ad', cap', rfl, h1', h2'⟩ := hr1.form
  have HR := hide hr0; have HR' := hide hr1
  clear hr0 hr1
  go_enter Tryz.func35, Tryz.ntmps35
  go_wp2_with fail
  go_loopw [5] (fun i wr => ∃ (k : Nat), i = .int .i64 k ∧ k ≤ L.length ∧ Below w.heap.size w wr) (fun i _ => L.length - (intOf i).toNat)
  case atStart => exact ⟨0, rfl, Nat.zero_le _, Below.refl _ _⟩
  case round =>
    obtain ⟨k, rfl, hk, hb⟩ := hrel
    by_cases hlt : k < L.length
    · have hrk := (HR.out.new hb).at k hlt
      have hrk' := (HR'.out.new hb).at k hlt
      obtain ⟨d, hd⟩ : ∃ d, d = L[k] := ⟨_, rfl⟩
      rw [← hd] at hrk hrk'
      clear hd
      obtain ⟨b, o, cs, rfl, hb1, hrd, hc⟩ := hrk
      obtain ⟨b', o', cs', rfl, hb2, hrd', hc'⟩ := hrk'
      obtain ⟨rfl, hf0⟩ := hrd
      obtain ⟨rfl, _⟩ := hrd'
      have c0 : wr.cell? ⟨b, o + k * 3, none⟩ = some (.int .i64 d.seat) := hc 0 _ rfl
      have c1 : wr.cell? ⟨b, o + k * 3 + 1, none⟩ = some (.int .i64 d.id) := hc 1 _ rfl
      have c2 : wr.cell? ⟨b, o + k * 3 + 2, none⟩ = some (.string d.nm) := hc 2 _ rfl
      have d0 : wr.cell? ⟨b', o' + k * 3, none⟩ = some (.int .i64 d.seat) := hc' 0 _ rfl
      have d1 : wr.cell? ⟨b', o' + k * 3 + 1, none⟩ = some (.int .i64 d.id) := hc' 1 _ rfl
      have d2 : wr.cell? ⟨b', o' + k * 3 + 2, none⟩ = some (.string d.nm) := hc' 2 _ rfl
      clear hc hc'
      go_wp2_with fail
      have qa0 : ∀ y : Later wr, y.w.cell? ⟨b, o + k * 3, none⟩ = some (.int .i64 d.seat) := fun y => (y.b.cell (p := ⟨b, o + k * 3, none⟩) hb1).trans c0
      have qa1 : ∀ y : Later wr, y.w.cell? ⟨b, o + k * 3 + 1, none⟩ = some (.int .i64 d.id) := fun y => (y.b.cell (p := ⟨b, o + k * 3 + 1, none⟩) hb1).trans c1
      have qa2 : ∀ y : Later wr, y.w.cell? ⟨b, o + k * 3 + 2, none⟩ = some (.string d.nm) := fun y => (y.b.cell (p := ⟨b, o + k * 3 + 2, none⟩) hb1).trans c2
      have qb0 : ∀ y : Later wr, y.w.cell? ⟨b', o' + k * 3, none⟩ = some (.int .i64 d.seat) := fun y => (y.b.cell (p := ⟨b', o' + k * 3, none⟩) hb2).trans d0
      have qb1 : ∀ y : Later wr, y.w.cell? ⟨b', o' + k * 3 + 1, none⟩ = some (.int .i64 d.id) := fun y => (y.b.cell (p := ⟨b', o' + k * 3 + 1, none⟩) hb2).trans d1
      have qb2 : ∀ y : Later wr, y.w.cell? ⟨b', o' + k * 3 + 2, none⟩ = some (.string d.nm) := fun y => (y.b.cell (p := ⟨b', o' + k * 3 + 2, none⟩) hb2).trans d2
      clear c0 c1 c2 d0 d1 d2
      have hne : Nonempty (Later wr) := ⟨⟨wr, Below.refl _ _⟩⟩; refine region_later (by kernel_rfl) (by kernel_rfl) ?_
      repeat (go_big_quiet_step (fail))
      go_big_quiet_want; go_big_quiet_op
      refine ⟨.bool true, fun y => later_calls (x := y) (eqDial1 d y.w), ?_⟩
      go_big_quiet_on
      repeat (go_big_quiet_step (fail))
      refine wpQuiet_nil ?_; intro _ hw'; obtain ⟨y, hw''⟩ := hw'; subst hw''; have hby := y.b
      go_wp2_with fail
      go_roundw
      case rel => exact ⟨k + 1, by go_num, by omega, bchain hb hby⟩
      case measure => simp [intOf]; omega
    · go_wp2_with fail
      go_ret
      exact ⟨rfl, hb⟩
set_option maxHeartbeats 20000000 in
theorem markDialS (L : List DlD) (k : Nat) (v : Value) (bs : List Nat) (w : World) (ho : OwR dialS w v L bs) (hn : bs.Nodup) (hk1 : k + cntDialS L ≤ 1000000000) :
    Calls Tryz.prog 49 #[v, .int .i64 k] w fun x w' => x = .returned (.int .i64 ((k + cntDialS L : Nat) : Int)) ∧ OwR dialS w' v (mkDialS L k) bs ∧ TurnB bs w w' := by
  obtain ⟨ad, cap, rfl, h1, h2⟩ := ho.rd.form
  unfold cntDialS mkDialS at *
  have HO0 : Hid (OwR dialS w (.slice ad L.length cap) (mixLs mkDial cntDial L k 0) bs) := by show OwR _ _ _ _ _; rw [mix_zero]; exact ho
  clear ho
  have HN := hide hn
  clear hn
  go_enter Tryz.func49, Tryz.ntmps49
  go_wp2_with fail
  go_loopw [1, 5] (fun kk i wr => ∃ (j : Nat), i = .int .i64 j ∧ kk = .int .i64 ((k + cntLs cntDial (L.take j) : Nat) : Int) ∧ j ≤ L.length ∧ Hid (OwR dialS wr (.slice ad L.length cap) (mixLs mkDial cntDial L k j) bs) ∧ Hid (TurnB bs w wr)) (fun _ i _ => L.length - (intOf i).toNat)
  case atStart => exact ⟨0, rfl, by simp [cntLs], Nat.zero_le _, HO0, TurnB.refl _ _⟩
  case round =>
    clear HO0
    obtain ⟨j, rfl, rfl, hj, HO, HT⟩ := hrel
    by_cases hlt : j < L.length
    · have hct := cnt_take cntDial L j hlt
      have hcl := cnt_le cntDial L (j + 1)
      have hst := mix_step mkDial cntDial L k j hlt
      have hat := mix_at mkDial cntDial L k j hlt (by rw [mix_len _ _ L k j hj]; exact hlt)
      have hml := mix_len mkDial cntDial L k j hj
      obtain ⟨d, hd⟩ : ∃ d, d = L[j] := ⟨_, rfl⟩
      rw [← hd] at hct hst hat
      obtain ⟨K, hK⟩ : ∃ K : Nat, K = k + cntLs cntDial (L.take j) := ⟨_, rfl⟩
      rw [← hK] at hst ⊢
      obtain ⟨M, hM⟩ : ∃ M, M = mixLs mkDial cntDial L k j := ⟨_, rfl⟩
      rw [← hM] at hst hml
      have HOa : Hid (OwR dialS wr (.slice ad L.length cap) M bs) := by show OwR _ _ _ _ _; rw [hM]; exact HO.out
      have HAT : Hid (∀ h : j < M.length, M[j] = d) := fun h => by subst hM; exact hat
      have hKc : K + cntDial d = k + cntLs cntDial (L.take (j + 1)) := by omega
      have HKC := hide hKc
      have hKb : K + cntDial d ≤ 1000000000 := by omega
      unfold cntDial at hKb
      have HST := hide hst
      have hjM : j < M.length := by omega
      have HTa := hide HT.out
      clear hct hcl hst hat hM HO hd hK hKc HT
      obtain ⟨g0, c0, cs, bb, e1, hgl0, hgm, hgb, hsub, hbn, hown, hcell, hfr, _, hkeep, hsets⟩ := HOa.out.put HN.out j (by simpa using hjM)
      have eq0 : (M)[j]'(by simpa using hjM) = d := HAT.out hjM
      rw [eq0] at hown
      obtain ⟨rfl, f0, hbb⟩ := hown
      simp only [Value.slice.injEq] at e1
      obtain ⟨rfl, -, -⟩ := e1
      have c0_0 : wr.cell? ⟨g0, j * 3, none⟩ = some (.int .i64 d.seat) := hcell 0 _ rfl
      have c0_1 : wr.cell? ⟨g0, j * 3 + 1, none⟩ = some (.int .i64 d.id) := hcell 1 _ rfl
      have fz0 := fun q => hfr q
      have HOn0 : Hid (OwR dialS (setsFrom wr g0 (j * dialS.size + ([] : List Value).length) [.int .i64 ((K : Nat) : Int), .int .i64 ((K + 1 : Nat) : Int)]) _ ((M).set j ⟨((K : Nat) : Int), ((K + 1 : Nat) : Int), d.nm⟩) bs) := hsets [] [.int .i64 d.seat, .int .i64 d.id] [.string d.nm] [.int .i64 ((K : Nat) : Int), .int .i64 ((K + 1 : Nat) : Int)] ⟨((K : Nat) : Int), ((K + 1 : Nat) : Int), d.nm⟩ rfl rfl ⟨rfl, f0, hbb⟩
      have HTn0 : Hid (TurnB bs w (setsFrom wr g0 (j * dialS.size + ([] : List Value).length) [.int .i64 ((K : Nat) : Int), .int .i64 ((K + 1 : Nat) : Int)])) := TurnB.setsFrom g0 hgm _ _ _ HTa.out
      change Hid (OwR dialS ((wr.setCell ⟨g0, j * 3, none⟩ (.int .i64 ((K : Int)))).setCell ⟨g0, j * 3 + 1, none⟩ (.int .i64 ((K : Int) + 1))) _ _ _) at HOn0
      change Hid (TurnB bs w ((wr.setCell ⟨g0, j * 3, none⟩ (.int .i64 ((K : Int)))).setCell ⟨g0, j * 3 + 1, none⟩ (.int .i64 ((K : Int) + 1)))) at HTn0
      clear hcell hkeep hsets hsub hbn hgb hbb eq0 hfr
      go_wp2_with fail
      clear c0_0 c0_1 fz0
      generalize ((wr.setCell ⟨g0, j * 3, none⟩ (.int .i64 ((K : Int)))).setCell ⟨g0, j * 3 + 1, none⟩ (.int .i64 ((K : Int) + 1))) = V0 at *
      refine (show Calls _ _ #[.int .i64 ((K : Int) + 1 + 1)] _ _ from markTx (K + 1 + 1) _ (by omega)).mono ?_
      rintro x X1 ⟨rfl, hbx⟩
      have HOx1 := hide (HOn0.out.keep hbx.size (fun b hb => hbx.block b (HOn0.out.lt b hb)))
      have HTx1 := hide (HTn0.out.trans (TurnB.new hbx))
      clear hbx
      obtain ⟨g2, c2, cs, bb, e1, hgl2, hgm, hgb, hsub, hbn, hown, hcell, hfr, _, hkeep, hsets⟩ := HOx1.out.put HN.out j (by simpa using hjM)
      have eq2 : ((M).set j ⟨((K : Nat) : Int), ((K + 1 : Nat) : Int), d.nm⟩)[j]'(by simpa using hjM) = ⟨((K : Nat) : Int), ((K + 1 : Nat) : Int), d.nm⟩ := by simp
      rw [eq2] at hown
      obtain ⟨rfl, f0, hbb⟩ := hown
      simp only [Value.slice.injEq, Option.some.injEq, Addr.mk.injEq] at e1
      obtain ⟨⟨rfl, -, -⟩, -, -⟩ := e1
      have c2_2 : X1.cell? ⟨g0, j * 3 + 2, none⟩ = some (.string d.nm) := hcell 2 _ rfl
      have fz2 := fun q => hfr q
      have HOn2 : Hid (OwR dialS (setsFrom X1 g0 (j * dialS.size + ([.int .i64 ((K : Nat) : Int), .int .i64 ((K + 1 : Nat) : Int)] : List Value).length) [.string (mtx (K + 1 + 1))]) _ (((M).set j ⟨((K : Nat) : Int), ((K + 1 : Nat) : Int), d.nm⟩).set j ⟨((K : Nat) : Int), ((K + 1 : Nat) : Int), (mtx (K + 1 + 1))⟩) bs) := hsets [.int .i64 ((K : Nat) : Int), .int .i64 ((K + 1 : Nat) : Int)] [.string d.nm] [] [.string (mtx (K + 1 + 1))] ⟨((K : Nat) : Int), ((K + 1 : Nat) : Int), (mtx (K + 1 + 1))⟩ rfl rfl ⟨rfl, (by have := mtx_size (K + 1 + 1); simp only; omega), hbb⟩
      have HTn2 : Hid (TurnB bs w (setsFrom X1 g0 (j * dialS.size + ([.int .i64 ((K : Nat) : Int), .int .i64 ((K + 1 : Nat) : Int)] : List Value).length) [.string (mtx (K + 1 + 1))])) := TurnB.setsFrom g0 hgm _ _ _ HTx1.out
      change Hid (OwR dialS (X1.setCell ⟨g0, j * 3 + 2, none⟩ (.string (mtx (K + 1 + 1)))) _ _ _) at HOn2
      change Hid (TurnB bs w (X1.setCell ⟨g0, j * 3 + 2, none⟩ (.string (mtx (K + 1 + 1))))) at HTn2
      clear hcell hkeep hsets hsub hbn hgb hbb eq2 hfr
      go_wp2_with fail
      clear c2_2 fz2
      generalize (X1.setCell ⟨g0, j * 3 + 2, none⟩ (.string (mtx (K + 1 + 1)))) = V2 at *
      refine ⟨⟨j + 1, ?_, ?_, ?_, ?_, ?_⟩, ?_⟩
      · go_num
      · exact int_eq (by have h1 := HKC.out; have h2 : cntDial d = 1 + 1 + 1 := rfl; omega)
      · omega
      · show OwR _ _ _ _ _
        rw [← HST.out]
        have hfin := HOn2.out
        first | exact hfin | (simp only [List.set_set] at hfin; exact hfin)
      · exact HTn2.out
      · simp [intOf]; omega
    · obtain rfl : j = L.length := by omega
      rw [mix_end] at HO
      rw [List.take_length]
      go_wp2_with fail
      go_ret
      exact ⟨rfl, HO.out, HT.out⟩
end Go.Proofs.YtkhclhnejnpkeaaGreat
/- Flight in memory: its datum, its make; counted, copied, held against each other, marked, read again (by gen_shape.py). -/
namespace Go.Proofs.YtkhclhnejnpkeaaGreat
open Go.RowKit
set_option maxRecDepth 100000
set_option linter.unusedSimpArgs false
set_option linter.unusedVariables false

/-- What a Flight holds. -/
structure FgD where
  seat : Int
  id : Int
  nm : ByteArray
  tx : ByteArray
def FgD.cs (d : FgD) : List Value := [.int .i64 d.seat, .int .i64 d.id, .string d.nm, .string d.tx]
def flightS : Shp FgD where
  size := 4
  ty := 73
  rd := fun _ cs d => cs = d.cs ∧ d.nm.size ≤ 9223372036854775807 ∧ d.tx.size ≤ 9223372036854775807
  own := fun _ cs d bs => cs = d.cs ∧ d.nm.size ≤ 9223372036854775807 ∧ d.tx.size ≤ 9223372036854775807 ∧ bs = []
  pos := by decide
  rd_len := fun h => by replace h := h.1; subst h; rfl
  rd_one := fun h u hu => by replace h := h.1; subst h; simp only [FgD.cs, List.mem_cons, List.not_mem_nil, or_false] at hu; rcases hu with rfl | rfl | rfl | rfl <;> rfl
  rd_new := fun h _ => h
  own_rd := fun h => ⟨h.1, h.2.1, h.2.2.1⟩
  own_keep := fun h _ _ => h
  own_lt := fun h b hb => by rw [h.2.2.2] at hb; cases hb
/-- The marks of one in a row, from k on; how many; and of a row. -/
def mkFlight (d : FgD) (k : Nat) : FgD := ⟨((k : Nat) : Int), ((k + 1 : Nat) : Int), mtx (k + 1 + 1), mtx (k + 1 + 1 + 1)⟩
def cntFlight (d : FgD) : Nat := 1 + 1 + 1 + 1
def mkFlightS (L : List FgD) (k : Nat) : List FgD := mkLs mkFlight cntFlight L k
def cntFlightS (L : List FgD) : Nat := cntLs cntFlight L
theorem eqFlight1 (d : FgD) (w : World) : Calls Tryz.prog 77 #[.agg #[.int .i64 d.seat, .int .i64 d.id, .string d.nm, .string d.tx], .agg #[.int .i64 d.seat, .int .i64 d.id, .string d.nm, .string d.tx]] w fun x w' => x = .returned (.bool true) ∧ Below w.heap.size w w' := by
  go_enter Tryz.func77, Tryz.ntmps77
  go_wp2
  go_ret
  exact ⟨rfl, (by repeat' (first | (with_reducible exact Below.refl _ _) | (with_reducible refine Below.drew ?_) | (with_reducible refine bo_drewN _ ?_) | (with_reducible refine bo_alloc ?_ _) | (refine bchain ?_ (by with_reducible assumption)) | (with_reducible refine Below.setCell ?_ ?_ _) | go_size))⟩
set_option maxHeartbeats 1000000 in
theorem eqFlightS (L : List FgD) (v v' : Value) (w : World) (hr0 : RdR flightS w v L) (hr1 : RdR flightS w v' L) :
    Calls Tryz.prog 36 #[v, v'] w fun x w' => x = .returned (.bool true) ∧ Below w.heap.size w w' := by
  obtain ⟨ad, cap, rfl, h1, h2⟩ := hr0.form
  obtain ⟨ad', cap', rfl, h1', h2'⟩ := hr1.form
  have HR := hide hr0; have HR' := hide hr1
  clear hr0 hr1
  go_enter Tryz.func36, Tryz.ntmps36
  go_wp2_with fail
  go_loopw [5] (fun i wr => ∃ (k : Nat), i = .int .i64 k ∧ k ≤ L.length ∧ Below w.heap.size w wr) (fun i _ => L.length - (intOf i).toNat)
  case atStart => exact ⟨0, rfl, Nat.zero_le _, Below.refl _ _⟩
  case round =>
    obtain ⟨k, rfl, hk, hb⟩ := hrel
    by_cases hlt : k < L.length
    · have hrk := (HR.out.new hb).at k hlt
      have hrk' := (HR'.out.new hb).at k hlt
      obtain ⟨d, hd⟩ : ∃ d, d = L[k] := ⟨_, rfl⟩
      rw [← hd] at hrk hrk'
      clear hd
      obtain ⟨b, o, cs, rfl, hb1, hrd, hc⟩ := hrk
      obtain ⟨b', o', cs', rfl, hb2, hrd', hc'⟩ := hrk'
      obtain ⟨rfl, hf0, hf1⟩ := hrd
      obtain ⟨rfl, _, _⟩ := hrd'
      have c0 : wr.cell? ⟨b, o + k * 4, none⟩ = some (.int .i64 d.seat) := hc 0 _ rfl
      have c1 : wr.cell? ⟨b, o + k * 4 + 1, none⟩ = some (.int .i64 d.id) := hc 1 _ rfl
      have c2 : wr.cell? ⟨b, o + k * 4 + 2, none⟩ = some (.string d.nm) := hc 2 _ rfl
      have c3 : wr.cell? ⟨b, o + k * 4 + 3, none⟩ = some (.string d.tx) := hc 3 _ rfl
      have d0 : wr.cell? ⟨b', o' + k * 4, none⟩ = some (.int .i64 d.seat) := hc' 0 _ rfl
      have d1 : wr.cell? ⟨b', o' + k * 4 + 1, none⟩ = some (.int .i64 d.id) := hc' 1 _ rfl
      have d2 : wr.cell? ⟨b', o' + k * 4 + 2, none⟩ = some (.string d.nm) := hc' 2 _ rfl
      have d3 : wr.cell? ⟨b', o' + k * 4 + 3, none⟩ = some (.string d.tx) := hc' 3 _ rfl
      clear hc hc'
      go_wp2_with fail
      have qa0 : ∀ y : Later wr, y.w.cell? ⟨b, o + k * 4, none⟩ = some (.int .i64 d.seat) := fun y => (y.b.cell (p := ⟨b, o + k * 4, none⟩) hb1).trans c0
      have qa1 : ∀ y : Later wr, y.w.cell? ⟨b, o + k * 4 + 1, none⟩ = some (.int .i64 d.id) := fun y => (y.b.cell (p := ⟨b, o + k * 4 + 1, none⟩) hb1).trans c1
      have qa2 : ∀ y : Later wr, y.w.cell? ⟨b, o + k * 4 + 2, none⟩ = some (.string d.nm) := fun y => (y.b.cell (p := ⟨b, o + k * 4 + 2, none⟩) hb1).trans c2
      have qa3 : ∀ y : Later wr, y.w.cell? ⟨b, o + k * 4 + 3, none⟩ = some (.string d.tx) := fun y => (y.b.cell (p := ⟨b, o + k * 4 + 3, none⟩) hb1).trans c3
      have qb0 : ∀ y : Later wr, y.w.cell? ⟨b', o' + k * 4, none⟩ = some (.int .i64 d.seat) := fun y => (y.b.cell (p := ⟨b', o' + k * 4, none⟩) hb2).trans d0
      have qb1 : ∀ y : Later wr, y.w.cell? ⟨b', o' + k * 4 + 1, none⟩ = some (.int .i64 d.id) := fun y => (y.b.cell (p := ⟨b', o' + k * 4 + 1, none⟩) hb2).trans d1
      have qb2 : ∀ y : Later wr, y.w.cell? ⟨b', o' + k * 4 + 2, none⟩ = some (.string d.nm) := fun y => (y.b.cell (p := ⟨b', o' + k * 4 + 2, none⟩) hb2).trans d2
      have qb3 : ∀ y : Later wr, y.w.cell? ⟨b', o' + k * 4 + 3, none⟩ = some (.string d.tx) := fun y => (y.b.cell (p := ⟨b', o' + k * 4 + 3, none⟩) hb2).trans d3
      clear c0 c1 c2 c3 d0 d1 d2 d3
      have hne : Nonempty (Later wr) := ⟨⟨wr, Below.refl _ _⟩⟩; refine region_later (by kernel_rfl) (by kernel_rfl) ?_
      repeat (go_big_quiet_step (fail))
      go_big_quiet_want; go_big_quiet_op
      refine ⟨.bool true, fun y => later_calls (x := y) (eqFlight1 d y.w), ?_⟩
      go_big_quiet_on
      repeat (go_big_quiet_step (fail))
      refine wpQuiet_nil ?_; intro _ hw'; obtain ⟨y, hw''⟩ := hw'; subst hw''; have hby := y.b
      go_wp2_with fail
      go_roundw
      case rel => exact ⟨k + 1, by go_num, by omega, bchain hb hby⟩
      case measure => simp [intOf]; omega
    · go_wp2_with fail
      go_ret
      exact ⟨rfl, hb⟩
set_option maxHeartbeats 20000000 in
theorem markFlightS (L : List FgD) (k : Nat) (v : Value) (bs : List Nat) (w : World) (ho : OwR flightS w v L bs) (hn : bs.Nodup) (hk1 : k + cntFlightS L ≤ 1000000000) :
    Calls Tryz.prog 50 #[v, .int .i64 k] w fun x w' => x = .returned (.int .i64 ((k + cntFlightS L : Nat) : Int)) ∧ OwR flightS w' v (mkFlightS L k) bs ∧ TurnB bs w w' := by
  obtain ⟨ad, cap, rfl, h1, h2⟩ := ho.rd.form
  unfold cntFlightS mkFlightS at *
  have HO0 : Hid (OwR flightS w (.slice ad L.length cap) (mixLs mkFlight cntFlight L k 0) bs) := by show OwR _ _ _ _ _; rw [mix_zero]; exact ho
  clear ho
  have HN := hide hn
  clear hn
  go_enter Tryz.func50, Tryz.ntmps50
  go_wp2_with fail
  go_loopw [1, 5] (fun kk i wr => ∃ (j : Nat), i = .int .i64 j ∧ kk = .int .i64 ((k + cntLs cntFlight (L.take j) : Nat) : Int) ∧ j ≤ L.length ∧ Hid (OwR flightS wr (.slice ad L.length cap) (mixLs mkFlight cntFlight L k j) bs) ∧ Hid (TurnB bs w wr)) (fun _ i _ => L.length - (intOf i).toNat)
  case atStart => exact ⟨0, rfl, by simp [cntLs], Nat.zero_le _, HO0, TurnB.refl _ _⟩
  case round =>
    clear HO0
    obtain ⟨j, rfl, rfl, hj, HO, HT⟩ := hrel
    by_cases hlt : j < L.length
    · have hct := cnt_take cntFlight L j hlt
      have hcl := cnt_le cntFlight L (j + 1)
      have hst := mix_step mkFlight cntFlight L k j hlt
      have hat := mix_at mkFlight cntFlight L k j hlt (by rw [mix_len _ _ L k j hj]; exact hlt)
      have hml := mix_len mkFlight cntFlight L k j hj
      obtain ⟨d, hd⟩ : ∃ d, d = L[j] := ⟨_, rfl⟩
      rw [← hd] at hct hst hat
      obtain ⟨K, hK⟩ : ∃ K : Nat, K = k + cntLs cntFlight (L.take j) := ⟨_, rfl⟩
      rw [← hK] at hst ⊢
      obtain ⟨M, hM⟩ : ∃ M, M = mixLs mkFlight cntFlight L k j := ⟨_, rfl⟩
      rw [← hM] at hst hml
      have HOa : Hid (OwR flightS wr (.slice ad L.length cap) M bs) := by show OwR _ _ _ _ _; rw [hM]; exact HO.out
      have HAT : Hid (∀ h : j < M.length, M[j] = d) := fun h => by subst hM; exact hat
      have hKc : K + cntFlight d = k + cntLs cntFlight (L.take (j + 1)) := by omega
      have HKC := hide hKc
      have hKb : K + cntFlight d ≤ 1000000000 := by omega
      unfold cntFlight at hKb
      have HST := hide hst
      have hjM : j < M.length := by omega
      have HTa := hide HT.out
      clear hct hcl hst hat hM HO hd hK hKc HT
      obtain ⟨g0, c0, cs, bb, e1, hgl0, hgm, hgb, hsub, hbn, hown, hcell, hfr, _, hkeep, hsets⟩ := HOa.out.put HN.out j (by simpa using hjM)
      have eq0 : (M)[j]'(by simpa using hjM) = d := HAT.out hjM
      rw [eq0] at hown
      obtain ⟨rfl, f0, f1, hbb⟩ := hown
      simp only [Value.slice.injEq] at e1
      obtain ⟨rfl, -, -⟩ := e1
      have c0_0 : wr.cell? ⟨g0, j * 4, none⟩ = some (.int .i64 d.seat) := hcell 0 _ rfl
      have c0_1 : wr.cell? ⟨g0, j * 4 + 1, none⟩ = some (.int .i64 d.id) := hcell 1 _ rfl
      have fz0 := fun q => hfr q
      have HOn0 : Hid (OwR flightS (setsFrom wr g0 (j * flightS.size + ([] : List Value).length) [.int .i64 ((K : Nat) : Int), .int .i64 ((K + 1 : Nat) : Int)]) _ ((M).set j ⟨((K : Nat) : Int), ((K + 1 : Nat) : Int), d.nm, d.tx⟩) bs) := hsets [] [.int .i64 d.seat, .int .i64 d.id] [.string d.nm, .string d.tx] [.int .i64 ((K : Nat) : Int), .int .i64 ((K + 1 : Nat) : Int)] ⟨((K : Nat) : Int), ((K + 1 : Nat) : Int), d.nm, d.tx⟩ rfl rfl ⟨rfl, f0, f1, hbb⟩
      have HTn0 : Hid (TurnB bs w (setsFrom wr g0 (j * flightS.size + ([] : List Value).length) [.int .i64 ((K : Nat) : Int), .int .i64 ((K + 1 : Nat) : Int)])) := TurnB.setsFrom g0 hgm _ _ _ HTa.out
      change Hid (OwR flightS ((wr.setCell ⟨g0, j * 4, none⟩ (.int .i64 ((K : Int)))).setCell ⟨g0, j * 4 + 1, none⟩ (.int .i64 ((K : Int) + 1))) _ _ _) at HOn0
      change Hid (TurnB bs w ((wr.setCell ⟨g0, j * 4, none⟩ (.int .i64 ((K : Int)))).setCell ⟨g0, j * 4 + 1, none⟩ (.int .i64 ((K : Int) + 1)))) at HTn0
      clear hcell hkeep hsets hsub hbn hgb hbb eq0 hfr
      go_wp2_with fail
      clear c0_0 c0_1 fz0
      generalize ((wr.setCell ⟨g0, j * 4, none⟩ (.int .i64 ((K : Int)))).setCell ⟨g0, j * 4 + 1, none⟩ (.int .i64 ((K : Int) + 1))) = V0 at *
      refine (show Calls _ _ #[.int .i64 ((K : Int) + 1 + 1)] _ _ from markTx (K + 1 + 1) _ (by omega)).mono ?_
      rintro x X1 ⟨rfl, hbx⟩
      have HOx1 := hide (HOn0.out.keep hbx.size (fun b hb => hbx.block b (HOn0.out.lt b hb)))
      have HTx1 := hide (HTn0.out.trans (TurnB.new hbx))
      clear hbx
      obtain ⟨g2, c2, cs, bb, e1, hgl2, hgm, hgb, hsub, hbn, hown, hcell, hfr, _, hkeep, hsets⟩ := HOx1.out.put HN.out j (by simpa using hjM)
      have eq2 : ((M).set j ⟨((K : Nat) : Int), ((K + 1 : Nat) : Int), d.nm, d.tx⟩)[j]'(by simpa using hjM) = ⟨((K : Nat) : Int), ((K + 1 : Nat) : Int), d.nm, d.tx⟩ := by simp
      rw [eq2] at hown
      obtain ⟨rfl, f0, f1, hbb⟩ := hown
      simp only [Value.slice.injEq, Option.some.injEq, Addr.mk.injEq] at e1
      obtain ⟨⟨rfl, -, -⟩, -, -⟩ := e1
      have c2_2 : X1.cell? ⟨g0, j * 4 + 2, none⟩ = some (.string d.nm) := hcell 2 _ rfl
      have fz2 := fun q => hfr q
      have HOn2 : Hid (OwR flightS (setsFrom X1 g0 (j * flightS.size + ([.int .i64 ((K : Nat) : Int), .int .i64 ((K + 1 : Nat) : Int)] : List Value).length) [.string (mtx (K + 1 + 1))]) _ (((M).set j ⟨((K : Nat) : Int), ((K + 1 : Nat) : Int), d.nm, d.tx⟩).set j ⟨((K : Nat) : Int), ((K + 1 : Nat) : Int), (mtx (K + 1 + 1)), d.tx⟩) bs) := hsets [.int .i64 ((K : Nat) : Int), .int .i64 ((K + 1 : Nat) : Int)] [.string d.nm] [.string d.tx] [.string (mtx (K + 1 + 1))] ⟨((K : Nat) : Int), ((K + 1 : Nat) : Int), (mtx (K + 1 + 1)), d.tx⟩ rfl rfl ⟨rfl, (by have := mtx_size (K + 1 + 1); simp only; omega), f1, hbb⟩
      have HTn2 : Hid (TurnB bs w (setsFrom X1 g0 (j * flightS.size + ([.int .i64 ((K : Nat) : Int), .int .i64 ((K + 1 : Nat) : Int)] : List Value).length) [.string (mtx (K + 1 + 1))])) := TurnB.setsFrom g0 hgm _ _ _ HTx1.out
      change Hid (OwR flightS (X1.setCell ⟨g0, j * 4 + 2, none⟩ (.string (mtx (K + 1 + 1)))) _ _ _) at HOn2
      change Hid (TurnB bs w (X1.setCell ⟨g0, j * 4 + 2, none⟩ (.string (mtx (K + 1 + 1))))) at HTn2
      clear hcell hkeep hsets hsub hbn hgb hbb eq2 hfr
      go_wp2_with fail
      clear c2_2 fz2
      generalize (X1.setCell ⟨g0, j * 4 + 2, none⟩ (.string (mtx (K + 1 + 1)))) = V2 at *
      refine (show Calls _ _ #[.int .i64 ((K : Int) + 1 + 1 + 1)] _ _ from markTx (K + 1 + 1 + 1) _ (by omega)).mono ?_
      rintro x X3 ⟨rfl, hbx⟩
      have HOx3 := hide (HOn2.out.keep hbx.size (fun b hb => hbx.block b (HOn2.out.lt b hb)))
      have HTx3 := hide (HTn2.out.trans (TurnB.new hbx))
      clear hbx
      obtain ⟨g4, c4, cs, bb, e1, hgl4, hgm, hgb, hsub, hbn, hown, hcell, hfr, _, hkeep, hsets⟩ := HOx3.out.put HN.out j (by simpa using hjM)
      have eq4 : (((M).set j ⟨((K : Nat) : Int), ((K + 1 : Nat) : Int), d.nm, d.tx⟩).set j ⟨((K : Nat) : Int), ((K + 1 : Nat) : Int), (mtx (K + 1 + 1)), d.tx⟩)[j]'(by simpa using hjM) = ⟨((K : Nat) : Int), ((K + 1 : Nat) : Int), (mtx (K + 1 + 1)), d.tx⟩ := by simp
      rw [eq4] at hown
      obtain ⟨rfl, f0, f1, hbb⟩ := hown
      simp only [Value.slice.injEq, Option.some.injEq, Addr.mk.injEq] at e1
      obtain ⟨⟨rfl, -, -⟩, -, -⟩ := e1
      have c4_3 : X3.cell? ⟨g0, j * 4 + 3, none⟩ = some (.string d.tx) := hcell 3 _ rfl
      have fz4 := fun q => hfr q
      have HOn4 : Hid (OwR flightS (setsFrom X3 g0 (j * flightS.size + ([.int .i64 ((K : Nat) : Int), .int .i64 ((K + 1 : Nat) : Int), .string (mtx (K + 1 + 1))] : List Value).length) [.string (mtx (K + 1 + 1 + 1))]) _ ((((M).set j ⟨((K : Nat) : Int), ((K + 1 : Nat) : Int), d.nm, d.tx⟩).set j ⟨((K : Nat) : Int), ((K + 1 : Nat) : Int), (mtx (K + 1 + 1)), d.tx⟩).set j ⟨((K : Nat) : Int), ((K + 1 : Nat) : Int), (mtx (K + 1 + 1)), (mtx (K + 1 + 1 + 1))⟩) bs) := hsets [.int .i64 ((K : Nat) : Int), .int .i64 ((K + 1 : Nat) : Int), .string (mtx (K + 1 + 1))] [.string d.tx] [] [.string (mtx (K + 1 + 1 + 1))] ⟨((K : Nat) : Int), ((K + 1 : Nat) : Int), (mtx (K + 1 + 1)), (mtx (K + 1 + 1 + 1))⟩ rfl rfl ⟨rfl, (by have := mtx_size (K + 1 + 1); simp only; omega), (by have := mtx_size (K + 1 + 1 + 1); simp only; omega), hbb⟩
      have HTn4 : Hid (TurnB bs w (setsFrom X3 g0 (j * flightS.size + ([.int .i64 ((K : Nat) : Int), .int .i64 ((K + 1 : Nat) : Int), .string (mtx (K + 1 + 1))] : List Value).length) [.string (mtx (K + 1 + 1 + 1))])) := TurnB.setsFrom g0 hgm _ _ _ HTx3.out
      change Hid (OwR flightS (X3.setCell ⟨g0, j * 4 + 3, none⟩ (.string (mtx (K + 1 + 1 + 1)))) _ _ _) at HOn4
      change Hid (TurnB bs w (X3.setCell ⟨g0, j * 4 + 3, none⟩ (.string (mtx (K + 1 + 1 + 1))))) at HTn4
      clear hcell hkeep hsets hsub hbn hgb hbb eq4 hfr
      go_wp2_with fail
      clear c4_3 fz4
      generalize (X3.setCell ⟨g0, j * 4 + 3, none⟩ (.string (mtx (K + 1 + 1 + 1)))) = V4 at *
      refine ⟨⟨j + 1, ?_, ?_, ?_, ?_, ?_⟩, ?_⟩
      · go_num
      · exact int_eq (by have h1 := HKC.out; have h2 : cntFlight d = 1 + 1 + 1 + 1 := rfl; omega)
      · omega
      · show OwR _ _ _ _ _
        rw [← HST.out]
        have hfin := HOn4.out
        first | exact hfin | (simp only [List.set_set] at hfin; exact hfin)
      · exact HTn4.out
      · simp [intOf]; omega
    · obtain rfl : j = L.length := by omega
      rw [mix_end] at HO
      rw [List.take_length]
      go_wp2_with fail
      go_ret
      exact ⟨rfl, HO.out, HT.out⟩
end Go.Proofs.YtkhclhnejnpkeaaGreat
/- Texts in rows, as a make of data: counted, copied, held against each other, marked, read again. -/
namespace Go.Proofs.YtkhclhnejnpkeaaGreat
open Go.RowKit
set_option maxRecDepth 100000
set_option linter.unusedSimpArgs false
set_option linter.unusedVariables false
def strS : Shp ByteArray where
  size := 1
  ty := 9
  rd := fun _ cs d => cs = [.string d] ∧ d.size ≤ 9223372036854775807
  own := fun _ cs d bs => cs = [.string d] ∧ d.size ≤ 9223372036854775807 ∧ bs = []
  pos := by decide
  rd_len := fun h => by obtain ⟨rfl, _⟩ := h; rfl
  rd_one := fun h u hu => by obtain ⟨rfl, _⟩ := h; simp only [List.mem_cons, List.not_mem_nil, or_false] at hu; rcases hu with rfl; rfl
  rd_new := fun h _ => h
  own_rd := fun h => ⟨h.1, h.2.1⟩
  own_keep := fun h _ _ => h
  own_lt := fun h b hb => by rw [h.2.2] at hb; cases hb
theorem sv_flat (L : List ByteArray) : L.flatMap (fun d => [Value.string d]) = L.map Value.string := by induction L <;> simp_all
theorem rd_strs {w : World} {v : Value} {L : List ByteArray} (h : RdR strS w v L) : Reads w v L.length 1 (L.map Value.string) := by
  have := RdR.flat (E := strS) (f := fun d => [Value.string d]) (fun _ _ _ h => h.1) h
  rw [sv_flat] at this
  exact this
theorem rd_small {w : World} {v : Value} {L : List ByteArray} (h : RdR strS w v L) : ∀ x ∈ L, x.size ≤ 9223372036854775807 := by
  obtain ⟨ts, rfl, _, hE⟩ := h
  intro x hx
  obtain ⟨t, ht, rfl⟩ := List.mem_map.1 hx
  exact (hE t ht).2
theorem strs_ow {w : World} {lo : Nat} {v : Value} {L : List ByteArray} (h : w.ownsRow lo 9 1 v L.length (L.map Value.string)) (hs : ∀ x ∈ L, x.size ≤ 9223372036854775807) : OwX strS w lo w.heap.size v L := by
  refine owX_flat (f := fun d => [Value.string d]) (fun d hd => ⟨rfl, hs d hd, rfl⟩) ?_
  rw [sv_flat]
  exact h
theorem strs_at {w : World} {ad : Option Addr} {n cap k : Nat} {L : List ByteArray} (h : RdR strS w (.slice ad n cap) L) (hk : k < L.length) : ∃ b o, ad = some ⟨b, o, none⟩ ∧ b < w.heap.size ∧ w.cell? ⟨b, o + k, none⟩ = some (.string L[k]) ∧ L[k].size ≤ 9223372036854775807 := by
  obtain ⟨b, o, cs, e, hb, hrd, hc⟩ := h.at k hk
  obtain ⟨rfl, hs⟩ := hrd
  have h0 := hc 0 _ rfl
  have e1 : o + k * strS.size + 0 = o + k := by show o + k * 1 + 0 = o + k; omega
  rw [e1] at h0
  exact ⟨b, o, e, hb, h0, hs⟩
def szStringS (L : List ByteArray) : Int := L.length + sumLs (fun d => (d.size : Int)) L
theorem szStr_nn (d : ByteArray) : 0 ≤ ((d.size : Int)) := by omega
theorem szStringS_nn (L : List ByteArray) : 0 ≤ szStringS L := by unfold szStringS; have := sum_nn (fun d : ByteArray => (d.size : Int)) szStr_nn L; omega
theorem szStringS_len (L : List ByteArray) : (L.length : Int) ≤ szStringS L := by unfold szStringS; have := sum_nn (fun d : ByteArray => (d.size : Int)) szStr_nn L; omega
def mkStringS (L : List ByteArray) (k : Nat) : List ByteArray := mkLs (fun _ k => mtx k) (fun _ => 1) L k
def cntStringS (L : List ByteArray) : Nat := cntLs (fun _ => 1) L
theorem cntStringS_len (L : List ByteArray) : cntStringS L = L.length := by
  unfold cntStringS
  induction L with
  | nil => rfl
  | cons x L ih => simp only [cntLs, ih, List.length_cons]; omega
set_option maxHeartbeats 1000000 in
theorem toStringS (L : List ByteArray) (v : Value) (w : World) (hr : RdR strS w v L) (hz : szStringS L ≤ 1048576) :
    Calls Tryz.prog 79 #[v] w fun x w' => ∃ v', x = .returned v' ∧ OwX strS w' w.heap.size w'.heap.size v' L ∧ Below w.heap.size w w' := by
  have hL : L.length ≤ 1048576 := by have := szStringS_len L; omega
  obtain ⟨M, hM, hmk⟩ := make_row 82 9 (.string ⟨#[]⟩) 1 16 Tryz.underlying82 (by kernel_rfl) rfl (by decide) (by decide) L.length hL
  have hst := filling_start (E := strS) (owns_made w M 9 1 L.length hM hL)
  obtain ⟨ad, cap, rfl, h1, h2⟩ := hr.form
  have HR := hide hr
  clear hr hz
  go_enter Tryz.func79, Tryz.ntmps79
  go_wp2_with fail
  go_loopw [4] (fun i wr => ∃ (k : Nat), i = .int .i64 k ∧ k ≤ L.length ∧ Hid (Filling strS w wr L k)) (fun i _ => L.length - (intOf i).toNat)
  case atStart => exact ⟨0, rfl, Nat.zero_le _, hst⟩
  case round =>
    clear hst hmk
    obtain ⟨k, rfl, hk, HFI⟩ := hrel
    by_cases hlt : k < L.length
    · have hb : Below w.heap.size w wr := HFI.out.2.1
      obtain ⟨b, o, rfl, hbw, cx, hsx⟩ := strs_at (HR.out.new hb) hlt
      obtain ⟨hcell, hfz, hgl, HF2⟩ := filling_step HFI.out hlt (Below.refl _ _) (cs := [.string L[k]]) ⟨[], ⟨rfl, hsx, rfl⟩, by simp, by simp⟩
      obtain ⟨u0, hu0⟩ := hcell 0 (by decide)
      have hu0' : wr.cell? ⟨w.heap.size, k, none⟩ = some u0 := by simpa [strS] using hu0
      have HF3 := hide HF2
      change Hid (Filling strS w (wr.setCell ⟨w.heap.size, k * 1, none⟩ (.string L[k])) L (k + 1)) at HF3
      rw [Nat.mul_one] at HF3
      have hfk := hfz k
      generalize L[k] = x at *
      clear hcell hfz hu0 HF2
      go_wp2_with fail
      refine ⟨⟨k + 1, by go_num, by omega, HF3⟩, by simp [intOf]; omega⟩
    · obtain rfl : k = L.length := by omega
      obtain ⟨ho, hb⟩ := filling_end HFI.out
      go_wp2_with fail
      go_ret
      exact ⟨_, rfl, ho, hb⟩
set_option maxHeartbeats 1000000 in
theorem eqStringS (L : List ByteArray) (v v' : Value) (w : World) (hr0 : RdR strS w v L) (hr1 : RdR strS w v' L) :
    Calls Tryz.prog 86 #[v, v'] w fun x w' => x = .returned (.bool true) ∧ Below w.heap.size w w' := by
  obtain ⟨ad, cap, rfl, h1, h2⟩ := hr0.form
  obtain ⟨ad', cap', rfl, h1', h2'⟩ := hr1.form
  have HR := hide hr0
  have HR' := hide hr1
  clear hr0 hr1
  go_enter Tryz.func86, Tryz.ntmps86
  go_wp2_with fail
  go_loopw [5] (fun i wr => ∃ (k : Nat), i = .int .i64 k ∧ k ≤ L.length ∧ Below w.heap.size w wr) (fun i _ => L.length - (intOf i).toNat)
  case atStart => exact ⟨0, rfl, Nat.zero_le _, Below.refl _ _⟩
  case round =>
    obtain ⟨k, rfl, hk, hb⟩ := hrel
    by_cases hlt : k < L.length
    · obtain ⟨b, o, rfl, hbw, cx, hsx⟩ := strs_at (HR.out.new hb) hlt
      obtain ⟨b', o', rfl, hbw', cx', _⟩ := strs_at (HR'.out.new hb) hlt
      generalize L[k] = x at *
      go_wp2_with fail
      go_quiet (fail)
      go_wp2_with fail
      go_roundw
      case rel => exact ⟨k + 1, by go_num, by omega, bchain hb (bo_drewN _ (Below.refl _ _))⟩
      case measure => simp [intOf]; omega
    · go_wp2_with fail
      go_ret
      exact ⟨rfl, hb⟩
set_option maxHeartbeats 1000000 in
theorem szStringS1 (L : List ByteArray) (v : Value) (left : Int) (w : World) (hr : RdR strS w v L) (h0 : 0 ≤ left) (h1 : left ≤ 1048576) :
    Calls Tryz.prog 78 #[v, .int .i64 left] w fun x w' => (x = .returned (.int .i64 (-1)) ∨ (x = .returned (.int .i64 (left - szStringS L)) ∧ 0 ≤ left - szStringS L)) ∧ Below w.heap.size w w' := by
  obtain ⟨ad, cap, rfl, h2, h3⟩ := hr.form
  have HR := hide hr
  clear hr
  unfold szStringS
  by_cases h : left - L.length < 0
  · go_enter Tryz.func78, Tryz.ntmps78
    go_wp2
    go_ret
    exact ⟨.inl rfl, Below.refl _ _⟩
  · go_enter Tryz.func78, Tryz.ntmps78
    go_wp2_with fail
    go_loop [1, 5] (fun l i => ∃ (k : Nat), i = .int .i64 k ∧ k ≤ L.length ∧ l = .int .i64 (left - L.length - sumLs (fun d => (d.size : Int)) (L.take k)) ∧ 0 ≤ left - L.length - sumLs (fun d => (d.size : Int)) (L.take k)) (fun _ i => L.length - (intOf i).toNat)
    case atStart => exact ⟨0, rfl, Nat.zero_le _, by simp [sumLs], by simp [sumLs]; omega⟩
    case round =>
      obtain ⟨k, rfl, hk, rfl, hk0⟩ := hrel
      by_cases hlt : k < L.length
      · obtain ⟨b, o, rfl, hbw, cx, hsx⟩ := strs_at HR.out hlt
        have hsn := sum_take (fun d : ByteArray => (d.size : Int)) L k hlt
        have hnn := sum_nn (fun d : ByteArray => (d.size : Int)) szStr_nn (L.take k)
        generalize hx : L[k] = x at *
        clear hx
        generalize hq : sumLs (fun d : ByteArray => (d.size : Int)) (List.take k L) = q at *
        generalize hq' : sumLs (fun d : ByteArray => (d.size : Int)) (List.take (k + 1) L) = q' at *
        have HQ := hide hq'
        have HSN : Hid (q' = q + x.size) := hsn
        clear hq hq' hsn
        by_cases hneg : left - L.length - q - x.size < 0
        · go_wp2_with fail
          go_ret
          exact ⟨.inl rfl, Below.refl _ _⟩
        · go_wp2_with fail
          go_round
          case rel => exact ⟨k + 1, by go_num, by omega, int_eq (by have := HQ.out; have := HSN.out; omega), by have := HQ.out; have := HSN.out; omega⟩
          case measure => simp [intOf]; omega
      · obtain rfl : k = L.length := by omega
        rw [List.take_length] at *
        obtain ⟨X, hX⟩ : ∃ X, left - L.length - sumLs (fun d : ByteArray => (d.size : Int)) L = X := ⟨_, rfl⟩
        rw [hX] at hk0 ⊢
        have HX := hide hX
        clear hX
        go_wp2_with fail
        go_ret
        have e : left - (L.length + sumLs (fun d : ByteArray => (d.size : Int)) L) = X := by have := HX.out; omega
        rw [e]
        exact ⟨.inr ⟨rfl, by first | exact hk0 | omega⟩, Below.refl _ _⟩
theorem owr_strs {w : World} {v : Value} {L : List ByteArray} {bs : List Nat} (h : OwR strS w v L bs) : w.ownsRow 0 9 1 v L.length (L.map Value.string) ∧ bs = v.ownBlock.toList := by
  obtain ⟨ts, rfl, ho, hE, rfl⟩ := h
  have e : ts.flatMap (fun t => t.1) = (ts.map (fun t => t.2.1)).map Value.string := by
    rw [← sv_flat, List.flatMap_map]
    have hh : ∀ t ∈ ts, t.1 = [Value.string t.2.1] := fun t ht => (hE t ht).1
    clear ho hE
    induction ts with
    | nil => rfl
    | cons t ts ih => simp only [List.flatMap_cons]; rw [ih (fun x hx => hh x (by simp [hx])), ← hh t (by simp)]
  have e2 : ts.flatMap (fun t => t.2.2) = [] := by
    have hh : ∀ t ∈ ts, t.2.2 = [] := fun t ht => (hE t ht).2.2
    clear ho hE e
    induction ts with
    | nil => rfl
    | cons t ts ih => simp only [List.flatMap_cons]; rw [ih (fun x hx => hh x (by simp [hx])), hh t (by simp)]; rfl
  rw [e] at ho
  have ho2 : w.ownsRow 0 9 1 v ts.length ((ts.map (fun t => t.2.1)).map Value.string) := ho
  refine ⟨by simpa using ho2, by rw [e2]; simp⟩
theorem strs_owr {w : World} {v : Value} {L : List ByteArray} (h : w.ownsRow 0 9 1 v L.length (L.map Value.string)) (hs : ∀ x ∈ L, x.size ≤ 9223372036854775807) : OwR strS w v L v.ownBlock.toList := by
  refine ⟨L.map fun d => ([.string d], d, []), by simp [Function.comp_def], ?_, fun t ht => ?_, ?_⟩
  · rw [← sv_flat] at h
    have h2 : w.ownsRow 0 strS.ty strS.size v L.length (L.flatMap fun z => [Value.string z]) := h
    simpa [List.flatMap_map] using h2
  · obtain ⟨d, hd, rfl⟩ := List.mem_map.1 ht
    exact ⟨rfl, hs d hd, rfl⟩
  · have : ∀ M : List ByteArray, (M.map fun d => (([.string d], d, []) : List Value × ByteArray × List Nat)).flatMap (fun t => t.2.2) = [] := fun M => by induction M <;> simp_all
    rw [this]; simp
theorem mkStr_len (L : List ByteArray) (k : Nat) : (mkStringS L k).length = L.length := mk_len' _ _ L k
theorem mkStr_at (L : List ByteArray) (k j : Nat) (h : j < L.length) (h' : j < (mkStringS L k).length) : (mkStringS L k)[j] = mtx (k + j) := by
  have e := mk_at (fun (_ : ByteArray) k => mtx k) (fun _ => 1) L k j h h'
  have h2 := cntStringS_len (L.take j)
  unfold cntStringS at h2
  rw [h2, List.length_take, Nat.min_eq_left (by omega)] at e
  exact e
theorem mkStr_small (L : List ByteArray) (k : Nat) (hk : k + cntStringS L ≤ 1000000000) : ∀ x ∈ mkStringS L k, x.size ≤ 9223372036854775807 := by
  intro x hx
  obtain ⟨j, hj, rfl⟩ := List.getElem_of_mem hx
  have hj2 : j < L.length := by rw [← mkStr_len L k]; exact hj
  rw [mkStr_at L k j hj2]
  have := mtx_size (k + j)
  have := cntStringS_len L
  omega
set_option maxHeartbeats 1000000 in
theorem markStringS (L : List ByteArray) (k : Nat) (v : Value) (bs : List Nat) (w : World) (ho : OwR strS w v L bs) (hn : bs.Nodup) (hk1 : k + cntStringS L ≤ 1000000000) :
    Calls Tryz.prog 47 #[v, .int .i64 k] w fun x w' => x = .returned (.int .i64 ((k + cntStringS L : Nat) : Int)) ∧ OwR strS w' v (mkStringS L k) bs ∧ TurnB bs w w' := by
  obtain ⟨h, rfl⟩ := owr_strs ho
  have hsm := mkStr_small L k hk1
  have HSM := hide hsm
  rw [cntStringS_len] at *
  obtain ⟨ad, cap, rfl, h1, h2⟩ := owns_form h
  unfold maxLen at h2
  have HO := hide h
  clear h ho hsm hn
  go_enter Tryz.func47, Tryz.ntmps47
  go_wp2_with fail
  go_loopw [1, 5] (fun kk i wr => ∃ (j : Nat) (ys : List Value), i = .int .i64 j ∧ kk = .int .i64 ((k + j : Nat) : Int) ∧ j ≤ L.length ∧ Hid (wr.ownsRow 0 9 1 (.slice ad L.length cap) L.length ys) ∧ Hid (∀ t, t < j → ys[t]? = ((mkStringS L k).map Value.string)[t]?) ∧ Hid (w.grownBy wr (Value.slice ad L.length cap).ownBlock)) (fun _ i _ => L.length - (intOf i).toNat)
  case atStart => exact ⟨0, _, rfl, by simp, Nat.zero_le _, HO, hide (fun t ht => absurd ht (Nat.not_lt_zero _)), hide (gb_refl _ _)⟩
  case round =>
    clear HO
    obtain ⟨j, ys, rfl, rfl, hj, HOwn, HY, HT⟩ := hrel
    by_cases hlt : j < L.length
    · obtain ⟨K, hK⟩ : ∃ K : Nat, K = k + j := ⟨_, rfl⟩
      have hkb : K + 1 ≤ 1000000000 := by omega
      have HGT : Hid (((mkStringS L k).map Value.string)[j]? = some (.string (mtx K))) := by
        show _ = _
        rw [List.getElem?_map, List.getElem?_eq_getElem (by rw [mkStr_len]; exact hlt), mkStr_at L k j hlt, hK]; rfl
      rw [← hK]
      have HK := hide hK
      clear hK
      go_wp2_with fail
      refine (markTx K _ (by omega)).mono ?_; rintro x w1 ⟨rfl, hb1⟩
      have hown1 := owns_new HOwn.out hb1
      obtain ⟨g, cap', e1, e2, e3, e4, _, _, e5, e6⟩ := owns_open hown1 (by omega)
      simp only [Value.slice.injEq] at e1
      obtain ⟨rfl, _, rfl⟩ := e1
      have hl1 := hown1.1
      obtain ⟨u0, hu0⟩ : ∃ u, w1.cell? ⟨g, j, none⟩ = some u := ⟨_, e5 _ _ (List.getElem?_eq_getElem (by omega))⟩
      have HO1 := hide (owns_set (g := g) hown1 rfl j (.string (mtx K)))
      have HP1 := hide (pre_set (j + 1) (a := .string (mtx K)) HY.out HGT.out (by omega) rfl)
      have ht1 := hide (gb_set (gb_trans HT.out (gb_new hb1 _)) ⟨g, j, none⟩ (.string (mtx K)) (by rfl))
      have f6 := e6 j
      clear e5 e2 hown1 e6 HOwn HY HT HGT
      go_wp2_with fail
      exact ⟨⟨j + 1, _, by go_num, int_eq (by have := HK.out; omega), by omega, HO1, HP1, ht1⟩, by simp [intOf]; omega⟩
    · obtain rfl : j = L.length := by omega
      have hys : ys = (mkStringS L k).map Value.string := List.ext_getElem? fun t => by
        by_cases ht' : t < L.length
        · exact HY.out t ht'
        · rw [List.getElem?_eq_none (by have := HOwn.out.1; omega), List.getElem?_eq_none (by rw [List.length_map, mkStr_len]; omega)]
      subst hys
      go_wp2_with fail
      go_ret
      refine ⟨rfl, ?_, ⟨HT.out.os, HT.out.tape, HT.out.output, HT.out.size, fun q hq hnq => HT.out.block q hq (fun c => hnq (by rw [← c]; simp))⟩⟩
      exact strs_owr (by rw [mkStr_len]; exact HOwn.out) HSM.out
set_option maxHeartbeats 1000000 in
theorem heldStringS (L : List ByteArray) (k : Nat) (v : Value) (w : World) (hr : RdR strS w v (mkStringS L k)) (hk1 : k + cntStringS L ≤ 1000000000) :
    Calls Tryz.prog 90 #[v, .int .i64 k] w fun x w' => x = .returned (.int .i64 ((k + cntStringS L : Nat) : Int)) ∧ Below w.heap.size w w' := by
  rw [cntStringS_len] at *
  obtain ⟨ad, cap, rfl, h1, h2⟩ := hr.form
  rw [mkStr_len] at h1 ⊢
  have HR := hide hr
  clear hr
  go_enter Tryz.func90, Tryz.ntmps90
  go_wp2_with fail
  go_loopw [1, 5] (fun kk i wr => ∃ (j : Nat), i = .int .i64 j ∧ kk = .int .i64 ((k + j : Nat) : Int) ∧ j ≤ L.length ∧ Below w.heap.size w wr) (fun _ i _ => L.length - (intOf i).toNat)
  case atStart => exact ⟨0, rfl, by simp, Nat.zero_le _, Below.refl _ _⟩
  case round =>
    obtain ⟨j, rfl, rfl, hj, hb⟩ := hrel
    by_cases hlt : j < L.length
    · obtain ⟨b, o, e, hbw, cx, hsx⟩ := strs_at (k := j) (HR.out.new hb) (by rw [mkStr_len]; exact hlt)
      rw [mkStr_at L k j hlt] at cx hsx
      subst e
      obtain ⟨K, hK⟩ : ∃ K : Nat, K = k + j := ⟨_, rfl⟩
      rw [← hK] at cx hsx ⊢
      have HK := hide hK
      have hkb : K + 1 ≤ 1000000000 := by omega
      clear hK
      go_wp2_with fail
      have q0 : ∀ y : Later wr, y.w.cell? ⟨b, o + j, none⟩ = some (.string (mtx K)) := fun y => (y.b.cell (p := ⟨b, o + j, none⟩) hbw).trans cx
      clear cx
      have hne : Nonempty (Later wr) := ⟨⟨wr, Below.refl _ _⟩⟩; refine region_later (by kernel_rfl) (by kernel_rfl) ?_
      repeat (go_big_quiet_step (fail))
      go_big_quiet_want; go_big_quiet_op
      refine ⟨.string (mtx K), fun y => later_calls (x := y) (markTx K y.w (by omega)), ?_⟩
      go_big_quiet_on
      repeat (go_big_quiet_step (fail))
      refine wpQuiet_nil ?_; intro _ hw'; obtain ⟨y, hw''⟩ := hw'; subst hw''; have hby := y.b
      go_wp2_with fail
      go_roundw
      case rel => exact ⟨j + 1, by go_num, int_eq (by have := HK.out; omega), by omega, bchain hb hby⟩
      case measure => simp [intOf]; omega
    · obtain rfl : j = L.length := by omega
      go_wp2_with fail
      go_ret
      exact ⟨rfl, hb⟩
open Go.ChangeShapes Go.WideShapes Go.ChangeAt Go.Joins in
theorem open_cellsStr {H : Type} {enc : TypeId × Value → H} {W : World} {base : Nat} {spare : Nat → Bool} {held : Bool} {fuel : Nat} {cs : List Value} {x : DataW H × List MemPlace} (h : DataW.trod enc Tryz.prog W base spare held fuel 9 cs = some x) : ∃ d : ByteArray, strS.rd W cs d := by
  obtain ⟨s, rfl, _, ws⟩ := DataW.trod_string Tryz.underlying9 h
  exact ⟨s, rfl, by unfold maxLen at ws; omega⟩
end Go.Proofs.YtkhclhnejnpkeaaGreat
/- Chapter 14's model: times, names, the mac, a number's text. -/
namespace Go.Proofs.YtkhclhnejnpkeaaGreat
open Go.RowKit
set_option maxRecDepth 100000
set_option linter.unusedSimpArgs false
set_option linter.unusedVariables false
theorem nameB_no {s : ByteArray} {k : Nat} (hk : k < s.size) (h : ¬ (97 ≤ (s[k].toNat : Int) ∧ (s[k].toNat : Int) ≤ 122)) : nameB s = false := by
  unfold nameB
  have : (bys s).all (fun b => inB b 97 122) = false := by
    refine List.all_eq_false.2 ⟨(s[k].toNat : Int), ?_, ?_⟩
    · have := bys_drop s k hk
      exact List.mem_of_mem_drop (by rw [this]; simp)
    · rw [inB_not h]; simp
  rw [this]; rfl
theorem nameB_yes {s : ByteArray} (h : ∀ j (hj : j < s.size), 97 ≤ (s[j].toNat : Int) ∧ (s[j].toNat : Int) ≤ 122) : nameB s = inB (s.size : Int) 1 20 := by
  unfold nameB
  have : (bys s).all (fun b => inB b 97 122) = true := by
    refine List.all_eq_true.2 fun x hx => ?_
    obtain ⟨j, hj, rfl⟩ := List.mem_iff_getElem.1 hx
    have hj' : j < s.size := by rw [bys_len] at hj; exact hj
    have e : (bys s)[j] = (s[j].toNat : Int) := by simp [bys]; rfl
    rw [e]
    exact inB_of (h j hj').1 (h j hj').2
  rw [this]; simp
set_option maxHeartbeats 1000000 in
theorem specName (s : ByteArray) (w : World) (hs : s.size ≤ maxLen) : Calls Tryz.prog 61 #[.string s] w fun x w' => x = .returned (.bool (nameB s)) ∧ Below w.heap.size w w' := by
  unfold maxLen at hs
  obtain ⟨A, hA⟩ : ∃ A, nameB s = A := ⟨_, rfl⟩
  rw [hA]
  have HA := hide hA
  clear hA
  go_enter Tryz.func61, Tryz.ntmps61
  go_wp2_with fail
  go_loop [3] (fun i => ∃ k : Nat, i = .int .i64 k ∧ k ≤ s.size ∧ Hid (∀ j (hj : j < s.size), j < k → 97 ≤ (s[j].toNat : Int) ∧ (s[j].toNat : Int) ≤ 122)) (fun i => s.size - (intOf i).toNat)
  case atStart => exact ⟨0, rfl, Nat.zero_le _, fun j _ hj => absurd hj (Nat.not_lt_zero _)⟩
  case round =>
    obtain ⟨k, rfl, hk, HN⟩ := hrel
    by_cases hlt : k < s.size
    · have hltI : (k : Int) < s.size := by omega
      obtain ⟨b, hb⟩ : ∃ b, (s[k].toNat : Int) = b := ⟨_, rfl⟩
      have hb0 : 0 ≤ b ∧ b ≤ 255 := by have := s[k].toNat_lt; omega
      have HB := hide hb
      by_cases h1 : b < 97
      · have HF : Hid (A = false) := by show A = false; rw [← HA.out]; exact nameB_no hlt (by rw [hb]; omega)
        go_wp2_with fail
        go_ret
        exact ⟨by rw [HF.out]; rfl, (by repeat' (first | (with_reducible exact Below.refl _ _) | (with_reducible refine Below.drew ?_) | (with_reducible refine bo_drewN _ ?_) | (with_reducible refine bo_alloc ?_ _) | (refine bchain ?_ (by with_reducible assumption)) | (with_reducible refine Below.setCell ?_ ?_ _) | go_size))⟩
      · by_cases h2 : 122 < b
        · have HF : Hid (A = false) := by show A = false; rw [← HA.out]; exact nameB_no hlt (by rw [hb]; omega)
          go_wp2_with fail
          go_ret
          exact ⟨by rw [HF.out]; rfl, (by repeat' (first | (with_reducible exact Below.refl _ _) | (with_reducible refine Below.drew ?_) | (with_reducible refine bo_drewN _ ?_) | (with_reducible refine bo_alloc ?_ _) | (refine bchain ?_ (by with_reducible assumption)) | (with_reducible refine Below.setCell ?_ ?_ _) | go_size))⟩
        · have HN2 : Hid (∀ j (hj : j < s.size), j < k + 1 → 97 ≤ (s[j].toNat : Int) ∧ (s[j].toNat : Int) ≤ 122) := fun j hj hjk => by
            by_cases e : j = k
            · subst e; rw [HB.out]; omega
            · exact HN.out j hj (by omega)
          go_wp2_with fail
          go_round
          case rel => exact ⟨k + 1, by go_num, by omega, HN2⟩
          case measure => simp [intOf]; omega
    · obtain rfl : k = s.size := by omega
      have HF : Hid (A = inB (s.size : Int) 1 20) := by show A = _; rw [← HA.out]; exact nameB_yes (fun j hj => HN.out j hj hj)
      by_cases h1 : (1 : Int) ≤ s.size
      · by_cases h2 : (s.size : Int) ≤ 20
        · have e : inB (s.size : Int) 1 20 = true := inB_of h1 h2
          go_wp2_with fail
          go_ret
          exact ⟨by rw [HF.out, e]; rfl, (by repeat' (first | (with_reducible exact Below.refl _ _) | (with_reducible refine Below.drew ?_) | (with_reducible refine bo_drewN _ ?_) | (with_reducible refine bo_alloc ?_ _) | (refine bchain ?_ (by with_reducible assumption)) | (with_reducible refine Below.setCell ?_ ?_ _) | go_size))⟩
        · have e : inB (s.size : Int) 1 20 = false := inB_not (by omega)
          go_wp2_with fail
          go_ret
          exact ⟨by rw [HF.out, e]; rfl, (by repeat' (first | (with_reducible exact Below.refl _ _) | (with_reducible refine Below.drew ?_) | (with_reducible refine bo_drewN _ ?_) | (with_reducible refine bo_alloc ?_ _) | (refine bchain ?_ (by with_reducible assumption)) | (with_reducible refine Below.setCell ?_ ?_ _) | go_size))⟩
      · have e : inB (s.size : Int) 1 20 = false := inB_not (by omega)
        go_wp2_with fail
        go_ret
        exact ⟨by rw [HF.out, e]; rfl, (by repeat' (first | (with_reducible exact Below.refl _ _) | (with_reducible refine Below.drew ?_) | (with_reducible refine bo_drewN _ ?_) | (with_reducible refine bo_alloc ?_ _) | (refine bchain ?_ (by with_reducible assumption)) | (with_reducible refine Below.setCell ?_ ?_ _) | go_size))⟩
end Go.Proofs.YtkhclhnejnpkeaaGreat
/- A row that a slice literal makes, and rows of int64 behind an append. -/
namespace Go.Proofs.YtkhclhnejnpkeaaGreat
open Go.RowKit
set_option maxRecDepth 100000
set_option linter.unusedSimpArgs false
set_option linter.unusedVariables false
theorem owns_lit (w : World) (e : TypeId) (size n : Nat) (xs : Array Value) (hx : xs.size = n * size) (hn : n ≤ 1000000) : (w.alloc (.cells xs e)).ownsRow w.heap.size e size (.slice (some ⟨w.heap.size, 0, none⟩) n n) n xs.toList :=
  ⟨by simp [hx], .inr ⟨w.heap.size, n, xs, rfl, Nat.le_refl _, heap_alloc_last w _, Nat.le_refl _, by unfold maxLen; omega, hx, by rw [List.take_of_length_le (by simp [hx])]⟩⟩
end Go.Proofs.YtkhclhnejnpkeaaGreat
/- A row that is owned, with one more behind an append. -/
namespace Go.Proofs.YtkhclhnejnpkeaaGreat
open Go.RowKit
set_option maxRecDepth 100000
set_option linter.unusedSimpArgs false
set_option linter.unusedVariables false
/-- A row that is owned, opened for an append: its cells, and what the append leaves. -/
theorem OwX.grow {D : Type} {E : Shp D} {w : World} {lo mid : Nat} {v : Value} {L : List D} (h : OwX E w lo mid v L) (hmid : mid ≤ w.heap.size) (hlm : lo ≤ mid) : ∃ xs, w.ownsRow 0 E.ty E.size v L.length xs ∧
    ∀ (w1 : World) (v' : Value) (cs : List Value) (x : D), OwE E w mid w.heap.size cs x → w1.ownsRow 0 E.ty E.size v' (L.length + 1) (xs ++ cs) → w.grownBy w1 v.ownBlock → (v'.ownBlock = v.ownBlock ∨ v'.ownBlock = some w.heap.size) → OwX E w1 lo w1.heap.size v' (L ++ [x]) := by
  obtain ⟨bs, ⟨ts, hL, ho, hE, rfl⟩, hn, hb⟩ := h
  have hlen : L.length = ts.length := by rw [hL]; simp
  refine ⟨ts.flatMap (·.1), by rw [hlen]; exact ho, fun w1 v' cs x hx ho' hg hat => ?_⟩
  exact OwX.app (mid := mid) (hi := w.heap.size) hL ho hE hn hb hmid (by omega) hx hlm (by rw [← hlen]; exact ho') hg hat
end Go.Proofs.YtkhclhnejnpkeaaGreat
/- A struct in the midst of a block, loaded and stored as a whole. -/
namespace Go.Proofs.YtkhclhnejnpkeaaGreat
open Go.RowKit
set_option maxRecDepth 100000
set_option linter.unusedSimpArgs false
set_option linter.unusedVariables false
section
variable {P : Program}
theorem run_storeVar_mid (w : World) (b o : Nat) (t ty : TypeId) (A C old cs : List Value) (hg : MidIs w b t A C o old) (hi : (P.info? ty).map (·.size) = some cs.length) (hl : old.length = cs.length) (h1 : ∀ u ∈ cs, u.oneCell' = true) :
    (storeVar ty ⟨b, o, none⟩ (.agg cs.toArray)).run P w = .ok () (w.setRow b (A ++ cs ++ C).toArray) := by
  have hoff := hg.off
  have hrow : w.heap[b]? = some (.cells (A ++ old ++ C).toArray t (0, 0)) := hg.row
  have := run_storeCells_at (P := P) b o t cs 0 (A ++ old ++ C).toArray w hrow (by simp; omega) h1
  have e : (A ++ old ++ C).toArray.toList.take (o + 0) ++ cs ++ (A ++ old ++ C).toArray.toList.drop (o + 0 + cs.length) = A ++ cs ++ C := by
    subst hoff
    simp only [Nat.add_zero, List.append_assoc]
    rw [List.take_left, show A.length + cs.length = A.length + old.length by omega, ← List.append_assoc A old C, ← List.length_append, List.drop_left]
  rw [e] at this
  cases hq : P.info? ty with
  | none => simp [hq] at hi
  | some i =>
    have hs : cs.length = i.size := by simp [hq] at hi; omega
    simp [storeVar, sizeOf, typeInfo, hq, Value.cells, hs, this]
theorem MidIs.setRow {w : World} {b o : Nat} {t : TypeId} {A C old : List Value} (h : MidIs w b t A C o old) (cs : List Value) : MidIs (w.setRow b (A ++ cs ++ C).toArray) b t A C o cs := ⟨rowIs_setRow (cs' := A ++ cs ++ C) h.row, h.off⟩
theorem turnB_setRow (w : World) (b : Nat) (cs : Array Value) : TurnB [b] w (w.setRow b cs) := ⟨rfl, rfl, rfl, by rw [setRow_size]; exact Nat.le_refl _, fun k _ hk => setRow_other _ _ _ _ (by simpa using hk)⟩
theorem wp_store_mid {op : Oper} {a : Act} {w : World} {K : Act → World → Prop} {Q : Exit → Act → World → Prop} (ty : TypeId) (x y : Operand) (ho : op.op = .store ty x y)
    (b o : Nat) (cs : List Value) (hx : a.eval x = .pointer (some ⟨b, o, none⟩)) (hy : a.eval y = .agg cs.toArray) (t : TypeId) (A C old : List Value) (hc : MidIs w b t A C o old)
    (hi : (P.info? ty).map (·.size) = some cs.length) (hl : old.length = cs.length) (h1 : ∀ u ∈ cs, u.oneCell' = true)
    (h : ∀ w', MidIs w' b t A C o cs → TurnB [b] w w' → K (a.put op.dst undef) w') : op.wp P a w K Q := by
  unfold Oper.wp execOp
  simp only [ho, hx, hy, Instr.storeAt, Instr.sureAddr, Sem.run_bind, Sem.run_pure, Result.andThen_ok, run_storeVar_mid w b o t ty A C old cs hc hi hl h1]
  exact h _ (hc.setRow cs) (turnB_setRow w b _)
theorem wpList_store_mid {ops : Array Oper} {rest : List Oper} {op : Oper} {a : Act} {w : World} {Q : Exit → Act → World → Prop} (hgd : op.guard = none) (ty : TypeId) (x y : Operand) (ho : op.op = .store ty x y)
    (b o : Nat) (cs : List Value) (hx : a.eval x = .pointer (some ⟨b, o, none⟩)) (hy : a.eval y = .agg cs.toArray) (t : TypeId) (A C old : List Value) (hc : MidIs w b t A C o old)
    (hi : (P.info? ty).map (·.size) = some cs.length) (hl : old.length = cs.length) (h1 : ∀ u ∈ cs, u.oneCell' = true)
    (h : ∀ w', MidIs w' b t A C o cs → TurnB [b] w w' → wpList P ops Q rest (a.put op.dst undef) w') : wpList P ops Q (op :: rest) a w :=
  wpList_plain hgd fun _ hK => wp_store_mid ty x y ho b o cs hx hy t A C old hc hi hl h1 fun w' h2 h3 => hK _ _ (h w' h2 h3)
end
/-- A part of a run of cells. -/
theorem MidIs.part {w : World} {b o : Nat} {t : TypeId} {A C p m q : List Value} (h : MidIs w b t A C o (p ++ m ++ q)) : MidIs w b t (A ++ p) (q ++ C) (o + p.length) m :=
  ⟨by have := h.row; simpa using this, by rw [List.length_append, h.off]⟩
/-- A part of a row that is owned, in place. -/
theorem owns_mid {w : World} {base : Nat} {e : TypeId} {size n : Nat} {v : Value} {A B C : List Value} (h : w.ownsRow base e size v n (A ++ B ++ C)) (hB : B ≠ []) :
    ∃ g cap S, v = .slice (some ⟨g, 0, none⟩) n cap ∧ v.ownBlock = some g ∧ base ≤ g ∧ g < w.heap.size ∧ n ≤ cap ∧ cap ≤ maxLen ∧ MidIs w g e A (C ++ S) A.length B ∧
      ∀ w' B', B'.length = B.length → MidIs w' g e A (C ++ S) A.length B' → w'.ownsRow base e size v n (A ++ B' ++ C) := by
  obtain ⟨hl, hr⟩ := h
  rcases hr with ⟨hv, h0⟩ | ⟨g, cap, arr, hv, hb0, hheap, h1, h2, h3, h4⟩
  · subst h0
    have : (A ++ B ++ C).length = 0 := by rw [hl]; simp
    simp at this
    exact absurd this.2.1 hB
  · have hS : arr.toList = A ++ B ++ (C ++ arr.toList.drop (n * size)) := by rw [← List.append_assoc, ← h4, List.take_append_drop]
    refine ⟨g, cap, arr.toList.drop (n * size), hv, by rw [hv]; rfl, hb0, (Array.getElem?_eq_some_iff.1 hheap).1, h1, h2, ⟨?_, rfl⟩, fun w' B' hBl hm => ?_⟩
    · show w.heap[g]? = some (.cells _ e (0, 0))
      rw [hheap, ← hS]
    · refine ⟨by rw [← hl]; simp [hBl], .inr ⟨g, cap, (A ++ B' ++ (C ++ arr.toList.drop (n * size))).toArray, hv, hb0, hm.row, h1, h2, ?_, ?_⟩⟩
      · have e1 := congrArg List.length hS
        rw [← h3]
        simp only [List.length_append, Array.length_toList, List.size_toArray] at e1 ⊢
        omega
      · have e2 : A ++ B' ++ (C ++ arr.toList.drop (n * size)) = (A ++ B' ++ C) ++ arr.toList.drop (n * size) := by simp
        show List.take _ _ = _
        rw [e2, List.take_append_of_le_length (by rw [← hl]; simp [hBl]), List.take_of_length_le (by rw [← hl]; simp [hBl])]
end Go.Proofs.YtkhclhnejnpkeaaGreat
