/- Several small texts of one level, one behind the other. -/
import Derived.Test.YtfmeinkhdgbgjaaGreatQTkRing5
import Derived.Test.YtfmeinkhdgbgjaaGreatQTkRegImpl
/- The program's word on a Table. -/
namespace Go.Proofs.YtfmeinkhdgbgjaaGreat
open Go.RowKit
set_option maxRecDepth 100000
set_option linter.unusedSimpArgs false
set_option linter.unusedVariables false
set_option maxRecDepth 100000 in
set_option maxHeartbeats 1000000 in
theorem implTOk (L : List Fd) (room : Int) (v : Value) (w : World) (hr0 : Reads w v L.length 2 (fv L)) (hf : ∀ f ∈ L, f.fine) :
    Calls Tryz.prog 109 #[.agg #[.int .i64 room, v]] w fun x w' => x = .returned (.bool (okT room L)) ∧ Below w.heap.size w w' := by
  have HR := hide hr0
  obtain ⟨hl, ad, cap, rfl, h1, h2, h3⟩ := hr0
  clear h3
  go_enter Tryz.func109, Tryz.ntmps109
  go_wp2_with fail
  refine (ringOf1 L room _ _ ?c1 hf).mono ?_
  case c1 => exact HR.out.new (by repeat' (first | (with_reducible exact Below.refl _ _) | (with_reducible refine Below.drew ?_) | (with_reducible refine bo_drewN _ ?_) | (with_reducible refine bo_alloc ?_ _) | (refine bchain ?_ (by with_reducible assumption)) | (with_reducible refine Below.setCell ?_ ?_ _) | go_size))
  rintro x w1 ⟨cs, hcl, hone, rfl, _, hb1⟩
  have HONE := hide hone
  have HB : Below w.heap.size w w1 := (by repeat' (first | (with_reducible exact Below.refl _ _) | (with_reducible refine Below.drew ?_) | (with_reducible refine bo_drewN _ ?_) | (with_reducible refine bo_alloc ?_ _) | (refine bchain ?_ (by with_reducible assumption)) | (with_reducible refine Below.setCell ?_ ?_ _) | go_size))
  clear hone hb1
  go_wp2_with (first | (refine wpList_alloc_row (by rfl) 229 (by rfl) ringZ ringZ_zero.1 ?_) | (refine wpList_store_row (by rfl) 229 _ _ (by rfl) (w1.heap.size) (cs) (by rfl) (by rfl) 229 (ringZ) (rowIs_new w1 229 ringZ) (by rw [hcl]; exact ringZ_zero.2) (Eq.trans ringZ_len (Eq.symm hcl)) (HONE.out) ?_))
  go_ret
  exact ⟨rfl, below_setRow (bo_alloc HB _) HB.size _⟩
end Go.Proofs.YtfmeinkhdgbgjaaGreat
/- The program's StateOf. -/
namespace Go.Proofs.YtfmeinkhdgbgjaaGreat
open Go.RowKit
set_option maxRecDepth 100000
set_option linter.unusedSimpArgs false
set_option linter.unusedVariables false
/-- What the program answers: of a registry that is not right that it is idle. -/
def stateP (r : RegistryD) (id : Int) : Int := if okRg r = true then stateD r id else 0
set_option maxHeartbeats 2000000 in
theorem implStateOf (d : RegistryD) (v : Value) (id : Int) (w : World) (hr : RdR entryS w v d.es) :
    Calls Tryz.prog 24 #[.agg #[.int .i64 d.lim, .int .i64 d.top, v], .int .i64 id] w fun x w' => x = .returned (.int .i64 (stateP d id)) ∧ Below w.heap.size w w' := by
  obtain ⟨ad, cap, rfl, h1, h2⟩ := hr.form
  have HR := hide hr
  clear hr
  have hok := fun w h => implRightR d (.slice ad d.es.length cap) w h
  obtain ⟨z, hz⟩ : ∃ z, stateP d id = z := ⟨_, rfl⟩
  have HZ := hide hz
  rw [hz]
  clear hz
  go_enter Tryz.func24, Tryz.ntmps24
  go_wp2_with fail
  obtain ⟨V, hV⟩ : ∃ V, w.alloc (.cells #[.int .i64 d.lim, .int .i64 d.top, .slice ad d.es.length cap] 26) = V := ⟨_, rfl⟩
  have HB : Hid (Below w.heap.size w V) := by show Below _ _ _; rw [← hV]; exact (Below.refl _ _).alloc (Nat.le_refl _) _
  have HX : Hid (RowIs V w.heap.size 26 [.int .i64 d.lim, .int .i64 d.top, .slice ad d.es.length cap]) := by show RowIs _ _ _ _; rw [← hV]; exact rowIs_new w 26 [.int .i64 d.lim, .int .i64 d.top, .slice ad d.es.length cap]
  rw [hV]
  clear hV
  refine (hok _ (HR.out.new HB.out)).mono ?_
  cases hq : okRg d
  · rintro e w1 ⟨rfl, hb1⟩
    have hz0 : z = 0 := by rw [← HZ.out]; unfold stateP; rw [if_neg (by rw [hq]; decide)]
    subst hz0
    go_wp2_with fail
    go_ret
    exact ⟨rfl, bchain HB.out hb1⟩
  rintro e w1 ⟨rfl, hb1⟩
  have hzs : stateD d id = z := by rw [← HZ.out]; unfold stateP; rw [if_pos hq]
  have h60 := (okRg_iff.1 hq).2.2.1
  have htop := (okRg_iff.1 hq).2.1
  replace HX := hide (HX.out.new hb1)
  replace HB := hide (bchain HB.out hb1)
  clear hb1 hok HZ hq
  have x0 := HX.out.cell (j := 0) rfl; have x1 := HX.out.cell (j := 1) rfl; have x2 := HX.out.cell (j := 2) rfl; have x3 := HX.out.frozen 0; have x4 := HX.out.frozen 1; have x5 := HX.out.frozen 2; have x6 := HX.out.lt
  go_wp2_with fail
  refine (implPlace d id _ _ (HR.out.new HB.out) h60).mono ?_; rintro e w2 ⟨rfl, hb2⟩
  replace HX := hide (HX.out.new hb2)
  replace HB := hide (bchain HB.out hb2)
  clear hb2 x0 x1 x2 x3 x4 x5 x6
  cases hat : atE d.es id with
  | some k =>
    obtain ⟨hk, _, _⟩ := atE_some hat
    have hi : atI d.es id = k := by unfold atI; rw [hat]
    have hzk : d.es[k].state = z := by rw [← hzs]; unfold stateD; rw [hat]; simp [hk]
    rw [hi]
    obtain ⟨b, o, cs, he1, hb1, hrd, hc⟩ := (HR.out.new HB.out).at k hk
    cases he1
    cases hrd
    have c1 : w2.cell? ⟨b, o + k * 2 + 1, none⟩ = some (.int .i64 d.es[k].state) := hc 1 _ rfl
    rw [hzk] at c1
    clear hc
    have hkI : (k : Int) < d.es.length := by omega
    clear hzs hzk
    have x0 := HX.out.cell (j := 0) rfl; have x1 := HX.out.cell (j := 1) rfl; have x2 := HX.out.cell (j := 2) rfl; have x3 := HX.out.frozen 0; have x4 := HX.out.frozen 1; have x5 := HX.out.frozen 2; have x6 := HX.out.lt
    go_wp2_with fail
    go_ret
    exact ⟨rfl, HB.out⟩
  | none =>
    have hi : atI d.es id = -1 := by unfold atI; rw [hat]
    rw [hi]
    have hzo : z = if oddTo id d.top = true then 4 else 0 := by
      rw [← hzs]
      unfold stateD oddTo
      rw [hat]
      have he : (idB id = true ∧ id ≤ d.top) ↔ decide (1 ≤ id ∧ id ≤ d.top ∧ id % 2 = 1) = true := by
        rw [decide_eq_true_iff, idB_iff]
        rcases htop with h | h
        · constructor
          · rintro ⟨⟨a1, a2, a3⟩, a4⟩; exact ⟨a1, a4, a3⟩
          · rintro ⟨a1, a2, a3⟩; omega
        · rw [idB_iff] at h
          constructor
          · rintro ⟨⟨a1, a2, a3⟩, a4⟩; exact ⟨a1, a4, a3⟩
          · rintro ⟨a1, a2, a3⟩; exact ⟨⟨a1, by omega, a3⟩, a2⟩
      simp only [he]
    have HZO := hide hzo
    have HZS := hide hzs
    clear hzo hzs
    have x0 := HX.out.cell (j := 0) rfl; have x1 := HX.out.cell (j := 1) rfl; have x2 := HX.out.cell (j := 2) rfl; have x3 := HX.out.frozen 0; have x4 := HX.out.frozen 1; have x5 := HX.out.frozen 2; have x6 := HX.out.lt
    cases ho : oddTo id d.top
    · have hz0 : z = 0 := by rw [HZO.out, if_neg (by rw [ho]; decide)]
      clear HZO HZS
      subst hz0
      go_wp2_with fail
      refine (implOdd _ _ _).mono ?_; rw [ho]; rintro e w7 ⟨rfl, hsame⟩; obtain rfl := hsame.symm; clear hsame
      go_wp2_with fail
      go_ret
      exact ⟨rfl, HB.out⟩
    · have hz4 : z = 4 := by rw [HZO.out, if_pos ho]
      clear HZO HZS
      subst hz4
      go_wp2_with fail
      refine (implOdd _ _ _).mono ?_; rw [ho]; rintro e w7 ⟨rfl, hsame⟩; obtain rfl := hsame.symm; clear hsame
      go_wp2_with fail
      go_ret
      exact ⟨rfl, HB.out⟩
end Go.Proofs.YtfmeinkhdgbgjaaGreat
