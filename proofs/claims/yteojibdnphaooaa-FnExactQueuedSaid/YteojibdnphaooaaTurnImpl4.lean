/- Chapter 11's program: one look at the Line that has the Turn (serveTurn). -/
import Derived.Test.YteojibdnphaooaaTurnImpl2
import Derived.Test.YteojibdnphaooaaTurnTail
import Derived.Test.YteojibdnphaooaaTurnServe
import Derived.Test.YteojibdnphaooaaTurnHp3


namespace Go.Proofs.Yteojibdnphaooaa
open Go.RowKit
set_option maxRecDepth 100000
set_option linter.unusedSimpArgs false
set_option linter.unusedVariables false
/-- What is left of such a list behind its first one. -/
theorem OwT.cut {w : World} {gz oz pz : Nat} {n : Int} {rest : List Int} {bs : List Nat} (h : OwT w (.slice (some ⟨gz, oz, none⟩) (rest.length + 1) pz) (n :: rest) bs) : OwT w (.slice (some ⟨gz, if pz = 1 then oz else oz + 1, none⟩) rest.length (pz - 1)) rest bs := by
  obtain ⟨a', p', e, q1, q2⟩ := h.rd.form
  simp only [Value.slice.injEq, List.length_cons, true_and] at e
  obtain ⟨rfl, rfl⟩ := e
  simp only [List.length_cons] at q1
  obtain ⟨v0, P, h0, ⟨rfl, rfl⟩ | ⟨g, o, cap, cap0, rfl, e1, h1, h2, h3⟩⟩ := h
  · obtain ⟨hown, _⟩ := owr_ints h0
    obtain ⟨g, cap, e, _⟩ := owns_open hown (by simp)
    simp only [Value.slice.injEq, Option.some.injEq, Addr.mk.injEq, and_true] at e
    obtain ⟨⟨rfl, rfl⟩, _, rfl⟩ := e
    refine ⟨_, [n], h0, .inr ⟨gz, _, pz - 1, pz, by simp; omega, rfl, by omega, by omega, fun hne => ?_⟩⟩
    have : rest.length ≠ 0 := fun e => hne (List.eq_nil_of_length_eq_zero e)
    rw [if_neg (by omega)]
    rfl
  · simp only [Value.slice.injEq, Option.some.injEq, Addr.mk.injEq, and_true, List.length_cons, true_and] at e1
    obtain ⟨⟨rfl, rfl⟩, rfl⟩ := e1
    have ho := h3 (by simp)
    refine ⟨_, P ++ [n], by simpa using h0, .inr ⟨gz, _, pz - 1, cap0, by simp; omega, rfl, by omega, by omega, fun hne => ?_⟩⟩
    have : rest.length ≠ 0 := fun e => hne (List.eq_nil_of_length_eq_zero e)
    rw [if_neg (by omega)]
    simp [ho]
/-- A Round in block g, its Lines in block gl, all that they own in blocks lo .. hi - 1, none of it block g; the Sizes of each Line a list of its own or what such a one has behind some. -/
structure RnT (w : World) (g lo hi gl vp : Nat) (d : RoundD) : Prop where
  row : RowIs w g 26 [.int .i64 d.turn, .bool d.given, .slice (some ⟨gl, 0, none⟩) d.ls.length vp]
  ex : ∃ bs, OwR lineT w (.slice (some ⟨gl, 0, none⟩) d.ls.length vp) d.ls bs ∧ bs.Nodup ∧ g ∉ bs ∧ ∀ b ∈ bs, lo ≤ b ∧ b < hi
theorem RnIs.toT {w : World} {g lo gl vp : Nat} {d : RoundD} (h : RnIs w g lo gl vp d) : RnT w g lo w.heap.size gl vp d := by
  obtain ⟨bs, h1, h2, h3, h4⟩ := h.ex
  exact ⟨h.row, bs, h1.tail, h2, h3, fun b hb => ⟨h4 b hb, h1.lt b hb⟩⟩
theorem RnT.rd {w : World} {g lo hi gl vp : Nat} {d : RoundD} (h : RnT w g lo hi gl vp d) : RdR lineS w (.slice (some ⟨gl, 0, none⟩) d.ls.length vp) d.ls := by
  obtain ⟨bs, h1, _⟩ := h.ex
  exact h1.rd
theorem RnT.below {w w' : World} {g lo hi gl vp B : Nat} {d : RoundD} (h : RnT w g lo hi gl vp d) (hb : Below B w w') (h1 : g < B) (h2 : hi ≤ B) : RnT w' g lo hi gl vp d := by
  obtain ⟨bs, q1, q2, q3, q4⟩ := h.ex
  exact ⟨h.row.kept (hb.block g h1), bs, q1.keep hb.size (fun b hbb => hb.block b (by have := q4 b hbb; omega)), q2, q3, q4⟩
theorem RnT.new {w w' : World} {g lo hi gl vp : Nat} {d : RoundD} (h : RnT w g lo hi gl vp d) (hb : Below w.heap.size w w') : RnT w' g lo hi gl vp d := by
  obtain ⟨bs, q1, q2, q3, q4⟩ := h.ex
  exact ⟨h.row.new hb, bs, q1.keep hb.size (fun b hbb => hb.block b (q1.lt b hbb)), q2, q3, q4⟩
theorem RnT.box {w w' : World} {g lo hi gl vp : Nat} {d : RoundD} {t : Int} {b : Bool} (h : RnT w g lo hi gl vp d) (hg : w.grownBy w' (some g)) (hr : RowIs w' g 26 [.int .i64 t, .bool b, .slice (some ⟨gl, 0, none⟩) d.ls.length vp]) : RnT w' g lo hi gl vp ⟨t, b, d.ls⟩ := by
  obtain ⟨bs, h1, h2, h3, h4⟩ := h.ex
  exact ⟨hr, bs, h1.keep hg.size (fun y hy => hg.block y (h1.lt y hy) (fun e => h3 (by rw [← Option.some.inj e]; exact hy))), h2, h3, h4⟩
theorem RnT.given {w : World} {g lo hi gl vp : Nat} {d : RoundD} (h : RnT w g lo hi gl vp d) (b : Bool) : RnT (w.setCell ⟨g, 1, none⟩ (.bool b)) g lo hi gl vp ⟨d.turn, b, d.ls⟩ :=
  h.box (gb_set (gb_refl _ _) ⟨g, 1, none⟩ (.bool b) rfl) (h.row.set 1 _)
theorem RnT.turnTo {w : World} {g lo hi gl vp : Nat} {d : RoundD} (h : RnT w g lo hi gl vp d) (t : Int) : RnT (w.setCell ⟨g, 0, none⟩ (.int .i64 t)) g lo hi gl vp ⟨t, d.given, d.ls⟩ :=
  h.box (gb_set (gb_refl _ _) ⟨g, 0, none⟩ (.int .i64 t) rfl) (h.row.set 0 _)
theorem RnT.owx {w : World} {g lo hi gl vp : Nat} {d : RoundD} (h : RnT w g lo hi gl vp d) : OwX lineT w lo hi (.slice (some ⟨gl, 0, none⟩) d.ls.length vp) d.ls := by
  obtain ⟨bs, h1, h2, h3, h4⟩ := h.ex
  exact ⟨bs, h1, h2, h4⟩
theorem RnT.line {w : World} {g lo hi gl vp : Nat} {d : RoundD} (h : RnT w g lo hi gl vp d) (T : Nat) (hT : T < d.ls.length) :
    gl < w.heap.size ∧ lo ≤ gl ∧ gl < hi ∧ gl ≠ g ∧ (∀ j, w.frozen? ⟨gl, j, none⟩ = false) ∧ w.cell? ⟨gl, T * 3, none⟩ = some (.int .i64 d.ls[T].wt) ∧ w.cell? ⟨gl, T * 3 + 1, none⟩ = some (.int .i64 d.ls[T].left) ∧
    ∃ az pz bz, w.cell? ⟨gl, T * 3 + 2, none⟩ = some (.slice az d.ls[T].sz.length pz) ∧ d.ls[T].sz.length ≤ pz ∧ pz ≤ 9223372036854775807 ∧ OwT w (.slice az d.ls[T].sz.length pz) d.ls[T].sz bz ∧
    (∀ l : Int, RnT (w.setCell ⟨gl, T * 3 + 1, none⟩ (.int .i64 l)) g lo hi gl vp ⟨d.turn, d.given, d.ls.set T ⟨d.ls[T].wt, l, d.ls[T].sz⟩⟩) ∧
    (∀ (v' : Value) (S : List Int), OwT w v' S bz → RnT (w.setCell ⟨gl, T * 3 + 2, none⟩ v') g lo hi gl vp ⟨d.turn, d.given, d.ls.set T ⟨d.ls[T].wt, d.ls[T].left, S⟩⟩) := by
  obtain ⟨bs, h1, h2, h3, h4⟩ := h.ex
  obtain ⟨g', cap', cs, b, he, hgl, hgm, hgb, hbn, hbs, hown, hcell, hfr, hput⟩ := h1.swap h2 T hT
  simp only [Value.slice.injEq, Option.some.injEq, Addr.mk.injEq, true_and, and_true] at he
  obtain ⟨rfl, rfl⟩ := he
  obtain ⟨vz, bz, rfl, hz, rfl⟩ := hown
  obtain ⟨az, pz, rfl, p1, p2⟩ := hz.rd.form
  have hgg : gl ≠ g := fun e => h3 (e ▸ hgm)
  have hrow : ∀ (r : Nat) (u : Value) (n : Nat), n = d.ls.length → RowIs (w.setCell ⟨gl, T * 3 + r, none⟩ u) g 26 [.int .i64 d.turn, .bool d.given, .slice (some ⟨gl, 0, none⟩) n vp] := fun r u n hn => by subst hn; exact h.row.far _ _ hgg
  have hfin : ∀ bs' : List Nat, (∀ y ∈ bs', y ∈ bs ∨ y ∈ b) → g ∉ bs' ∧ ∀ y ∈ bs', lo ≤ y ∧ y < hi := fun bs' q3 => ⟨fun e => by
      rcases q3 g e with c | c
      · exact h3 c
      · exact h3 (hbs g c), fun y hy => by
      rcases q3 y hy with c | c
      · exact h4 y c
      · exact h4 y (hbs y c)⟩
  refine ⟨hgl, (h4 gl hgm).1, (h4 gl hgm).2, hgg, hfr, hcell 0 _ rfl, hcell 1 _ rfl, az, pz, b, hcell 2 _ rfl, p1, p2, hz, fun l => ?_, fun v' S hO => ?_⟩
  · obtain ⟨bs', q1, q2, q3⟩ := hput w 1 (.int .i64 l) ⟨d.ls[T].wt, l, d.ls[T].sz⟩ b (Nat.le_refl _) (fun _ _ _ => rfl) (by decide) ⟨_, b, rfl, hz, rfl⟩ hbn (fun y hy => .inl hy)
    refine ⟨hrow 1 _ _ (by simp), bs', ?_, q2, (hfin bs' q3).1, (hfin bs' q3).2⟩
    simp only [List.length_set]; exact q1
  · obtain ⟨bs', q1, q2, q3⟩ := hput w 2 v' ⟨d.ls[T].wt, d.ls[T].left, S⟩ b (Nat.le_refl _) (fun _ _ _ => rfl) (by decide) ⟨v', b, rfl, hO, rfl⟩ hbn (fun y hy => .inl hy)
    refine ⟨hrow 2 _ _ (by simp), bs', ?_, q2, (hfin bs' q3).1, (hfin bs' q3).2⟩
    simp only [List.length_set]; exact q1
theorem run_cut1 (gz oz n pz : Nat) (hp : n + 1 ≤ pz) (hp2 : pz ≤ 9223372036854775807) (w : World) : (Instr.slice 33 (.slice (some ⟨gz, oz, none⟩) (n + 1) pz) (some (.int .i64 1)) none none).run Try.prog w = .ok (.slice (some ⟨gz, if pz = 1 then oz else oz + 1, none⟩) n (pz - 1)) w := by
  rw [run_slice_l (P := Try.prog) w 33 (some ⟨gz, oz, none⟩) (n + 1) pz Try.underlying33 .i64 1 (by omega) (by omega)]
  have hse : (sizeOf (Try.prog.elem 33)).run Try.prog w = .ok 1 w := rfl
  rw [hse]
  simp only [Result.andThen, sliced]
  split
  · rename_i e; simp at e; subst e; simp
  · rename_i e; simp at e; rw [if_neg e]; simp [Addr.add]
theorem TurnB.drewN {bs : List Nat} {a b : World} (h : TurnB bs a b) (n : Nat) : TurnB bs a (b.drewN n) := ⟨h.os, h.tape, h.output, h.size, h.block⟩
def SrvNo (d : RoundD) (g lo hi gl vp : Nat) (w w' : World) : Prop := ∃ y gv, srvOne d = (none, y) ∧ RnT w' g lo hi gl vp ⟨d.turn, gv, y.ls⟩ ∧ TurnB [g, gl] w w'
def SrvYes (d : RoundD) (n : Int) (g lo hi gl vp : Nat) (w w' : World) : Prop := ∃ y, srvOne d = (some (d.turn, n), y) ∧ 1 ≤ n ∧ RnT w' g lo hi gl vp y ∧ TurnB [g, gl] w w'
set_option maxRecDepth 100000 in
set_option maxHeartbeats 4000000 in
theorem serveTurn1 (d : RoundD) (g lo hi gl vp : Nat) (w : World) (H : RnT w g lo hi gl vp d) (hok : okRn d = true) :
    Calls Try.prog 34 #[.pointer (some ⟨g, 0, none⟩)] w fun x w' => (x = .returned (.int .i64 0) ∧ SrvNo d g lo hi gl vp w w') ∨ (∃ n, x = .returned (.int .i64 n) ∧ SrvYes d n g lo hi gl vp w w') := by
  obtain ⟨T, hTt, hTl, _⟩ := turn_nat hok
  obtain ⟨⟨n1, n6⟩, _, hall⟩ := okRn_iff.1 hok
  have hxk := hall _ (List.getElem_mem hTl)
  obtain ⟨t, gv, L⟩ := d
  dsimp only at hTt hTl n1 n6 hxk H
  subst hTt
  have hTI : (T : Int) < L.length := by omega
  have HH0 := hide H
  clear H hall hok
  have HE := hide (one_empty (gv := gv) hTl)
  have HFU := hide (fun n rest l => one_full (gv := gv) (n := n) (rest := rest) (l := l) hTl)
  have HSE := hide (fun n rest l => one_serve (gv := gv) (n := n) (rest := rest) (l := l) hTl)
  have r0 := HH0.out.row.cell (j := 0) rfl
  have r2 := HH0.out.row.cell (j := 2) rfl
  have hlr := HH0.out.row.lt
  dsimp only at r0 r2
  go_enter Try.func34, Try.ntmps34
  go_wp2_with fail
  go_quiet (fail)
  have hd : Below w.heap.size w (w.drewN nq) := bo_drewN _ (Below.refl _ _)
  have HH := hide (HH0.out.new hd)
  have HK : Hid (TurnB [g, gl] w (w.drewN nq)) := TurnB.new hd
  clear r0 r2 hlr HH0 hd
  generalize w.drewN nq = U at *
  obtain ⟨hgl, hlg, hgh, hgg, hfz, c0, c1, az, pz, bz, c2, p1, p2, hOz, hLf, hSz⟩ := HH.out.line T hTl; have r0 := HH.out.row.cell (j := 0) rfl; have r1 := HH.out.row.cell (j := 1) rfl; have r2 := HH.out.row.cell (j := 2) rfl; have r9 := fun q => HH.out.row.frozen q; have hlr := HH.out.row.lt
  dsimp only at r0 r1 r2 c0 c1 c2 p1 hOz hLf hSz
  obtain ⟨x, hx⟩ : ∃ x, L[T] = x := ⟨_, rfl⟩
  rw [hx] at c0 c1 c2 p1 hOz hLf hSz hxk HE HFU HSE
  have HX := hide hx
  clear hx
  obtain ⟨wt, lf, sz⟩ := x
  dsimp only at c0 c1 c2 p1 hOz hLf hSz HE HFU HSE
  obtain ⟨⟨b1, b2⟩, ⟨b3, b4⟩, b5, b6⟩ := okLn_iff.1 hxk
  dsimp only at b1 b2 b3 b4 b5 b6
  have HLf := hide hLf
  have HSz := hide hSz
  have HOz := hide hOz
  have HB6 := hide b6
  clear hLf hSz hOz hxk b6
  cases sz with
  | nil =>
    have HHE := hide (HE.out rfl)
    go_wp2_with fail
    go_ret
    exact .inl ⟨rfl, _, gv, HHE.out, HLf.out 0, HK.out.set _ _ (by simp)⟩
  | cons n rest =>
    have hlist : (n :: rest).length = rest.length + 1 := rfl
    go_upto_if 27 with fail
    go_cut [27] (fun s27 wc => ∃ l : Int, Hid (topUp ⟨(T : Int), gv, L⟩ ⟨wt, lf, n :: rest⟩ = l) ∧ 0 ≤ l ∧ l ≤ 2000 ∧ Hid (RnT wc g lo hi gl vp ⟨(T : Int), true, L.set T ⟨wt, l, n :: rest⟩⟩) ∧ Hid (TurnB [g, gl] w wc))
    case first =>
      rename_i hz K0 a2 J K1 a1 a0
      clear a2 HE HFU HSE HOz HSz
      cases gv with
      | true =>
        have HS : Hid (L.set T ⟨wt, lf, n :: rest⟩ = L) := by show _ = L; rw [← HX.out]; exact List.set_getElem_self hTl
        have HTU : Hid (topUp ⟨(T : Int), true, L⟩ ⟨wt, lf, n :: rest⟩ = lf) := by show _ = lf; unfold topUp; rw [if_pos rfl]
        go_wp2_with fail
        go_meet
        case rel => exact ⟨lf, HTU, b3, b4, by show RnT _ _ _ _ _ _ _; rw [HS.out]; exact HH.out, HK⟩
      | false =>
        have HTU : Hid (topUp ⟨(T : Int), false, L⟩ ⟨wt, lf, n :: rest⟩ = if 2000 < lf + 100 * wt then 2000 else lf + 100 * wt) := by show _ = _; unfold topUp; rw [if_neg (by simp)]
        have wm : IntKind.i64.wrap (100 * wt) = 100 * wt := by rw [IntKind.wrap_i64]; omega
        have wa : IntKind.i64.wrap (lf + 100 * wt) = lf + 100 * wt := by rw [IntKind.wrap_i64]; omega
        go_wp2_with fail
        have c0' : (World.drew U).cell? ⟨gl, T * 3, none⟩ = some (.int .i64 wt) := c0
        have c1' : (World.drew U).cell? ⟨gl, T * 3 + 1, none⟩ = some (.int .i64 lf) := c1
        have hfz' : ∀ j, (World.drew U).frozen? ⟨gl, j, none⟩ = false := hfz
        have hgl' : gl < (World.drew U).heap.size := hgl
        go_region
        have hl0 : 0 ≤ (if 2000 < lf + 100 * wt then 2000 else lf + 100 * wt) := by split <;> omega
        have hl2 : (if 2000 < lf + 100 * wt then 2000 else lf + 100 * wt) ≤ 2000 := by split <;> omega
        generalize (if 2000 < lf + 100 * wt then 2000 else lf + 100 * wt) = l at *
        have hd : Below (U.setCell ⟨gl, T * 3 + 1, none⟩ (.int .i64 l)).heap.size (U.setCell ⟨gl, T * 3 + 1, none⟩ (.int .i64 l)) (U.setCell ⟨gl, T * 3 + 1, none⟩ (.int .i64 l)).drew := (Below.refl _ _).drew
        have HH2 := hide ((HLf.out l).new hd)
        have HK2 := hide ((HK.out.set ⟨gl, T * 3 + 1, none⟩ (.int .i64 l) (by simp)).trans (TurnB.new hd))
        clear c0' c1' hfz' hgl' hd r0 r1 r2 r9 hlr c0 c1 c2 hfz hgl HH HK HLf
        generalize (U.setCell ⟨gl, T * 3 + 1, none⟩ (.int .i64 l)).drew = U2 at *
        have HH3 := hide (HH2.out.given true)
        have HK3 := hide (HK2.out.set ⟨g, 1, none⟩ (.bool true) (by simp))
        have r1 := HH2.out.row.cell (j := 1) rfl
        have r9 := HH2.out.row.frozen 1
        have hlr := HH2.out.row.lt
        go_wp2_with fail
        go_meet
        case rel => exact ⟨l, HTU, hl0, hl2, HH3, HK3⟩
    case rest =>
      clear HH HK r0 r1 r2 r9 hlr c0 c1 c2 hfz hgl HLf HSz HOz p1 p2 hlg hgg hgh az pz bz
      obtain ⟨l, HTU, l0, l2, HH, HK⟩ := hcut
      have hTl2 : T < (L.set T ⟨wt, l, n :: rest⟩).length := by simpa using hTl
      obtain ⟨hgl, hlg, hgh, hgg, hfz, c0, c1, az, pz, bz, c2, p1, p2, hOz, hLf, hSz⟩ := HH.out.line T hTl2
      have r0 := HH.out.row.cell (j := 0) rfl
      have r2 := HH.out.row.cell (j := 2) rfl
      have hlr := HH.out.row.lt
      simp only [List.getElem_set_self, List.set_set, List.length_set] at r0 r2 c0 c1 c2 p1 hOz hLf hSz
      obtain ⟨gz, oz, rfl, hgz, cz⟩ := ints_at (k := 0) hOz.rd (by simp)
      have cz0 : wc.cell? ⟨gz, oz, none⟩ = some (.int .i64 n) := by simpa using cz
      rw [hlist] at c2 p1 hOz
      have hn1 := HB6.out n (by simp)
      have HLf := hide hLf
      have HSz := hide (hSz _ _ (OwT.cut hOz))
      have HHR := hide HH.out
      have hct := run_cut1 gz oz rest.length pz p1 p2
      clear hLf hSz hOz cz
      by_cases hle : n ≤ l
      · have HHE := hide (HSE.out n rest l rfl HTU.out hle)
        have hle' : ¬ l < n := by omega
        generalize (if pz = 1 then oz else oz + 1) = oa at *
        clear HE HFU HSE
        go_upto_region 12 with fail
        have HK2 := hide (HK.out.set ⟨gl, T * 3 + 2, none⟩ (.slice (some ⟨gz, oa, none⟩) rest.length (pz - 1)) (by simp))
        clear r0 r2 hlr c0 c1 c2 hfz hgl HK HH HHR HLf hlg hgh hgg cz0 hct
        generalize wc.setCell ⟨gl, T * 3 + 2, none⟩ (.slice (some ⟨gz, oa, none⟩) rest.length (pz - 1)) = W1 at *
        have hTl3 : T < (L.set T ⟨wt, l, rest⟩).length := by simpa using hTl
        obtain ⟨hgl, hlg, hgh, hgg, hfz, c0, c1, az, pz', bz', c2, p1', p2', _, hLf, _⟩ := HSz.out.line T hTl3
        simp only [List.getElem_set_self, List.set_set, List.length_set] at c1 hLf
        have wl : IntKind.i64.wrap (l - n) = l - n := by rw [IntKind.wrap_i64]; omega
        have HF := hide (hLf (l - n))
        have HK3 := hide (HK2.out.set ⟨gl, T * 3 + 1, none⟩ (.int .i64 (l - n)) (by simp))
        clear hLf c0 c2
        go_wp2_with fail
        go_ret
        exact .inr ⟨n, rfl, _, HHE.out, hn1.1, HF.out, HK3.out⟩
      · have hle' : l < n := by omega
        have HHE := hide (HFU.out n rest l rfl HTU.out hle')
        clear HE HFU HSE
        go_wp2_with fail
        go_ret
        exact .inl ⟨rfl, _, true, HHE.out, HHR.out, HK.out⟩
end Go.Proofs.Yteojibdnphaooaa
