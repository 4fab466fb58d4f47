/- Chapter 11's program: a copy of a Round whose lists share nothing. -/
import Derived.Test.YteojibdnphaooaaTurnImpl1
import Derived.Test.YteojibdnphaooaaTurnRn
import Derived.Test.YteojibdnphaooaaTurnCopy
import Derived.Test.YteojibdnphaooaaAppRows
import Derived.Test.YteojibdnphaooaaRowNew
import Derived.Deep.DeepMust


namespace Go.Proofs.Yteojibdnphaooaa
open Go.RowKit
set_option maxRecDepth 100000
set_option linter.unusedSimpArgs false
set_option linter.unusedVariables false
/-- Block gl holds the Lines L; the Sizes of the first k are their own, those of the others are still what was given in w. -/
def HalfL (w wr : World) (gl cp : Nat) (L : List LineD) (k : Nat) : Prop :=
  ∃ ts : List (List Value × LineD × List Nat), L = ts.map (·.2.1) ∧ wr.ownsRow 0 lineS.ty lineS.size (.slice (some ⟨gl, 0, none⟩) ts.length cp) ts.length (ts.flatMap (·.1)) ∧ (∀ i (h : i < ts.length), i < k → lineS.own wr ts[i].1 ts[i].2.1 ts[i].2.2) ∧ (∀ i (h : i < ts.length), k ≤ i → lineS.rd w ts[i].1 ts[i].2.1 ∧ ts[i].2.2 = []) ∧ (ts.flatMap (·.2.2)).Nodup ∧ ∀ b ∈ ts.flatMap (·.2.2), gl < b ∧ b < wr.heap.size
theorem half_start {w wr : World} {gl cp : Nat} {ts : List (List Value × LineD)} (ho : wr.ownsRow 0 lineS.ty lineS.size (.slice (some ⟨gl, 0, none⟩) ts.length cp) ts.length (ts.flatMap (·.1))) (hE : ∀ t ∈ ts, lineS.rd w t.1 t.2) : HalfL w wr gl cp (ts.map (·.2)) 0 := by
  have hz : ∀ M : List (List Value × LineD), (M.map fun t => ((t.1, t.2, []) : List Value × LineD × List Nat)).flatMap (fun t => t.2.2) = [] := fun M => by induction M <;> simp_all
  refine ⟨ts.map fun t => (t.1, t.2, []), by simp [Function.comp_def], ?_, fun i h hi => absurd hi (Nat.not_lt_zero _), fun i h _ => ?_, by rw [hz]; simp, by rw [hz]; simp⟩
  · simpa [List.flatMap_map] using ho
  · simp only [List.getElem_map]
    exact ⟨hE _ (List.getElem_mem (by simpa using h)), trivial⟩
theorem HalfL.new {w wr wr' : World} {gl cp k : Nat} {L : List LineD} (h : HalfL w wr gl cp L k) (hb : Below wr.heap.size wr wr') : HalfL w wr' gl cp L k := by
  obtain ⟨ts, e, ho, h1, h2, h3, h4⟩ := h
  exact ⟨ts, e, owns_new ho hb, fun i hi hk => lineS.own_keep (h1 i hi hk) hb.size fun b hbb => hb.block b (lineS.own_lt (h1 i hi hk) b hbb), h2, h3, fun b hbb => by have := h4 b hbb; have := hb.size; omega⟩
theorem HalfL.at {w wr : World} {gl cp k : Nat} {L : List LineD} (h : HalfL w wr gl cp L k) (hb : Below w.heap.size w wr) (hk : k < L.length) :
    gl < wr.heap.size ∧ (∀ j, wr.frozen? ⟨gl, j, none⟩ = false) ∧ wr.cell? ⟨gl, k * 3, none⟩ = some (.int .i64 L[k].wt) ∧ wr.cell? ⟨gl, k * 3 + 1, none⟩ = some (.int .i64 L[k].left) ∧ ∃ az pz, wr.cell? ⟨gl, k * 3 + 2, none⟩ = some (.slice az L[k].sz.length pz) ∧ RdR intS wr (.slice az L[k].sz.length pz) L[k].sz := by
  obtain ⟨ts, rfl, ho, h1, h2, h3, h4⟩ := h
  have hk' : k < ts.length := by simpa using hk
  obtain ⟨g, cap, e, hg, _, hgl, _, _, hc, hf⟩ := owns_open ho (by omega)
  simp only [Value.slice.injEq, Option.some.injEq, Addr.mk.injEq, and_true, true_and] at e
  obtain ⟨rfl, rfl⟩ := e
  obtain ⟨⟨vsz, hcs, hrd⟩, _⟩ := h2 k hk' (Nat.le_refl _)
  obtain ⟨az, pz, rfl, _⟩ := hrd.form
  have hlen : ∀ t ∈ ts, t.1.length = lineS.size := fun t ht => by
    obtain ⟨i, hi, rfl⟩ := List.getElem_of_mem ht
    by_cases hik : i < k
    · exact lineS.rd_len (lineS.own_rd (h1 i hi hik))
    · exact lineS.rd_len (h2 i hi (by omega)).1
  have hat : ∀ r u, r < 3 → ts[k].1[r]? = some u → wr.cell? ⟨gl, k * 3 + r, none⟩ = some u := fun r u hr hu => hc _ _ (by
    have := flat_at (fun t : List Value × LineD × List Nat => t.1) lineS.size ts hlen k hk' r hr
    rw [show k * 3 + r = k * lineS.size + r from rfl, this]; exact hu)
  simp only [List.getElem_map]
  refine ⟨hgl, hf, hat 0 _ (by decide) (by rw [hcs]; rfl), hat 1 _ (by decide) (by rw [hcs]; rfl), az, pz, hat 2 _ (by decide) (by rw [hcs]; rfl), hrd.new hb⟩
theorem HalfL.step {w wr wr1 : World} {gl cp k : Nat} {L : List LineD} {v' : Value} {b : List Nat} (h : HalfL w wr gl cp L k) (hk : k < L.length) (hb : Below wr.heap.size wr wr1) (ho' : OwR intS wr1 v' L[k].sz b) (hn : b.Nodup) (hbb : ∀ y ∈ b, wr.heap.size ≤ y) : HalfL w (wr1.setCell ⟨gl, k * 3 + 2, none⟩ v') gl cp L (k + 1) := by
  obtain ⟨ts, rfl, ho, h1, h2, h3, h4⟩ := h
  have hk' : k < ts.length := by simpa using hk
  obtain ⟨g, cap, e, hg, _, hgl, _, _, hc, hf⟩ := owns_open ho (by omega)
  simp only [Value.slice.injEq, Option.some.injEq, Addr.mk.injEq, and_true, true_and] at e
  obtain ⟨rfl, rfl⟩ := e
  obtain ⟨⟨vsz, hcs, hrd⟩, hke⟩ := h2 k hk' (Nat.le_refl _)
  have hlen : ∀ t ∈ ts, t.1.length = lineS.size := fun t ht => by
    obtain ⟨i, hi, rfl⟩ := List.getElem_of_mem ht
    by_cases hik : i < k
    · exact lineS.rd_len (lineS.own_rd (h1 i hi hik))
    · exact lineS.rd_len (h2 i hi (by omega)).1
  have hlt1 := ho'.lt
  have hs := hb.size
  refine ⟨ts.set k (ts[k].1.set 2 v', ts[k].2.1, b), ?_, ?_, fun i hi hik => ?_, fun i hi hik => ?_, ?_, fun y hy => ?_⟩
  · rw [List.map_set]; exact (List.set_getElem_self (by simpa using hk') |>.symm).trans (by simp)
  · have h5 := owns_set (owns_new ho hb) hg (k * 3 + 2) v'
    rw [show k * 3 + 2 = k * lineS.size + 2 from rfl, flat_put (fun t : List Value × LineD × List Nat => t.1) lineS.size ts hlen k hk' 2 (by decide) v' (ts[k].1.set 2 v', ts[k].2.1, b) rfl] at h5
    rw [List.length_set]
    exact h5
  · have hi' : i < ts.length := by simpa using hi
    by_cases e : i = k
    · subst e
      simp only [List.getElem_set_self]
      refine lineS.own_keep (w := wr1) ⟨v', b, by rw [hcs]; rfl, by simpa using ho', rfl⟩ (by simp) fun y hy => Below.heap_setCell wr1 _ _ y (fun c => by have c' : y = gl := c; have := hbb y hy; omega)
    · rw [List.getElem_set_ne (by omega)]
      have hoi := h1 i hi' (by omega)
      refine lineS.own_keep hoi (by simpa using hs) fun y hy => ?_
      have hym : y ∈ ts.flatMap (·.2.2) := List.mem_flatMap.2 ⟨_, List.getElem_mem hi', hy⟩
      rw [Below.heap_setCell wr1 _ _ y (fun c => by have c' : y = gl := c; have := (h4 y hym).1; omega)]
      exact hb.block y (lineS.own_lt hoi y hy)
  · have hi' : i < ts.length := by simpa using hi
    rw [List.getElem_set_ne (by omega)]
    exact h2 i hi' (by omega)
  · rw [List.flatMap_def, List.map_set]
    rw [List.flatMap_def] at h3
    refine nodup_swap h3 k (by simpa using hk') b hn fun y hy => .inr fun m hm hym => ?_
    obtain ⟨t, ht, rfl⟩ := List.mem_map.1 hm
    have := (h4 y (List.mem_flatMap.2 ⟨t, ht, hym⟩)).2
    have := hbb y hy
    omega
  · obtain ⟨t, ht, hyt⟩ := List.mem_flatMap.1 hy
    rcases List.mem_or_eq_of_mem_set ht with ht | rfl
    · have := h4 y (List.mem_flatMap.2 ⟨t, ht, hyt⟩)
      simp only [World.setCell] at *
      refine ⟨this.1, ?_⟩
      have e9 : (wr1.setCell ⟨gl, k * 3 + 2, none⟩ v').heap.size = wr1.heap.size := by simp
      show y < (wr1.setCell ⟨gl, k * 3 + 2, none⟩ v').heap.size
      rw [e9]; omega
    · have := hbb y hyt
      have e9 : (wr1.setCell ⟨gl, k * 3 + 2, none⟩ v').heap.size = wr1.heap.size := by simp
      rw [e9]
      exact ⟨by omega, hlt1 y hyt⟩
theorem HalfL.done {w wr : World} {gl cp k lo : Nat} {L : List LineD} (h : HalfL w wr gl cp L k) (hk : L.length ≤ k) (hl : lo ≤ gl) (hgl : gl < wr.heap.size) : OwX lineS wr lo wr.heap.size (.slice (some ⟨gl, 0, none⟩) L.length cp) L := by
  obtain ⟨ts, rfl, ho, h1, h2, h3, h4⟩ := h
  refine ⟨gl :: ts.flatMap (·.2.2), ⟨ts, rfl, by simpa using ho, fun t ht => ?_, by simp [Value.ownBlock]⟩, List.nodup_cons.2 ⟨fun hm => by have := (h4 _ hm).1; omega, h3⟩, fun b hb => ?_⟩
  · obtain ⟨i, hi, rfl⟩ := List.getElem_of_mem ht
    exact h1 i hi (by simp at hk; omega)
  · rcases List.mem_cons.1 hb with rfl | hb
    · omega
    · have := h4 b hb; omega
theorem own_mem {w : World} {base : Nat} {e : TypeId} {size : Nat} {v : Value} {n : Nat} {xs : List Value} (h : w.ownsRow base e size v n xs) : ∀ y ∈ v.ownBlock.toList, base ≤ y := fun y hy => by
  cases hq : v.ownBlock with
  | none => rw [hq] at hy; cases hy
  | some z => rw [hq] at hy; simp at hy; subst hy; exact (h.lt y hq).1
set_option maxRecDepth 100000 in
set_option maxHeartbeats 4000000 in
theorem rapart (d : RoundD) (v : Value) (w : World) (hr : RdR lineS w v d.ls) (hok : okRn d = true) : Calls Try.prog 31 #[.agg #[.int .i64 d.turn, .bool d.given, v]] w fun x w' => ∃ v', x = .returned (.agg #[.int .i64 d.turn, .bool d.given, v']) ∧ OwX lineS w' w.heap.size w'.heap.size v' d.ls ∧ Below w.heap.size w w' := by
  obtain ⟨ad, cap, rfl, h1, h2⟩ := hr.form
  obtain ⟨⟨n1, n6⟩, _, hall⟩ := okRn_iff.1 hok
  have HALL := hide hall
  clear hall hok
  have hb0 : Below w.heap.size w ((w.alloc (.cells #[.int .i64 d.turn, .bool d.given, .slice ad d.ls.length cap] 26)).alloc (.cells #[.int .i64 0, .bool false, .slice none 0 0] 26)) := ((Below.refl _ _).alloc (Nat.le_refl _) _).alloc (by simp) _
  have r3 : RowIs ((w.alloc (.cells #[.int .i64 d.turn, .bool d.given, .slice ad d.ls.length cap] 26)).alloc (.cells #[.int .i64 0, .bool false, .slice none 0 0] 26)) (w.heap.size) 26 [.int .i64 d.turn, .bool d.given, .slice ad d.ls.length cap] := (rowIs_new w _ _).alloc _
  have r6 : RowIs ((w.alloc (.cells #[.int .i64 d.turn, .bool d.given, .slice ad d.ls.length cap] 26)).alloc (.cells #[.int .i64 0, .bool false, .slice none 0 0] 26)) (w.heap.size + 1) 26 [.int .i64 0, .bool false, .slice none 0 0] := by have h := rowIs_new (w.alloc (.cells #[.int .i64 d.turn, .bool d.given, .slice ad d.ls.length cap] 26)) 26 [.int .i64 0, .bool false, .slice none 0 0]; simpa using h
  have hs0 : w.heap.size + 2 ≤ ((w.alloc (.cells #[.int .i64 d.turn, .bool d.given, .slice ad d.ls.length cap] 26)).alloc (.cells #[.int .i64 0, .bool false, .slice none 0 0] 26)).heap.size := by simp
  obtain ⟨ts, hts, hreads, hE⟩ := hr
  have hlen : ts.length = d.ls.length := by rw [hts]; simp
  have hone : ∀ u ∈ ts.flatMap (fun t => t.1), u.oneCell' = true := fun u hu => by
    obtain ⟨t, ht, hut⟩ := List.mem_flatMap.1 hu
    exact lineS.rd_one (hE t ht) u hut
  have HE := hide hE
  have HTS := hide hts
  have HONE := hide hone
  rw [hlen] at hreads
  have HRD : Hid (Reads ((w.alloc (.cells #[.int .i64 d.turn, .bool d.given, .slice ad d.ls.length cap] 26)).alloc (.cells #[.int .i64 0, .bool false, .slice none 0 0] 26)) (.slice ad d.ls.length cap) d.ls.length 3 (ts.flatMap (fun t => t.1))) := hreads.new hb0
  clear hreads hE hts hone
  have HLEN := hide hlen
  clear hlen
  go_enter Try.func31, Try.ntmps31
  go_upto_region 1 with fail
  generalize ((w.alloc (.cells #[.int .i64 d.turn, .bool d.given, .slice ad d.ls.length cap] 26)).alloc (.cells #[.int .i64 0, .bool false, .slice none 0 0] 26)) = W at *
  have k2 := r3.cell (j := 2) rfl
  have kf := fun q => r3.frozen q
  have kl := r3.lt
  go_wp2_with (at_builtin; go_must (refine wpList_app _ (by rfl) _ _ 24 (by rfl) 35 (.agg #[.int .i64 0, .int .i64 0, .slice none 0 0]) 3 40 Try.underlying24 (by kernel_rfl) rfl (by decide) W.heap.size (.slice none 0 0) 0 [] (by rfl) (World.ownsRow_nil _ _ _ _) _ d.ls.length (ts.flatMap (fun t => t.1)) (by rfl) HRD.out HONE.out (by omega) (by decide) (Nat.le_refl _) ?_))
  intro adL cpL wL hown7 hg7 hat7
  try simp only [Nat.zero_add, List.nil_append] at hown7
  try simp only [Nat.zero_add, List.nil_append] at hat7
  have hb7 := below_grown hg7
  obtain ⟨gl, cp, e1, hgb, hgl1, hgl2, _, hcp, _, _⟩ := owns_open hown7 (by omega)
  simp only [Value.slice.injEq] at e1
  obtain ⟨rfl, -, rfl⟩ := e1
  unfold maxLen at hcp
  have R7 := r3.new hb7
  have c2 := R7.cell (j := 2) rfl
  have f2 := R7.frozen 2
  have l7 := R7.lt
  have HR0 := hide (R7.set 2 (.slice (some ⟨gl, 0, none⟩) d.ls.length cpL))
  have HZ0 := hide ((r6.new hb7).far ⟨w.heap.size, 2, none⟩ (.slice (some ⟨gl, 0, none⟩) d.ls.length cpL) (by show w.heap.size ≠ _; omega))
  have HB0 := hide ((bchain hb0 hb7).setCell (p := ⟨w.heap.size, 2, none⟩) (Nat.le_refl _) (.slice (some ⟨gl, 0, none⟩) d.ls.length cpL))
  have HH0 : Hid (HalfL w (wL.setCell ⟨w.heap.size, 2, none⟩ (.slice (some ⟨gl, 0, none⟩) d.ls.length cpL)) gl cpL d.ls 0) := by
    show HalfL _ _ _ _ _ _
    rw [HTS.out]
    refine half_start ?_ HE.out
    rw [HLEN.out]
    exact owns_apart (owns_base hown7 (fun _ _ => Nat.zero_le _)) _ _ (fun h => by have : gl = w.heap.size := Option.some.inj h; omega)
  have hgl3 : gl < (wL.setCell ⟨w.heap.size, 2, none⟩ (.slice (some ⟨gl, 0, none⟩) d.ls.length cpL)).heap.size := by simpa using hgl2
  have hgl4 : w.heap.size + 2 ≤ gl := by omega
  clear hown7 hg7 hat7 R7 hb7 hgb hgl1 r3 r6 hb0 HRD HONE HE HTS HLEN k2 kf kl
  try simp only [Nat.zero_add]
  go_upto_region 2 with fail
  clear c2 f2 l7 hgl2
  generalize wL.setCell ⟨w.heap.size, 2, none⟩ (.slice (some ⟨gl, 0, none⟩) d.ls.length cpL) = W1 at *
  have k2 := HR0.out.cell (j := 2) rfl
  have kl := HR0.out.lt
  go_wp2_with fail
  clear k2 kl
  go_loopw [12, 3, 4] (fun s _ _ wr => ∃ (j : Nat), s = .int .i64 (j : Int) ∧ j ≤ d.ls.length ∧ w.heap.size + 3 ≤ wr.heap.size ∧ gl < wr.heap.size ∧ Hid (RowIs wr w.heap.size 26 [.int .i64 d.turn, .bool d.given, .slice (some ⟨gl, 0, none⟩) d.ls.length cpL]) ∧ Hid (RowIs wr (w.heap.size + 1) 26 [.int .i64 0, .bool false, .slice none 0 0]) ∧ Hid (HalfL w wr gl cpL d.ls j) ∧ Hid (Below w.heap.size w wr)) (fun s _ _ _ => d.ls.length - (intOf s).toNat)
  case atStart => exact ⟨0, rfl, Nat.zero_le _, by omega, hgl3, HR0, HZ0, HH0, HB0⟩
  case round =>
    clear HR0 HZ0 HH0 HB0 hgl3
    obtain ⟨j, rfl, hj, hs3, hglr, HR, HZ, HH, HB⟩ := hrel
    by_cases hlt : j < d.ls.length
    rotate_left
    · have hltI : ¬ (j : Int) < d.ls.length := by omega
      have o0 := RowIs.cell (j := 0) HR.out rfl
      have o1 := RowIs.cell (j := 1) HR.out rfl
      have o2 := RowIs.cell (j := 2) HR.out rfl
      have ol := HR.out.lt
      have z0 := RowIs.cell (j := 0) HZ.out rfl
      have z1 := RowIs.cell (j := 1) HZ.out rfl
      have z2 := RowIs.cell (j := 2) HZ.out rfl
      have z9 := fun q => RowIs.frozen HZ.out q
      have zl := HZ.out.lt
      have HO := hide (HH.out.done (lo := w.heap.size + 2) (by omega) hgl4 hglr)
      go_wp2_with fail
      refine bodyPost_ret (v := .agg #[.int .i64 d.turn, .bool d.given, .slice (some ⟨gl, 0, none⟩) d.ls.length cpL]) (by simp [results, Try.results31, go_sem, *]) rfl ?_
      refine ⟨_, rfl, ?_, ?_⟩
      · have h3 := ((HO.out.far ⟨w.heap.size + 1, 0, none⟩ (.int .i64 d.turn) (.inl (by show w.heap.size + 1 < _; omega))).far ⟨w.heap.size + 1, 1, none⟩ (.bool d.given) (.inl (by show w.heap.size + 1 < _; omega))).far ⟨w.heap.size + 1, 2, none⟩ (.slice (some ⟨gl, 0, none⟩) d.ls.length cpL) (.inl (by show w.heap.size + 1 < _; omega))
        exact (h3.wide (lo' := w.heap.size) (by omega) (Nat.le_refl _)).top
      · exact ((HB.out.setCell (p := ⟨w.heap.size + 1, 0, none⟩) (show w.heap.size ≤ w.heap.size + 1 by omega) _).setCell (p := ⟨w.heap.size + 1, 1, none⟩) (show w.heap.size ≤ w.heap.size + 1 by omega) _).setCell (p := ⟨w.heap.size + 1, 2, none⟩) (show w.heap.size ≤ w.heap.size + 1 by omega) _
    have hltI : (j : Int) < d.ls.length := by omega
    obtain ⟨_, hfz0, c0, c1, az, pz, c2, hrz⟩ := HH.out.at HB.out hlt
    have hxo := HALL.out _ (List.getElem_mem hlt)
    have HST0 : Hid (∀ (U w1 : World) (v' : Value) (b : List Nat), Below wr.heap.size wr U → Below U.heap.size U w1 → OwR intS w1 v' d.ls[j].sz b → b.Nodup → (∀ y ∈ b, U.heap.size ≤ y) → HalfL w (w1.setCell ⟨gl, j * 3 + 2, none⟩ v') gl cpL d.ls (j + 1)) := fun U w1 v' b hU h1 h2 h3 h4 => (HH.out.new hU).step hlt h1 h2 h3 h4
    obtain ⟨x, hx⟩ : ∃ x, x = d.ls[j] := ⟨_, rfl⟩
    rw [← hx] at c0 c1 c2 hrz hxo HST0
    clear hx
    obtain ⟨hs1, hs2⟩ : x.sz.length ≤ pz ∧ pz ≤ 9223372036854775807 := by
      obtain ⟨a', p', e, q1, q2⟩ := hrz.form
      simp only [Value.slice.injEq, true_and] at e
      obtain ⟨rfl, rfl⟩ := e
      exact ⟨q1, q2⟩
    obtain ⟨_, _, l30, _⟩ := okLn_iff.1 hxo
    have hX : Below wr.heap.size wr (wr.alloc (.cells #[.int .i64 x.wt, .int .i64 x.left, .slice az x.sz.length pz] 35)) := (Below.refl _ _).alloc (Nat.le_refl _) _
    have RX := rowIs_new wr 35 [.int .i64 x.wt, .int .i64 x.left, .slice az x.sz.length pz]
    have hRXl : wr.heap.size < (wr.alloc (.cells #[.int .i64 x.wt, .int .i64 x.left, .slice az x.sz.length pz] 35)).heap.size := by simp
    go_upto_region 5 with fail
    have hrz1 := hrz.new hX
    have hR1 := HR.out.new hX
    have hZ1 := HZ.out.new hX
    have hB1 := bchain HB.out hX
    have c21 := (hX.cell (p := ⟨gl, j * 3 + 2, none⟩) hglr).trans c2
    have hfz1 : ∀ q, (wr.alloc (.cells #[.int .i64 x.wt, .int .i64 x.left, .slice az x.sz.length pz] 35)).frozen? ⟨gl, q, none⟩ = false := fun q => (hX.frozen (p := ⟨gl, q, none⟩) hglr).trans (hfz0 q)
    have hgl1 : gl < (wr.alloc (.cells #[.int .i64 x.wt, .int .i64 x.left, .slice az x.sz.length pz] 35)).heap.size := by omega
    have hst1 := fun w1 v' b => HST0.out _ w1 v' b hX
    generalize wr.alloc (.cells #[.int .i64 x.wt, .int .i64 x.left, .slice az x.sz.length pz] 35) = V at *
    clear c0 c1 c2 hfz0 hrz HR HZ HB HH HST0 hxo hX
    have HRZ0 : Reads V (.slice az x.sz.length pz) x.sz.length 1 (iv x.sz) := rd_ints hrz1
    refine wp_region_any (by kernel_rfl) ?_; change wpAny _ _ _ _ _ _ _ (World.drew _)
    have hd : Below V.heap.size V (World.drew V) := (Below.refl _ _).drew
    have HRB := hide (hR1.new hd)
    have HRZ2 := hide (hZ1.new hd)
    have HBU := hide (bchain hB1 hd)
    have HRZ := hide (HRZ0.new hd)
    have c2 := (hd.cell (p := ⟨gl, j * 3 + 2, none⟩) hgl1).trans c21
    have hfz := fun q => (hd.frozen (p := ⟨gl, q, none⟩) hgl1).trans (hfz1 q)
    have hgl : gl < (World.drew V).heap.size := hgl1
    have RX2 := RX.new hd
    have HST : Hid (∀ (w1 : World) (v' : Value) (b : List Nat), Below (World.drew V).heap.size (World.drew V) w1 → OwR intS w1 v' x.sz b → b.Nodup → (∀ y ∈ b, (World.drew V).heap.size ≤ y) → HalfL w (w1.setCell ⟨gl, j * 3 + 2, none⟩ v') gl cpL d.ls (j + 1)) := fun w1 v' b h1 h2 h3 h4 => hst1 w1 v' b ⟨h1.os, h1.tape, h1.output, h1.size, h1.block⟩ h2 h3 h4
    clear hR1 hZ1 hB1 c21 hfz1 hgl1 RX HRZ0 hrz1 hst1 hd
    generalize World.drew V = U at *
    have k2 := HRB.out.cell (j := 2) rfl
    have kl := HRB.out.lt
    have xz := RX2.cell (j := 2) rfl
    have xl := RX2.lt
    refine wpAny_take (i := 0) (v := ?_) rfl (by kernel_rfl) (by kernel_rfl) (by kernel_rfl) (fun _ _ _ h => h) (Or.inl ⟨by rfl, ?_⟩) ?_; rotate_left; focus (intro w; go_simp; try with_reducible rfl)
    refine wpAny_take (i := 2) (v := ?_) rfl (by kernel_rfl) (by kernel_rfl) (by kernel_rfl) (fun _ _ _ h => h) (Or.inl ⟨by rfl, ?_⟩) ?_; rotate_left; focus (intro w; go_simp; try with_reducible rfl)
    refine wpAny_take (i := 3) (v := ?_) rfl (by kernel_rfl) (by kernel_rfl) (by kernel_rfl) (fun _ _ _ h => h) (Or.inl ⟨by rfl, ?_⟩) ?_; rotate_left; focus (intro w; go_simp; try with_reducible rfl)
    refine wpAny_ready (rs := [1, 4]) (by kernel_rfl) (by simp) ?_; refine AllReady.cons rfl (fun K hK => ?_) (AllReady.cons rfl (fun K hK => ?_) AllReady.nil)
    · go_simp; refine hK _ _ ?_; clear hK K
      refine wpAny_ready (rs := [4]) (by kernel_rfl) (by simp) ?_; refine AllReady.cons rfl (fun K hK => ?_) AllReady.nil
      go_simp; refine hK _ _ ?_; clear hK K
      refine wpAny_ready (rs := [5]) (by kernel_rfl) (by simp) ?_; refine AllReady.cons rfl (fun K hK => ?_) AllReady.nil
      refine step_app _ (by rfl) _ _ 33 (by rfl) 2 (.int .i64 0) 1 8 Try.underlying33 (by kernel_rfl) rfl (by decide) U.heap.size (.slice none 0 0) 0 [] (by rfl) (World.ownsRow_nil _ _ _ _) _ x.sz.length (iv x.sz) (by rfl) HRZ.out (iv_one _) (by omega) (by decide) (Nat.le_refl _) ?_; intro ad7 cap7 w7 hown7 hg7 hat7; refine hK _ _ ?_; clear hK K; (try simp only [Nat.zero_add, List.nil_append] at hown7); (try simp only [Nat.zero_add, List.nil_append] at hat7); (try simp only [Nat.zero_add]); have hb7 := below_grown hg7; have R7 := HRB.out.new hb7; have k2' := R7.cell (j := 2) rfl; have kl' := R7.lt
      refine wpAny_take (i := 6) (v := ?_) rfl (by kernel_rfl) (by kernel_rfl) (by kernel_rfl) (fun _ _ _ h => h) (Or.inl ⟨by rfl, ?_⟩) ?_; rotate_left; (focus (intro w; go_simp; try with_reducible rfl)); refine wpAny_take (i := 7) (v := ?_) rfl (by kernel_rfl) (by kernel_rfl) (by kernel_rfl) (fun _ _ _ h => h) (Or.inl ⟨by rfl, ?_⟩) ?_; rotate_left; (focus (intro w; go_simp; try with_reducible rfl)); have HO7 : Hid (OwR intS w7 (.slice ad7 x.sz.length cap7) x.sz (Value.slice ad7 x.sz.length cap7).ownBlock.toList) := ints_owr (owns_base hown7 (fun _ _ => Nat.zero_le _)); have HBB : Hid (∀ y ∈ (Value.slice ad7 x.sz.length cap7).ownBlock.toList, U.heap.size ≤ y) := own_mem hown7; have hH7 := HST.out w7 _ _ hb7 HO7.out (opt_nodup _) HBB.out; have HH7 := hide hH7; have gl7 : gl < w7.heap.size := Nat.lt_of_lt_of_le hgl hb7.size; have gf7 : ∀ j, w7.frozen? ⟨gl, j, none⟩ = false := (fun j => (hb7.frozen (p := ⟨gl, j, none⟩) hgl).trans (hfz j)); have gc7 := (hb7.cell (p := ⟨gl, j * 3 + 2, none⟩) hgl).trans c2; have HR7 := hide (R7.far ⟨gl, j * 3 + 2, none⟩ (.slice ad7 x.sz.length cap7) (show gl ≠ _ by omega)); have HZ7 := hide ((HRZ2.out.new hb7).far ⟨gl, j * 3 + 2, none⟩ (.slice ad7 x.sz.length cap7) (show gl ≠ _ by omega)); have HB7 := hide ((bchain HBU.out hb7).setCell (p := ⟨gl, j * 3 + 2, none⟩) (show w.heap.size ≤ gl by omega) (.slice ad7 x.sz.length cap7)); have hsz7 : w.heap.size + 3 ≤ (w7.setCell ⟨gl, j * 3 + 2, none⟩ (.slice ad7 x.sz.length cap7)).heap.size := (by have := hb7.size; simp; omega); clear hH7 hown7 hg7 hat7 HST HRB HRZ HRZ2 HBU HBB HO7 c2 k2 kl xz xl R7 k2' hgl hfz hb7; refine wpAny_ready (rs := [8]) (by kernel_rfl) (by simp) ?_; refine AllReady.cons rfl (fun K hK => ?_) AllReady.nil; go_simp; refine hK _ _ ?_; clear hK K; refine wpAny_done (by kernel_rfl) ?_ _; go_wp2_with fail; go_roundw
      case rel => exact ⟨j + 1, by go_num, by omega, hsz7, by simpa using gl7, HR7, HZ7, HH7, HB7⟩
      case measure => simp [intOf]; omega
    · go_simp; refine hK _ _ ?_; clear hK K
      refine wpAny_ready (rs := [1, 5]) (by kernel_rfl) (by simp) ?_; refine AllReady.cons rfl (fun K hK => ?_) (AllReady.cons rfl (fun K hK => ?_) AllReady.nil)
      · go_simp; refine hK _ _ ?_; clear hK K
        refine wpAny_ready (rs := [5]) (by kernel_rfl) (by simp) ?_; refine AllReady.cons rfl (fun K hK => ?_) AllReady.nil
        refine step_app _ (by rfl) _ _ 33 (by rfl) 2 (.int .i64 0) 1 8 Try.underlying33 (by kernel_rfl) rfl (by decide) U.heap.size (.slice none 0 0) 0 [] (by rfl) (World.ownsRow_nil _ _ _ _) _ x.sz.length (iv x.sz) (by rfl) HRZ.out (iv_one _) (by omega) (by decide) (Nat.le_refl _) ?_; intro ad7 cap7 w7 hown7 hg7 hat7; refine hK _ _ ?_; clear hK K; (try simp only [Nat.zero_add, List.nil_append] at hown7); (try simp only [Nat.zero_add, List.nil_append] at hat7); (try simp only [Nat.zero_add]); have hb7 := below_grown hg7; have R7 := HRB.out.new hb7; have k2' := R7.cell (j := 2) rfl; have kl' := R7.lt
        refine wpAny_take (i := 6) (v := ?_) rfl (by kernel_rfl) (by kernel_rfl) (by kernel_rfl) (fun _ _ _ h => h) (Or.inl ⟨by rfl, ?_⟩) ?_; rotate_left; (focus (intro w; go_simp; try with_reducible rfl)); refine wpAny_take (i := 7) (v := ?_) rfl (by kernel_rfl) (by kernel_rfl) (by kernel_rfl) (fun _ _ _ h => h) (Or.inl ⟨by rfl, ?_⟩) ?_; rotate_left; (focus (intro w; go_simp; try with_reducible rfl)); have HO7 : Hid (OwR intS w7 (.slice ad7 x.sz.length cap7) x.sz (Value.slice ad7 x.sz.length cap7).ownBlock.toList) := ints_owr (owns_base hown7 (fun _ _ => Nat.zero_le _)); have HBB : Hid (∀ y ∈ (Value.slice ad7 x.sz.length cap7).ownBlock.toList, U.heap.size ≤ y) := own_mem hown7; have hH7 := HST.out w7 _ _ hb7 HO7.out (opt_nodup _) HBB.out; have HH7 := hide hH7; have gl7 : gl < w7.heap.size := Nat.lt_of_lt_of_le hgl hb7.size; have gf7 : ∀ j, w7.frozen? ⟨gl, j, none⟩ = false := (fun j => (hb7.frozen (p := ⟨gl, j, none⟩) hgl).trans (hfz j)); have gc7 := (hb7.cell (p := ⟨gl, j * 3 + 2, none⟩) hgl).trans c2; have HR7 := hide (R7.far ⟨gl, j * 3 + 2, none⟩ (.slice ad7 x.sz.length cap7) (show gl ≠ _ by omega)); have HZ7 := hide ((HRZ2.out.new hb7).far ⟨gl, j * 3 + 2, none⟩ (.slice ad7 x.sz.length cap7) (show gl ≠ _ by omega)); have HB7 := hide ((bchain HBU.out hb7).setCell (p := ⟨gl, j * 3 + 2, none⟩) (show w.heap.size ≤ gl by omega) (.slice ad7 x.sz.length cap7)); have hsz7 : w.heap.size + 3 ≤ (w7.setCell ⟨gl, j * 3 + 2, none⟩ (.slice ad7 x.sz.length cap7)).heap.size := (by have := hb7.size; simp; omega); clear hH7 hown7 hg7 hat7 HST HRB HRZ HRZ2 HBU HBB HO7 c2 k2 kl xz xl R7 k2' hgl hfz hb7; refine wpAny_ready (rs := [8]) (by kernel_rfl) (by simp) ?_; refine AllReady.cons rfl (fun K hK => ?_) AllReady.nil; go_simp; refine hK _ _ ?_; clear hK K; refine wpAny_done (by kernel_rfl) ?_ _; go_wp2_with fail; go_roundw
        case rel => exact ⟨j + 1, by go_num, by omega, hsz7, by simpa using gl7, HR7, HZ7, HH7, HB7⟩
        case measure => simp [intOf]; omega
      · refine step_app _ (by rfl) _ _ 33 (by rfl) 2 (.int .i64 0) 1 8 Try.underlying33 (by kernel_rfl) rfl (by decide) U.heap.size (.slice none 0 0) 0 [] (by rfl) (World.ownsRow_nil _ _ _ _) _ x.sz.length (iv x.sz) (by rfl) HRZ.out (iv_one _) (by omega) (by decide) (Nat.le_refl _) ?_; intro ad7 cap7 w7 hown7 hg7 hat7; refine hK _ _ ?_; clear hK K; (try simp only [Nat.zero_add, List.nil_append] at hown7); (try simp only [Nat.zero_add, List.nil_append] at hat7); (try simp only [Nat.zero_add]); have hb7 := below_grown hg7; have R7 := HRB.out.new hb7; have k2' := R7.cell (j := 2) rfl; have kl' := R7.lt
        refine wpAny_ready (rs := [1]) (by kernel_rfl) (by simp) ?_; refine AllReady.cons rfl (fun K hK => ?_) AllReady.nil
        go_simp; refine hK _ _ ?_; clear hK K
        refine wpAny_take (i := 6) (v := ?_) rfl (by kernel_rfl) (by kernel_rfl) (by kernel_rfl) (fun _ _ _ h => h) (Or.inl ⟨by rfl, ?_⟩) ?_; rotate_left; (focus (intro w; go_simp; try with_reducible rfl)); refine wpAny_take (i := 7) (v := ?_) rfl (by kernel_rfl) (by kernel_rfl) (by kernel_rfl) (fun _ _ _ h => h) (Or.inl ⟨by rfl, ?_⟩) ?_; rotate_left; (focus (intro w; go_simp; try with_reducible rfl)); have HO7 : Hid (OwR intS w7 (.slice ad7 x.sz.length cap7) x.sz (Value.slice ad7 x.sz.length cap7).ownBlock.toList) := ints_owr (owns_base hown7 (fun _ _ => Nat.zero_le _)); have HBB : Hid (∀ y ∈ (Value.slice ad7 x.sz.length cap7).ownBlock.toList, U.heap.size ≤ y) := own_mem hown7; have hH7 := HST.out w7 _ _ hb7 HO7.out (opt_nodup _) HBB.out; have HH7 := hide hH7; have gl7 : gl < w7.heap.size := Nat.lt_of_lt_of_le hgl hb7.size; have gf7 : ∀ j, w7.frozen? ⟨gl, j, none⟩ = false := (fun j => (hb7.frozen (p := ⟨gl, j, none⟩) hgl).trans (hfz j)); have gc7 := (hb7.cell (p := ⟨gl, j * 3 + 2, none⟩) hgl).trans c2; have HR7 := hide (R7.far ⟨gl, j * 3 + 2, none⟩ (.slice ad7 x.sz.length cap7) (show gl ≠ _ by omega)); have HZ7 := hide ((HRZ2.out.new hb7).far ⟨gl, j * 3 + 2, none⟩ (.slice ad7 x.sz.length cap7) (show gl ≠ _ by omega)); have HB7 := hide ((bchain HBU.out hb7).setCell (p := ⟨gl, j * 3 + 2, none⟩) (show w.heap.size ≤ gl by omega) (.slice ad7 x.sz.length cap7)); have hsz7 : w.heap.size + 3 ≤ (w7.setCell ⟨gl, j * 3 + 2, none⟩ (.slice ad7 x.sz.length cap7)).heap.size := (by have := hb7.size; simp; omega); clear hH7 hown7 hg7 hat7 HST HRB HRZ HRZ2 HBU HBB HO7 c2 k2 kl xz xl R7 k2' hgl hfz hb7; refine wpAny_ready (rs := [8]) (by kernel_rfl) (by simp) ?_; refine AllReady.cons rfl (fun K hK => ?_) AllReady.nil; go_simp; refine hK _ _ ?_; clear hK K; refine wpAny_done (by kernel_rfl) ?_ _; go_wp2_with fail; go_roundw
        case rel => exact ⟨j + 1, by go_num, by omega, hsz7, by simpa using gl7, HR7, HZ7, HH7, HB7⟩
        case measure => simp [intOf]; omega
end Go.Proofs.Yteojibdnphaooaa
