/- What the laws of turns draw: a round as it comes about, and one that is bent. -/
import Derived.Test.YteojibdnphaooaaTurnBox
import Derived.Test.YteojibdnphaooaaTurnServed
import Derived.Test.YteojibdnphaooaaOpenCode
import Derived.Deep.LoopGhost
import Derived.Deep.DeepMust
import Derived.Deep.Cut
import Derived.Deep.DeepCutAuto


namespace Go.Proofs.Yteojibdnphaooaa
open Go.RowKit
set_option maxRecDepth 100000
set_option linter.unusedSimpArgs false
set_option linter.unusedVariables false
theorem serveRaw_ok {d : RoundD} (h : okRn d = true) : okRn (serveRaw d).1 = true := by
  by_cases hw : waitLs d.ls = 0
  · unfold serveRaw; rw [if_pos hw]; exact h
  · obtain ⟨y, k, n, e, hr⟩ := serve_some h hw
    unfold servedD at e
    rw [if_pos h] at e
    rw [e]; exact hr.ok
theorem line_one {a b : Int} {ad : Option Addr} {n c : Nat} : ∀ u ∈ ([.int .i64 a, .int .i64 b, .slice ad n c] : List Value), u.oneCell' = true := by
  intro u hu
  simp only [List.mem_cons, List.not_mem_nil, or_false] at hu
  rcases hu with rfl | rfl | rfl <;> rfl

set_option maxRecDepth 100000 in
set_option maxHeartbeats 8000000 in
theorem draw11 (g B : Nat) (w : World) (hc : Cur w g B) :
    Calls Try.prog 39 #[.pointer (some ⟨g, 0, none⟩)] w fun e w' => ∃ (d : RoundD) (v : Value), e = .returned (.agg #[.int .i64 d.turn, .bool d.given, v]) ∧ OwX lineS w' w.heap.size w'.heap.size v d.ls ∧ d.ls.length ≤ 4 ∧ Cur w' g B ∧ Moves g w w' := by
  have hgw := hc.lt
  go_enter Try.func39, Try.ntmps39
  go_upto_region 2 with fail
  obtain ⟨V, hV⟩ : ∃ V, (w.alloc (.cells #[.int .i64 0, .bool false, .slice none 0 0] 26)).alloc (.cells #[.int .i64 0, .bool false, .slice none 0 0] 26) = V := ⟨_, rfl⟩
  have HM : Hid (Moves g w V) := by show Moves _ _ _; rw [← hV]; exact ((Moves.refl g w).alloc _).alloc _
  have HZ : Hid (RowIs V w.heap.size 26 [.int .i64 0, .bool false, .slice none 0 0]) := by show RowIs _ _ _ _; rw [← hV]; exact (rowIs_new w 26 [.int .i64 0, .bool false, .slice none 0 0]).alloc _
  have hsV : V.heap.size = w.heap.size + 2 := by rw [← hV]; simp
  have HN : Hid (RnX V (w.heap.size + 1) (w.heap.size + 2) V.heap.size ⟨0, false, []⟩) := by
    refine ⟨none, 0, ?_, owX_nil _ _ _⟩
    rw [← hV]; simpa using rowIs_new (w.alloc (.cells #[.int .i64 0, .bool false, .slice none 0 0] 26)) 26 [.int .i64 0, .bool false, .slice none 0 0]
  have HC : Hid (Cur V g B) := by show Cur _ _ _; rw [← hV]; exact (hc.alloc _).alloc _
  rw [hV]
  clear hV hc
  go_wp2_with fail
  refine (below1 g B 4 _ HC.out (by omega)).mono ?_; rintro e w1 ⟨n, n0, n1, _, rfl, hc1, hm1⟩
  have n4 := n1 (by omega)
  replace HC := hide hc1; replace HN := hide (HN.out.moves hm1 (by omega) (by omega)); replace HZ := hide (HZ.out.moves hm1 (by omega)); replace HM := hide (HM.out.trans hm1)
  clear hc1 hm1 n1 hsV
  replace HN := hide HN.out.top
  go_wp2_with fail
  go_loopw [4] (fun n wr => ∃ (m : Nat) (L : List LineD), n = .int .i64 m ∧ m + L.length ≤ 4 ∧ 1 ≤ m + L.length ∧ Hid (∀ x ∈ L, okLn x = true) ∧ Hid (RnX wr (w.heap.size + 1) (w.heap.size + 2) wr.heap.size ⟨0, false, L⟩) ∧ Hid (RowIs wr w.heap.size 26 [.int .i64 0, .bool false, .slice none 0 0]) ∧ Hid (Cur wr g B) ∧ Hid (Moves g w wr)) (fun n _ => (intOf n).toNat)
  case atStart =>
    obtain ⟨m, rfl⟩ : ∃ m : Nat, n = m := ⟨n.toNat, by omega⟩
    exact ⟨m + 1, [], by go_num, by simp; omega, by simp, by show ∀ x ∈ [], _; simp, HN, HZ, HC, HM⟩
  case round =>
    clear HN HZ HC HM
    obtain ⟨m, L, rfl, hmL, hm1, HL, HN, HZ, HC, HM⟩ := hrel
    have hwr : w.heap.size + 2 ≤ wr.heap.size := by obtain ⟨_, _, hh, _⟩ := HN.out.ex; have := hh.lt; omega
    by_cases hm : 0 < m
    · obtain ⟨m', rfl⟩ : ∃ m', m = m' + 1 := ⟨m - 1, by omega⟩
      go_wp2_with fail
      refine (below1 g B 4 _ HC.out (by omega)).mono ?_; rintro e w5 ⟨p, p0, p1, _, rfl, hc5, hm5⟩
      have p4 := p1 (by omega)
      have hs5 := hm5.size
      replace HC := hide hc5; replace HN := hide (HN.out.moves hm5 (by omega) (by omega)); replace HZ := hide (HZ.out.moves hm5 (by omega)); replace HM := hide (HM.out.trans hm5)
      replace HN := hide HN.out.top
      clear hc5 hm5 p1
      go_upto_region 6 with fail
      obtain ⟨X, hX⟩ : ∃ X, w5.alloc (.cells #[.int .i64 (1 + p), .int .i64 0, .slice none 0 0] 35) = X := ⟨_, rfl⟩
      have hbX : Below w5.heap.size w5 X := by rw [← hX]; exact (Below.refl _ _).alloc (Nat.le_refl _) _
      have HE : Hid (RowIs X w5.heap.size 35 [.int .i64 (1 + p), .int .i64 0, .slice none 0 0]) := by show RowIs _ _ _ _; rw [← hX]; exact rowIs_new w5 _ _
      rw [hX]
      replace HC := hide (HC.out.below hbX); replace HN := hide (HN.out.new hbX); replace HZ := hide (HZ.out.new hbX); replace HM := hide (HM.out.trans (Moves.of_below (g := g) hbX))
      have HO : Hid (X.ownsRow (w5.heap.size + 1) 2 1 (.slice none 0 0) 0 []) := World.ownsRow_nil X (w5.heap.size + 1) 2 1
      obtain ⟨gx, hgx⟩ : ∃ gx, w5.heap.size = gx := ⟨_, rfl⟩
      have hgx2 : w.heap.size + 2 ≤ gx := by omega
      rw [hgx] at HE HO HN ⊢
      clear hX hbX hgx hs5
      go_wp2_with fail
      refine (below1 g B 8 _ HC.out (by omega)).mono ?_; rintro e w6 ⟨k, k0, k1, _, rfl, hc6, hm6⟩
      have k8 := k1 (by omega)
      replace HC := hide hc6; replace HN := hide (HN.out.moves hm6 (by omega) (by omega)); replace HZ := hide (HZ.out.moves hm6 (by omega)); replace HM := hide (HM.out.trans hm6)
      replace HE := hide (HE.out.moves hm6 (by omega)); replace HO := hide (owns_moves HO.out hm6 (by omega))
      clear hc6 hm6 k1
      go_wp2_with fail
      go_loopw [6] (fun n wi => ∃ (q : Nat) (S : List Int) (a : Option Addr) (pp : Nat), n = .int .i64 q ∧ q + S.length ≤ 7 ∧ Hid (∀ z ∈ S, 1 ≤ z ∧ z ≤ 100) ∧ Hid (RowIs wi gx 35 [.int .i64 (1 + p), .int .i64 0, .slice a S.length pp]) ∧ Hid (wi.ownsRow (gx + 1) 2 1 (.slice a S.length pp) S.length (iv S)) ∧ Hid (RnX wi (w.heap.size + 1) (w.heap.size + 2) gx ⟨0, false, L⟩) ∧ Hid (RowIs wi w.heap.size 26 [.int .i64 0, .bool false, .slice none 0 0]) ∧ Hid (Cur wi g B) ∧ Hid (Moves g w wi)) (fun n _ => (intOf n).toNat)
      case atStart =>
        obtain ⟨q, rfl⟩ : ∃ q : Nat, k = q := ⟨k.toNat, by omega⟩
        exact ⟨q, [], none, 0, rfl, by simp; omega, by show ∀ z ∈ [], _; simp, HE, HO, HN, HZ, HC, HM⟩
      case round =>
        clear HE HO HN HZ HC HM
        obtain ⟨q, S, a, pp, rfl, hqS, HS, HE, HO, HN, HZ, HC, HM⟩ := hrel
        by_cases hq : 0 < q
        · obtain ⟨q', rfl⟩ : ∃ q', q = q' + 1 := ⟨q - 1, by omega⟩
          go_upto_region 9 with fail
          refine wp_region_any (by kernel_rfl) ?_
          change wpAny _ _ _ _ _ _ _ (World.drew _)
          obtain ⟨u0, hu0⟩ : ∃ u : World, u = World.drew wr := ⟨_, rfl⟩
          have hbu : Below wr.heap.size wr u0 := by rw [hu0]; exact bo_drewN 1 (Below.refl _ _)
          rw [← hu0]
          clear hu0
          replace HC := hide (HC.out.below hbu); replace HN := hide (HN.out.new hbu); replace HZ := hide (HZ.out.new hbu); replace HM := hide (HM.out.trans (Moves.of_below (g := g) hbu))
          replace HE := hide (HE.out.new hbu); replace HO := hide (owns_new HO.out hbu)
          clear hbu
          refine wpAny_take (i := 0) (v := ?_) rfl (by kernel_rfl) (by kernel_rfl) (by kernel_rfl) (fun _ _ _ h => h) (Or.inl ⟨by rfl, ?_⟩) ?_; rotate_left; focus (intro uu; go_simp; try with_reducible rfl)
          try simp only [Act.put, List.getElem_toArray, List.getElem_cons_succ, List.getElem_cons_zero, List.setIfInBounds_toArray, List.set_cons_zero, List.set_cons_succ]
          refine wpAny_take (i := 2) (v := ?_) rfl (by kernel_rfl) (by kernel_rfl) (by kernel_rfl) (fun _ _ _ h => h) (Or.inl ⟨by rfl, ?_⟩) ?_; rotate_left; focus (intro uu; go_simp; try with_reducible rfl)
          try simp only [Act.put, List.getElem_toArray, List.getElem_cons_succ, List.getElem_cons_zero, List.setIfInBounds_toArray, List.set_cons_zero, List.set_cons_succ]
          refine wpAny_ready (rs := [1, 3]) (by kernel_rfl) (by simp) ?_
          refine (AllReady.cons rfl (fun K hK => ?_) (AllReady.cons rfl (fun K hK => ?_) AllReady.nil))
          · skip
            try rw [if_pos (by kernel_rfl)]
            have l2 := HE.out.cell (j := 2) rfl
            have ll := HE.out.lt
            go_simp
            refine hK _ _ ?_; clear hK K
            clear l2 ll
            try simp only [Act.put, List.getElem_toArray, List.getElem_cons_succ, List.getElem_cons_zero, List.setIfInBounds_toArray, List.set_cons_zero, List.set_cons_succ]
            refine wpAny_ready (rs := [3]) (by kernel_rfl) (by simp) ?_
            refine (AllReady.cons rfl (fun K hK => ?_) AllReady.nil)
            try rw [if_pos (by kernel_rfl)]
            go_simp
            refine (below1 g B 100 _ HC.out (by omega)).mono ?_; rintro e y2 ⟨z, z0, z1, _, rfl, hcx, hmx⟩
            have z9 := z1 (by omega)
            have wz : IntKind.i64.wrap (1 + z) = 1 + z := by rw [IntKind.wrap_i64]; omega
            replace HC := hide hcx; replace HN := hide (HN.out.moves hmx (by omega) (by omega)); replace HZ := hide (HZ.out.moves hmx (by omega)); replace HM := hide (HM.out.trans hmx)
            replace HE := hide (HE.out.moves hmx (by omega)); replace HO := hide (owns_moves HO.out hmx (by omega))
            clear hcx hmx z1
            refine hK _ _ ?_; clear hK K
            try simp only [Act.put, List.getElem_toArray, List.getElem_cons_succ, List.getElem_cons_zero, List.setIfInBounds_toArray, List.set_cons_zero, List.set_cons_succ]
            refine wpAny_take (i := 4) (v := ?_) rfl (by kernel_rfl) (by kernel_rfl) (by kernel_rfl) (fun _ _ _ h => h) (Or.inl ⟨by rfl, ?_⟩) ?_; rotate_left; focus (intro uu; go_simp; try with_reducible rfl)
            try simp only [Act.put, List.getElem_toArray, List.getElem_cons_succ, List.getElem_cons_zero, List.setIfInBounds_toArray, List.set_cons_zero, List.set_cons_succ]
            refine wpAny_ready (rs := [5]) (by kernel_rfl) (by simp) ?_
            refine (AllReady.cons rfl (fun K hK => ?_) AllReady.nil)
            try rw [if_pos (by kernel_rfl)]
            go_simp
            obtain ⟨y3, hX⟩ : ∃ u, y2.alloc (.cells #[.int .i64 (1 + z)] 2) = u := ⟨_, rfl⟩
            have hbX : Below y2.heap.size y2 y3 := by rw [← hX]; exact (Below.refl _ _).alloc (Nat.le_refl _) _
            have HR1 : Hid (Reads y3 (.slice (some ⟨y2.heap.size, 0, none⟩) 1 1) 1 1 (iv [1 + z])) := by show Reads _ _ _ _ _; rw [← hX]; exact reads_of_owns (owns_lit y2 2 1 1 #[.int .i64 (1 + z)] rfl (by omega))
            replace HC := hide (HC.out.below hbX); replace HN := hide (HN.out.new hbX); replace HZ := hide (HZ.out.new hbX); replace HM := hide (HM.out.trans (Moves.of_below (g := g) hbX))
            replace HE := hide (HE.out.new hbX); replace HO := hide (owns_new HO.out hbX)
            rw [hX]
            clear hX hbX
            refine hK _ _ ?_; clear hK K
            try simp only [Act.put, List.getElem_toArray, List.getElem_cons_succ, List.getElem_cons_zero, List.setIfInBounds_toArray, List.set_cons_zero, List.set_cons_succ]
            refine wpAny_ready (rs := [6]) (by kernel_rfl) (by simp) ?_
            refine (AllReady.cons rfl (fun K hK => ?_) AllReady.nil)
            refine step_app _ (by rfl) _ _ 33 (by rfl) 2 (.int .i64 0) 1 8 Try.underlying33 (by kernel_rfl) rfl (by decide) (gx + 1) _ S.length (iv S) (by rfl) HO.out _ 1 (iv [1 + z]) (by rfl) HR1.out (iv_one _) (by omega) (by decide) (by have := HE.out.lt; omega) ?_
            intro ad7 cap7 y4 hown7 hg7 hat7
            have hlt7 := fun k (e : (Value.slice a S.length pp).ownBlock = some k) => (HO.out.lt k e).1
            have hrow7 := HE.out.kept (hg7.block gx HE.out.lt (fun e => by have := hlt7 _ e.symm; omega))
            have hz7 := HZ.out.kept (hg7.block _ HZ.out.lt (fun e => by have := hlt7 _ e.symm; omega))
            have hc7 := HC.out.grown hg7 (fun k hk => by have := hlt7 k hk; omega)
            have hm7 := HM.out.grown hg7 (fun k hk => by have := hlt7 k hk; omega)
            have hn7 := HN.out.turn (lo' := gx + 1) (hi' := y4.heap.size + 1) ⟨hg7.os, hg7.tape, hg7.output, hg7.size, fun k hk ho => hg7.block k hk (fun e => by have := hlt7 _ e.symm; have := hg7.size; omega)⟩ (by omega) (by omega)
            have HE7 := hide hrow7; have HO7 := hide hown7; have HZ7 := hide hz7; have HC7 := hide hc7; have HM7 := hide hm7; have HN7 := hide hn7
            clear hrow7 hown7 hz7 hc7 hm7 hn7 hat7 hg7 hlt7 HE HO HZ HC HM HN HR1
            refine hK _ _ ?_; clear hK K
            have t2 := HE7.out.cell (j := 2) rfl
            have tf := HE7.out.frozen 2
            have tl := HE7.out.lt
            try simp only [Act.put, List.getElem_toArray, List.getElem_cons_succ, List.getElem_cons_zero, List.setIfInBounds_toArray, List.set_cons_zero, List.set_cons_succ]
            refine wpAny_take (i := 7) (v := ?_) rfl (by kernel_rfl) (by kernel_rfl) (by kernel_rfl) (fun _ _ _ h => h) (Or.inl ⟨by rfl, ?_⟩) ?_; rotate_left; focus (intro uu; go_simp; try with_reducible rfl)
            try simp only [Act.put, List.getElem_toArray, List.getElem_cons_succ, List.getElem_cons_zero, List.setIfInBounds_toArray, List.set_cons_zero, List.set_cons_succ]
            refine wpAny_ready (rs := [8]) (by kernel_rfl) (by simp) ?_
            refine (AllReady.cons rfl (fun K hK => ?_) AllReady.nil)
            try rw [if_pos (by kernel_rfl)]
            go_simp

            refine hK _ _ ?_; clear hK K
            try simp only [Act.put, List.getElem_toArray, List.getElem_cons_succ, List.getElem_cons_zero, List.setIfInBounds_toArray, List.set_cons_zero, List.set_cons_succ]
            refine wpAny_done (by kernel_rfl) ?_ _
            have hob : ∀ k, (Value.slice ad7 (S.length + 1) cap7).ownBlock = some k → gx + 1 ≤ k := fun k e => (HO7.out.lt k e).1
            have HE8 : Hid (RowIs (y4.setCell ⟨gx, 2, none⟩ (.slice ad7 (S.length + 1) cap7)) gx 35 [.int .i64 (1 + p), .int .i64 0, .slice ad7 (S ++ [1 + z]).length cap7]) := by
              show RowIs _ _ _ _
              have := HE7.out.set 2 (.slice ad7 (S.length + 1) cap7)
              simpa using this
            have HO8 : Hid ((y4.setCell ⟨gx, 2, none⟩ (.slice ad7 (S.length + 1) cap7)).ownsRow (gx + 1) 2 1 (.slice ad7 (S ++ [1 + z]).length cap7) (S ++ [1 + z]).length (iv (S ++ [1 + z]))) := by
              show World.ownsRow _ _ _ _ _ _ _
              have := owns_apart HO7.out ⟨gx, 2, none⟩ (.slice ad7 (S.length + 1) cap7) (fun e => absurd (hob _ e) (by show ¬ gx + 1 ≤ gx; omega))
              simpa [iv_app] using this
            have HN8 := hide (HN7.out.far ⟨gx, 2, none⟩ (.slice ad7 (S.length + 1) cap7) (by simp; omega) (.inr (Nat.le_refl _)))
            have HZ8 := hide (HZ7.out.far ⟨gx, 2, none⟩ (.slice ad7 (S.length + 1) cap7) (by simp; omega))
            have HC8 := hide (HC7.out.set ⟨gx, 2, none⟩ (.slice ad7 (S.length + 1) cap7) (by simp; omega))
            have HM8 := hide (HM7.out.setNew ⟨gx, 2, none⟩ (by simp; omega) (.slice ad7 (S.length + 1) cap7))
            have HS8 : Hid (∀ y ∈ S ++ [1 + z], 1 ≤ y ∧ y ≤ 100) := by
              show ∀ y ∈ S ++ [1 + z], _
              intro y hy
              rcases List.mem_append.1 hy with h | h
              · exact HS.out y h
              · simp at h; omega
            clear t2 tf tl HE7 HO7 HN7 HZ7 HC7 HM7 hob
            generalize y4.setCell ⟨gx, 2, none⟩ (.slice ad7 (S.length + 1) cap7) = w9 at *
            go_wp2_with fail
            go_roundw
            case rel => exact ⟨q', S ++ [1 + z], ad7, cap7, by go_num, by simp; omega, HS8, HE8, HO8, HN8, HZ8, HC8, HM8⟩
            case measure => simp [intOf]
          · skip
            try rw [if_pos (by kernel_rfl)]
            go_simp
            refine (below1 g B 100 _ HC.out (by omega)).mono ?_; rintro e y6 ⟨z, z0, z1, _, rfl, hcx, hmx⟩
            have z9 := z1 (by omega)
            have wz : IntKind.i64.wrap (1 + z) = 1 + z := by rw [IntKind.wrap_i64]; omega
            replace HC := hide hcx; replace HN := hide (HN.out.moves hmx (by omega) (by omega)); replace HZ := hide (HZ.out.moves hmx (by omega)); replace HM := hide (HM.out.trans hmx)
            replace HE := hide (HE.out.moves hmx (by omega)); replace HO := hide (owns_moves HO.out hmx (by omega))
            clear hcx hmx z1
            refine hK _ _ ?_; clear hK K
            try simp only [Act.put, List.getElem_toArray, List.getElem_cons_succ, List.getElem_cons_zero, List.setIfInBounds_toArray, List.set_cons_zero, List.set_cons_succ]
            refine wpAny_take (i := 4) (v := ?_) rfl (by kernel_rfl) (by kernel_rfl) (by kernel_rfl) (fun _ _ _ h => h) (Or.inl ⟨by rfl, ?_⟩) ?_; rotate_left; focus (intro uu; go_simp; try with_reducible rfl)
            try simp only [Act.put, List.getElem_toArray, List.getElem_cons_succ, List.getElem_cons_zero, List.setIfInBounds_toArray, List.set_cons_zero, List.set_cons_succ]
            refine wpAny_ready (rs := [1, 5]) (by kernel_rfl) (by simp) ?_
            refine (AllReady.cons rfl (fun K hK => ?_) (AllReady.cons rfl (fun K hK => ?_) AllReady.nil))
            · skip
              try rw [if_pos (by kernel_rfl)]
              have l2 := HE.out.cell (j := 2) rfl
              have ll := HE.out.lt
              go_simp
              refine hK _ _ ?_; clear hK K
              clear l2 ll
              try simp only [Act.put, List.getElem_toArray, List.getElem_cons_succ, List.getElem_cons_zero, List.setIfInBounds_toArray, List.set_cons_zero, List.set_cons_succ]
              refine wpAny_ready (rs := [5]) (by kernel_rfl) (by simp) ?_
              refine (AllReady.cons rfl (fun K hK => ?_) AllReady.nil)
              try rw [if_pos (by kernel_rfl)]
              go_simp
              obtain ⟨y8, hX⟩ : ∃ u, y6.alloc (.cells #[.int .i64 (1 + z)] 2) = u := ⟨_, rfl⟩
              have hbX : Below y6.heap.size y6 y8 := by rw [← hX]; exact (Below.refl _ _).alloc (Nat.le_refl _) _
              have HR1 : Hid (Reads y8 (.slice (some ⟨y6.heap.size, 0, none⟩) 1 1) 1 1 (iv [1 + z])) := by show Reads _ _ _ _ _; rw [← hX]; exact reads_of_owns (owns_lit y6 2 1 1 #[.int .i64 (1 + z)] rfl (by omega))
              replace HC := hide (HC.out.below hbX); replace HN := hide (HN.out.new hbX); replace HZ := hide (HZ.out.new hbX); replace HM := hide (HM.out.trans (Moves.of_below (g := g) hbX))
              replace HE := hide (HE.out.new hbX); replace HO := hide (owns_new HO.out hbX)
              rw [hX]
              clear hX hbX
              refine hK _ _ ?_; clear hK K
              try simp only [Act.put, List.getElem_toArray, List.getElem_cons_succ, List.getElem_cons_zero, List.setIfInBounds_toArray, List.set_cons_zero, List.set_cons_succ]
              refine wpAny_ready (rs := [6]) (by kernel_rfl) (by simp) ?_
              refine (AllReady.cons rfl (fun K hK => ?_) AllReady.nil)
              refine step_app _ (by rfl) _ _ 33 (by rfl) 2 (.int .i64 0) 1 8 Try.underlying33 (by kernel_rfl) rfl (by decide) (gx + 1) _ S.length (iv S) (by rfl) HO.out _ 1 (iv [1 + z]) (by rfl) HR1.out (iv_one _) (by omega) (by decide) (by have := HE.out.lt; omega) ?_
              intro ad7 cap7 y9 hown7 hg7 hat7
              have hlt7 := fun k (e : (Value.slice a S.length pp).ownBlock = some k) => (HO.out.lt k e).1
              have hrow7 := HE.out.kept (hg7.block gx HE.out.lt (fun e => by have := hlt7 _ e.symm; omega))
              have hz7 := HZ.out.kept (hg7.block _ HZ.out.lt (fun e => by have := hlt7 _ e.symm; omega))
              have hc7 := HC.out.grown hg7 (fun k hk => by have := hlt7 k hk; omega)
              have hm7 := HM.out.grown hg7 (fun k hk => by have := hlt7 k hk; omega)
              have hn7 := HN.out.turn (lo' := gx + 1) (hi' := y9.heap.size + 1) ⟨hg7.os, hg7.tape, hg7.output, hg7.size, fun k hk ho => hg7.block k hk (fun e => by have := hlt7 _ e.symm; have := hg7.size; omega)⟩ (by omega) (by omega)
              have HE7 := hide hrow7; have HO7 := hide hown7; have HZ7 := hide hz7; have HC7 := hide hc7; have HM7 := hide hm7; have HN7 := hide hn7
              clear hrow7 hown7 hz7 hc7 hm7 hn7 hat7 hg7 hlt7 HE HO HZ HC HM HN HR1
              refine hK _ _ ?_; clear hK K
              have t2 := HE7.out.cell (j := 2) rfl
              have tf := HE7.out.frozen 2
              have tl := HE7.out.lt
              try simp only [Act.put, List.getElem_toArray, List.getElem_cons_succ, List.getElem_cons_zero, List.setIfInBounds_toArray, List.set_cons_zero, List.set_cons_succ]
              refine wpAny_take (i := 7) (v := ?_) rfl (by kernel_rfl) (by kernel_rfl) (by kernel_rfl) (fun _ _ _ h => h) (Or.inl ⟨by rfl, ?_⟩) ?_; rotate_left; focus (intro uu; go_simp; try with_reducible rfl)
              try simp only [Act.put, List.getElem_toArray, List.getElem_cons_succ, List.getElem_cons_zero, List.setIfInBounds_toArray, List.set_cons_zero, List.set_cons_succ]
              refine wpAny_ready (rs := [8]) (by kernel_rfl) (by simp) ?_
              refine (AllReady.cons rfl (fun K hK => ?_) AllReady.nil)
              try rw [if_pos (by kernel_rfl)]
              go_simp

              refine hK _ _ ?_; clear hK K
              try simp only [Act.put, List.getElem_toArray, List.getElem_cons_succ, List.getElem_cons_zero, List.setIfInBounds_toArray, List.set_cons_zero, List.set_cons_succ]
              refine wpAny_done (by kernel_rfl) ?_ _
              have hob : ∀ k, (Value.slice ad7 (S.length + 1) cap7).ownBlock = some k → gx + 1 ≤ k := fun k e => (HO7.out.lt k e).1
              have HE8 : Hid (RowIs (y9.setCell ⟨gx, 2, none⟩ (.slice ad7 (S.length + 1) cap7)) gx 35 [.int .i64 (1 + p), .int .i64 0, .slice ad7 (S ++ [1 + z]).length cap7]) := by
                show RowIs _ _ _ _
                have := HE7.out.set 2 (.slice ad7 (S.length + 1) cap7)
                simpa using this
              have HO8 : Hid ((y9.setCell ⟨gx, 2, none⟩ (.slice ad7 (S.length + 1) cap7)).ownsRow (gx + 1) 2 1 (.slice ad7 (S ++ [1 + z]).length cap7) (S ++ [1 + z]).length (iv (S ++ [1 + z]))) := by
                show World.ownsRow _ _ _ _ _ _ _
                have := owns_apart HO7.out ⟨gx, 2, none⟩ (.slice ad7 (S.length + 1) cap7) (fun e => absurd (hob _ e) (by show ¬ gx + 1 ≤ gx; omega))
                simpa [iv_app] using this
              have HN8 := hide (HN7.out.far ⟨gx, 2, none⟩ (.slice ad7 (S.length + 1) cap7) (by simp; omega) (.inr (Nat.le_refl _)))
              have HZ8 := hide (HZ7.out.far ⟨gx, 2, none⟩ (.slice ad7 (S.length + 1) cap7) (by simp; omega))
              have HC8 := hide (HC7.out.set ⟨gx, 2, none⟩ (.slice ad7 (S.length + 1) cap7) (by simp; omega))
              have HM8 := hide (HM7.out.setNew ⟨gx, 2, none⟩ (by simp; omega) (.slice ad7 (S.length + 1) cap7))
              have HS8 : Hid (∀ y ∈ S ++ [1 + z], 1 ≤ y ∧ y ≤ 100) := by
                show ∀ y ∈ S ++ [1 + z], _
                intro y hy
                rcases List.mem_append.1 hy with h | h
                · exact HS.out y h
                · simp at h; omega
              clear t2 tf tl HE7 HO7 HN7 HZ7 HC7 HM7 hob
              generalize y9.setCell ⟨gx, 2, none⟩ (.slice ad7 (S.length + 1) cap7) = w9 at *
              go_wp2_with fail
              go_roundw
              case rel => exact ⟨q', S ++ [1 + z], ad7, cap7, by go_num, by simp; omega, HS8, HE8, HO8, HN8, HZ8, HC8, HM8⟩
              case measure => simp [intOf]
            · skip
              try rw [if_pos (by kernel_rfl)]
              go_simp
              obtain ⟨y11, hX⟩ : ∃ u, y6.alloc (.cells #[.int .i64 (1 + z)] 2) = u := ⟨_, rfl⟩
              have hbX : Below y6.heap.size y6 y11 := by rw [← hX]; exact (Below.refl _ _).alloc (Nat.le_refl _) _
              have HR1 : Hid (Reads y11 (.slice (some ⟨y6.heap.size, 0, none⟩) 1 1) 1 1 (iv [1 + z])) := by show Reads _ _ _ _ _; rw [← hX]; exact reads_of_owns (owns_lit y6 2 1 1 #[.int .i64 (1 + z)] rfl (by omega))
              replace HC := hide (HC.out.below hbX); replace HN := hide (HN.out.new hbX); replace HZ := hide (HZ.out.new hbX); replace HM := hide (HM.out.trans (Moves.of_below (g := g) hbX))
              replace HE := hide (HE.out.new hbX); replace HO := hide (owns_new HO.out hbX)
              rw [hX]
              clear hX hbX
              refine hK _ _ ?_; clear hK K
              try simp only [Act.put, List.getElem_toArray, List.getElem_cons_succ, List.getElem_cons_zero, List.setIfInBounds_toArray, List.set_cons_zero, List.set_cons_succ]
              refine wpAny_ready (rs := [1]) (by kernel_rfl) (by simp) ?_
              refine (AllReady.cons rfl (fun K hK => ?_) AllReady.nil)
              try rw [if_pos (by kernel_rfl)]
              have l2 := HE.out.cell (j := 2) rfl
              have ll := HE.out.lt
              go_simp
              refine hK _ _ ?_; clear hK K
              clear l2 ll
              try simp only [Act.put, List.getElem_toArray, List.getElem_cons_succ, List.getElem_cons_zero, List.setIfInBounds_toArray, List.set_cons_zero, List.set_cons_succ]
              refine wpAny_ready (rs := [6]) (by kernel_rfl) (by simp) ?_
              refine (AllReady.cons rfl (fun K hK => ?_) AllReady.nil)
              refine step_app _ (by rfl) _ _ 33 (by rfl) 2 (.int .i64 0) 1 8 Try.underlying33 (by kernel_rfl) rfl (by decide) (gx + 1) _ S.length (iv S) (by rfl) HO.out _ 1 (iv [1 + z]) (by rfl) HR1.out (iv_one _) (by omega) (by decide) (by have := HE.out.lt; omega) ?_
              intro ad7 cap7 y13 hown7 hg7 hat7
              have hlt7 := fun k (e : (Value.slice a S.length pp).ownBlock = some k) => (HO.out.lt k e).1
              have hrow7 := HE.out.kept (hg7.block gx HE.out.lt (fun e => by have := hlt7 _ e.symm; omega))
              have hz7 := HZ.out.kept (hg7.block _ HZ.out.lt (fun e => by have := hlt7 _ e.symm; omega))
              have hc7 := HC.out.grown hg7 (fun k hk => by have := hlt7 k hk; omega)
              have hm7 := HM.out.grown hg7 (fun k hk => by have := hlt7 k hk; omega)
              have hn7 := HN.out.turn (lo' := gx + 1) (hi' := y13.heap.size + 1) ⟨hg7.os, hg7.tape, hg7.output, hg7.size, fun k hk ho => hg7.block k hk (fun e => by have := hlt7 _ e.symm; have := hg7.size; omega)⟩ (by omega) (by omega)
              have HE7 := hide hrow7; have HO7 := hide hown7; have HZ7 := hide hz7; have HC7 := hide hc7; have HM7 := hide hm7; have HN7 := hide hn7
              clear hrow7 hown7 hz7 hc7 hm7 hn7 hat7 hg7 hlt7 HE HO HZ HC HM HN HR1
              refine hK _ _ ?_; clear hK K
              have t2 := HE7.out.cell (j := 2) rfl
              have tf := HE7.out.frozen 2
              have tl := HE7.out.lt
              try simp only [Act.put, List.getElem_toArray, List.getElem_cons_succ, List.getElem_cons_zero, List.setIfInBounds_toArray, List.set_cons_zero, List.set_cons_succ]
              refine wpAny_take (i := 7) (v := ?_) rfl (by kernel_rfl) (by kernel_rfl) (by kernel_rfl) (fun _ _ _ h => h) (Or.inl ⟨by rfl, ?_⟩) ?_; rotate_left; focus (intro uu; go_simp; try with_reducible rfl)
              try simp only [Act.put, List.getElem_toArray, List.getElem_cons_succ, List.getElem_cons_zero, List.setIfInBounds_toArray, List.set_cons_zero, List.set_cons_succ]
              refine wpAny_ready (rs := [8]) (by kernel_rfl) (by simp) ?_
              refine (AllReady.cons rfl (fun K hK => ?_) AllReady.nil)
              try rw [if_pos (by kernel_rfl)]
              go_simp

              refine hK _ _ ?_; clear hK K
              try simp only [Act.put, List.getElem_toArray, List.getElem_cons_succ, List.getElem_cons_zero, List.setIfInBounds_toArray, List.set_cons_zero, List.set_cons_succ]
              refine wpAny_done (by kernel_rfl) ?_ _
              have hob : ∀ k, (Value.slice ad7 (S.length + 1) cap7).ownBlock = some k → gx + 1 ≤ k := fun k e => (HO7.out.lt k e).1
              have HE8 : Hid (RowIs (y13.setCell ⟨gx, 2, none⟩ (.slice ad7 (S.length + 1) cap7)) gx 35 [.int .i64 (1 + p), .int .i64 0, .slice ad7 (S ++ [1 + z]).length cap7]) := by
                show RowIs _ _ _ _
                have := HE7.out.set 2 (.slice ad7 (S.length + 1) cap7)
                simpa using this
              have HO8 : Hid ((y13.setCell ⟨gx, 2, none⟩ (.slice ad7 (S.length + 1) cap7)).ownsRow (gx + 1) 2 1 (.slice ad7 (S ++ [1 + z]).length cap7) (S ++ [1 + z]).length (iv (S ++ [1 + z]))) := by
                show World.ownsRow _ _ _ _ _ _ _
                have := owns_apart HO7.out ⟨gx, 2, none⟩ (.slice ad7 (S.length + 1) cap7) (fun e => absurd (hob _ e) (by show ¬ gx + 1 ≤ gx; omega))
                simpa [iv_app] using this
              have HN8 := hide (HN7.out.far ⟨gx, 2, none⟩ (.slice ad7 (S.length + 1) cap7) (by simp; omega) (.inr (Nat.le_refl _)))
              have HZ8 := hide (HZ7.out.far ⟨gx, 2, none⟩ (.slice ad7 (S.length + 1) cap7) (by simp; omega))
              have HC8 := hide (HC7.out.set ⟨gx, 2, none⟩ (.slice ad7 (S.length + 1) cap7) (by simp; omega))
              have HM8 := hide (HM7.out.setNew ⟨gx, 2, none⟩ (by simp; omega) (.slice ad7 (S.length + 1) cap7))
              have HS8 : Hid (∀ y ∈ S ++ [1 + z], 1 ≤ y ∧ y ≤ 100) := by
                show ∀ y ∈ S ++ [1 + z], _
                intro y hy
                rcases List.mem_append.1 hy with h | h
                · exact HS.out y h
                · simp at h; omega
              clear t2 tf tl HE7 HO7 HN7 HZ7 HC7 HM7 hob
              generalize y13.setCell ⟨gx, 2, none⟩ (.slice ad7 (S.length + 1) cap7) = w9 at *
              go_wp2_with fail
              go_roundw
              case rel => exact ⟨q', S ++ [1 + z], ad7, cap7, by go_num, by simp; omega, HS8, HE8, HO8, HN8, HZ8, HC8, HM8⟩
              case measure => simp [intOf]
        · obtain rfl : q = 0 := by omega
          have hX2 : Below wr.heap.size wr (wr.alloc (.cells #[.int .i64 (1 + p), .int .i64 0, .slice a S.length pp] 35)) := (Below.refl _ _).alloc (Nat.le_refl _) _
          have hRd : Reads (wr.alloc (.cells #[.int .i64 (1 + p), .int .i64 0, .slice a S.length pp] 35)) (.slice (some ⟨wr.heap.size, 0, none⟩) 1 1) 1 3 [.int .i64 (1 + p), .int .i64 0, .slice a S.length pp] := reads_of_owns (owns_lit wr 35 3 1 #[.int .i64 (1 + p), .int .i64 0, .slice a S.length pp] rfl (by omega))
          obtain ⟨a1, p1, hrow0, _⟩ := HN.out.ex
          have n2 := hrow0.cell (j := 2) rfl
          have nl := hrow0.lt
          have e0 := HE.out.cell (j := 0) rfl
          have e1 := HE.out.cell (j := 1) rfl
          have e2 := HE.out.cell (j := 2) rfl
          have el := HE.out.lt
          obtain ⟨a1', p1', hrow1, hO1⟩ := (HN.out.new hX2).ex
          obtain ⟨rfl, rfl⟩ : a1' = a1 ∧ p1' = p1 := by
            have h1 := hrow1.cell (j := 2) rfl
            have h2 := (hrow0.new hX2).cell (j := 2) rfl
            rw [h1] at h2
            simp only [Option.some.injEq, Value.slice.injEq] at h2
            exact ⟨h2.1, h2.2.2⟩
          clear hrow0
          have hgb : (Value.slice a1' L.length p1').ownBlock ≠ some (w.heap.size + 1) := fun e => by have := (hO1.own _ e).1; omega
          have hmidX : gx ≤ (wr.alloc (.cells #[.int .i64 (1 + p), .int .i64 0, .slice a S.length pp] 35)).heap.size := by have := hX2.size; omega
          have hbnd := fun k (e : (Value.slice a1' L.length p1').ownBlock = some k) => hO1.own k e
          obtain ⟨xs, hown, hgrow⟩ := hO1.grow hmidX (by omega)
          have hx : OwE lineS (wr.alloc (.cells #[.int .i64 (1 + p), .int .i64 0, .slice a S.length pp] 35)) gx (wr.alloc (.cells #[.int .i64 (1 + p), .int .i64 0, .slice a S.length pp] 35)).heap.size [.int .i64 (1 + p), .int .i64 0, .slice a S.length pp] ⟨1 + p, 0, S⟩ := (line_owe (x := ⟨1 + p, 0, S⟩) (owns_new HO.out hX2) (Nat.le_refl _)).wide (by omega) (Nat.le_refl _)
          have HGR := hide hgrow; have HX := hide hx; have HRW := hide hrow1; have HBN := hide hbnd
          replace HZ := hide (HZ.out.new hX2); replace HC := hide (HC.out.below hX2); replace HM := hide (HM.out.trans (Moves.of_below (g := g) hX2))
          clear hgrow hx hrow1 hbnd hO1 hX2 hmidX
          go_upto_region 10 with fail
          go_wp2_with (at_builtin; go_must (refine wpList_app _ (by rfl) _ _ 24 (by rfl) 35 (.agg #[.int .i64 0, .int .i64 0, .slice none 0 0]) 3 40 Try.underlying24 (by kernel_rfl) rfl (by decide) 0 _ L.length xs (by rfl) hown _ 1 [.int .i64 (1 + p), .int .i64 0, .slice a S.length pp] (by rfl) hRd line_one (by omega) (by decide) (Nat.zero_le _) ?_))
          intro ad7 cap7 w7 hown7 hg7 hat7
          have hox := HGR.out w7 (.slice ad7 (L.length + 1) cap7) _ _ HX.out hown7 hg7 (by simpa using hat7)
          have HN7 : Hid (RnX (w7.setCell ⟨(w.heap.size + 1), 2, none⟩ (.slice ad7 (L.length + 1) cap7)) (w.heap.size + 1) (w.heap.size + 2) w7.heap.size ⟨0, false, L ++ [⟨1 + p, 0, S⟩]⟩) := RnX.app (d := ⟨0, false, L⟩) HRW.out (by omega) hgb hg7 hox
          have hr7 := HRW.out.kept (hg7.block _ HRW.out.lt (fun e => hgb e.symm))
          have m2 := hr7.cell (j := 2) rfl
          have mf := hr7.frozen 2
          have ml := hr7.lt
          have HZ7 := hide (HZ.out.kept (hg7.block _ HZ.out.lt (fun e => by have := (HBN.out _ e.symm).1; omega)))
          have HC7 := hide (HC.out.grown hg7 (fun k hk => by have := (HBN.out k hk).1; omega))
          have HM7 := hide (HM.out.grown hg7 (fun k hk => by have := (HBN.out k hk).1; omega))
          replace HZ := hide (HZ7.out.far ⟨(w.heap.size + 1), 2, none⟩ (.slice ad7 (L.length + 1) cap7) (by simp))
          replace HC := hide (HC7.out.set ⟨(w.heap.size + 1), 2, none⟩ (.slice ad7 (L.length + 1) cap7) (by simp; omega))
          replace HM := hide (HM7.out.setNew ⟨(w.heap.size + 1), 2, none⟩ (by simp) (.slice ad7 (L.length + 1) cap7))
          replace HN := hide HN7.out.top
          have HL7 : Hid (∀ x ∈ L ++ [(⟨1 + p, 0, S⟩ : LineD)], okLn x = true) := by
            show ∀ x ∈ L ++ [(⟨1 + p, 0, S⟩ : LineD)], _
            intro x hx
            rcases List.mem_append.1 hx with h | h
            · exact HL.out x h
            · simp at h; subst h; exact okLn_mk ⟨by omega, by omega⟩ ⟨by omega, by omega⟩ (by omega) HS.out
          clear hown7 hg7 hat7 hox hr7 HN7 HZ7 HC7 HM7 HGR HX HRW HBN hown hRd n2 nl e0 e1 e2 el HE HO
          go_wp2_with fail
          go_roundw
          case rel => exact ⟨m', L ++ [⟨1 + p, 0, S⟩], by go_num, by simp; omega, by simp; omega, HL7, HN, HZ, HC, HM⟩
          case measure => simp [intOf]
    · obtain rfl : m = 0 := by omega
      have hok0 : okRn ⟨0, false, L⟩ = true := okRn_iff.2 ⟨⟨by simpa using hm1, by simp; omega⟩, ⟨by simp, by simp; omega⟩, HL.out⟩
      go_wp2_with fail
      refine (below1 g B 6 _ HC.out (by omega)).mono ?_; rintro e w2 ⟨k, k0, k1, _, rfl, hc2, hm2⟩
      have k6 := k1 (by omega)
      replace HC := hide hc2; replace HN := hide (HN.out.moves hm2 (by omega) (by omega)); replace HZ := hide (HZ.out.moves hm2 (by omega)); replace HM := hide (HM.out.trans hm2)
      replace HN := hide HN.out.top
      clear hc2 hm2 k1
      have HK0 := hide hok0
      clear hok0
      go_wp2_with fail
      go_loopw [7] (fun n wr => ∃ (m : Nat) (d : RoundD), n = .int .i64 m ∧ m ≤ 5 ∧ d.ls.length ≤ 4 ∧ Hid (okRn d = true) ∧ Hid (RnX wr (w.heap.size + 1) (w.heap.size + 2) wr.heap.size d) ∧ Hid (RowIs wr w.heap.size 26 [.int .i64 0, .bool false, .slice none 0 0]) ∧ Hid (Cur wr g B) ∧ Hid (Moves g w wr)) (fun n _ => (intOf n).toNat)
      case atStart =>
        obtain ⟨m, rfl⟩ : ∃ m : Nat, k = m := ⟨k.toNat, by omega⟩
        exact ⟨m, ⟨0, false, L⟩, rfl, by omega, by simp; omega, HK0, HN, HZ, HC, HM⟩
      case round =>
        clear HN HZ HC HM HK0
        obtain ⟨m, d, rfl, hm5, hd4, HOK, HN, HZ, HC, HM⟩ := hrel
        have hwr2 : w.heap.size + 2 ≤ wr.heap.size := by obtain ⟨_, _, hh, _⟩ := HN.out.ex; have := hh.lt; omega
        have hd1 := (okRn_iff.1 HOK.out).1.1
        by_cases hm : 0 < m
        · obtain ⟨m', rfl⟩ : ∃ m', m = m' + 1 := ⟨m - 1, by omega⟩
          obtain ⟨gl, vp, hIs⟩ := HN.out.is (by omega) hd1
          have hcall := serve1 d (w.heap.size + 1) (w.heap.size + 2) gl vp wr hIs HOK.out hwr2
          have hok2 := serveRaw_ok HOK.out
          have hln2 := serveRaw_ls HOK.out
          obtain ⟨⟨d2, sa, sb⟩, hd2⟩ : ∃ y, serveRaw d = y := ⟨_, rfl⟩
          rw [hd2] at hcall hok2 hln2
          dsimp only at hcall hok2 hln2
          have HOK2 := hide hok2
          have hd24 : d2.ls.length ≤ 4 := by omega
          clear hd2 hIs hok2 hln2
          go_wp2_with fail
          refine hcall.mono ?_
          rintro x w8 ⟨rfl, hrn, hk⟩
          clear hcall
          have hbw := hk.2 (w.heap.size + 1) (by omega) (Nat.le_refl _) (by omega)
          have HN2 := hide hrn.x
          have HC2 := hide (HC.out.kept (hbw.mono (by omega)))
          have HZ2 := hide (HZ.out.kept (hbw.block _ (by omega)))
          have HM2 := hide (HM.out.kept (hbw.mono (by omega)))
          clear hrn hk hbw
          go_wp2_with fail
          go_roundw
          case rel => exact ⟨m', d2, by go_num, by omega, hd24, HOK2, HN2, HZ2, HC2, HM2⟩
          case measure => simp [intOf]
        · obtain rfl : m = 0 := by omega
          go_wp2_with fail
          refine (once1 g B 12 _ HC.out (by omega)).mono ?_; rintro e w3 ⟨b, rfl, hc3, hm3⟩
          replace HC := hide hc3; replace HN := hide (HN.out.moves hm3 (by omega) (by omega)); replace HZ := hide (HZ.out.moves hm3 (by omega)); replace HM := hide (HM.out.trans hm3)
          replace HN := hide HN.out.top
          clear hc3 hm3
          go_upto_if 49 with fail
          go_cut [49] (fun s wc => ∃ d : RoundD, d.ls.length ≤ 4 ∧ Hid (RnX wc (w.heap.size + 1) (w.heap.size + 2) wc.heap.size d) ∧ Hid (RowIs wc w.heap.size 26 [.int .i64 0, .bool false, .slice none 0 0]) ∧ Hid (Cur wc g B) ∧ Hid (Moves g w wc))
          case first =>
            rename_i K1 a3 Kx a2 Jc Kc hJ hK
            clear a2 a3
            cases b
            · go_wp2_with fail
              go_meet
              case rel => exact ⟨d, hd4, HN, HZ, HC, HM⟩
            · obtain ⟨gl, vp, hIs⟩ := HN.out.is (by omega) hd1
              clear HN
              have HN := hide hIs
              clear hIs
              go_upto_region 16 with fail
              go_cut [8] (fun s wc => ∃ qn : Nat, s = .pointer (some ⟨gl, qn * 3, none⟩) ∧ qn < d.ls.length ∧ Hid (RnIs wc (w.heap.size + 1) (w.heap.size + 2) gl vp d) ∧ Hid (RowIs wc w.heap.size 26 [.int .i64 0, .bool false, .slice none 0 0]) ∧ Hid (Cur wc g B) ∧ Hid (Moves g w wc))
              case first =>
                refine wp_region_any (by kernel_rfl) ?_
                change wpAny _ _ _ _ _ _ _ (World.drew _)
                obtain ⟨u0, hu0⟩ : ∃ u : World, u = World.drew w3 := ⟨_, rfl⟩
                have hbu : Below w3.heap.size w3 u0 := by rw [hu0]; exact bo_drewN 1 (Below.refl _ _)
                rw [← hu0]
                clear hu0
                replace HC := hide (HC.out.below hbu); replace HN := hide (HN.out.new hbu); replace HZ := hide (HZ.out.new hbu); replace HM := hide (HM.out.trans (Moves.of_below (g := g) hbu))
                clear hbu
                refine wpAny_take (i := 0) (v := ?_) rfl (by kernel_rfl) (by kernel_rfl) (by kernel_rfl) (fun _ _ _ h => h) (Or.inl ⟨by rfl, ?_⟩) ?_; rotate_left; focus (intro uu; go_simp; try with_reducible rfl)
                try simp only [Act.put, List.getElem_toArray, List.getElem_cons_succ, List.getElem_cons_zero, List.setIfInBounds_toArray, List.set_cons_zero, List.set_cons_succ]
                refine wpAny_take (i := 2) (v := ?_) rfl (by kernel_rfl) (by kernel_rfl) (by kernel_rfl) (fun _ _ _ h => h) (Or.inl ⟨by rfl, ?_⟩) ?_; rotate_left; focus (intro uu; go_simp; try with_reducible rfl)
                try simp only [Act.put, List.getElem_toArray, List.getElem_cons_succ, List.getElem_cons_zero, List.setIfInBounds_toArray, List.set_cons_zero, List.set_cons_succ]
                refine wpAny_take (i := 3) (v := ?_) rfl (by kernel_rfl) (by kernel_rfl) (by kernel_rfl) (fun _ _ _ h => h) (Or.inl ⟨by rfl, ?_⟩) ?_; rotate_left; focus (intro uu; go_simp; try with_reducible rfl)
                try simp only [Act.put, List.getElem_toArray, List.getElem_cons_succ, List.getElem_cons_zero, List.setIfInBounds_toArray, List.set_cons_zero, List.set_cons_succ]
                refine wpAny_ready (rs := [1, 4]) (by kernel_rfl) (by simp) ?_
                refine (AllReady.cons rfl (fun K hK => ?_) (AllReady.cons rfl (fun K hK => ?_) AllReady.nil))
                · skip
                  try rw [if_pos (by kernel_rfl)]
                  have l2 := HN.out.row.cell (j := 2) rfl
                  have ll := HN.out.row.lt
                  go_simp
                  refine hK _ _ ?_; clear hK K
                  clear l2 ll
                  try simp only [Act.put, List.getElem_toArray, List.getElem_cons_succ, List.getElem_cons_zero, List.setIfInBounds_toArray, List.set_cons_zero, List.set_cons_succ]
                  refine wpAny_ready (rs := [4]) (by kernel_rfl) (by simp) ?_
                  refine (AllReady.cons rfl (fun K hK => ?_) AllReady.nil)
                  try rw [if_pos (by kernel_rfl)]
                  have l2 := HN.out.row.cell (j := 2) rfl
                  have ll := HN.out.row.lt
                  go_simp
                  refine hK _ _ ?_; clear hK K
                  clear l2 ll
                  try simp only [Act.put, List.getElem_toArray, List.getElem_cons_succ, List.getElem_cons_zero, List.setIfInBounds_toArray, List.set_cons_zero, List.set_cons_succ]
                  refine wpAny_take (i := 5) (v := ?_) rfl (by kernel_rfl) (by kernel_rfl) (by kernel_rfl) (fun _ _ _ h => h) (Or.inl ⟨by rfl, ?_⟩) ?_; rotate_left; focus (intro uu; go_simp; try with_reducible rfl)
                  try simp only [Act.put, List.getElem_toArray, List.getElem_cons_succ, List.getElem_cons_zero, List.setIfInBounds_toArray, List.set_cons_zero, List.set_cons_succ]
                  refine wpAny_ready (rs := [6]) (by kernel_rfl) (by simp) ?_
                  refine (AllReady.cons rfl (fun K hK => ?_) AllReady.nil)
                  try rw [if_pos (by kernel_rfl)]
                  go_simp
                  refine (below1 g B (d.ls.length : Int) _ HC.out (by omega)).mono ?_; rintro e v3 ⟨q, q0, q1, _, rfl, hcx, hmx⟩
                  have q9 := q1 (by omega)
                  replace HC := hide hcx; replace HN := hide (HN.out.moves hmx (by omega) (by omega)); replace HZ := hide (HZ.out.moves hmx (by omega)); replace HM := hide (HM.out.trans hmx)
                  clear hcx hmx q1
                  obtain ⟨qn, rfl⟩ : ∃ n : Nat, q = n := ⟨q.toNat, by omega⟩
                  have hqn : qn < d.ls.length := by omega
                  refine hK _ _ ?_; clear hK K
                  try simp only [Act.put, List.getElem_toArray, List.getElem_cons_succ, List.getElem_cons_zero, List.setIfInBounds_toArray, List.set_cons_zero, List.set_cons_succ]
                  refine wpAny_take (i := 7) (v := ?_) rfl (by kernel_rfl) (by kernel_rfl) (by kernel_rfl) (fun _ _ _ h => h) (Or.inl ⟨by rfl, ?_⟩) ?_; rotate_left; focus (intro uu; go_simp; try with_reducible rfl)
                  try simp only [Act.put, List.getElem_toArray, List.getElem_cons_succ, List.getElem_cons_zero, List.setIfInBounds_toArray, List.set_cons_zero, List.set_cons_succ]
                  refine wpAny_take (i := 8) (v := ?_) rfl (by kernel_rfl) (by kernel_rfl) (by kernel_rfl) (fun _ _ _ h => h) (Or.inl ⟨by rfl, ?_⟩) ?_; rotate_left; focus (intro uu; go_simp; try with_reducible rfl)
                  try simp only [Act.put, List.getElem_toArray, List.getElem_cons_succ, List.getElem_cons_zero, List.setIfInBounds_toArray, List.set_cons_zero, List.set_cons_succ]
                  refine wpAny_done (by kernel_rfl) ?_ _
                  go_wp2_with fail
                  go_meet
                  case rel => exact ⟨qn, rfl, hqn, HN, HZ, HC, HM⟩
                · skip
                  try rw [if_pos (by kernel_rfl)]
                  have l2 := HN.out.row.cell (j := 2) rfl
                  have ll := HN.out.row.lt
                  go_simp
                  refine hK _ _ ?_; clear hK K
                  clear l2 ll
                  try simp only [Act.put, List.getElem_toArray, List.getElem_cons_succ, List.getElem_cons_zero, List.setIfInBounds_toArray, List.set_cons_zero, List.set_cons_succ]
                  refine wpAny_take (i := 5) (v := ?_) rfl (by kernel_rfl) (by kernel_rfl) (by kernel_rfl) (fun _ _ _ h => h) (Or.inl ⟨by rfl, ?_⟩) ?_; rotate_left; focus (intro uu; go_simp; try with_reducible rfl)
                  try simp only [Act.put, List.getElem_toArray, List.getElem_cons_succ, List.getElem_cons_zero, List.setIfInBounds_toArray, List.set_cons_zero, List.set_cons_succ]
                  refine wpAny_ready (rs := [1, 6]) (by kernel_rfl) (by simp) ?_
                  refine (AllReady.cons rfl (fun K hK => ?_) (AllReady.cons rfl (fun K hK => ?_) AllReady.nil))
                  · skip
                    try rw [if_pos (by kernel_rfl)]
                    have l2 := HN.out.row.cell (j := 2) rfl
                    have ll := HN.out.row.lt
                    go_simp
                    refine hK _ _ ?_; clear hK K
                    clear l2 ll
                    try simp only [Act.put, List.getElem_toArray, List.getElem_cons_succ, List.getElem_cons_zero, List.setIfInBounds_toArray, List.set_cons_zero, List.set_cons_succ]
                    refine wpAny_ready (rs := [6]) (by kernel_rfl) (by simp) ?_
                    refine (AllReady.cons rfl (fun K hK => ?_) AllReady.nil)
                    try rw [if_pos (by kernel_rfl)]
                    go_simp
                    refine (below1 g B (d.ls.length : Int) _ HC.out (by omega)).mono ?_; rintro e v6 ⟨q, q0, q1, _, rfl, hcx, hmx⟩
                    have q9 := q1 (by omega)
                    replace HC := hide hcx; replace HN := hide (HN.out.moves hmx (by omega) (by omega)); replace HZ := hide (HZ.out.moves hmx (by omega)); replace HM := hide (HM.out.trans hmx)
                    clear hcx hmx q1
                    obtain ⟨qn, rfl⟩ : ∃ n : Nat, q = n := ⟨q.toNat, by omega⟩
                    have hqn : qn < d.ls.length := by omega
                    refine hK _ _ ?_; clear hK K
                    try simp only [Act.put, List.getElem_toArray, List.getElem_cons_succ, List.getElem_cons_zero, List.setIfInBounds_toArray, List.set_cons_zero, List.set_cons_succ]
                    refine wpAny_take (i := 7) (v := ?_) rfl (by kernel_rfl) (by kernel_rfl) (by kernel_rfl) (fun _ _ _ h => h) (Or.inl ⟨by rfl, ?_⟩) ?_; rotate_left; focus (intro uu; go_simp; try with_reducible rfl)
                    try simp only [Act.put, List.getElem_toArray, List.getElem_cons_succ, List.getElem_cons_zero, List.setIfInBounds_toArray, List.set_cons_zero, List.set_cons_succ]
                    refine wpAny_take (i := 8) (v := ?_) rfl (by kernel_rfl) (by kernel_rfl) (by kernel_rfl) (fun _ _ _ h => h) (Or.inl ⟨by rfl, ?_⟩) ?_; rotate_left; focus (intro uu; go_simp; try with_reducible rfl)
                    try simp only [Act.put, List.getElem_toArray, List.getElem_cons_succ, List.getElem_cons_zero, List.setIfInBounds_toArray, List.set_cons_zero, List.set_cons_succ]
                    refine wpAny_done (by kernel_rfl) ?_ _
                    go_wp2_with fail
                    go_meet
                    case rel => exact ⟨qn, rfl, hqn, HN, HZ, HC, HM⟩
                  · skip
                    try rw [if_pos (by kernel_rfl)]
                    go_simp
                    refine (below1 g B (d.ls.length : Int) _ HC.out (by omega)).mono ?_; rintro e v7 ⟨q, q0, q1, _, rfl, hcx, hmx⟩
                    have q9 := q1 (by omega)
                    replace HC := hide hcx; replace HN := hide (HN.out.moves hmx (by omega) (by omega)); replace HZ := hide (HZ.out.moves hmx (by omega)); replace HM := hide (HM.out.trans hmx)
                    clear hcx hmx q1
                    obtain ⟨qn, rfl⟩ : ∃ n : Nat, q = n := ⟨q.toNat, by omega⟩
                    have hqn : qn < d.ls.length := by omega
                    refine hK _ _ ?_; clear hK K
                    try simp only [Act.put, List.getElem_toArray, List.getElem_cons_succ, List.getElem_cons_zero, List.setIfInBounds_toArray, List.set_cons_zero, List.set_cons_succ]
                    refine wpAny_ready (rs := [1]) (by kernel_rfl) (by simp) ?_
                    refine (AllReady.cons rfl (fun K hK => ?_) AllReady.nil)
                    try rw [if_pos (by kernel_rfl)]
                    have l2 := HN.out.row.cell (j := 2) rfl
                    have ll := HN.out.row.lt
                    go_simp
                    refine hK _ _ ?_; clear hK K
                    clear l2 ll
                    try simp only [Act.put, List.getElem_toArray, List.getElem_cons_succ, List.getElem_cons_zero, List.setIfInBounds_toArray, List.set_cons_zero, List.set_cons_succ]
                    refine wpAny_take (i := 7) (v := ?_) rfl (by kernel_rfl) (by kernel_rfl) (by kernel_rfl) (fun _ _ _ h => h) (Or.inl ⟨by rfl, ?_⟩) ?_; rotate_left; focus (intro uu; go_simp; try with_reducible rfl)
                    try simp only [Act.put, List.getElem_toArray, List.getElem_cons_succ, List.getElem_cons_zero, List.setIfInBounds_toArray, List.set_cons_zero, List.set_cons_succ]
                    refine wpAny_take (i := 8) (v := ?_) rfl (by kernel_rfl) (by kernel_rfl) (by kernel_rfl) (fun _ _ _ h => h) (Or.inl ⟨by rfl, ?_⟩) ?_; rotate_left; focus (intro uu; go_simp; try with_reducible rfl)
                    try simp only [Act.put, List.getElem_toArray, List.getElem_cons_succ, List.getElem_cons_zero, List.setIfInBounds_toArray, List.set_cons_zero, List.set_cons_succ]
                    refine wpAny_done (by kernel_rfl) ?_ _
                    go_wp2_with fail
                    go_meet
                    case rel => exact ⟨qn, rfl, hqn, HN, HZ, HC, HM⟩
              case rest =>
                clear HN HZ HC HM
                obtain ⟨qn, rfl, hqn, HN, HZ, HC, HM⟩ := hcut
                go_wp2_with fail
                refine (below1 g B 5 _ HC.out (by omega)).mono ?_; rintro e w5 ⟨s, s0, s1, _, rfl, hc5, hm5⟩
                have s5 := s1 (by omega)
                replace HC := hide hc5; replace HN := hide (HN.out.moves hm5 (by omega) (by omega)); replace HZ := hide (HZ.out.moves hm5 (by omega)); replace HM := hide (HM.out.trans hm5)
                clear hc5 hm5 s1
                have hwr5 : w.heap.size + 2 ≤ w5.heap.size := by have := HN.out.row.lt; omega
                have hs : s = 0 ∨ s = 1 ∨ s = 2 ∨ s = 3 ∨ s = 4 := by omega
                clear s0 s5
                rcases hs with rfl | rfl | rfl | rfl | rfl
                · go_wp2_with fail
                  obtain ⟨VA, hVA⟩ : ∃ V, w5.alloc (.cells #[.int .i64 0, .int .i64 10, .int .i64 11] 2) = V := ⟨_, rfl⟩
                  have RA : RowIs VA w5.heap.size 2 [.int .i64 0, .int .i64 10, .int .i64 11] := by rw [← hVA]; exact rowIs_new w5 _ _
                  have hbA : Below w5.heap.size w5 VA := by rw [← hVA]; exact (Below.refl _ _).alloc (Nat.le_refl _) _
                  rw [hVA]
                  clear hVA
                  replace HC := hide (HC.out.below hbA); replace HN := hide (HN.out.new hbA); replace HZ := hide (HZ.out.new hbA); replace HM := hide (HM.out.trans (Moves.of_below (g := g) hbA))
                  refine (below1 g B 3 _ HC.out (by omega)).mono ?_; rintro e w7 ⟨q, q0, q1, _, rfl, hc7, hm7⟩
                  have q6 := q1 (by omega)
                  replace RA := RA.moves hm7 (by omega)
                  replace HC := hide hc7; replace HN := hide (HN.out.moves hm7 (by omega) (by omega)); replace HZ := hide (HZ.out.moves hm7 (by omega)); replace HM := hide (HM.out.trans hm7)
                  clear hc7 hm7 q1 hbA
                  obtain ⟨jn, rfl⟩ : ∃ n : Nat, q = n := ⟨q.toNat, by omega⟩
                  obtain ⟨z, hz⟩ : ∃ z : Int, w7.cell? ⟨w5.heap.size, jn, none⟩ = some (.int .i64 z) := by
                    have : jn = 0 ∨ jn = 1 ∨ jn = 2 := by omega
                    rcases this with rfl | rfl | rfl <;> exact ⟨_, RA.cell rfl⟩
                  have hlA := RA.lt
                  obtain ⟨hgl, hlg, hgg, hfz, c0, c1, az, pz, bz, c2, p1, p2, hOz, hbz, hWt, hLf, hSz⟩ := HN.out.line qn hqn
                  have HN6 := hide (hWt z)
                  clear RA c2 hOz hbz hWt hLf hSz p1 p2 HN
                  have HZ6 := hide (HZ.out.far ⟨gl, qn * 3, none⟩ (.int .i64 z) (by simp; omega))
                  have HC6 := hide (HC.out.set ⟨gl, qn * 3, none⟩ (.int .i64 z) (by simp; omega))
                  have HM6 := hide (HM.out.setNew ⟨gl, qn * 3, none⟩ (by simp; omega) (.int .i64 z))
                  have hd6 : (d.ls.set qn ⟨z, d.ls[qn].left, d.ls[qn].sz⟩).length ≤ 4 := by simpa using hd4
                  have HNX := hide HN6.out.x
                  clear HN6 HZ HC HM
                  go_wp2_with fail
                  go_meet
                  case rel => exact ⟨_, hd6, HNX, HZ6, HC6, HM6⟩
                · go_wp2_with fail
                  obtain ⟨VA, hVA⟩ : ∃ V, w5.alloc (.cells #[.int .i64 (-1), .int .i64 2000, .int .i64 2001] 2) = V := ⟨_, rfl⟩
                  have RA : RowIs VA w5.heap.size 2 [.int .i64 (-1), .int .i64 2000, .int .i64 2001] := by rw [← hVA]; exact rowIs_new w5 _ _
                  have hbA : Below w5.heap.size w5 VA := by rw [← hVA]; exact (Below.refl _ _).alloc (Nat.le_refl _) _
                  rw [hVA]
                  clear hVA
                  replace HC := hide (HC.out.below hbA); replace HN := hide (HN.out.new hbA); replace HZ := hide (HZ.out.new hbA); replace HM := hide (HM.out.trans (Moves.of_below (g := g) hbA))
                  refine (below1 g B 3 _ HC.out (by omega)).mono ?_; rintro e w7 ⟨q, q0, q1, _, rfl, hc7, hm7⟩
                  have q6 := q1 (by omega)
                  replace RA := RA.moves hm7 (by omega)
                  replace HC := hide hc7; replace HN := hide (HN.out.moves hm7 (by omega) (by omega)); replace HZ := hide (HZ.out.moves hm7 (by omega)); replace HM := hide (HM.out.trans hm7)
                  clear hc7 hm7 q1 hbA
                  obtain ⟨jn, rfl⟩ : ∃ n : Nat, q = n := ⟨q.toNat, by omega⟩
                  obtain ⟨z, hz⟩ : ∃ z : Int, w7.cell? ⟨w5.heap.size, jn, none⟩ = some (.int .i64 z) := by
                    have : jn = 0 ∨ jn = 1 ∨ jn = 2 := by omega
                    rcases this with rfl | rfl | rfl <;> exact ⟨_, RA.cell rfl⟩
                  have hlA := RA.lt
                  obtain ⟨hgl, hlg, hgg, hfz, c0, c1, az, pz, bz, c2, p1, p2, hOz, hbz, hWt, hLf, hSz⟩ := HN.out.line qn hqn
                  have HN6 := hide (hLf z)
                  clear RA c2 hOz hbz hWt hLf hSz p1 p2 HN
                  have HZ6 := hide (HZ.out.far ⟨gl, qn * 3 + 1, none⟩ (.int .i64 z) (by simp; omega))
                  have HC6 := hide (HC.out.set ⟨gl, qn * 3 + 1, none⟩ (.int .i64 z) (by simp; omega))
                  have HM6 := hide (HM.out.setNew ⟨gl, qn * 3 + 1, none⟩ (by simp; omega) (.int .i64 z))
                  have hd6 : (d.ls.set qn ⟨d.ls[qn].wt, z, d.ls[qn].sz⟩).length ≤ 4 := by simpa using hd4
                  have HNX := hide HN6.out.x
                  clear HN6 HZ HC HM
                  go_wp2_with fail
                  go_meet
                  case rel => exact ⟨_, hd6, HNX, HZ6, HC6, HM6⟩
                · have hz30 : d.ls[qn].sz.length ≤ 30 := (okLn_iff.1 ((okRn_iff.1 HOK.out).2.2 _ (List.getElem_mem hqn))).2.2.1
                  go_upto_region 23 with fail
                  refine wp_region_any (by kernel_rfl) ?_
                  change wpAny _ _ _ _ _ _ _ (World.drew _)
                  obtain ⟨u0, hu0⟩ : ∃ u : World, u = World.drew w5 := ⟨_, rfl⟩
                  have hbu : Below w5.heap.size w5 u0 := by rw [hu0]; exact bo_drewN 1 (Below.refl _ _)
                  rw [← hu0]
                  clear hu0
                  replace HC := hide (HC.out.below hbu); replace HN := hide (HN.out.new hbu); replace HZ := hide (HZ.out.new hbu); replace HM := hide (HM.out.trans (Moves.of_below (g := g) hbu))
                  clear hbu
                  refine wpAny_take (i := 0) (v := ?_) rfl (by kernel_rfl) (by kernel_rfl) (by kernel_rfl) (fun _ _ _ h => h) (Or.inl ⟨by rfl, ?_⟩) ?_; rotate_left; focus (intro uu; go_simp; try with_reducible rfl)
                  try simp only [Act.put, List.getElem_toArray, List.getElem_cons_succ, List.getElem_cons_zero, List.setIfInBounds_toArray, List.set_cons_zero, List.set_cons_succ]
                  refine wpAny_take (i := 1) (v := ?_) rfl (by kernel_rfl) (by kernel_rfl) (by kernel_rfl) (fun _ _ _ h => h) (Or.inl ⟨by rfl, ?_⟩) ?_; rotate_left; focus (intro uu; go_simp; try with_reducible rfl)
                  try simp only [Act.put, List.getElem_toArray, List.getElem_cons_succ, List.getElem_cons_zero, List.setIfInBounds_toArray, List.set_cons_zero, List.set_cons_succ]
                  refine wpAny_take (i := 2) (v := ?_) rfl (by kernel_rfl) (by kernel_rfl) (by kernel_rfl) (fun _ _ _ h => h) (Or.inl ⟨by rfl, ?_⟩) ?_; rotate_left; focus (intro uu; go_simp; try with_reducible rfl)
                  try simp only [Act.put, List.getElem_toArray, List.getElem_cons_succ, List.getElem_cons_zero, List.setIfInBounds_toArray, List.set_cons_zero, List.set_cons_succ]
                  refine wpAny_take (i := 3) (v := ?_) rfl (by kernel_rfl) (by kernel_rfl) (by kernel_rfl) (fun _ _ _ h => h) (Or.inl ⟨by rfl, ?_⟩) ?_; rotate_left; focus (intro uu; go_simp; try with_reducible rfl)
                  try simp only [Act.put, List.getElem_toArray, List.getElem_cons_succ, List.getElem_cons_zero, List.setIfInBounds_toArray, List.set_cons_zero, List.set_cons_succ]
                  refine wpAny_take (i := 6) (v := ?_) rfl (by kernel_rfl) (by kernel_rfl) (by kernel_rfl) (fun _ _ _ h => h) (Or.inl ⟨by rfl, ?_⟩) ?_; rotate_left; focus (intro uu; go_simp; try with_reducible rfl)
                  try simp only [Act.put, List.getElem_toArray, List.getElem_cons_succ, List.getElem_cons_zero, List.setIfInBounds_toArray, List.set_cons_zero, List.set_cons_succ]
                  refine wpAny_ready (rs := [4, 5, 7]) (by kernel_rfl) (by simp) ?_
                  refine (AllReady.cons rfl (fun K hK => ?_) (AllReady.cons rfl (fun K hK => ?_) (AllReady.cons rfl (fun K hK => ?_) AllReady.nil)))
                  · skip
                    try rw [if_pos (by kernel_rfl)]
                    obtain ⟨hgl4, hlg4, hgg4, hfz4, -, -, az, pz, bz4, c2, -⟩ := HN.out.line qn hqn
                    have HL2 := hide c2
                    go_simp
                    refine hK _ _ ?_; clear hK K
                    clear hgl4 hlg4 hgg4 hfz4 c2
                    try simp only [Act.put, List.getElem_toArray, List.getElem_cons_succ, List.getElem_cons_zero, List.setIfInBounds_toArray, List.set_cons_zero, List.set_cons_succ]
                    refine wpAny_ready (rs := [5, 7]) (by kernel_rfl) (by simp) ?_
                    refine (AllReady.cons rfl (fun K hK => ?_) (AllReady.cons rfl (fun K hK => ?_) AllReady.nil))
                    · skip
                      try rw [if_pos (by kernel_rfl)]
                      go_simp
                      obtain ⟨x2, hX⟩ : ∃ u, u0.alloc (.cells #[.int .i64 0, .int .i64 100, .int .i64 101] 2) = u := ⟨_, rfl⟩
                      have hbX : Below u0.heap.size u0 x2 := by rw [← hX]; exact (Below.refl _ _).alloc (Nat.le_refl _) _
                      have HA : Hid (RowIs x2 u0.heap.size 2 [.int .i64 0, .int .i64 100, .int .i64 101]) := by show RowIs _ _ _ _; rw [← hX]; exact rowIs_new u0 _ _
                      have hcw := HC.out.lt
                      obtain ⟨ga, hga⟩ : ∃ n, u0.heap.size = n := ⟨_, rfl⟩
                      have hgga : g < ga := by omega
                      try replace HL2 := hide ((hbX.cell (p := ⟨gl, qn * 3 + 2, none⟩) (HN.out.line qn hqn).1).trans HL2.out)
                      replace HC := hide (HC.out.below hbX); replace HN := hide (HN.out.new hbX); replace HZ := hide (HZ.out.new hbX); replace HM := hide (HM.out.trans (Moves.of_below (g := g) hbX))
                      rw [hX, hga]
                      rw [hga] at HA
                      clear hX hbX hga hcw
                      refine hK _ _ ?_; clear hK K
                      try simp only [Act.put, List.getElem_toArray, List.getElem_cons_succ, List.getElem_cons_zero, List.setIfInBounds_toArray, List.set_cons_zero, List.set_cons_succ]
                      refine wpAny_ready (rs := [7]) (by kernel_rfl) (by simp) ?_
                      refine (AllReady.cons rfl (fun K hK => ?_) AllReady.nil)
                      try rw [if_pos (by kernel_rfl)]
                      go_simp
                      refine (below1 g B 3 _ HC.out (by omega)).mono ?_; rintro e x3 ⟨j, j0, j1, _, rfl, hcx, hmx⟩
                      have j9 := j1 (by omega)
                      try replace HL2 := hide ((hmx.cell gl (qn * 3 + 2) (HN.out.line qn hqn).1 (by have := (HN.out.line qn hqn).2.1; omega)).trans HL2.out)
                      try replace HA := hide (HA.out.moves hmx (by omega))
                      replace HC := hide hcx; replace HN := hide (HN.out.moves hmx (by omega) (by omega)); replace HZ := hide (HZ.out.moves hmx (by omega)); replace HM := hide (HM.out.trans hmx)
                      clear hcx hmx j1
                      obtain ⟨jn, rfl⟩ : ∃ n : Nat, j = n := ⟨j.toNat, by omega⟩
                      have hjn : jn < 3 := by omega
                      refine hK _ _ ?_; clear hK K
                      try simp only [Act.put, List.getElem_toArray, List.getElem_cons_succ, List.getElem_cons_zero, List.setIfInBounds_toArray, List.set_cons_zero, List.set_cons_succ]
                      refine wpAny_take (i := 8) (v := ?_) rfl (by kernel_rfl) (by kernel_rfl) (by kernel_rfl) (fun _ _ _ h => h) (Or.inl ⟨by rfl, ?_⟩) ?_; rotate_left; focus (intro uu; go_simp; try with_reducible rfl)
                      try simp only [Act.put, List.getElem_toArray, List.getElem_cons_succ, List.getElem_cons_zero, List.setIfInBounds_toArray, List.set_cons_zero, List.set_cons_succ]
                      refine wpAny_ready (rs := [9]) (by kernel_rfl) (by simp) ?_
                      refine (AllReady.cons rfl (fun K hK => ?_) AllReady.nil)
                      try rw [if_pos (by kernel_rfl)]
                      obtain ⟨z, hz⟩ : ∃ z : Int, x3.cell? ⟨ga, jn, none⟩ = some (.int .i64 z) := by
                        have : jn = 0 ∨ jn = 1 ∨ jn = 2 := by omega
                        rcases this with rfl | rfl | rfl <;> exact ⟨_, HA.out.cell rfl⟩
                      have hla := HA.out.lt
                      go_simp
                      refine hK _ _ ?_; clear hK K
                      clear hz hla
                      try simp only [Act.put, List.getElem_toArray, List.getElem_cons_succ, List.getElem_cons_zero, List.setIfInBounds_toArray, List.set_cons_zero, List.set_cons_succ]
                      refine wpAny_ready (rs := [10]) (by kernel_rfl) (by simp) ?_
                      refine (AllReady.cons rfl (fun K hK => ?_) AllReady.nil)
                      try rw [if_pos (by kernel_rfl)]
                      go_simp
                      obtain ⟨x5, hX⟩ : ∃ u, x3.alloc (.cells #[.int .i64 z] 2) = u := ⟨_, rfl⟩
                      have hbX : Below x3.heap.size x3 x5 := by rw [← hX]; exact (Below.refl _ _).alloc (Nat.le_refl _) _
                      have HR1 : Hid (Reads x5 (.slice (some ⟨x3.heap.size, 0, none⟩) 1 1) 1 1 (iv [z])) := by show Reads _ _ _ _ _; rw [← hX]; exact reads_of_owns (owns_lit x3 2 1 1 #[.int .i64 z] rfl (by omega))
                      try replace HL2 := hide ((hbX.cell (p := ⟨gl, qn * 3 + 2, none⟩) (HN.out.line qn hqn).1).trans HL2.out)
                      replace HC := hide (HC.out.below hbX); replace HN := hide (HN.out.new hbX); replace HZ := hide (HZ.out.new hbX); replace HM := hide (HM.out.trans (Moves.of_below (g := g) hbX))
                      rw [hX]
                      clear hX hbX
                      refine hK _ _ ?_; clear hK K
                      try simp only [Act.put, List.getElem_toArray, List.getElem_cons_succ, List.getElem_cons_zero, List.setIfInBounds_toArray, List.set_cons_zero, List.set_cons_succ]
                      refine wpAny_ready (rs := [11]) (by kernel_rfl) (by simp) ?_
                      refine (AllReady.cons rfl (fun K hK => ?_) AllReady.nil)
                      obtain ⟨hgl, hlg, hgg, hfz, -, -, az', pz', bz, c2, p1, p2, hOz, hbz, -, -, hSz⟩ := HN.out.line qn hqn
                      have hsame : az' = az ∧ pz' = pz := by have h := HL2.out; rw [c2] at h; simp only [Option.some.injEq, Value.slice.injEq] at h; exact ⟨h.1, h.2.2⟩
                      rw [hsame.1, hsame.2] at c2 hOz
                      obtain ⟨hown, hbzE⟩ := owr_ints hOz
                      refine step_app _ (by rfl) _ _ 33 (by rfl) 2 (.int .i64 0) 1 8 Try.underlying33 (by kernel_rfl) rfl (by decide) 0 _ d.ls[qn].sz.length (iv d.ls[qn].sz) (by rfl) hown _ 1 (iv [z]) (by rfl) HR1.out (iv_one _) (by omega) (by decide) (Nat.zero_le _) ?_
                      intro ad7 cap7 x6 hown7 hg7 hat7
                      have hTB : TurnB bz x5 x6 := ⟨hg7.os, hg7.tape, hg7.output, hg7.size, fun y hy hn => hg7.block y hy (fun c => hn (by rw [hbzE, ← c]; simp))⟩
                      have hO7 : OwR intS x6 (.slice ad7 (d.ls[qn].sz.length + 1) cap7) (d.ls[qn].sz ++ [z]) (Value.slice ad7 (d.ls[qn].sz.length + 1) cap7).ownBlock.toList := by
                        apply ints_owr
                        have e : (d.ls[qn].sz ++ [z]).length = d.ls[qn].sz.length + 1 := by simp
                        rw [e, iv_app]
                        exact hown7
                      have HN7 := hide (hSz x6 _ _ _ hTB hO7 (opt_nodup _) (fun y hy => by
                        rcases hat7 with h | h
                        · left; rw [hbzE, ← h]; exact hy
                        · right; rw [h] at hy; simp at hy; omega))
                      have hlt7 := fun k (e : (Value.slice az d.ls[qn].sz.length pz).ownBlock = some k) => (hbz k (by rw [hbzE, e]; simp)).1
                      have HZ7 := hide (HZ.out.kept (hg7.block _ HZ.out.lt (fun e => by have := hlt7 _ e.symm; omega)))
                      have HC7 := hide (HC.out.grown hg7 (fun k hk => by have := hlt7 k hk; omega))
                      have HM7 := hide (HM.out.grown hg7 (fun k hk => by have := hlt7 k hk; omega))
                      have t2 := (World.cell?_of_block (w := x5) (a := ⟨gl, qn * 3 + 2, none⟩) (hTB.block gl hgl (fun e => (hbz gl e).2.2 rfl))).trans c2
                      have tf := (World.frozen?_of_block (w := x5) (a := ⟨gl, qn * 3 + 2, none⟩) (hTB.block gl hgl (fun e => (hbz gl e).2.2 rfl))).trans (hfz (qn * 3 + 2))
                      have tl := Nat.lt_of_lt_of_le hgl hg7.size
                      clear hown7 hg7 hat7 hTB hO7 hlt7 hSz hbz hbzE hown hOz c2 hfz p1 p2 hsame hgl HN HZ HC HM HR1 HA HL2
                      refine hK _ _ ?_; clear hK K
                      try simp only [Act.put, List.getElem_toArray, List.getElem_cons_succ, List.getElem_cons_zero, List.setIfInBounds_toArray, List.set_cons_zero, List.set_cons_succ]
                      refine wpAny_take (i := 12) (v := ?_) rfl (by kernel_rfl) (by kernel_rfl) (by kernel_rfl) (fun _ _ _ h => h) (Or.inl ⟨by rfl, ?_⟩) ?_; rotate_left; focus (intro uu; go_simp; try with_reducible rfl)
                      try simp only [Act.put, List.getElem_toArray, List.getElem_cons_succ, List.getElem_cons_zero, List.setIfInBounds_toArray, List.set_cons_zero, List.set_cons_succ]
                      refine wpAny_take (i := 13) (v := ?_) rfl (by kernel_rfl) (by kernel_rfl) (by kernel_rfl) (fun _ _ _ h => h) (Or.inl ⟨by rfl, ?_⟩) ?_; rotate_left; focus (intro uu; go_simp; try with_reducible rfl)
                      try simp only [Act.put, List.getElem_toArray, List.getElem_cons_succ, List.getElem_cons_zero, List.setIfInBounds_toArray, List.set_cons_zero, List.set_cons_succ]
                      refine wpAny_ready (rs := [14]) (by kernel_rfl) (by simp) ?_
                      refine (AllReady.cons rfl (fun K hK => ?_) AllReady.nil)
                      try rw [if_pos (by kernel_rfl)]
                      go_simp
      
                      refine hK _ _ ?_; clear hK K
                      try simp only [Act.put, List.getElem_toArray, List.getElem_cons_succ, List.getElem_cons_zero, List.setIfInBounds_toArray, List.set_cons_zero, List.set_cons_succ]
                      refine wpAny_done (by kernel_rfl) ?_ _
                      have HNX := hide HN7.out.x
                      have HZ8 := hide (HZ7.out.far ⟨gl, qn * 3 + 2, none⟩ (.slice ad7 (d.ls[qn].sz.length + 1) cap7) (by simp; omega))
                      have HC8 := hide (HC7.out.set ⟨gl, qn * 3 + 2, none⟩ (.slice ad7 (d.ls[qn].sz.length + 1) cap7) (by simp; omega))
                      have HM8 := hide (HM7.out.setNew ⟨gl, qn * 3 + 2, none⟩ (by simp; omega) (.slice ad7 (d.ls[qn].sz.length + 1) cap7))
                      have hd6 : (d.ls.set qn ⟨d.ls[qn].wt, d.ls[qn].left, d.ls[qn].sz ++ [z]⟩).length ≤ 4 := by simpa using hd4
                      clear t2 tf tl HN7 HZ7 HC7 HM7
                      go_wp2_with fail
                      go_meet
                      case rel => exact ⟨_, hd6, HNX, HZ8, HC8, HM8⟩
                    · skip
                      try rw [if_pos (by kernel_rfl)]
                      go_simp
                      refine (below1 g B 3 _ HC.out (by omega)).mono ?_; rintro e x8 ⟨j, j0, j1, _, rfl, hcx, hmx⟩
                      have j9 := j1 (by omega)
                      try replace HL2 := hide ((hmx.cell gl (qn * 3 + 2) (HN.out.line qn hqn).1 (by have := (HN.out.line qn hqn).2.1; omega)).trans HL2.out)
                      try replace HA := hide (HA.out.moves hmx (by omega))
                      replace HC := hide hcx; replace HN := hide (HN.out.moves hmx (by omega) (by omega)); replace HZ := hide (HZ.out.moves hmx (by omega)); replace HM := hide (HM.out.trans hmx)
                      clear hcx hmx j1
                      obtain ⟨jn, rfl⟩ : ∃ n : Nat, j = n := ⟨j.toNat, by omega⟩
                      have hjn : jn < 3 := by omega
                      refine hK _ _ ?_; clear hK K
                      try simp only [Act.put, List.getElem_toArray, List.getElem_cons_succ, List.getElem_cons_zero, List.setIfInBounds_toArray, List.set_cons_zero, List.set_cons_succ]
                      refine wpAny_ready (rs := [5]) (by kernel_rfl) (by simp) ?_
                      refine (AllReady.cons rfl (fun K hK => ?_) AllReady.nil)
                      try rw [if_pos (by kernel_rfl)]
                      go_simp
                      obtain ⟨x9, hX⟩ : ∃ u, x8.alloc (.cells #[.int .i64 0, .int .i64 100, .int .i64 101] 2) = u := ⟨_, rfl⟩
                      have hbX : Below x8.heap.size x8 x9 := by rw [← hX]; exact (Below.refl _ _).alloc (Nat.le_refl _) _
                      have HA : Hid (RowIs x9 x8.heap.size 2 [.int .i64 0, .int .i64 100, .int .i64 101]) := by show RowIs _ _ _ _; rw [← hX]; exact rowIs_new x8 _ _
                      have hcw := HC.out.lt
                      obtain ⟨ga, hga⟩ : ∃ n, x8.heap.size = n := ⟨_, rfl⟩
                      have hgga : g < ga := by omega
                      try replace HL2 := hide ((hbX.cell (p := ⟨gl, qn * 3 + 2, none⟩) (HN.out.line qn hqn).1).trans HL2.out)
                      replace HC := hide (HC.out.below hbX); replace HN := hide (HN.out.new hbX); replace HZ := hide (HZ.out.new hbX); replace HM := hide (HM.out.trans (Moves.of_below (g := g) hbX))
                      rw [hX, hga]
                      rw [hga] at HA
                      clear hX hbX hga hcw
                      refine hK _ _ ?_; clear hK K
                      try simp only [Act.put, List.getElem_toArray, List.getElem_cons_succ, List.getElem_cons_zero, List.setIfInBounds_toArray, List.set_cons_zero, List.set_cons_succ]
                      refine wpAny_take (i := 8) (v := ?_) rfl (by kernel_rfl) (by kernel_rfl) (by kernel_rfl) (fun _ _ _ h => h) (Or.inl ⟨by rfl, ?_⟩) ?_; rotate_left; focus (intro uu; go_simp; try with_reducible rfl)
                      try simp only [Act.put, List.getElem_toArray, List.getElem_cons_succ, List.getElem_cons_zero, List.setIfInBounds_toArray, List.set_cons_zero, List.set_cons_succ]
                      refine wpAny_ready (rs := [9]) (by kernel_rfl) (by simp) ?_
                      refine (AllReady.cons rfl (fun K hK => ?_) AllReady.nil)
                      try rw [if_pos (by kernel_rfl)]
                      obtain ⟨z, hz⟩ : ∃ z : Int, x9.cell? ⟨ga, jn, none⟩ = some (.int .i64 z) := by
                        have : jn = 0 ∨ jn = 1 ∨ jn = 2 := by omega
                        rcases this with rfl | rfl | rfl <;> exact ⟨_, HA.out.cell rfl⟩
                      have hla := HA.out.lt
                      go_simp
                      refine hK _ _ ?_; clear hK K
                      clear hz hla
                      try simp only [Act.put, List.getElem_toArray, List.getElem_cons_succ, List.getElem_cons_zero, List.setIfInBounds_toArray, List.set_cons_zero, List.set_cons_succ]
                      refine wpAny_ready (rs := [10]) (by kernel_rfl) (by simp) ?_
                      refine (AllReady.cons rfl (fun K hK => ?_) AllReady.nil)
                      try rw [if_pos (by kernel_rfl)]
                      go_simp
                      obtain ⟨x11, hX⟩ : ∃ u, x9.alloc (.cells #[.int .i64 z] 2) = u := ⟨_, rfl⟩
                      have hbX : Below x9.heap.size x9 x11 := by rw [← hX]; exact (Below.refl _ _).alloc (Nat.le_refl _) _
                      have HR1 : Hid (Reads x11 (.slice (some ⟨x9.heap.size, 0, none⟩) 1 1) 1 1 (iv [z])) := by show Reads _ _ _ _ _; rw [← hX]; exact reads_of_owns (owns_lit x9 2 1 1 #[.int .i64 z] rfl (by omega))
                      try replace HL2 := hide ((hbX.cell (p := ⟨gl, qn * 3 + 2, none⟩) (HN.out.line qn hqn).1).trans HL2.out)
                      replace HC := hide (HC.out.below hbX); replace HN := hide (HN.out.new hbX); replace HZ := hide (HZ.out.new hbX); replace HM := hide (HM.out.trans (Moves.of_below (g := g) hbX))
                      rw [hX]
                      clear hX hbX
                      refine hK _ _ ?_; clear hK K
                      try simp only [Act.put, List.getElem_toArray, List.getElem_cons_succ, List.getElem_cons_zero, List.setIfInBounds_toArray, List.set_cons_zero, List.set_cons_succ]
                      refine wpAny_ready (rs := [11]) (by kernel_rfl) (by simp) ?_
                      refine (AllReady.cons rfl (fun K hK => ?_) AllReady.nil)
                      obtain ⟨hgl, hlg, hgg, hfz, -, -, az', pz', bz, c2, p1, p2, hOz, hbz, -, -, hSz⟩ := HN.out.line qn hqn
                      have hsame : az' = az ∧ pz' = pz := by have h := HL2.out; rw [c2] at h; simp only [Option.some.injEq, Value.slice.injEq] at h; exact ⟨h.1, h.2.2⟩
                      rw [hsame.1, hsame.2] at c2 hOz
                      obtain ⟨hown, hbzE⟩ := owr_ints hOz
                      refine step_app _ (by rfl) _ _ 33 (by rfl) 2 (.int .i64 0) 1 8 Try.underlying33 (by kernel_rfl) rfl (by decide) 0 _ d.ls[qn].sz.length (iv d.ls[qn].sz) (by rfl) hown _ 1 (iv [z]) (by rfl) HR1.out (iv_one _) (by omega) (by decide) (Nat.zero_le _) ?_
                      intro ad7 cap7 x12 hown7 hg7 hat7
                      have hTB : TurnB bz x11 x12 := ⟨hg7.os, hg7.tape, hg7.output, hg7.size, fun y hy hn => hg7.block y hy (fun c => hn (by rw [hbzE, ← c]; simp))⟩
                      have hO7 : OwR intS x12 (.slice ad7 (d.ls[qn].sz.length + 1) cap7) (d.ls[qn].sz ++ [z]) (Value.slice ad7 (d.ls[qn].sz.length + 1) cap7).ownBlock.toList := by
                        apply ints_owr
                        have e : (d.ls[qn].sz ++ [z]).length = d.ls[qn].sz.length + 1 := by simp
                        rw [e, iv_app]
                        exact hown7
                      have HN7 := hide (hSz x12 _ _ _ hTB hO7 (opt_nodup _) (fun y hy => by
                        rcases hat7 with h | h
                        · left; rw [hbzE, ← h]; exact hy
                        · right; rw [h] at hy; simp at hy; omega))
                      have hlt7 := fun k (e : (Value.slice az d.ls[qn].sz.length pz).ownBlock = some k) => (hbz k (by rw [hbzE, e]; simp)).1
                      have HZ7 := hide (HZ.out.kept (hg7.block _ HZ.out.lt (fun e => by have := hlt7 _ e.symm; omega)))
                      have HC7 := hide (HC.out.grown hg7 (fun k hk => by have := hlt7 k hk; omega))
                      have HM7 := hide (HM.out.grown hg7 (fun k hk => by have := hlt7 k hk; omega))
                      have t2 := (World.cell?_of_block (w := x11) (a := ⟨gl, qn * 3 + 2, none⟩) (hTB.block gl hgl (fun e => (hbz gl e).2.2 rfl))).trans c2
                      have tf := (World.frozen?_of_block (w := x11) (a := ⟨gl, qn * 3 + 2, none⟩) (hTB.block gl hgl (fun e => (hbz gl e).2.2 rfl))).trans (hfz (qn * 3 + 2))
                      have tl := Nat.lt_of_lt_of_le hgl hg7.size
                      clear hown7 hg7 hat7 hTB hO7 hlt7 hSz hbz hbzE hown hOz c2 hfz p1 p2 hsame hgl HN HZ HC HM HR1 HA HL2
                      refine hK _ _ ?_; clear hK K
                      try simp only [Act.put, List.getElem_toArray, List.getElem_cons_succ, List.getElem_cons_zero, List.setIfInBounds_toArray, List.set_cons_zero, List.set_cons_succ]
                      refine wpAny_take (i := 12) (v := ?_) rfl (by kernel_rfl) (by kernel_rfl) (by kernel_rfl) (fun _ _ _ h => h) (Or.inl ⟨by rfl, ?_⟩) ?_; rotate_left; focus (intro uu; go_simp; try with_reducible rfl)
                      try simp only [Act.put, List.getElem_toArray, List.getElem_cons_succ, List.getElem_cons_zero, List.setIfInBounds_toArray, List.set_cons_zero, List.set_cons_succ]
                      refine wpAny_take (i := 13) (v := ?_) rfl (by kernel_rfl) (by kernel_rfl) (by kernel_rfl) (fun _ _ _ h => h) (Or.inl ⟨by rfl, ?_⟩) ?_; rotate_left; focus (intro uu; go_simp; try with_reducible rfl)
                      try simp only [Act.put, List.getElem_toArray, List.getElem_cons_succ, List.getElem_cons_zero, List.setIfInBounds_toArray, List.set_cons_zero, List.set_cons_succ]
                      refine wpAny_ready (rs := [14]) (by kernel_rfl) (by simp) ?_
                      refine (AllReady.cons rfl (fun K hK => ?_) AllReady.nil)
                      try rw [if_pos (by kernel_rfl)]
                      go_simp
      
                      refine hK _ _ ?_; clear hK K
                      try simp only [Act.put, List.getElem_toArray, List.getElem_cons_succ, List.getElem_cons_zero, List.setIfInBounds_toArray, List.set_cons_zero, List.set_cons_succ]
                      refine wpAny_done (by kernel_rfl) ?_ _
                      have HNX := hide HN7.out.x
                      have HZ8 := hide (HZ7.out.far ⟨gl, qn * 3 + 2, none⟩ (.slice ad7 (d.ls[qn].sz.length + 1) cap7) (by simp; omega))
                      have HC8 := hide (HC7.out.set ⟨gl, qn * 3 + 2, none⟩ (.slice ad7 (d.ls[qn].sz.length + 1) cap7) (by simp; omega))
                      have HM8 := hide (HM7.out.setNew ⟨gl, qn * 3 + 2, none⟩ (by simp; omega) (.slice ad7 (d.ls[qn].sz.length + 1) cap7))
                      have hd6 : (d.ls.set qn ⟨d.ls[qn].wt, d.ls[qn].left, d.ls[qn].sz ++ [z]⟩).length ≤ 4 := by simpa using hd4
                      clear t2 tf tl HN7 HZ7 HC7 HM7
                      go_wp2_with fail
                      go_meet
                      case rel => exact ⟨_, hd6, HNX, HZ8, HC8, HM8⟩
                  · skip
                    try rw [if_pos (by kernel_rfl)]
                    go_simp
                    obtain ⟨x14, hX⟩ : ∃ u, u0.alloc (.cells #[.int .i64 0, .int .i64 100, .int .i64 101] 2) = u := ⟨_, rfl⟩
                    have hbX : Below u0.heap.size u0 x14 := by rw [← hX]; exact (Below.refl _ _).alloc (Nat.le_refl _) _
                    have HA : Hid (RowIs x14 u0.heap.size 2 [.int .i64 0, .int .i64 100, .int .i64 101]) := by show RowIs _ _ _ _; rw [← hX]; exact rowIs_new u0 _ _
                    have hcw := HC.out.lt
                    obtain ⟨ga, hga⟩ : ∃ n, u0.heap.size = n := ⟨_, rfl⟩
                    have hgga : g < ga := by omega
                    try replace HL2 := hide ((hbX.cell (p := ⟨gl, qn * 3 + 2, none⟩) (HN.out.line qn hqn).1).trans HL2.out)
                    replace HC := hide (HC.out.below hbX); replace HN := hide (HN.out.new hbX); replace HZ := hide (HZ.out.new hbX); replace HM := hide (HM.out.trans (Moves.of_below (g := g) hbX))
                    rw [hX, hga]
                    rw [hga] at HA
                    clear hX hbX hga hcw
                    refine hK _ _ ?_; clear hK K
                    try simp only [Act.put, List.getElem_toArray, List.getElem_cons_succ, List.getElem_cons_zero, List.setIfInBounds_toArray, List.set_cons_zero, List.set_cons_succ]
                    refine wpAny_ready (rs := [4, 7]) (by kernel_rfl) (by simp) ?_
                    refine (AllReady.cons rfl (fun K hK => ?_) (AllReady.cons rfl (fun K hK => ?_) AllReady.nil))
                    · skip
                      try rw [if_pos (by kernel_rfl)]
                      obtain ⟨hgl4, hlg4, hgg4, hfz4, -, -, az, pz, bz4, c2, -⟩ := HN.out.line qn hqn
                      have HL2 := hide c2
                      go_simp
                      refine hK _ _ ?_; clear hK K
                      clear hgl4 hlg4 hgg4 hfz4 c2
                      try simp only [Act.put, List.getElem_toArray, List.getElem_cons_succ, List.getElem_cons_zero, List.setIfInBounds_toArray, List.set_cons_zero, List.set_cons_succ]
                      refine wpAny_ready (rs := [7]) (by kernel_rfl) (by simp) ?_
                      refine (AllReady.cons rfl (fun K hK => ?_) AllReady.nil)
                      try rw [if_pos (by kernel_rfl)]
                      go_simp
                      refine (below1 g B 3 _ HC.out (by omega)).mono ?_; rintro e x16 ⟨j, j0, j1, _, rfl, hcx, hmx⟩
                      have j9 := j1 (by omega)
                      try replace HL2 := hide ((hmx.cell gl (qn * 3 + 2) (HN.out.line qn hqn).1 (by have := (HN.out.line qn hqn).2.1; omega)).trans HL2.out)
                      try replace HA := hide (HA.out.moves hmx (by omega))
                      replace HC := hide hcx; replace HN := hide (HN.out.moves hmx (by omega) (by omega)); replace HZ := hide (HZ.out.moves hmx (by omega)); replace HM := hide (HM.out.trans hmx)
                      clear hcx hmx j1
                      obtain ⟨jn, rfl⟩ : ∃ n : Nat, j = n := ⟨j.toNat, by omega⟩
                      have hjn : jn < 3 := by omega
                      refine hK _ _ ?_; clear hK K
                      try simp only [Act.put, List.getElem_toArray, List.getElem_cons_succ, List.getElem_cons_zero, List.setIfInBounds_toArray, List.set_cons_zero, List.set_cons_succ]
                      refine wpAny_take (i := 8) (v := ?_) rfl (by kernel_rfl) (by kernel_rfl) (by kernel_rfl) (fun _ _ _ h => h) (Or.inl ⟨by rfl, ?_⟩) ?_; rotate_left; focus (intro uu; go_simp; try with_reducible rfl)
                      try simp only [Act.put, List.getElem_toArray, List.getElem_cons_succ, List.getElem_cons_zero, List.setIfInBounds_toArray, List.set_cons_zero, List.set_cons_succ]
                      refine wpAny_ready (rs := [9]) (by kernel_rfl) (by simp) ?_
                      refine (AllReady.cons rfl (fun K hK => ?_) AllReady.nil)
                      try rw [if_pos (by kernel_rfl)]
                      obtain ⟨z, hz⟩ : ∃ z : Int, x16.cell? ⟨ga, jn, none⟩ = some (.int .i64 z) := by
                        have : jn = 0 ∨ jn = 1 ∨ jn = 2 := by omega
                        rcases this with rfl | rfl | rfl <;> exact ⟨_, HA.out.cell rfl⟩
                      have hla := HA.out.lt
                      go_simp
                      refine hK _ _ ?_; clear hK K
                      clear hz hla
                      try simp only [Act.put, List.getElem_toArray, List.getElem_cons_succ, List.getElem_cons_zero, List.setIfInBounds_toArray, List.set_cons_zero, List.set_cons_succ]
                      refine wpAny_ready (rs := [10]) (by kernel_rfl) (by simp) ?_
                      refine (AllReady.cons rfl (fun K hK => ?_) AllReady.nil)
                      try rw [if_pos (by kernel_rfl)]
                      go_simp
                      obtain ⟨x18, hX⟩ : ∃ u, x16.alloc (.cells #[.int .i64 z] 2) = u := ⟨_, rfl⟩
                      have hbX : Below x16.heap.size x16 x18 := by rw [← hX]; exact (Below.refl _ _).alloc (Nat.le_refl _) _
                      have HR1 : Hid (Reads x18 (.slice (some ⟨x16.heap.size, 0, none⟩) 1 1) 1 1 (iv [z])) := by show Reads _ _ _ _ _; rw [← hX]; exact reads_of_owns (owns_lit x16 2 1 1 #[.int .i64 z] rfl (by omega))
                      try replace HL2 := hide ((hbX.cell (p := ⟨gl, qn * 3 + 2, none⟩) (HN.out.line qn hqn).1).trans HL2.out)
                      replace HC := hide (HC.out.below hbX); replace HN := hide (HN.out.new hbX); replace HZ := hide (HZ.out.new hbX); replace HM := hide (HM.out.trans (Moves.of_below (g := g) hbX))
                      rw [hX]
                      clear hX hbX
                      refine hK _ _ ?_; clear hK K
                      try simp only [Act.put, List.getElem_toArray, List.getElem_cons_succ, List.getElem_cons_zero, List.setIfInBounds_toArray, List.set_cons_zero, List.set_cons_succ]
                      refine wpAny_ready (rs := [11]) (by kernel_rfl) (by simp) ?_
                      refine (AllReady.cons rfl (fun K hK => ?_) AllReady.nil)
                      obtain ⟨hgl, hlg, hgg, hfz, -, -, az', pz', bz, c2, p1, p2, hOz, hbz, -, -, hSz⟩ := HN.out.line qn hqn
                      have hsame : az' = az ∧ pz' = pz := by have h := HL2.out; rw [c2] at h; simp only [Option.some.injEq, Value.slice.injEq] at h; exact ⟨h.1, h.2.2⟩
                      rw [hsame.1, hsame.2] at c2 hOz
                      obtain ⟨hown, hbzE⟩ := owr_ints hOz
                      refine step_app _ (by rfl) _ _ 33 (by rfl) 2 (.int .i64 0) 1 8 Try.underlying33 (by kernel_rfl) rfl (by decide) 0 _ d.ls[qn].sz.length (iv d.ls[qn].sz) (by rfl) hown _ 1 (iv [z]) (by rfl) HR1.out (iv_one _) (by omega) (by decide) (Nat.zero_le _) ?_
                      intro ad7 cap7 x19 hown7 hg7 hat7
                      have hTB : TurnB bz x18 x19 := ⟨hg7.os, hg7.tape, hg7.output, hg7.size, fun y hy hn => hg7.block y hy (fun c => hn (by rw [hbzE, ← c]; simp))⟩
                      have hO7 : OwR intS x19 (.slice ad7 (d.ls[qn].sz.length + 1) cap7) (d.ls[qn].sz ++ [z]) (Value.slice ad7 (d.ls[qn].sz.length + 1) cap7).ownBlock.toList := by
                        apply ints_owr
                        have e : (d.ls[qn].sz ++ [z]).length = d.ls[qn].sz.length + 1 := by simp
                        rw [e, iv_app]
                        exact hown7
                      have HN7 := hide (hSz x19 _ _ _ hTB hO7 (opt_nodup _) (fun y hy => by
                        rcases hat7 with h | h
                        · left; rw [hbzE, ← h]; exact hy
                        · right; rw [h] at hy; simp at hy; omega))
                      have hlt7 := fun k (e : (Value.slice az d.ls[qn].sz.length pz).ownBlock = some k) => (hbz k (by rw [hbzE, e]; simp)).1
                      have HZ7 := hide (HZ.out.kept (hg7.block _ HZ.out.lt (fun e => by have := hlt7 _ e.symm; omega)))
                      have HC7 := hide (HC.out.grown hg7 (fun k hk => by have := hlt7 k hk; omega))
                      have HM7 := hide (HM.out.grown hg7 (fun k hk => by have := hlt7 k hk; omega))
                      have t2 := (World.cell?_of_block (w := x18) (a := ⟨gl, qn * 3 + 2, none⟩) (hTB.block gl hgl (fun e => (hbz gl e).2.2 rfl))).trans c2
                      have tf := (World.frozen?_of_block (w := x18) (a := ⟨gl, qn * 3 + 2, none⟩) (hTB.block gl hgl (fun e => (hbz gl e).2.2 rfl))).trans (hfz (qn * 3 + 2))
                      have tl := Nat.lt_of_lt_of_le hgl hg7.size
                      clear hown7 hg7 hat7 hTB hO7 hlt7 hSz hbz hbzE hown hOz c2 hfz p1 p2 hsame hgl HN HZ HC HM HR1 HA HL2
                      refine hK _ _ ?_; clear hK K
                      try simp only [Act.put, List.getElem_toArray, List.getElem_cons_succ, List.getElem_cons_zero, List.setIfInBounds_toArray, List.set_cons_zero, List.set_cons_succ]
                      refine wpAny_take (i := 12) (v := ?_) rfl (by kernel_rfl) (by kernel_rfl) (by kernel_rfl) (fun _ _ _ h => h) (Or.inl ⟨by rfl, ?_⟩) ?_; rotate_left; focus (intro uu; go_simp; try with_reducible rfl)
                      try simp only [Act.put, List.getElem_toArray, List.getElem_cons_succ, List.getElem_cons_zero, List.setIfInBounds_toArray, List.set_cons_zero, List.set_cons_succ]
                      refine wpAny_take (i := 13) (v := ?_) rfl (by kernel_rfl) (by kernel_rfl) (by kernel_rfl) (fun _ _ _ h => h) (Or.inl ⟨by rfl, ?_⟩) ?_; rotate_left; focus (intro uu; go_simp; try with_reducible rfl)
                      try simp only [Act.put, List.getElem_toArray, List.getElem_cons_succ, List.getElem_cons_zero, List.setIfInBounds_toArray, List.set_cons_zero, List.set_cons_succ]
                      refine wpAny_ready (rs := [14]) (by kernel_rfl) (by simp) ?_
                      refine (AllReady.cons rfl (fun K hK => ?_) AllReady.nil)
                      try rw [if_pos (by kernel_rfl)]
                      go_simp
      
                      refine hK _ _ ?_; clear hK K
                      try simp only [Act.put, List.getElem_toArray, List.getElem_cons_succ, List.getElem_cons_zero, List.setIfInBounds_toArray, List.set_cons_zero, List.set_cons_succ]
                      refine wpAny_done (by kernel_rfl) ?_ _
                      have HNX := hide HN7.out.x
                      have HZ8 := hide (HZ7.out.far ⟨gl, qn * 3 + 2, none⟩ (.slice ad7 (d.ls[qn].sz.length + 1) cap7) (by simp; omega))
                      have HC8 := hide (HC7.out.set ⟨gl, qn * 3 + 2, none⟩ (.slice ad7 (d.ls[qn].sz.length + 1) cap7) (by simp; omega))
                      have HM8 := hide (HM7.out.setNew ⟨gl, qn * 3 + 2, none⟩ (by simp; omega) (.slice ad7 (d.ls[qn].sz.length + 1) cap7))
                      have hd6 : (d.ls.set qn ⟨d.ls[qn].wt, d.ls[qn].left, d.ls[qn].sz ++ [z]⟩).length ≤ 4 := by simpa using hd4
                      clear t2 tf tl HN7 HZ7 HC7 HM7
                      go_wp2_with fail
                      go_meet
                      case rel => exact ⟨_, hd6, HNX, HZ8, HC8, HM8⟩
                    · skip
                      try rw [if_pos (by kernel_rfl)]
                      go_simp
                      refine (below1 g B 3 _ HC.out (by omega)).mono ?_; rintro e x21 ⟨j, j0, j1, _, rfl, hcx, hmx⟩
                      have j9 := j1 (by omega)
                      try replace HL2 := hide ((hmx.cell gl (qn * 3 + 2) (HN.out.line qn hqn).1 (by have := (HN.out.line qn hqn).2.1; omega)).trans HL2.out)
                      try replace HA := hide (HA.out.moves hmx (by omega))
                      replace HC := hide hcx; replace HN := hide (HN.out.moves hmx (by omega) (by omega)); replace HZ := hide (HZ.out.moves hmx (by omega)); replace HM := hide (HM.out.trans hmx)
                      clear hcx hmx j1
                      obtain ⟨jn, rfl⟩ : ∃ n : Nat, j = n := ⟨j.toNat, by omega⟩
                      have hjn : jn < 3 := by omega
                      refine hK _ _ ?_; clear hK K
                      try simp only [Act.put, List.getElem_toArray, List.getElem_cons_succ, List.getElem_cons_zero, List.setIfInBounds_toArray, List.set_cons_zero, List.set_cons_succ]
                      refine wpAny_take (i := 8) (v := ?_) rfl (by kernel_rfl) (by kernel_rfl) (by kernel_rfl) (fun _ _ _ h => h) (Or.inl ⟨by rfl, ?_⟩) ?_; rotate_left; focus (intro uu; go_simp; try with_reducible rfl)
                      try simp only [Act.put, List.getElem_toArray, List.getElem_cons_succ, List.getElem_cons_zero, List.setIfInBounds_toArray, List.set_cons_zero, List.set_cons_succ]
                      refine wpAny_ready (rs := [4, 9]) (by kernel_rfl) (by simp) ?_
                      refine (AllReady.cons rfl (fun K hK => ?_) (AllReady.cons rfl (fun K hK => ?_) AllReady.nil))
                      · skip
                        try rw [if_pos (by kernel_rfl)]
                        obtain ⟨hgl4, hlg4, hgg4, hfz4, -, -, az, pz, bz4, c2, -⟩ := HN.out.line qn hqn
                        have HL2 := hide c2
                        go_simp
                        refine hK _ _ ?_; clear hK K
                        clear hgl4 hlg4 hgg4 hfz4 c2
                        try simp only [Act.put, List.getElem_toArray, List.getElem_cons_succ, List.getElem_cons_zero, List.setIfInBounds_toArray, List.set_cons_zero, List.set_cons_succ]
                        refine wpAny_ready (rs := [9]) (by kernel_rfl) (by simp) ?_
                        refine (AllReady.cons rfl (fun K hK => ?_) AllReady.nil)
                        try rw [if_pos (by kernel_rfl)]
                        obtain ⟨z, hz⟩ : ∃ z : Int, x21.cell? ⟨ga, jn, none⟩ = some (.int .i64 z) := by
                          have : jn = 0 ∨ jn = 1 ∨ jn = 2 := by omega
                          rcases this with rfl | rfl | rfl <;> exact ⟨_, HA.out.cell rfl⟩
                        have hla := HA.out.lt
                        go_simp
                        refine hK _ _ ?_; clear hK K
                        clear hz hla
                        try simp only [Act.put, List.getElem_toArray, List.getElem_cons_succ, List.getElem_cons_zero, List.setIfInBounds_toArray, List.set_cons_zero, List.set_cons_succ]
                        refine wpAny_ready (rs := [10]) (by kernel_rfl) (by simp) ?_
                        refine (AllReady.cons rfl (fun K hK => ?_) AllReady.nil)
                        try rw [if_pos (by kernel_rfl)]
                        go_simp
                        obtain ⟨x24, hX⟩ : ∃ u, x21.alloc (.cells #[.int .i64 z] 2) = u := ⟨_, rfl⟩
                        have hbX : Below x21.heap.size x21 x24 := by rw [← hX]; exact (Below.refl _ _).alloc (Nat.le_refl _) _
                        have HR1 : Hid (Reads x24 (.slice (some ⟨x21.heap.size, 0, none⟩) 1 1) 1 1 (iv [z])) := by show Reads _ _ _ _ _; rw [← hX]; exact reads_of_owns (owns_lit x21 2 1 1 #[.int .i64 z] rfl (by omega))
                        try replace HL2 := hide ((hbX.cell (p := ⟨gl, qn * 3 + 2, none⟩) (HN.out.line qn hqn).1).trans HL2.out)
                        replace HC := hide (HC.out.below hbX); replace HN := hide (HN.out.new hbX); replace HZ := hide (HZ.out.new hbX); replace HM := hide (HM.out.trans (Moves.of_below (g := g) hbX))
                        rw [hX]
                        clear hX hbX
                        refine hK _ _ ?_; clear hK K
                        try simp only [Act.put, List.getElem_toArray, List.getElem_cons_succ, List.getElem_cons_zero, List.setIfInBounds_toArray, List.set_cons_zero, List.set_cons_succ]
                        refine wpAny_ready (rs := [11]) (by kernel_rfl) (by simp) ?_
                        refine (AllReady.cons rfl (fun K hK => ?_) AllReady.nil)
                        obtain ⟨hgl, hlg, hgg, hfz, -, -, az', pz', bz, c2, p1, p2, hOz, hbz, -, -, hSz⟩ := HN.out.line qn hqn
                        have hsame : az' = az ∧ pz' = pz := by have h := HL2.out; rw [c2] at h; simp only [Option.some.injEq, Value.slice.injEq] at h; exact ⟨h.1, h.2.2⟩
                        rw [hsame.1, hsame.2] at c2 hOz
                        obtain ⟨hown, hbzE⟩ := owr_ints hOz
                        refine step_app _ (by rfl) _ _ 33 (by rfl) 2 (.int .i64 0) 1 8 Try.underlying33 (by kernel_rfl) rfl (by decide) 0 _ d.ls[qn].sz.length (iv d.ls[qn].sz) (by rfl) hown _ 1 (iv [z]) (by rfl) HR1.out (iv_one _) (by omega) (by decide) (Nat.zero_le _) ?_
                        intro ad7 cap7 x25 hown7 hg7 hat7
                        have hTB : TurnB bz x24 x25 := ⟨hg7.os, hg7.tape, hg7.output, hg7.size, fun y hy hn => hg7.block y hy (fun c => hn (by rw [hbzE, ← c]; simp))⟩
                        have hO7 : OwR intS x25 (.slice ad7 (d.ls[qn].sz.length + 1) cap7) (d.ls[qn].sz ++ [z]) (Value.slice ad7 (d.ls[qn].sz.length + 1) cap7).ownBlock.toList := by
                          apply ints_owr
                          have e : (d.ls[qn].sz ++ [z]).length = d.ls[qn].sz.length + 1 := by simp
                          rw [e, iv_app]
                          exact hown7
                        have HN7 := hide (hSz x25 _ _ _ hTB hO7 (opt_nodup _) (fun y hy => by
                          rcases hat7 with h | h
                          · left; rw [hbzE, ← h]; exact hy
                          · right; rw [h] at hy; simp at hy; omega))
                        have hlt7 := fun k (e : (Value.slice az d.ls[qn].sz.length pz).ownBlock = some k) => (hbz k (by rw [hbzE, e]; simp)).1
                        have HZ7 := hide (HZ.out.kept (hg7.block _ HZ.out.lt (fun e => by have := hlt7 _ e.symm; omega)))
                        have HC7 := hide (HC.out.grown hg7 (fun k hk => by have := hlt7 k hk; omega))
                        have HM7 := hide (HM.out.grown hg7 (fun k hk => by have := hlt7 k hk; omega))
                        have t2 := (World.cell?_of_block (w := x24) (a := ⟨gl, qn * 3 + 2, none⟩) (hTB.block gl hgl (fun e => (hbz gl e).2.2 rfl))).trans c2
                        have tf := (World.frozen?_of_block (w := x24) (a := ⟨gl, qn * 3 + 2, none⟩) (hTB.block gl hgl (fun e => (hbz gl e).2.2 rfl))).trans (hfz (qn * 3 + 2))
                        have tl := Nat.lt_of_lt_of_le hgl hg7.size
                        clear hown7 hg7 hat7 hTB hO7 hlt7 hSz hbz hbzE hown hOz c2 hfz p1 p2 hsame hgl HN HZ HC HM HR1 HA HL2
                        refine hK _ _ ?_; clear hK K
                        try simp only [Act.put, List.getElem_toArray, List.getElem_cons_succ, List.getElem_cons_zero, List.setIfInBounds_toArray, List.set_cons_zero, List.set_cons_succ]
                        refine wpAny_take (i := 12) (v := ?_) rfl (by kernel_rfl) (by kernel_rfl) (by kernel_rfl) (fun _ _ _ h => h) (Or.inl ⟨by rfl, ?_⟩) ?_; rotate_left; focus (intro uu; go_simp; try with_reducible rfl)
                        try simp only [Act.put, List.getElem_toArray, List.getElem_cons_succ, List.getElem_cons_zero, List.setIfInBounds_toArray, List.set_cons_zero, List.set_cons_succ]
                        refine wpAny_take (i := 13) (v := ?_) rfl (by kernel_rfl) (by kernel_rfl) (by kernel_rfl) (fun _ _ _ h => h) (Or.inl ⟨by rfl, ?_⟩) ?_; rotate_left; focus (intro uu; go_simp; try with_reducible rfl)
                        try simp only [Act.put, List.getElem_toArray, List.getElem_cons_succ, List.getElem_cons_zero, List.setIfInBounds_toArray, List.set_cons_zero, List.set_cons_succ]
                        refine wpAny_ready (rs := [14]) (by kernel_rfl) (by simp) ?_
                        refine (AllReady.cons rfl (fun K hK => ?_) AllReady.nil)
                        try rw [if_pos (by kernel_rfl)]
                        go_simp
      
                        refine hK _ _ ?_; clear hK K
                        try simp only [Act.put, List.getElem_toArray, List.getElem_cons_succ, List.getElem_cons_zero, List.setIfInBounds_toArray, List.set_cons_zero, List.set_cons_succ]
                        refine wpAny_done (by kernel_rfl) ?_ _
                        have HNX := hide HN7.out.x
                        have HZ8 := hide (HZ7.out.far ⟨gl, qn * 3 + 2, none⟩ (.slice ad7 (d.ls[qn].sz.length + 1) cap7) (by simp; omega))
                        have HC8 := hide (HC7.out.set ⟨gl, qn * 3 + 2, none⟩ (.slice ad7 (d.ls[qn].sz.length + 1) cap7) (by simp; omega))
                        have HM8 := hide (HM7.out.setNew ⟨gl, qn * 3 + 2, none⟩ (by simp; omega) (.slice ad7 (d.ls[qn].sz.length + 1) cap7))
                        have hd6 : (d.ls.set qn ⟨d.ls[qn].wt, d.ls[qn].left, d.ls[qn].sz ++ [z]⟩).length ≤ 4 := by simpa using hd4
                        clear t2 tf tl HN7 HZ7 HC7 HM7
                        go_wp2_with fail
                        go_meet
                        case rel => exact ⟨_, hd6, HNX, HZ8, HC8, HM8⟩
                      · skip
                        try rw [if_pos (by kernel_rfl)]
                        obtain ⟨z, hz⟩ : ∃ z : Int, x21.cell? ⟨ga, jn, none⟩ = some (.int .i64 z) := by
                          have : jn = 0 ∨ jn = 1 ∨ jn = 2 := by omega
                          rcases this with rfl | rfl | rfl <;> exact ⟨_, HA.out.cell rfl⟩
                        have hla := HA.out.lt
                        go_simp
                        refine hK _ _ ?_; clear hK K
                        clear hz hla
                        try simp only [Act.put, List.getElem_toArray, List.getElem_cons_succ, List.getElem_cons_zero, List.setIfInBounds_toArray, List.set_cons_zero, List.set_cons_succ]
                        refine wpAny_ready (rs := [4, 10]) (by kernel_rfl) (by simp) ?_
                        refine (AllReady.cons rfl (fun K hK => ?_) (AllReady.cons rfl (fun K hK => ?_) AllReady.nil))
                        · skip
                          try rw [if_pos (by kernel_rfl)]
                          obtain ⟨hgl4, hlg4, hgg4, hfz4, -, -, az, pz, bz4, c2, -⟩ := HN.out.line qn hqn
                          have HL2 := hide c2
                          go_simp
                          refine hK _ _ ?_; clear hK K
                          clear hgl4 hlg4 hgg4 hfz4 c2
                          try simp only [Act.put, List.getElem_toArray, List.getElem_cons_succ, List.getElem_cons_zero, List.setIfInBounds_toArray, List.set_cons_zero, List.set_cons_succ]
                          refine wpAny_ready (rs := [10]) (by kernel_rfl) (by simp) ?_
                          refine (AllReady.cons rfl (fun K hK => ?_) AllReady.nil)
                          try rw [if_pos (by kernel_rfl)]
                          go_simp
                          obtain ⟨x29, hX⟩ : ∃ u, x21.alloc (.cells #[.int .i64 z] 2) = u := ⟨_, rfl⟩
                          have hbX : Below x21.heap.size x21 x29 := by rw [← hX]; exact (Below.refl _ _).alloc (Nat.le_refl _) _
                          have HR1 : Hid (Reads x29 (.slice (some ⟨x21.heap.size, 0, none⟩) 1 1) 1 1 (iv [z])) := by show Reads _ _ _ _ _; rw [← hX]; exact reads_of_owns (owns_lit x21 2 1 1 #[.int .i64 z] rfl (by omega))
                          try replace HL2 := hide ((hbX.cell (p := ⟨gl, qn * 3 + 2, none⟩) (HN.out.line qn hqn).1).trans HL2.out)
                          replace HC := hide (HC.out.below hbX); replace HN := hide (HN.out.new hbX); replace HZ := hide (HZ.out.new hbX); replace HM := hide (HM.out.trans (Moves.of_below (g := g) hbX))
                          rw [hX]
                          clear hX hbX
                          refine hK _ _ ?_; clear hK K
                          try simp only [Act.put, List.getElem_toArray, List.getElem_cons_succ, List.getElem_cons_zero, List.setIfInBounds_toArray, List.set_cons_zero, List.set_cons_succ]
                          refine wpAny_ready (rs := [11]) (by kernel_rfl) (by simp) ?_
                          refine (AllReady.cons rfl (fun K hK => ?_) AllReady.nil)
                          obtain ⟨hgl, hlg, hgg, hfz, -, -, az', pz', bz, c2, p1, p2, hOz, hbz, -, -, hSz⟩ := HN.out.line qn hqn
                          have hsame : az' = az ∧ pz' = pz := by have h := HL2.out; rw [c2] at h; simp only [Option.some.injEq, Value.slice.injEq] at h; exact ⟨h.1, h.2.2⟩
                          rw [hsame.1, hsame.2] at c2 hOz
                          obtain ⟨hown, hbzE⟩ := owr_ints hOz
                          refine step_app _ (by rfl) _ _ 33 (by rfl) 2 (.int .i64 0) 1 8 Try.underlying33 (by kernel_rfl) rfl (by decide) 0 _ d.ls[qn].sz.length (iv d.ls[qn].sz) (by rfl) hown _ 1 (iv [z]) (by rfl) HR1.out (iv_one _) (by omega) (by decide) (Nat.zero_le _) ?_
                          intro ad7 cap7 x30 hown7 hg7 hat7
                          have hTB : TurnB bz x29 x30 := ⟨hg7.os, hg7.tape, hg7.output, hg7.size, fun y hy hn => hg7.block y hy (fun c => hn (by rw [hbzE, ← c]; simp))⟩
                          have hO7 : OwR intS x30 (.slice ad7 (d.ls[qn].sz.length + 1) cap7) (d.ls[qn].sz ++ [z]) (Value.slice ad7 (d.ls[qn].sz.length + 1) cap7).ownBlock.toList := by
                            apply ints_owr
                            have e : (d.ls[qn].sz ++ [z]).length = d.ls[qn].sz.length + 1 := by simp
                            rw [e, iv_app]
                            exact hown7
                          have HN7 := hide (hSz x30 _ _ _ hTB hO7 (opt_nodup _) (fun y hy => by
                            rcases hat7 with h | h
                            · left; rw [hbzE, ← h]; exact hy
                            · right; rw [h] at hy; simp at hy; omega))
                          have hlt7 := fun k (e : (Value.slice az d.ls[qn].sz.length pz).ownBlock = some k) => (hbz k (by rw [hbzE, e]; simp)).1
                          have HZ7 := hide (HZ.out.kept (hg7.block _ HZ.out.lt (fun e => by have := hlt7 _ e.symm; omega)))
                          have HC7 := hide (HC.out.grown hg7 (fun k hk => by have := hlt7 k hk; omega))
                          have HM7 := hide (HM.out.grown hg7 (fun k hk => by have := hlt7 k hk; omega))
                          have t2 := (World.cell?_of_block (w := x29) (a := ⟨gl, qn * 3 + 2, none⟩) (hTB.block gl hgl (fun e => (hbz gl e).2.2 rfl))).trans c2
                          have tf := (World.frozen?_of_block (w := x29) (a := ⟨gl, qn * 3 + 2, none⟩) (hTB.block gl hgl (fun e => (hbz gl e).2.2 rfl))).trans (hfz (qn * 3 + 2))
                          have tl := Nat.lt_of_lt_of_le hgl hg7.size
                          clear hown7 hg7 hat7 hTB hO7 hlt7 hSz hbz hbzE hown hOz c2 hfz p1 p2 hsame hgl HN HZ HC HM HR1 HA HL2
                          refine hK _ _ ?_; clear hK K
                          try simp only [Act.put, List.getElem_toArray, List.getElem_cons_succ, List.getElem_cons_zero, List.setIfInBounds_toArray, List.set_cons_zero, List.set_cons_succ]
                          refine wpAny_take (i := 12) (v := ?_) rfl (by kernel_rfl) (by kernel_rfl) (by kernel_rfl) (fun _ _ _ h => h) (Or.inl ⟨by rfl, ?_⟩) ?_; rotate_left; focus (intro uu; go_simp; try with_reducible rfl)
                          try simp only [Act.put, List.getElem_toArray, List.getElem_cons_succ, List.getElem_cons_zero, List.setIfInBounds_toArray, List.set_cons_zero, List.set_cons_succ]
                          refine wpAny_take (i := 13) (v := ?_) rfl (by kernel_rfl) (by kernel_rfl) (by kernel_rfl) (fun _ _ _ h => h) (Or.inl ⟨by rfl, ?_⟩) ?_; rotate_left; focus (intro uu; go_simp; try with_reducible rfl)
                          try simp only [Act.put, List.getElem_toArray, List.getElem_cons_succ, List.getElem_cons_zero, List.setIfInBounds_toArray, List.set_cons_zero, List.set_cons_succ]
                          refine wpAny_ready (rs := [14]) (by kernel_rfl) (by simp) ?_
                          refine (AllReady.cons rfl (fun K hK => ?_) AllReady.nil)
                          try rw [if_pos (by kernel_rfl)]
                          go_simp
      
                          refine hK _ _ ?_; clear hK K
                          try simp only [Act.put, List.getElem_toArray, List.getElem_cons_succ, List.getElem_cons_zero, List.setIfInBounds_toArray, List.set_cons_zero, List.set_cons_succ]
                          refine wpAny_done (by kernel_rfl) ?_ _
                          have HNX := hide HN7.out.x
                          have HZ8 := hide (HZ7.out.far ⟨gl, qn * 3 + 2, none⟩ (.slice ad7 (d.ls[qn].sz.length + 1) cap7) (by simp; omega))
                          have HC8 := hide (HC7.out.set ⟨gl, qn * 3 + 2, none⟩ (.slice ad7 (d.ls[qn].sz.length + 1) cap7) (by simp; omega))
                          have HM8 := hide (HM7.out.setNew ⟨gl, qn * 3 + 2, none⟩ (by simp; omega) (.slice ad7 (d.ls[qn].sz.length + 1) cap7))
                          have hd6 : (d.ls.set qn ⟨d.ls[qn].wt, d.ls[qn].left, d.ls[qn].sz ++ [z]⟩).length ≤ 4 := by simpa using hd4
                          clear t2 tf tl HN7 HZ7 HC7 HM7
                          go_wp2_with fail
                          go_meet
                          case rel => exact ⟨_, hd6, HNX, HZ8, HC8, HM8⟩
                        · skip
                          try rw [if_pos (by kernel_rfl)]
                          go_simp
                          obtain ⟨x32, hX⟩ : ∃ u, x21.alloc (.cells #[.int .i64 z] 2) = u := ⟨_, rfl⟩
                          have hbX : Below x21.heap.size x21 x32 := by rw [← hX]; exact (Below.refl _ _).alloc (Nat.le_refl _) _
                          have HR1 : Hid (Reads x32 (.slice (some ⟨x21.heap.size, 0, none⟩) 1 1) 1 1 (iv [z])) := by show Reads _ _ _ _ _; rw [← hX]; exact reads_of_owns (owns_lit x21 2 1 1 #[.int .i64 z] rfl (by omega))
                          try replace HL2 := hide ((hbX.cell (p := ⟨gl, qn * 3 + 2, none⟩) (HN.out.line qn hqn).1).trans HL2.out)
                          replace HC := hide (HC.out.below hbX); replace HN := hide (HN.out.new hbX); replace HZ := hide (HZ.out.new hbX); replace HM := hide (HM.out.trans (Moves.of_below (g := g) hbX))
                          rw [hX]
                          clear hX hbX
                          refine hK _ _ ?_; clear hK K
                          try simp only [Act.put, List.getElem_toArray, List.getElem_cons_succ, List.getElem_cons_zero, List.setIfInBounds_toArray, List.set_cons_zero, List.set_cons_succ]
                          refine wpAny_ready (rs := [4]) (by kernel_rfl) (by simp) ?_
                          refine (AllReady.cons rfl (fun K hK => ?_) AllReady.nil)
                          try rw [if_pos (by kernel_rfl)]
                          obtain ⟨hgl4, hlg4, hgg4, hfz4, -, -, az, pz, bz4, c2, -⟩ := HN.out.line qn hqn
                          have HL2 := hide c2
                          go_simp
                          refine hK _ _ ?_; clear hK K
                          clear hgl4 hlg4 hgg4 hfz4 c2
                          try simp only [Act.put, List.getElem_toArray, List.getElem_cons_succ, List.getElem_cons_zero, List.setIfInBounds_toArray, List.set_cons_zero, List.set_cons_succ]
                          refine wpAny_ready (rs := [11]) (by kernel_rfl) (by simp) ?_
                          refine (AllReady.cons rfl (fun K hK => ?_) AllReady.nil)
                          obtain ⟨hgl, hlg, hgg, hfz, -, -, az', pz', bz, c2, p1, p2, hOz, hbz, -, -, hSz⟩ := HN.out.line qn hqn
                          have hsame : az' = az ∧ pz' = pz := by have h := HL2.out; rw [c2] at h; simp only [Option.some.injEq, Value.slice.injEq] at h; exact ⟨h.1, h.2.2⟩
                          rw [hsame.1, hsame.2] at c2 hOz
                          obtain ⟨hown, hbzE⟩ := owr_ints hOz
                          refine step_app _ (by rfl) _ _ 33 (by rfl) 2 (.int .i64 0) 1 8 Try.underlying33 (by kernel_rfl) rfl (by decide) 0 _ d.ls[qn].sz.length (iv d.ls[qn].sz) (by rfl) hown _ 1 (iv [z]) (by rfl) HR1.out (iv_one _) (by omega) (by decide) (Nat.zero_le _) ?_
                          intro ad7 cap7 x34 hown7 hg7 hat7
                          have hTB : TurnB bz x32 x34 := ⟨hg7.os, hg7.tape, hg7.output, hg7.size, fun y hy hn => hg7.block y hy (fun c => hn (by rw [hbzE, ← c]; simp))⟩
                          have hO7 : OwR intS x34 (.slice ad7 (d.ls[qn].sz.length + 1) cap7) (d.ls[qn].sz ++ [z]) (Value.slice ad7 (d.ls[qn].sz.length + 1) cap7).ownBlock.toList := by
                            apply ints_owr
                            have e : (d.ls[qn].sz ++ [z]).length = d.ls[qn].sz.length + 1 := by simp
                            rw [e, iv_app]
                            exact hown7
                          have HN7 := hide (hSz x34 _ _ _ hTB hO7 (opt_nodup _) (fun y hy => by
                            rcases hat7 with h | h
                            · left; rw [hbzE, ← h]; exact hy
                            · right; rw [h] at hy; simp at hy; omega))
                          have hlt7 := fun k (e : (Value.slice az d.ls[qn].sz.length pz).ownBlock = some k) => (hbz k (by rw [hbzE, e]; simp)).1
                          have HZ7 := hide (HZ.out.kept (hg7.block _ HZ.out.lt (fun e => by have := hlt7 _ e.symm; omega)))
                          have HC7 := hide (HC.out.grown hg7 (fun k hk => by have := hlt7 k hk; omega))
                          have HM7 := hide (HM.out.grown hg7 (fun k hk => by have := hlt7 k hk; omega))
                          have t2 := (World.cell?_of_block (w := x32) (a := ⟨gl, qn * 3 + 2, none⟩) (hTB.block gl hgl (fun e => (hbz gl e).2.2 rfl))).trans c2
                          have tf := (World.frozen?_of_block (w := x32) (a := ⟨gl, qn * 3 + 2, none⟩) (hTB.block gl hgl (fun e => (hbz gl e).2.2 rfl))).trans (hfz (qn * 3 + 2))
                          have tl := Nat.lt_of_lt_of_le hgl hg7.size
                          clear hown7 hg7 hat7 hTB hO7 hlt7 hSz hbz hbzE hown hOz c2 hfz p1 p2 hsame hgl HN HZ HC HM HR1 HA HL2
                          refine hK _ _ ?_; clear hK K
                          try simp only [Act.put, List.getElem_toArray, List.getElem_cons_succ, List.getElem_cons_zero, List.setIfInBounds_toArray, List.set_cons_zero, List.set_cons_succ]
                          refine wpAny_take (i := 12) (v := ?_) rfl (by kernel_rfl) (by kernel_rfl) (by kernel_rfl) (fun _ _ _ h => h) (Or.inl ⟨by rfl, ?_⟩) ?_; rotate_left; focus (intro uu; go_simp; try with_reducible rfl)
                          try simp only [Act.put, List.getElem_toArray, List.getElem_cons_succ, List.getElem_cons_zero, List.setIfInBounds_toArray, List.set_cons_zero, List.set_cons_succ]
                          refine wpAny_take (i := 13) (v := ?_) rfl (by kernel_rfl) (by kernel_rfl) (by kernel_rfl) (fun _ _ _ h => h) (Or.inl ⟨by rfl, ?_⟩) ?_; rotate_left; focus (intro uu; go_simp; try with_reducible rfl)
                          try simp only [Act.put, List.getElem_toArray, List.getElem_cons_succ, List.getElem_cons_zero, List.setIfInBounds_toArray, List.set_cons_zero, List.set_cons_succ]
                          refine wpAny_ready (rs := [14]) (by kernel_rfl) (by simp) ?_
                          refine (AllReady.cons rfl (fun K hK => ?_) AllReady.nil)
                          try rw [if_pos (by kernel_rfl)]
                          go_simp
      
                          refine hK _ _ ?_; clear hK K
                          try simp only [Act.put, List.getElem_toArray, List.getElem_cons_succ, List.getElem_cons_zero, List.setIfInBounds_toArray, List.set_cons_zero, List.set_cons_succ]
                          refine wpAny_done (by kernel_rfl) ?_ _
                          have HNX := hide HN7.out.x
                          have HZ8 := hide (HZ7.out.far ⟨gl, qn * 3 + 2, none⟩ (.slice ad7 (d.ls[qn].sz.length + 1) cap7) (by simp; omega))
                          have HC8 := hide (HC7.out.set ⟨gl, qn * 3 + 2, none⟩ (.slice ad7 (d.ls[qn].sz.length + 1) cap7) (by simp; omega))
                          have HM8 := hide (HM7.out.setNew ⟨gl, qn * 3 + 2, none⟩ (by simp; omega) (.slice ad7 (d.ls[qn].sz.length + 1) cap7))
                          have hd6 : (d.ls.set qn ⟨d.ls[qn].wt, d.ls[qn].left, d.ls[qn].sz ++ [z]⟩).length ≤ 4 := by simpa using hd4
                          clear t2 tf tl HN7 HZ7 HC7 HM7
                          go_wp2_with fail
                          go_meet
                          case rel => exact ⟨_, hd6, HNX, HZ8, HC8, HM8⟩
                  · skip
                    try rw [if_pos (by kernel_rfl)]
                    go_simp
                    refine (below1 g B 3 _ HC.out (by omega)).mono ?_; rintro e x36 ⟨j, j0, j1, _, rfl, hcx, hmx⟩
                    have j9 := j1 (by omega)
                    try replace HL2 := hide ((hmx.cell gl (qn * 3 + 2) (HN.out.line qn hqn).1 (by have := (HN.out.line qn hqn).2.1; omega)).trans HL2.out)
                    try replace HA := hide (HA.out.moves hmx (by omega))
                    replace HC := hide hcx; replace HN := hide (HN.out.moves hmx (by omega) (by omega)); replace HZ := hide (HZ.out.moves hmx (by omega)); replace HM := hide (HM.out.trans hmx)
                    clear hcx hmx j1
                    obtain ⟨jn, rfl⟩ : ∃ n : Nat, j = n := ⟨j.toNat, by omega⟩
                    have hjn : jn < 3 := by omega
                    refine hK _ _ ?_; clear hK K
                    try simp only [Act.put, List.getElem_toArray, List.getElem_cons_succ, List.getElem_cons_zero, List.setIfInBounds_toArray, List.set_cons_zero, List.set_cons_succ]
                    refine wpAny_ready (rs := [4, 5]) (by kernel_rfl) (by simp) ?_
                    refine (AllReady.cons rfl (fun K hK => ?_) (AllReady.cons rfl (fun K hK => ?_) AllReady.nil))
                    · skip
                      try rw [if_pos (by kernel_rfl)]
                      obtain ⟨hgl4, hlg4, hgg4, hfz4, -, -, az, pz, bz4, c2, -⟩ := HN.out.line qn hqn
                      have HL2 := hide c2
                      go_simp
                      refine hK _ _ ?_; clear hK K
                      clear hgl4 hlg4 hgg4 hfz4 c2
                      try simp only [Act.put, List.getElem_toArray, List.getElem_cons_succ, List.getElem_cons_zero, List.setIfInBounds_toArray, List.set_cons_zero, List.set_cons_succ]
                      refine wpAny_ready (rs := [5]) (by kernel_rfl) (by simp) ?_
                      refine (AllReady.cons rfl (fun K hK => ?_) AllReady.nil)
                      try rw [if_pos (by kernel_rfl)]
                      go_simp
                      obtain ⟨x38, hX⟩ : ∃ u, x36.alloc (.cells #[.int .i64 0, .int .i64 100, .int .i64 101] 2) = u := ⟨_, rfl⟩
                      have hbX : Below x36.heap.size x36 x38 := by rw [← hX]; exact (Below.refl _ _).alloc (Nat.le_refl _) _
                      have HA : Hid (RowIs x38 x36.heap.size 2 [.int .i64 0, .int .i64 100, .int .i64 101]) := by show RowIs _ _ _ _; rw [← hX]; exact rowIs_new x36 _ _
                      have hcw := HC.out.lt
                      obtain ⟨ga, hga⟩ : ∃ n, x36.heap.size = n := ⟨_, rfl⟩
                      have hgga : g < ga := by omega
                      try replace HL2 := hide ((hbX.cell (p := ⟨gl, qn * 3 + 2, none⟩) (HN.out.line qn hqn).1).trans HL2.out)
                      replace HC := hide (HC.out.below hbX); replace HN := hide (HN.out.new hbX); replace HZ := hide (HZ.out.new hbX); replace HM := hide (HM.out.trans (Moves.of_below (g := g) hbX))
                      rw [hX, hga]
                      rw [hga] at HA
                      clear hX hbX hga hcw
                      refine hK _ _ ?_; clear hK K
                      try simp only [Act.put, List.getElem_toArray, List.getElem_cons_succ, List.getElem_cons_zero, List.setIfInBounds_toArray, List.set_cons_zero, List.set_cons_succ]
                      refine wpAny_take (i := 8) (v := ?_) rfl (by kernel_rfl) (by kernel_rfl) (by kernel_rfl) (fun _ _ _ h => h) (Or.inl ⟨by rfl, ?_⟩) ?_; rotate_left; focus (intro uu; go_simp; try with_reducible rfl)
                      try simp only [Act.put, List.getElem_toArray, List.getElem_cons_succ, List.getElem_cons_zero, List.setIfInBounds_toArray, List.set_cons_zero, List.set_cons_succ]
                      refine wpAny_ready (rs := [9]) (by kernel_rfl) (by simp) ?_
                      refine (AllReady.cons rfl (fun K hK => ?_) AllReady.nil)
                      try rw [if_pos (by kernel_rfl)]
                      obtain ⟨z, hz⟩ : ∃ z : Int, x38.cell? ⟨ga, jn, none⟩ = some (.int .i64 z) := by
                        have : jn = 0 ∨ jn = 1 ∨ jn = 2 := by omega
                        rcases this with rfl | rfl | rfl <;> exact ⟨_, HA.out.cell rfl⟩
                      have hla := HA.out.lt
                      go_simp
                      refine hK _ _ ?_; clear hK K
                      clear hz hla
                      try simp only [Act.put, List.getElem_toArray, List.getElem_cons_succ, List.getElem_cons_zero, List.setIfInBounds_toArray, List.set_cons_zero, List.set_cons_succ]
                      refine wpAny_ready (rs := [10]) (by kernel_rfl) (by simp) ?_
                      refine (AllReady.cons rfl (fun K hK => ?_) AllReady.nil)
                      try rw [if_pos (by kernel_rfl)]
                      go_simp
                      obtain ⟨x40, hX⟩ : ∃ u, x38.alloc (.cells #[.int .i64 z] 2) = u := ⟨_, rfl⟩
                      have hbX : Below x38.heap.size x38 x40 := by rw [← hX]; exact (Below.refl _ _).alloc (Nat.le_refl _) _
                      have HR1 : Hid (Reads x40 (.slice (some ⟨x38.heap.size, 0, none⟩) 1 1) 1 1 (iv [z])) := by show Reads _ _ _ _ _; rw [← hX]; exact reads_of_owns (owns_lit x38 2 1 1 #[.int .i64 z] rfl (by omega))
                      try replace HL2 := hide ((hbX.cell (p := ⟨gl, qn * 3 + 2, none⟩) (HN.out.line qn hqn).1).trans HL2.out)
                      replace HC := hide (HC.out.below hbX); replace HN := hide (HN.out.new hbX); replace HZ := hide (HZ.out.new hbX); replace HM := hide (HM.out.trans (Moves.of_below (g := g) hbX))
                      rw [hX]
                      clear hX hbX
                      refine hK _ _ ?_; clear hK K
                      try simp only [Act.put, List.getElem_toArray, List.getElem_cons_succ, List.getElem_cons_zero, List.setIfInBounds_toArray, List.set_cons_zero, List.set_cons_succ]
                      refine wpAny_ready (rs := [11]) (by kernel_rfl) (by simp) ?_
                      refine (AllReady.cons rfl (fun K hK => ?_) AllReady.nil)
                      obtain ⟨hgl, hlg, hgg, hfz, -, -, az', pz', bz, c2, p1, p2, hOz, hbz, -, -, hSz⟩ := HN.out.line qn hqn
                      have hsame : az' = az ∧ pz' = pz := by have h := HL2.out; rw [c2] at h; simp only [Option.some.injEq, Value.slice.injEq] at h; exact ⟨h.1, h.2.2⟩
                      rw [hsame.1, hsame.2] at c2 hOz
                      obtain ⟨hown, hbzE⟩ := owr_ints hOz
                      refine step_app _ (by rfl) _ _ 33 (by rfl) 2 (.int .i64 0) 1 8 Try.underlying33 (by kernel_rfl) rfl (by decide) 0 _ d.ls[qn].sz.length (iv d.ls[qn].sz) (by rfl) hown _ 1 (iv [z]) (by rfl) HR1.out (iv_one _) (by omega) (by decide) (Nat.zero_le _) ?_
                      intro ad7 cap7 x41 hown7 hg7 hat7
                      have hTB : TurnB bz x40 x41 := ⟨hg7.os, hg7.tape, hg7.output, hg7.size, fun y hy hn => hg7.block y hy (fun c => hn (by rw [hbzE, ← c]; simp))⟩
                      have hO7 : OwR intS x41 (.slice ad7 (d.ls[qn].sz.length + 1) cap7) (d.ls[qn].sz ++ [z]) (Value.slice ad7 (d.ls[qn].sz.length + 1) cap7).ownBlock.toList := by
                        apply ints_owr
                        have e : (d.ls[qn].sz ++ [z]).length = d.ls[qn].sz.length + 1 := by simp
                        rw [e, iv_app]
                        exact hown7
                      have HN7 := hide (hSz x41 _ _ _ hTB hO7 (opt_nodup _) (fun y hy => by
                        rcases hat7 with h | h
                        · left; rw [hbzE, ← h]; exact hy
                        · right; rw [h] at hy; simp at hy; omega))
                      have hlt7 := fun k (e : (Value.slice az d.ls[qn].sz.length pz).ownBlock = some k) => (hbz k (by rw [hbzE, e]; simp)).1
                      have HZ7 := hide (HZ.out.kept (hg7.block _ HZ.out.lt (fun e => by have := hlt7 _ e.symm; omega)))
                      have HC7 := hide (HC.out.grown hg7 (fun k hk => by have := hlt7 k hk; omega))
                      have HM7 := hide (HM.out.grown hg7 (fun k hk => by have := hlt7 k hk; omega))
                      have t2 := (World.cell?_of_block (w := x40) (a := ⟨gl, qn * 3 + 2, none⟩) (hTB.block gl hgl (fun e => (hbz gl e).2.2 rfl))).trans c2
                      have tf := (World.frozen?_of_block (w := x40) (a := ⟨gl, qn * 3 + 2, none⟩) (hTB.block gl hgl (fun e => (hbz gl e).2.2 rfl))).trans (hfz (qn * 3 + 2))
                      have tl := Nat.lt_of_lt_of_le hgl hg7.size
                      clear hown7 hg7 hat7 hTB hO7 hlt7 hSz hbz hbzE hown hOz c2 hfz p1 p2 hsame hgl HN HZ HC HM HR1 HA HL2
                      refine hK _ _ ?_; clear hK K
                      try simp only [Act.put, List.getElem_toArray, List.getElem_cons_succ, List.getElem_cons_zero, List.setIfInBounds_toArray, List.set_cons_zero, List.set_cons_succ]
                      refine wpAny_take (i := 12) (v := ?_) rfl (by kernel_rfl) (by kernel_rfl) (by kernel_rfl) (fun _ _ _ h => h) (Or.inl ⟨by rfl, ?_⟩) ?_; rotate_left; focus (intro uu; go_simp; try with_reducible rfl)
                      try simp only [Act.put, List.getElem_toArray, List.getElem_cons_succ, List.getElem_cons_zero, List.setIfInBounds_toArray, List.set_cons_zero, List.set_cons_succ]
                      refine wpAny_take (i := 13) (v := ?_) rfl (by kernel_rfl) (by kernel_rfl) (by kernel_rfl) (fun _ _ _ h => h) (Or.inl ⟨by rfl, ?_⟩) ?_; rotate_left; focus (intro uu; go_simp; try with_reducible rfl)
                      try simp only [Act.put, List.getElem_toArray, List.getElem_cons_succ, List.getElem_cons_zero, List.setIfInBounds_toArray, List.set_cons_zero, List.set_cons_succ]
                      refine wpAny_ready (rs := [14]) (by kernel_rfl) (by simp) ?_
                      refine (AllReady.cons rfl (fun K hK => ?_) AllReady.nil)
                      try rw [if_pos (by kernel_rfl)]
                      go_simp
      
                      refine hK _ _ ?_; clear hK K
                      try simp only [Act.put, List.getElem_toArray, List.getElem_cons_succ, List.getElem_cons_zero, List.setIfInBounds_toArray, List.set_cons_zero, List.set_cons_succ]
                      refine wpAny_done (by kernel_rfl) ?_ _
                      have HNX := hide HN7.out.x
                      have HZ8 := hide (HZ7.out.far ⟨gl, qn * 3 + 2, none⟩ (.slice ad7 (d.ls[qn].sz.length + 1) cap7) (by simp; omega))
                      have HC8 := hide (HC7.out.set ⟨gl, qn * 3 + 2, none⟩ (.slice ad7 (d.ls[qn].sz.length + 1) cap7) (by simp; omega))
                      have HM8 := hide (HM7.out.setNew ⟨gl, qn * 3 + 2, none⟩ (by simp; omega) (.slice ad7 (d.ls[qn].sz.length + 1) cap7))
                      have hd6 : (d.ls.set qn ⟨d.ls[qn].wt, d.ls[qn].left, d.ls[qn].sz ++ [z]⟩).length ≤ 4 := by simpa using hd4
                      clear t2 tf tl HN7 HZ7 HC7 HM7
                      go_wp2_with fail
                      go_meet
                      case rel => exact ⟨_, hd6, HNX, HZ8, HC8, HM8⟩
                    · skip
                      try rw [if_pos (by kernel_rfl)]
                      go_simp
                      obtain ⟨x43, hX⟩ : ∃ u, x36.alloc (.cells #[.int .i64 0, .int .i64 100, .int .i64 101] 2) = u := ⟨_, rfl⟩
                      have hbX : Below x36.heap.size x36 x43 := by rw [← hX]; exact (Below.refl _ _).alloc (Nat.le_refl _) _
                      have HA : Hid (RowIs x43 x36.heap.size 2 [.int .i64 0, .int .i64 100, .int .i64 101]) := by show RowIs _ _ _ _; rw [← hX]; exact rowIs_new x36 _ _
                      have hcw := HC.out.lt
                      obtain ⟨ga, hga⟩ : ∃ n, x36.heap.size = n := ⟨_, rfl⟩
                      have hgga : g < ga := by omega
                      try replace HL2 := hide ((hbX.cell (p := ⟨gl, qn * 3 + 2, none⟩) (HN.out.line qn hqn).1).trans HL2.out)
                      replace HC := hide (HC.out.below hbX); replace HN := hide (HN.out.new hbX); replace HZ := hide (HZ.out.new hbX); replace HM := hide (HM.out.trans (Moves.of_below (g := g) hbX))
                      rw [hX, hga]
                      rw [hga] at HA
                      clear hX hbX hga hcw
                      refine hK _ _ ?_; clear hK K
                      try simp only [Act.put, List.getElem_toArray, List.getElem_cons_succ, List.getElem_cons_zero, List.setIfInBounds_toArray, List.set_cons_zero, List.set_cons_succ]
                      refine wpAny_take (i := 8) (v := ?_) rfl (by kernel_rfl) (by kernel_rfl) (by kernel_rfl) (fun _ _ _ h => h) (Or.inl ⟨by rfl, ?_⟩) ?_; rotate_left; focus (intro uu; go_simp; try with_reducible rfl)
                      try simp only [Act.put, List.getElem_toArray, List.getElem_cons_succ, List.getElem_cons_zero, List.setIfInBounds_toArray, List.set_cons_zero, List.set_cons_succ]
                      refine wpAny_ready (rs := [4, 9]) (by kernel_rfl) (by simp) ?_
                      refine (AllReady.cons rfl (fun K hK => ?_) (AllReady.cons rfl (fun K hK => ?_) AllReady.nil))
                      · skip
                        try rw [if_pos (by kernel_rfl)]
                        obtain ⟨hgl4, hlg4, hgg4, hfz4, -, -, az, pz, bz4, c2, -⟩ := HN.out.line qn hqn
                        have HL2 := hide c2
                        go_simp
                        refine hK _ _ ?_; clear hK K
                        clear hgl4 hlg4 hgg4 hfz4 c2
                        try simp only [Act.put, List.getElem_toArray, List.getElem_cons_succ, List.getElem_cons_zero, List.setIfInBounds_toArray, List.set_cons_zero, List.set_cons_succ]
                        refine wpAny_ready (rs := [9]) (by kernel_rfl) (by simp) ?_
                        refine (AllReady.cons rfl (fun K hK => ?_) AllReady.nil)
                        try rw [if_pos (by kernel_rfl)]
                        obtain ⟨z, hz⟩ : ∃ z : Int, x43.cell? ⟨ga, jn, none⟩ = some (.int .i64 z) := by
                          have : jn = 0 ∨ jn = 1 ∨ jn = 2 := by omega
                          rcases this with rfl | rfl | rfl <;> exact ⟨_, HA.out.cell rfl⟩
                        have hla := HA.out.lt
                        go_simp
                        refine hK _ _ ?_; clear hK K
                        clear hz hla
                        try simp only [Act.put, List.getElem_toArray, List.getElem_cons_succ, List.getElem_cons_zero, List.setIfInBounds_toArray, List.set_cons_zero, List.set_cons_succ]
                        refine wpAny_ready (rs := [10]) (by kernel_rfl) (by simp) ?_
                        refine (AllReady.cons rfl (fun K hK => ?_) AllReady.nil)
                        try rw [if_pos (by kernel_rfl)]
                        go_simp
                        obtain ⟨x46, hX⟩ : ∃ u, x43.alloc (.cells #[.int .i64 z] 2) = u := ⟨_, rfl⟩
                        have hbX : Below x43.heap.size x43 x46 := by rw [← hX]; exact (Below.refl _ _).alloc (Nat.le_refl _) _
                        have HR1 : Hid (Reads x46 (.slice (some ⟨x43.heap.size, 0, none⟩) 1 1) 1 1 (iv [z])) := by show Reads _ _ _ _ _; rw [← hX]; exact reads_of_owns (owns_lit x43 2 1 1 #[.int .i64 z] rfl (by omega))
                        try replace HL2 := hide ((hbX.cell (p := ⟨gl, qn * 3 + 2, none⟩) (HN.out.line qn hqn).1).trans HL2.out)
                        replace HC := hide (HC.out.below hbX); replace HN := hide (HN.out.new hbX); replace HZ := hide (HZ.out.new hbX); replace HM := hide (HM.out.trans (Moves.of_below (g := g) hbX))
                        rw [hX]
                        clear hX hbX
                        refine hK _ _ ?_; clear hK K
                        try simp only [Act.put, List.getElem_toArray, List.getElem_cons_succ, List.getElem_cons_zero, List.setIfInBounds_toArray, List.set_cons_zero, List.set_cons_succ]
                        refine wpAny_ready (rs := [11]) (by kernel_rfl) (by simp) ?_
                        refine (AllReady.cons rfl (fun K hK => ?_) AllReady.nil)
                        obtain ⟨hgl, hlg, hgg, hfz, -, -, az', pz', bz, c2, p1, p2, hOz, hbz, -, -, hSz⟩ := HN.out.line qn hqn
                        have hsame : az' = az ∧ pz' = pz := by have h := HL2.out; rw [c2] at h; simp only [Option.some.injEq, Value.slice.injEq] at h; exact ⟨h.1, h.2.2⟩
                        rw [hsame.1, hsame.2] at c2 hOz
                        obtain ⟨hown, hbzE⟩ := owr_ints hOz
                        refine step_app _ (by rfl) _ _ 33 (by rfl) 2 (.int .i64 0) 1 8 Try.underlying33 (by kernel_rfl) rfl (by decide) 0 _ d.ls[qn].sz.length (iv d.ls[qn].sz) (by rfl) hown _ 1 (iv [z]) (by rfl) HR1.out (iv_one _) (by omega) (by decide) (Nat.zero_le _) ?_
                        intro ad7 cap7 x47 hown7 hg7 hat7
                        have hTB : TurnB bz x46 x47 := ⟨hg7.os, hg7.tape, hg7.output, hg7.size, fun y hy hn => hg7.block y hy (fun c => hn (by rw [hbzE, ← c]; simp))⟩
                        have hO7 : OwR intS x47 (.slice ad7 (d.ls[qn].sz.length + 1) cap7) (d.ls[qn].sz ++ [z]) (Value.slice ad7 (d.ls[qn].sz.length + 1) cap7).ownBlock.toList := by
                          apply ints_owr
                          have e : (d.ls[qn].sz ++ [z]).length = d.ls[qn].sz.length + 1 := by simp
                          rw [e, iv_app]
                          exact hown7
                        have HN7 := hide (hSz x47 _ _ _ hTB hO7 (opt_nodup _) (fun y hy => by
                          rcases hat7 with h | h
                          · left; rw [hbzE, ← h]; exact hy
                          · right; rw [h] at hy; simp at hy; omega))
                        have hlt7 := fun k (e : (Value.slice az d.ls[qn].sz.length pz).ownBlock = some k) => (hbz k (by rw [hbzE, e]; simp)).1
                        have HZ7 := hide (HZ.out.kept (hg7.block _ HZ.out.lt (fun e => by have := hlt7 _ e.symm; omega)))
                        have HC7 := hide (HC.out.grown hg7 (fun k hk => by have := hlt7 k hk; omega))
                        have HM7 := hide (HM.out.grown hg7 (fun k hk => by have := hlt7 k hk; omega))
                        have t2 := (World.cell?_of_block (w := x46) (a := ⟨gl, qn * 3 + 2, none⟩) (hTB.block gl hgl (fun e => (hbz gl e).2.2 rfl))).trans c2
                        have tf := (World.frozen?_of_block (w := x46) (a := ⟨gl, qn * 3 + 2, none⟩) (hTB.block gl hgl (fun e => (hbz gl e).2.2 rfl))).trans (hfz (qn * 3 + 2))
                        have tl := Nat.lt_of_lt_of_le hgl hg7.size
                        clear hown7 hg7 hat7 hTB hO7 hlt7 hSz hbz hbzE hown hOz c2 hfz p1 p2 hsame hgl HN HZ HC HM HR1 HA HL2
                        refine hK _ _ ?_; clear hK K
                        try simp only [Act.put, List.getElem_toArray, List.getElem_cons_succ, List.getElem_cons_zero, List.setIfInBounds_toArray, List.set_cons_zero, List.set_cons_succ]
                        refine wpAny_take (i := 12) (v := ?_) rfl (by kernel_rfl) (by kernel_rfl) (by kernel_rfl) (fun _ _ _ h => h) (Or.inl ⟨by rfl, ?_⟩) ?_; rotate_left; focus (intro uu; go_simp; try with_reducible rfl)
                        try simp only [Act.put, List.getElem_toArray, List.getElem_cons_succ, List.getElem_cons_zero, List.setIfInBounds_toArray, List.set_cons_zero, List.set_cons_succ]
                        refine wpAny_take (i := 13) (v := ?_) rfl (by kernel_rfl) (by kernel_rfl) (by kernel_rfl) (fun _ _ _ h => h) (Or.inl ⟨by rfl, ?_⟩) ?_; rotate_left; focus (intro uu; go_simp; try with_reducible rfl)
                        try simp only [Act.put, List.getElem_toArray, List.getElem_cons_succ, List.getElem_cons_zero, List.setIfInBounds_toArray, List.set_cons_zero, List.set_cons_succ]
                        refine wpAny_ready (rs := [14]) (by kernel_rfl) (by simp) ?_
                        refine (AllReady.cons rfl (fun K hK => ?_) AllReady.nil)
                        try rw [if_pos (by kernel_rfl)]
                        go_simp
      
                        refine hK _ _ ?_; clear hK K
                        try simp only [Act.put, List.getElem_toArray, List.getElem_cons_succ, List.getElem_cons_zero, List.setIfInBounds_toArray, List.set_cons_zero, List.set_cons_succ]
                        refine wpAny_done (by kernel_rfl) ?_ _
                        have HNX := hide HN7.out.x
                        have HZ8 := hide (HZ7.out.far ⟨gl, qn * 3 + 2, none⟩ (.slice ad7 (d.ls[qn].sz.length + 1) cap7) (by simp; omega))
                        have HC8 := hide (HC7.out.set ⟨gl, qn * 3 + 2, none⟩ (.slice ad7 (d.ls[qn].sz.length + 1) cap7) (by simp; omega))
                        have HM8 := hide (HM7.out.setNew ⟨gl, qn * 3 + 2, none⟩ (by simp; omega) (.slice ad7 (d.ls[qn].sz.length + 1) cap7))
                        have hd6 : (d.ls.set qn ⟨d.ls[qn].wt, d.ls[qn].left, d.ls[qn].sz ++ [z]⟩).length ≤ 4 := by simpa using hd4
                        clear t2 tf tl HN7 HZ7 HC7 HM7
                        go_wp2_with fail
                        go_meet
                        case rel => exact ⟨_, hd6, HNX, HZ8, HC8, HM8⟩
                      · skip
                        try rw [if_pos (by kernel_rfl)]
                        obtain ⟨z, hz⟩ : ∃ z : Int, x43.cell? ⟨ga, jn, none⟩ = some (.int .i64 z) := by
                          have : jn = 0 ∨ jn = 1 ∨ jn = 2 := by omega
                          rcases this with rfl | rfl | rfl <;> exact ⟨_, HA.out.cell rfl⟩
                        have hla := HA.out.lt
                        go_simp
                        refine hK _ _ ?_; clear hK K
                        clear hz hla
                        try simp only [Act.put, List.getElem_toArray, List.getElem_cons_succ, List.getElem_cons_zero, List.setIfInBounds_toArray, List.set_cons_zero, List.set_cons_succ]
                        refine wpAny_ready (rs := [4, 10]) (by kernel_rfl) (by simp) ?_
                        refine (AllReady.cons rfl (fun K hK => ?_) (AllReady.cons rfl (fun K hK => ?_) AllReady.nil))
                        · skip
                          try rw [if_pos (by kernel_rfl)]
                          obtain ⟨hgl4, hlg4, hgg4, hfz4, -, -, az, pz, bz4, c2, -⟩ := HN.out.line qn hqn
                          have HL2 := hide c2
                          go_simp
                          refine hK _ _ ?_; clear hK K
                          clear hgl4 hlg4 hgg4 hfz4 c2
                          try simp only [Act.put, List.getElem_toArray, List.getElem_cons_succ, List.getElem_cons_zero, List.setIfInBounds_toArray, List.set_cons_zero, List.set_cons_succ]
                          refine wpAny_ready (rs := [10]) (by kernel_rfl) (by simp) ?_
                          refine (AllReady.cons rfl (fun K hK => ?_) AllReady.nil)
                          try rw [if_pos (by kernel_rfl)]
                          go_simp
                          obtain ⟨x51, hX⟩ : ∃ u, x43.alloc (.cells #[.int .i64 z] 2) = u := ⟨_, rfl⟩
                          have hbX : Below x43.heap.size x43 x51 := by rw [← hX]; exact (Below.refl _ _).alloc (Nat.le_refl _) _
                          have HR1 : Hid (Reads x51 (.slice (some ⟨x43.heap.size, 0, none⟩) 1 1) 1 1 (iv [z])) := by show Reads _ _ _ _ _; rw [← hX]; exact reads_of_owns (owns_lit x43 2 1 1 #[.int .i64 z] rfl (by omega))
                          try replace HL2 := hide ((hbX.cell (p := ⟨gl, qn * 3 + 2, none⟩) (HN.out.line qn hqn).1).trans HL2.out)
                          replace HC := hide (HC.out.below hbX); replace HN := hide (HN.out.new hbX); replace HZ := hide (HZ.out.new hbX); replace HM := hide (HM.out.trans (Moves.of_below (g := g) hbX))
                          rw [hX]
                          clear hX hbX
                          refine hK _ _ ?_; clear hK K
                          try simp only [Act.put, List.getElem_toArray, List.getElem_cons_succ, List.getElem_cons_zero, List.setIfInBounds_toArray, List.set_cons_zero, List.set_cons_succ]
                          refine wpAny_ready (rs := [11]) (by kernel_rfl) (by simp) ?_
                          refine (AllReady.cons rfl (fun K hK => ?_) AllReady.nil)
                          obtain ⟨hgl, hlg, hgg, hfz, -, -, az', pz', bz, c2, p1, p2, hOz, hbz, -, -, hSz⟩ := HN.out.line qn hqn
                          have hsame : az' = az ∧ pz' = pz := by have h := HL2.out; rw [c2] at h; simp only [Option.some.injEq, Value.slice.injEq] at h; exact ⟨h.1, h.2.2⟩
                          rw [hsame.1, hsame.2] at c2 hOz
                          obtain ⟨hown, hbzE⟩ := owr_ints hOz
                          refine step_app _ (by rfl) _ _ 33 (by rfl) 2 (.int .i64 0) 1 8 Try.underlying33 (by kernel_rfl) rfl (by decide) 0 _ d.ls[qn].sz.length (iv d.ls[qn].sz) (by rfl) hown _ 1 (iv [z]) (by rfl) HR1.out (iv_one _) (by omega) (by decide) (Nat.zero_le _) ?_
                          intro ad7 cap7 x52 hown7 hg7 hat7
                          have hTB : TurnB bz x51 x52 := ⟨hg7.os, hg7.tape, hg7.output, hg7.size, fun y hy hn => hg7.block y hy (fun c => hn (by rw [hbzE, ← c]; simp))⟩
                          have hO7 : OwR intS x52 (.slice ad7 (d.ls[qn].sz.length + 1) cap7) (d.ls[qn].sz ++ [z]) (Value.slice ad7 (d.ls[qn].sz.length + 1) cap7).ownBlock.toList := by
                            apply ints_owr
                            have e : (d.ls[qn].sz ++ [z]).length = d.ls[qn].sz.length + 1 := by simp
                            rw [e, iv_app]
                            exact hown7
                          have HN7 := hide (hSz x52 _ _ _ hTB hO7 (opt_nodup _) (fun y hy => by
                            rcases hat7 with h | h
                            · left; rw [hbzE, ← h]; exact hy
                            · right; rw [h] at hy; simp at hy; omega))
                          have hlt7 := fun k (e : (Value.slice az d.ls[qn].sz.length pz).ownBlock = some k) => (hbz k (by rw [hbzE, e]; simp)).1
                          have HZ7 := hide (HZ.out.kept (hg7.block _ HZ.out.lt (fun e => by have := hlt7 _ e.symm; omega)))
                          have HC7 := hide (HC.out.grown hg7 (fun k hk => by have := hlt7 k hk; omega))
                          have HM7 := hide (HM.out.grown hg7 (fun k hk => by have := hlt7 k hk; omega))
                          have t2 := (World.cell?_of_block (w := x51) (a := ⟨gl, qn * 3 + 2, none⟩) (hTB.block gl hgl (fun e => (hbz gl e).2.2 rfl))).trans c2
                          have tf := (World.frozen?_of_block (w := x51) (a := ⟨gl, qn * 3 + 2, none⟩) (hTB.block gl hgl (fun e => (hbz gl e).2.2 rfl))).trans (hfz (qn * 3 + 2))
                          have tl := Nat.lt_of_lt_of_le hgl hg7.size
                          clear hown7 hg7 hat7 hTB hO7 hlt7 hSz hbz hbzE hown hOz c2 hfz p1 p2 hsame hgl HN HZ HC HM HR1 HA HL2
                          refine hK _ _ ?_; clear hK K
                          try simp only [Act.put, List.getElem_toArray, List.getElem_cons_succ, List.getElem_cons_zero, List.setIfInBounds_toArray, List.set_cons_zero, List.set_cons_succ]
                          refine wpAny_take (i := 12) (v := ?_) rfl (by kernel_rfl) (by kernel_rfl) (by kernel_rfl) (fun _ _ _ h => h) (Or.inl ⟨by rfl, ?_⟩) ?_; rotate_left; focus (intro uu; go_simp; try with_reducible rfl)
                          try simp only [Act.put, List.getElem_toArray, List.getElem_cons_succ, List.getElem_cons_zero, List.setIfInBounds_toArray, List.set_cons_zero, List.set_cons_succ]
                          refine wpAny_take (i := 13) (v := ?_) rfl (by kernel_rfl) (by kernel_rfl) (by kernel_rfl) (fun _ _ _ h => h) (Or.inl ⟨by rfl, ?_⟩) ?_; rotate_left; focus (intro uu; go_simp; try with_reducible rfl)
                          try simp only [Act.put, List.getElem_toArray, List.getElem_cons_succ, List.getElem_cons_zero, List.setIfInBounds_toArray, List.set_cons_zero, List.set_cons_succ]
                          refine wpAny_ready (rs := [14]) (by kernel_rfl) (by simp) ?_
                          refine (AllReady.cons rfl (fun K hK => ?_) AllReady.nil)
                          try rw [if_pos (by kernel_rfl)]
                          go_simp
      
                          refine hK _ _ ?_; clear hK K
                          try simp only [Act.put, List.getElem_toArray, List.getElem_cons_succ, List.getElem_cons_zero, List.setIfInBounds_toArray, List.set_cons_zero, List.set_cons_succ]
                          refine wpAny_done (by kernel_rfl) ?_ _
                          have HNX := hide HN7.out.x
                          have HZ8 := hide (HZ7.out.far ⟨gl, qn * 3 + 2, none⟩ (.slice ad7 (d.ls[qn].sz.length + 1) cap7) (by simp; omega))
                          have HC8 := hide (HC7.out.set ⟨gl, qn * 3 + 2, none⟩ (.slice ad7 (d.ls[qn].sz.length + 1) cap7) (by simp; omega))
                          have HM8 := hide (HM7.out.setNew ⟨gl, qn * 3 + 2, none⟩ (by simp; omega) (.slice ad7 (d.ls[qn].sz.length + 1) cap7))
                          have hd6 : (d.ls.set qn ⟨d.ls[qn].wt, d.ls[qn].left, d.ls[qn].sz ++ [z]⟩).length ≤ 4 := by simpa using hd4
                          clear t2 tf tl HN7 HZ7 HC7 HM7
                          go_wp2_with fail
                          go_meet
                          case rel => exact ⟨_, hd6, HNX, HZ8, HC8, HM8⟩
                        · skip
                          try rw [if_pos (by kernel_rfl)]
                          go_simp
                          obtain ⟨x54, hX⟩ : ∃ u, x43.alloc (.cells #[.int .i64 z] 2) = u := ⟨_, rfl⟩
                          have hbX : Below x43.heap.size x43 x54 := by rw [← hX]; exact (Below.refl _ _).alloc (Nat.le_refl _) _
                          have HR1 : Hid (Reads x54 (.slice (some ⟨x43.heap.size, 0, none⟩) 1 1) 1 1 (iv [z])) := by show Reads _ _ _ _ _; rw [← hX]; exact reads_of_owns (owns_lit x43 2 1 1 #[.int .i64 z] rfl (by omega))
                          try replace HL2 := hide ((hbX.cell (p := ⟨gl, qn * 3 + 2, none⟩) (HN.out.line qn hqn).1).trans HL2.out)
                          replace HC := hide (HC.out.below hbX); replace HN := hide (HN.out.new hbX); replace HZ := hide (HZ.out.new hbX); replace HM := hide (HM.out.trans (Moves.of_below (g := g) hbX))
                          rw [hX]
                          clear hX hbX
                          refine hK _ _ ?_; clear hK K
                          try simp only [Act.put, List.getElem_toArray, List.getElem_cons_succ, List.getElem_cons_zero, List.setIfInBounds_toArray, List.set_cons_zero, List.set_cons_succ]
                          refine wpAny_ready (rs := [4]) (by kernel_rfl) (by simp) ?_
                          refine (AllReady.cons rfl (fun K hK => ?_) AllReady.nil)
                          try rw [if_pos (by kernel_rfl)]
                          obtain ⟨hgl4, hlg4, hgg4, hfz4, -, -, az, pz, bz4, c2, -⟩ := HN.out.line qn hqn
                          have HL2 := hide c2
                          go_simp
                          refine hK _ _ ?_; clear hK K
                          clear hgl4 hlg4 hgg4 hfz4 c2
                          try simp only [Act.put, List.getElem_toArray, List.getElem_cons_succ, List.getElem_cons_zero, List.setIfInBounds_toArray, List.set_cons_zero, List.set_cons_succ]
                          refine wpAny_ready (rs := [11]) (by kernel_rfl) (by simp) ?_
                          refine (AllReady.cons rfl (fun K hK => ?_) AllReady.nil)
                          obtain ⟨hgl, hlg, hgg, hfz, -, -, az', pz', bz, c2, p1, p2, hOz, hbz, -, -, hSz⟩ := HN.out.line qn hqn
                          have hsame : az' = az ∧ pz' = pz := by have h := HL2.out; rw [c2] at h; simp only [Option.some.injEq, Value.slice.injEq] at h; exact ⟨h.1, h.2.2⟩
                          rw [hsame.1, hsame.2] at c2 hOz
                          obtain ⟨hown, hbzE⟩ := owr_ints hOz
                          refine step_app _ (by rfl) _ _ 33 (by rfl) 2 (.int .i64 0) 1 8 Try.underlying33 (by kernel_rfl) rfl (by decide) 0 _ d.ls[qn].sz.length (iv d.ls[qn].sz) (by rfl) hown _ 1 (iv [z]) (by rfl) HR1.out (iv_one _) (by omega) (by decide) (Nat.zero_le _) ?_
                          intro ad7 cap7 x56 hown7 hg7 hat7
                          have hTB : TurnB bz x54 x56 := ⟨hg7.os, hg7.tape, hg7.output, hg7.size, fun y hy hn => hg7.block y hy (fun c => hn (by rw [hbzE, ← c]; simp))⟩
                          have hO7 : OwR intS x56 (.slice ad7 (d.ls[qn].sz.length + 1) cap7) (d.ls[qn].sz ++ [z]) (Value.slice ad7 (d.ls[qn].sz.length + 1) cap7).ownBlock.toList := by
                            apply ints_owr
                            have e : (d.ls[qn].sz ++ [z]).length = d.ls[qn].sz.length + 1 := by simp
                            rw [e, iv_app]
                            exact hown7
                          have HN7 := hide (hSz x56 _ _ _ hTB hO7 (opt_nodup _) (fun y hy => by
                            rcases hat7 with h | h
                            · left; rw [hbzE, ← h]; exact hy
                            · right; rw [h] at hy; simp at hy; omega))
                          have hlt7 := fun k (e : (Value.slice az d.ls[qn].sz.length pz).ownBlock = some k) => (hbz k (by rw [hbzE, e]; simp)).1
                          have HZ7 := hide (HZ.out.kept (hg7.block _ HZ.out.lt (fun e => by have := hlt7 _ e.symm; omega)))
                          have HC7 := hide (HC.out.grown hg7 (fun k hk => by have := hlt7 k hk; omega))
                          have HM7 := hide (HM.out.grown hg7 (fun k hk => by have := hlt7 k hk; omega))
                          have t2 := (World.cell?_of_block (w := x54) (a := ⟨gl, qn * 3 + 2, none⟩) (hTB.block gl hgl (fun e => (hbz gl e).2.2 rfl))).trans c2
                          have tf := (World.frozen?_of_block (w := x54) (a := ⟨gl, qn * 3 + 2, none⟩) (hTB.block gl hgl (fun e => (hbz gl e).2.2 rfl))).trans (hfz (qn * 3 + 2))
                          have tl := Nat.lt_of_lt_of_le hgl hg7.size
                          clear hown7 hg7 hat7 hTB hO7 hlt7 hSz hbz hbzE hown hOz c2 hfz p1 p2 hsame hgl HN HZ HC HM HR1 HA HL2
                          refine hK _ _ ?_; clear hK K
                          try simp only [Act.put, List.getElem_toArray, List.getElem_cons_succ, List.getElem_cons_zero, List.setIfInBounds_toArray, List.set_cons_zero, List.set_cons_succ]
                          refine wpAny_take (i := 12) (v := ?_) rfl (by kernel_rfl) (by kernel_rfl) (by kernel_rfl) (fun _ _ _ h => h) (Or.inl ⟨by rfl, ?_⟩) ?_; rotate_left; focus (intro uu; go_simp; try with_reducible rfl)
                          try simp only [Act.put, List.getElem_toArray, List.getElem_cons_succ, List.getElem_cons_zero, List.setIfInBounds_toArray, List.set_cons_zero, List.set_cons_succ]
                          refine wpAny_take (i := 13) (v := ?_) rfl (by kernel_rfl) (by kernel_rfl) (by kernel_rfl) (fun _ _ _ h => h) (Or.inl ⟨by rfl, ?_⟩) ?_; rotate_left; focus (intro uu; go_simp; try with_reducible rfl)
                          try simp only [Act.put, List.getElem_toArray, List.getElem_cons_succ, List.getElem_cons_zero, List.setIfInBounds_toArray, List.set_cons_zero, List.set_cons_succ]
                          refine wpAny_ready (rs := [14]) (by kernel_rfl) (by simp) ?_
                          refine (AllReady.cons rfl (fun K hK => ?_) AllReady.nil)
                          try rw [if_pos (by kernel_rfl)]
                          go_simp
      
                          refine hK _ _ ?_; clear hK K
                          try simp only [Act.put, List.getElem_toArray, List.getElem_cons_succ, List.getElem_cons_zero, List.setIfInBounds_toArray, List.set_cons_zero, List.set_cons_succ]
                          refine wpAny_done (by kernel_rfl) ?_ _
                          have HNX := hide HN7.out.x
                          have HZ8 := hide (HZ7.out.far ⟨gl, qn * 3 + 2, none⟩ (.slice ad7 (d.ls[qn].sz.length + 1) cap7) (by simp; omega))
                          have HC8 := hide (HC7.out.set ⟨gl, qn * 3 + 2, none⟩ (.slice ad7 (d.ls[qn].sz.length + 1) cap7) (by simp; omega))
                          have HM8 := hide (HM7.out.setNew ⟨gl, qn * 3 + 2, none⟩ (by simp; omega) (.slice ad7 (d.ls[qn].sz.length + 1) cap7))
                          have hd6 : (d.ls.set qn ⟨d.ls[qn].wt, d.ls[qn].left, d.ls[qn].sz ++ [z]⟩).length ≤ 4 := by simpa using hd4
                          clear t2 tf tl HN7 HZ7 HC7 HM7
                          go_wp2_with fail
                          go_meet
                          case rel => exact ⟨_, hd6, HNX, HZ8, HC8, HM8⟩
                · go_wp2_with fail
                  refine (from1 g B (-1) 8 _ HC.out (by omega) (by omega) (by omega)).mono ?_; rintro e w7 ⟨z, z0, z1, rfl, hc7, hm7⟩
                  replace HC := hide hc7; replace HN := hide (HN.out.moves hm7 (by omega) (by omega)); replace HZ := hide (HZ.out.moves hm7 (by omega)); replace HM := hide (HM.out.trans hm7)
                  clear hc7 hm7
                  have HN6 := hide (HN.out.turnTo z)
                  have r0 := HN.out.row.cell (j := 0) rfl
                  have rf := HN.out.row.frozen 0
                  have rl := HN.out.row.lt
                  have HZ6 := hide (HZ.out.far ⟨(w.heap.size + 1), 0, none⟩ (.int .i64 z) (by simp))
                  have HC6 := hide (HC.out.set ⟨(w.heap.size + 1), 0, none⟩ (.int .i64 z) (by simp; omega))
                  have HM6 := hide (HM.out.setNew ⟨(w.heap.size + 1), 0, none⟩ (by simp) (.int .i64 z))
                  have HNX := hide HN6.out.x
                  clear HN6 HZ HC HM HN
                  go_wp2_with fail
                  go_meet
                  case rel => exact ⟨⟨z, d.given, d.ls⟩, hd4, HNX, HZ6, HC6, HM6⟩
                · have hz30 : d.ls[qn].sz.length ≤ 30 := (okLn_iff.1 ((okRn_iff.1 HOK.out).2.2 _ (List.getElem_mem hqn))).2.2.1
                  have HSS : Hid (d.ls.set qn ⟨d.ls[qn].wt, d.ls[qn].left, d.ls[qn].sz⟩ = d.ls) := List.set_getElem_self hqn
                  go_wp2_with fail
                  go_loopg [106] 30 (fun f s wr => ∃ (S : List Int), S.length ≤ 30 ∧ 30 ≤ f + S.length ∧ Hid (RnIs wr (w.heap.size + 1) (w.heap.size + 2) gl vp ⟨d.turn, d.given, d.ls.set qn ⟨d.ls[qn].wt, d.ls[qn].left, S⟩⟩) ∧ Hid (RowIs wr w.heap.size 26 [.int .i64 0, .bool false, .slice none 0 0]) ∧ Hid (Cur wr g B) ∧ Hid (Moves g w wr))
                  case atStart => exact ⟨d.ls[qn].sz, hz30, by omega, by show RnIs _ _ _ _ _ _; rw [HSS.out]; exact HN.out, HZ, HC, HM⟩
                  case round =>
                    clear HN HZ HC HM
                    obtain ⟨S, hS30, hSf, HN, HZ, HC, HM⟩ := hrel
                    have hqs : qn < (d.ls.set qn ⟨d.ls[qn].wt, d.ls[qn].left, S⟩).length := by simpa using hqn
                    by_cases h30 : S.length < 30
                    · cases gk with
                      | zero => omega
                      | succ f =>
                      obtain ⟨hgl0, hlg0, hgg0, hfz0, -, -, az0, pz0, bz0, c20, -⟩ := HN.out.line qn hqs
                      have hX : Below wr.heap.size wr (wr.alloc (.cells #[.int .i64 5] 2)) := (Below.refl _ _).alloc (Nat.le_refl _) _
                      have hRd : Reads (wr.alloc (.cells #[.int .i64 5] 2)) (.slice (some ⟨wr.heap.size, 0, none⟩) 1 1) 1 1 (iv [5]) := reads_of_owns (owns_lit wr 2 1 1 #[.int .i64 5] rfl (by omega))
                      obtain ⟨hgl, hlg, hgg, hfz, -, -, az, pz, bz, c2, p1, p2, hOz, hbz, -, -, hSz⟩ := (HN.out.new hX).line qn hqs
                      simp only [List.getElem_set_self, List.set_set] at c20 c2 p1 hOz hSz
                      have hsame : az = az0 ∧ pz = pz0 := by have h := (hX.cell (p := ⟨gl, qn * 3 + 2, none⟩) hgl0).trans c20; rw [c2] at h; simp only [Option.some.injEq, Value.slice.injEq] at h; exact ⟨h.1, h.2.2⟩
                      obtain ⟨rfl, rfl⟩ := hsame
                      obtain ⟨hown, hbzE⟩ := owr_ints hOz
                      replace HZ := hide (HZ.out.new hX); replace HC := hide (HC.out.below hX); replace HM := hide (HM.out.trans (Moves.of_below (g := g) hX))
                      have HSz := hide hSz; have HBz := hide hbz
                      have h30' : (S.length : Int) < 30 := by omega
                      clear hSz hbz HN hX
                      go_wp2_with (at_builtin; go_must (refine wpList_app _ (by rfl) _ _ 33 (by rfl) 2 (.int .i64 0) 1 8 Try.underlying33 (by kernel_rfl) rfl (by decide) 0 _ S.length (iv S) (by rfl) hown _ 1 (iv [5]) (by rfl) hRd (iv_one _) (by omega) (by decide) (Nat.zero_le _) ?_))
                      intro ad7 cap7 w7 hown7 hg7 hat7
                      have hbz := HBz.out
                      generalize hwX : wr.alloc (.cells #[.int .i64 5] 2) = wX at *
                      have hsX : wX.heap.size = wr.heap.size + 1 := by rw [← hwX]; simp
                      have hTB : TurnB bz wX w7 := ⟨hg7.os, hg7.tape, hg7.output, hg7.size, fun y hy hn => hg7.block y hy (fun c => hn (by rw [hbzE, ← c]; simp))⟩
                      have hO7 : OwR intS w7 (.slice ad7 (S.length + 1) cap7) (S ++ [5]) (Value.slice ad7 (S.length + 1) cap7).ownBlock.toList := by
                        apply ints_owr
                        have e : (S ++ [5]).length = S.length + 1 := by simp
                        rw [e, iv_app]
                        exact hown7
                      have HN7 := hide (HSz.out w7 _ _ _ hTB hO7 (opt_nodup _) (fun y hy => by
                        rcases hat7 with h | h
                        · left; rw [hbzE, ← h]; exact hy
                        · right; rw [h] at hy; simp at hy; omega))
                      have hlt7 := fun k (e : (Value.slice az S.length pz).ownBlock = some k) => (hbz k (by rw [hbzE, e]; simp)).1
                      have HZ7 := hide (HZ.out.kept (hg7.block _ HZ.out.lt (fun e => by have := hlt7 _ e.symm; omega)))
                      have HC7 := hide (HC.out.grown hg7 (fun k hk => by have := hlt7 k hk; omega))
                      have HM7 := hide (HM.out.grown hg7 (fun k hk => by have := hlt7 k hk; omega))
                      have t2 := (World.cell?_of_block (w := wX) (a := ⟨gl, qn * 3 + 2, none⟩) (hTB.block gl hgl (fun e => (hbz gl e).2.2 rfl))).trans c2
                      have tf := (World.frozen?_of_block (w := wX) (a := ⟨gl, qn * 3 + 2, none⟩) (hTB.block gl hgl (fun e => (hbz gl e).2.2 rfl))).trans (hfz (qn * 3 + 2))
                      have tl := Nat.lt_of_lt_of_le hgl hg7.size
                      have HZ8 := hide (HZ7.out.far ⟨gl, qn * 3 + 2, none⟩ (.slice ad7 (S.length + 1) cap7) (by simp; omega))
                      have HC8 := hide (HC7.out.set ⟨gl, qn * 3 + 2, none⟩ (.slice ad7 (S.length + 1) cap7) (by simp; omega))
                      have HM8 := hide (HM7.out.setNew ⟨gl, qn * 3 + 2, none⟩ (by simp; omega) (.slice ad7 (S.length + 1) cap7))
                      clear hown7 hg7 hat7 hTB hO7 hlt7 hbz hbzE hown hOz c2 c20 hfz hfz0 p1 p2 hgl hgl0 HZ HC HM hRd HZ7 HC7 HM7 HSz HBz hwX
                      go_wp2_with fail
                      go_roundg f
                      case measure => omega
                      case rel => exact ⟨S ++ [5], by simp; omega, by simp; omega, HN7, HZ8, HC8, HM8⟩
                    · obtain ⟨hgl0, hlg0, hgg0, hfz0, -, -, az0, pz0, bz0, c20, -⟩ := HN.out.line qn hqs
                      simp only [List.getElem_set_self] at c20
                      have h30' : ¬ (S.length : Int) < 30 := by omega
                      have hd6 : (d.ls.set qn ⟨d.ls[qn].wt, d.ls[qn].left, S⟩).length ≤ 4 := by simpa using hd4
                      have HNX := hide HN.out.x
                      clear HN
                      go_wp2_with fail
                      go_meet
                      case rel => exact ⟨_, hd6, HNX, HZ, HC, HM⟩
          case rest =>
            clear HN HZ HC HM hd4 HOK hd1
            obtain ⟨d, hd4, HN, HZ, HC, HM⟩ := hcut
            obtain ⟨a9, p9, hrow, hown⟩ := HN.out.ex
            have t0 := hrow.cell (j := 0) rfl
            have t1 := hrow.cell (j := 1) rfl
            have t2 := hrow.cell (j := 2) rfl
            have hlT := hrow.lt
            have HO := hide hown.top
            clear hrow hown
            have r0 := HZ.out.cell (j := 0) rfl; have r1 := HZ.out.cell (j := 1) rfl; have r2 := HZ.out.cell (j := 2) rfl; have r3 := HZ.out.frozen 0; have r4 := HZ.out.frozen 1; have r5 := HZ.out.frozen 2; have r6 := HZ.out.lt
            go_wp2_with fail
            refine bodyPost_ret (v := (.agg #[.int .i64 d.turn, .bool d.given, .slice a9 d.ls.length p9])) (by simp [results, Try.results39, go_sem, *]) rfl ?_
            refine ⟨d, _, rfl, ?_, hd4, ((HC.out.set _ _ (by simpa using hgw)).set _ _ (by simpa using hgw)).set _ _ (by simpa using hgw), ((HM.out.setNew _ (by simp) _).setNew _ (by simp) _).setNew _ (by simp) _⟩
            refine OwX.top (hi := wc.heap.size) (OwX.wide (lo := (w.heap.size + 2)) (hi := wc.heap.size) (lo' := w.heap.size) (hi' := wc.heap.size) ?_ (by omega) (Nat.le_refl _))
            (repeat' (first | (with_reducible exact HO.out) | (with_reducible refine OwX.far ?_ _ _ ?_) | (simp; done) | (simp; omega)))
end Go.Proofs.Yteojibdnphaooaa
