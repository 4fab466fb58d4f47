/- The program's Decoded. -/
import Derived.Test.YtllaeakeaabiaaaGreatQG28
import Derived.Test.YtllaeakeaabiaaaGreatQG8
import Derived.Deep.Cut
import Derived.Deep.DeepCutAuto
import Derived.Deep.RegionHeld3
namespace Go.Proofs.YtllaeakeaabiaaaGreat
open Go.RowKit
set_option maxRecDepth 100000
set_option linter.unusedSimpArgs false
set_option linter.unusedVariables false

theorem decI_stop {room : Int} {n : Nat} {L out : List Fd} {s : ByteArray} (h : s.size = 0) : decI room n L out s = some (out, L) := by cases n <;> simp [decI, h]
theorem decI_none {room : Int} {n : Nat} {L out : List Fd} {s : ByteArray} (h0 : s.size ≠ 0) (h : out.length = 20 ∨ okF (mnt L s) = false) : decI room n L out s = none := by
  cases n with
  | zero => simp [decI, h0]
  | succ n => rw [decI, if_neg h0, if_pos h]
theorem decI_no {room : Int} {n : Nat} {L out : List Fd} {s : ByteArray} (h0 : s.size ≠ 0) (hb : begins s (encF room L (mnt L s)).1 = false) : decI room n L out s = none := by
  cases n with
  | zero => simp [decI, h0]
  | succ n =>
    rw [decI, if_neg h0]
    split
    · rfl
    · rw [if_neg (by rw [hb]; simp)]
theorem decI_step {room : Int} {n : Nat} {L out : List Fd} {s : ByteArray} (h0 : s.size ≠ 0) (h : ¬ out.length = 20) (hok : okF (mnt L s) = true) (hb : begins s (encF room L (mnt L s)).1 = true) : decI room (n + 1) L out s = decI room n (encF room L (mnt L s)).2 (out ++ [mnt L s]) (s.extract (encF room L (mnt L s)).1.size s.size) := by
  rw [decI, if_neg h0, if_neg (fun k => k.elim h (fun k => by rw [hok] at k; cases k)), if_pos hb]
theorem noF_fine : noF.fine := ⟨by simp [noF, ByteArray.size], by simp [noF, ByteArray.size]⟩
theorem rowN_fine {room : Int} {L : List Fd} (n : Int) (h : okT room L = true) : (rowN L n).fine := by
  unfold rowN
  split
  · rw [List.getD_eq_getElem?_getD]
    cases e : L[n.toNat - 1]? with
    | none => exact noF_fine
    | some f => exact fine_of ((okT_parts h).2.2.1 f (List.mem_of_getElem? e))
  · exact noF_fine
theorem mnt_fine {room : Int} {L : List Fd} (s : ByteArray) (h : okT room L = true) : (mnt L s).fine := by
  unfold mnt rdShp
  split
  · exact rowN_fine _ h
  · split
    · exact noF_fine
    · split
      · exact ⟨(rowN_fine _ h).1, (rl_upto _).2.2⟩
      · exact ⟨(rl_upto _).2.2, (rl_upto _).2.2⟩
/-- How long a text is. -/
def strLen : Value → Nat
  | .string s => s.size
  | _ => 0

set_option maxRecDepth 100000 in
set_option maxHeartbeats 8000000 in
theorem implDecoded (L : List Fd) (room : Int) (v : Value) (s : ByteArray) (w : World) (hr0 : Reads w v L.length 2 (fv L)) (hf : ∀ f ∈ L, f.fine) (hs : s.size ≤ maxLen) :
    Calls Tryz.prog 176 #[.agg #[.int .i64 room, v], .string s] w fun x w' => ∃ lv v', x = .returned (.tuple #[lv, .agg #[.int .i64 (decodedD room L s).2.1.1, v'], .bool (decodedD room L s).2.2]) ∧ w'.ownsRow w.heap.size 146 2 lv (decodedD room L s).1.length (fv (decodedD room L s).1) ∧ w'.ownsRow w.heap.size 146 2 v' (decodedD room L s).2.1.2.length (fv (decodedD room L s).2.1.2) ∧ (∀ q, lv.ownBlock = some q → v'.ownBlock ≠ some q) ∧ Below w.heap.size w w' := by
  obtain ⟨D, hD⟩ : ∃ D, decodedD room L s = D := ⟨_, rfl⟩
  rw [hD]
  have HD := hide hD
  have HR := hide hr0; have HF := hide hf
  obtain ⟨ad, cap, rfl, _⟩ := hr0.2
  clear hr0 hf hD
  unfold maxLen at hs
  go_enter Tryz.func176, Tryz.ntmps176
  go_wp2_with fail
  obtain ⟨V, hV⟩ : ∃ V, (w.alloc (.cells #[.int .i64 room, .slice ad L.length cap] 40)).alloc (.cells #[.int .i64 0, .slice none 0 0] 40) = V := ⟨_, rfl⟩
  have HBW : Hid (Below w.heap.size w V) := by show Below _ _ _; rw [← hV]; exact bo_alloc ((Below.refl _ _).alloc (Nat.le_refl _) _) _
  have HRR : Hid (RowIs V (w.heap.size + 1) 40 [.int .i64 0, .slice none 0 0]) := by show RowIs _ _ _ _; rw [← hV]; simpa using rowIs_new (w.alloc (.cells #[.int .i64 room, .slice ad L.length cap] 40)) 40 [.int .i64 0, .slice none 0 0]
  rw [hV]
  clear hV
  refine (implOwn L room _ _ (HR.out.new HBW.out) HF.out).mono ?_; rintro x w1 ⟨v1, rfl, ho1, hb1⟩
  have hzV := HRR.out.lt
  have hz1 := hb1.size
  replace HRR := hide (HRR.out.new hb1); replace HBW := hide (bchain HBW.out hb1)
  cases hok : okT room L
  · have HDD : Hid (D = ([], (0, []), false)) := by show _ = _; rw [← HD.out]; simp [decodedD, hok]
    rw [resized_no hok] at ho1 ⊢
    simp only at ho1 ⊢
    obtain ⟨a1, p1, rfl, _⟩ := owns_form ho1
    have r0 := HRR.out.cell (j := 0) rfl
    have r1 := HRR.out.cell (j := 1) rfl
    have r2 := HRR.out.frozen 0
    have r3 := HRR.out.frozen 1
    have hl9 := HRR.out.lt
    go_wp2_with fail
    refine bodyPost_ret (v := (.tuple #[.slice none 0 0, .agg #[.int .i64 0, .slice none 0 0], .bool false])) (by simp [results, Tryz.results176, go_sem, *]) rfl ?_
    rw [HDD.out]
    have hbw := HBW.out
    have hsz := HBW.out.size
    exact ⟨_, _, rfl, own_nil _ _ _, own_nil _ _ _, fun q hq => by simp [Value.ownBlock] at hq, (by repeat' (first | (with_reducible exact hbw) | (with_reducible refine Below.setCell ?_ ?_ _) | (with_reducible refine Below.alloc ?_ ?_ _) | (with_reducible refine Below.drew ?_) | (with_reducible refine bo_drewN _ ?_) | omega | (simp; done) | (simp; omega)))⟩
  rw [resized_own hok] at ho1 ⊢
  simp only at ho1 ⊢
  obtain ⟨a1, p1, rfl, _⟩ := owns_form ho1
  have hdb := dec_both s hok
  rw [HD.out] at hdb
  obtain ⟨R, hRR⟩ : ∃ R, decI room s.size L [] s = R := ⟨_, rfl⟩
  rw [hRR] at hdb
  have HDB := hide hdb
  have NE1 : Hid (∀ k, (Value.slice a1 L.length p1).ownBlock = some k → w.heap.size + 1 < k ∧ k < w1.heap.size) := fun k hk => by have := ho1.lt k hk; omega
  have HO1 := hide (owns_base (base' := w.heap.size) ho1 fun k hk => by have := (ho1.lt k hk).1; omega)
  clear ho1 hdb
  obtain ⟨V1, hV1⟩ : ∃ V1, w1.alloc (.cells #[.int .i64 room, .slice a1 L.length p1] 40) = V1 := ⟨_, rfl⟩
  have hbV : Below w1.heap.size w1 V1 := by rw [← hV1]; exact (Below.refl _ _).alloc (Nat.le_refl _) _
  have H7 : Hid (RowIs V1 w1.heap.size 40 [.int .i64 room, .slice a1 L.length p1]) := by show RowIs _ _ _ _; rw [← hV1]; exact rowIs_new w1 _ _
  replace HRR := hide (HRR.out.new hbV); replace HBW := hide (bchain HBW.out hbV); replace HO1 := hide (owns_new HO1.out hbV)
  have hz7 := H7.out.lt
  clear hbV hb1
  go_upto_region 5 with fail
  clear hV1
  go_cut [10, 11] (fun t p wx => t = .string s ∧ p = .pointer (some ⟨V1.heap.size, 0, none⟩) ∧ RowIs wx V1.heap.size 40 [.int .i64 room, .slice a1 L.length p1] ∧ Below V1.heap.size V1 wx)
  case first =>
    have x0 := H7.out.cell (j := 0) rfl
    have x1 := H7.out.cell (j := 1) rfl
    have hl7 := H7.out.lt
    go_wp2_with fail
    go_region_with (fail)
    all_goals (go_wp2_with fail)
    all_goals go_meet
    all_goals (exact ⟨rfl, rfl, (rowIs_new V1 _ _).kept rfl, Below.drew ((Below.refl _ _).alloc (Nat.le_refl _) _)⟩)
  case rest =>
    obtain ⟨rfl, rfl, hx3, hb3⟩ := hcut
    obtain ⟨w3, rfl⟩ : ∃ v : World, v = wc := ⟨_, rfl⟩
    replace HRR := hide (HRR.out.new hb3); replace HBW := hide (bchain HBW.out hb3); replace HO1 := hide (owns_new HO1.out hb3); replace H7 := hide (H7.out.new hb3)
    have HX := hide hx3
    have hz3 := HX.out.lt
    clear hb3 hx3
    have hbz : w.heap.size ≤ w3.heap.size := by omega
    have HREL : Hid (decI room s.size L [] s = R) := hRR
    clear hRR
    go_wp2_with fail
    go_loopw [9, 10] (fun lst rest wr => ∃ (n : Nat) (M out : List Fd) (t : ByteArray) (a : Option Addr) (p : Nat) (la : Option Addr) (lp : Nat), lst = .slice la out.length lp ∧ rest = .string t ∧ t.size ≤ n ∧ n ≤ s.size ∧ out.length ≤ 20 ∧ okT room M = true ∧ decI room n M out t = R ∧ RowIs wr V1.heap.size 40 [.int .i64 room, .slice a M.length p] ∧ wr.ownsRow w.heap.size 146 2 (.slice a M.length p) M.length (fv M) ∧ wr.ownsRow w3.heap.size 146 2 (.slice la out.length lp) out.length (fv out) ∧ (∀ q, (Value.slice a M.length p).ownBlock = some q → q ≠ V1.heap.size ∧ q ≠ w.heap.size + 1 ∧ (Value.slice la out.length lp).ownBlock ≠ some q) ∧ wr.ownsRow w.heap.size 146 2 (.slice a1 L.length p1) L.length (fv L) ∧ RowIs wr w1.heap.size 40 [.int .i64 room, .slice a1 L.length p1] ∧ RowIs wr (w.heap.size + 1) 40 [.int .i64 0, .slice none 0 0] ∧ w3.heap.size ≤ wr.heap.size ∧ Below w.heap.size w wr) (fun _ rest _ => strLen rest)
    case atStart => exact ⟨s.size, L, [], s, a1, p1, none, 0, rfl, rfl, Nat.le_refl _, Nat.le_refl _, by simp, hok, HREL.out, HX.out, HO1.out, own_nil _ _ _, fun q hq => ⟨by have := NE1.out q hq; omega, by have := NE1.out q hq; omega, by simp [Value.ownBlock]⟩, HO1.out, H7.out, HRR.out, Nat.le_refl _, HBW.out⟩
    case round =>
      clear HX HO1 HRR HBW HREL H7
      obtain ⟨n, M, out, t, a, p, la, lp, rfl, rfl, htn, hns, h20, hokM, hrec, hx, ho, hol, hne, ho1, h7, hrr, hz, hbw⟩ := hrel
      have HX := hide hx; have HO := hide ho; have HOL := hide hol; have HNE := hide hne; have HO1 := hide ho1; have H7 := hide h7; have HRR := hide hrr; have HBW := hide hbw; have HREC := hide hrec; have HOKM := hide hokM
      have HLT := hide (HOL.out.lt)
      clear hx ho hol hne ho1 h7 hrr hbw hrec hokM
      by_cases ht0 : t.size = 0
      · have hRD := HREC.out
        rw [decI_stop ht0] at hRD
        have HDD : Hid (D = (out, (room, M), true)) := by show _ = _; rw [HDB.out, ← hRD]
        have htb := ba_empty ht0
        subst htb
        clear hRD
        have x0 := HX.out.cell (j := 0) rfl
        have x1 := HX.out.cell (j := 1) rfl
        have r0 := HRR.out.cell (j := 0) rfl
        have r1 := HRR.out.cell (j := 1) rfl
        have r2 := HRR.out.frozen 0
        have r3 := HRR.out.frozen 1
        have hne9 : ¬ w.heap.size + 1 = V1.heap.size := by omega
        go_wp2_with fail
        go_region_with (fail)
        all_goals (go_wp2_with fail)
        all_goals (refine bodyPost_ret (v := (.tuple #[.slice la out.length lp, .agg #[.int .i64 room, .slice a M.length p], .bool true])) (by simp [results, Tryz.results176, go_sem, *]) rfl ?_)
        all_goals (rw [HDD.out]; refine ⟨_, _, rfl, owns_base (owns_apart (owns_apart (owns_kept HOL.out (fun k hk _ => rfl)) _ _ (fun e => by have := (HOL.out.lt _ e).1; simp at this; omega)) _ _ (fun e => by have := (HOL.out.lt _ e).1; simp at this; omega)) (fun k hk => by have := (HOL.out.lt k hk).1; omega), owns_apart (owns_apart (owns_kept HO.out (fun k hk _ => rfl)) _ _ (fun e => (HNE.out _ e).2.1 rfl)) _ _ (fun e => (HNE.out _ e).2.1 rfl), fun q hq e => (HNE.out q e).2.2 hq, Below.setCell (Below.setCell HBW.out.drew (show w.heap.size ≤ w.heap.size + 1 by omega) _) (show w.heap.size ≤ w.heap.size + 1 by omega) _⟩)
      have htp : 0 < t.size := by omega
      have hte := list_ne htp
      have hte2 := list_isEmpty htp
      have htm : t.size ≤ maxLen := by unfold maxLen; omega
      have HFIN := hide (mnt_fine t HOKM.out)
      obtain ⟨f, hff⟩ : ∃ f, mnt M t = f := ⟨_, rfl⟩
      rw [hff] at HFIN
      obtain ⟨S, HS0, HMK, HLB⟩ : ∃ S : World → Prop, Hid (S wr) ∧ Hid (∀ u, Below wr.heap.size wr u → S u) ∧ Hid (∀ u, S u → Below wr.heap.size wr u) := ⟨fun u => Below wr.heap.size wr u, hide (Below.refl _ _), hide (fun u h => h), hide (fun u h => h)⟩
      go_upto_region 7 with fail
      go_cut [12] (fun q wx => ∃ b, q = .pointer (some ⟨b, 0, none⟩) ∧ wr.heap.size ≤ b ∧ RowIs wx b 146 [.string f.n, .string f.v] ∧ Below wr.heap.size wr wx)
      case first =>
        have hS : S (World.drew wr) := HMK.out _ (Below.refl _ _).drew
        go_wp2_with fail
        refine wp_region_held (S := S) (by kernel_rfl) ?_
        change wpAnyH _ _ _ _ _ _ _ _ (World.drew _)
        refine wpAnyH_take (i := 1) (v := ?_) rfl (by kernel_rfl) (by kernel_rfl) (by kernel_rfl) (fun _ _ _ h => h) (Or.inl ⟨by kernel_rfl, ?_⟩) hS ?_; rotate_left; focus (intro w hw; clear hw; go_simp; try with_reducible rfl)
        refine wpAnyH_take (i := 0) (v := (.agg #[.int .i64 room, .slice a M.length p])) rfl (by kernel_rfl) (by kernel_rfl) (by kernel_rfl) (fun _ _ _ h => h) (Or.inl ⟨by kernel_rfl, ?ld⟩) hS ?_; case ld => (intro w hw; have l0 := (RowIs.cell (j := 0) ((HX.out.new (HLB.out _ hw))) rfl); have l1 := (RowIs.cell (j := 1) ((HX.out.new (HLB.out _ hw))) rfl); clear hw; go_simp)
        refine wpAnyH_ready (rs := [2, 4]) (by kernel_rfl) (by simp) ?_; refine AllReadyH.cons rfl (fun K hK => ?_) (AllReadyH.cons rfl (fun K hK => ?_) AllReadyH.nil) <;> (rw [if_pos (by kernel_rfl)]; go_simp)
        · skip
          refine (implReadShape t _ htm).mono ?_; rintro e ua ⟨rfl, hua⟩
          have hSa := HMK.out ua (bchain (HLB.out _ hS) hua)
          refine hK.out _ _ hSa (fun hS => ?_)
          clear hK K hSa
          refine wpAnyH_ready (rs := [3, 4]) (by kernel_rfl) (by simp) ?_; refine AllReadyH.cons rfl (fun K hK => ?_) (AllReadyH.cons rfl (fun K hK => ?_) AllReadyH.nil) <;> (rw [if_pos (by kernel_rfl)]; go_simp)
          · skip
            have hcl := implMeant M room _ (rdShp t) _ ((reads_of_owns HO.out).new (HLB.out _ hS)) HOKM.out
            rw [show mntF M (rdShp t) = f from hff] at hcl
            refine hcl.mono ?_; clear hcl; rintro e ub ⟨rfl, hub⟩
            have hSa := HMK.out ub (bchain (HLB.out _ hS) hub)
            refine hK.out _ _ hSa (fun hS => ?_)
            clear hK K hSa
            refine wpAnyH_ready (rs := [4]) (by kernel_rfl) (by simp) ?_; refine AllReadyH.cons rfl (fun K hK => ?_) AllReadyH.nil; rw [if_pos (by kernel_rfl)]; go_simp
            have hSa := HMK.out (ub.alloc (.cells #[.string ⟨#[]⟩, .string ⟨#[]⟩] 146)) (bo_alloc (HLB.out _ hS) _)
            have hez : RowIs (ub.alloc (.cells #[.string ⟨#[]⟩, .string ⟨#[]⟩] 146)) ub.heap.size 146 [.string ⟨#[]⟩, .string ⟨#[]⟩] := (rowIs_new ub 146 [.string ⟨#[]⟩, .string ⟨#[]⟩])
            have hzb : wr.heap.size ≤ ub.heap.size := (HLB.out _ hS).size
            refine hK.out _ _ hSa (fun hS => ?_)
            clear hK K hSa
            generalize ub.alloc (.cells #[.string ⟨#[]⟩, .string ⟨#[]⟩] 146) = wz at *
            have e0 := hez.cell (j := 0) rfl
            have e1 := hez.cell (j := 1) rfl
            have e2 := hez.frozen 0
            have e3 := hez.frozen 1
            refine wpAnyH_ready (rs := [5]) (by kernel_rfl) (by simp) ?_; refine AllReadyH.cons rfl (fun K hK => ?_) AllReadyH.nil; rw [if_pos (by kernel_rfl)]; go_simp
            have hbs := ((HLB.out _ hS).setCell (p := ⟨ub.heap.size, 0, none⟩) (show wr.heap.size ≤ ub.heap.size by omega) (.string f.n)).setCell (p := ⟨ub.heap.size, 1, none⟩) (show wr.heap.size ≤ ub.heap.size by omega) (.string f.v)
            have HFB := hide ((hez.set 0 (.string f.n)).set 1 (.string f.v))
            refine hK.out _ _ (HMK.out _ hbs) (fun hS => ?_)
            clear hK K
            refine wpAnyH_done (by kernel_rfl) ?_ _
            go_wp2_with fail
            go_meet
            exact ⟨_, rfl, by omega, HFB.out, hbs⟩
          · skip
            have hSa := HMK.out (ua.alloc (.cells #[.string ⟨#[]⟩, .string ⟨#[]⟩] 146)) (bo_alloc (HLB.out _ hS) _)
            have hez : RowIs (ua.alloc (.cells #[.string ⟨#[]⟩, .string ⟨#[]⟩] 146)) ua.heap.size 146 [.string ⟨#[]⟩, .string ⟨#[]⟩] := (rowIs_new ua 146 [.string ⟨#[]⟩, .string ⟨#[]⟩])
            have hzb : wr.heap.size ≤ ua.heap.size := (HLB.out _ hS).size
            refine hK.out _ _ hSa (fun hS => ?_)
            clear hK K hSa
            generalize ua.alloc (.cells #[.string ⟨#[]⟩, .string ⟨#[]⟩] 146) = wz at *
            refine wpAnyH_ready (rs := [3]) (by kernel_rfl) (by simp) ?_; refine AllReadyH.cons rfl (fun K hK => ?_) AllReadyH.nil; rw [if_pos (by kernel_rfl)]; go_simp
            have hcl := implMeant M room _ (rdShp t) _ ((reads_of_owns HO.out).new (HLB.out _ hS)) HOKM.out
            rw [show mntF M (rdShp t) = f from hff] at hcl
            refine hcl.mono ?_; clear hcl; rintro e ub ⟨rfl, hub⟩
            have hSa := HMK.out ub (bchain (HLB.out _ hS) hub)
            replace hez := hez.new hub
            refine hK.out _ _ hSa (fun hS => ?_)
            clear hK K hSa
            have e0 := hez.cell (j := 0) rfl
            have e1 := hez.cell (j := 1) rfl
            have e2 := hez.frozen 0
            have e3 := hez.frozen 1
            refine wpAnyH_ready (rs := [5]) (by kernel_rfl) (by simp) ?_; refine AllReadyH.cons rfl (fun K hK => ?_) AllReadyH.nil; rw [if_pos (by kernel_rfl)]; go_simp
            have hbs := ((HLB.out _ hS).setCell (p := ⟨ua.heap.size, 0, none⟩) (show wr.heap.size ≤ ua.heap.size by omega) (.string f.n)).setCell (p := ⟨ua.heap.size, 1, none⟩) (show wr.heap.size ≤ ua.heap.size by omega) (.string f.v)
            have HFB := hide ((hez.set 0 (.string f.n)).set 1 (.string f.v))
            refine hK.out _ _ (HMK.out _ hbs) (fun hS => ?_)
            clear hK K
            refine wpAnyH_done (by kernel_rfl) ?_ _
            go_wp2_with fail
            go_meet
            exact ⟨_, rfl, by omega, HFB.out, hbs⟩
        · skip
          have hSa := HMK.out (World.drew (wr.alloc (.cells #[.string ⟨#[]⟩, .string ⟨#[]⟩] 146))) (Below.drew (bo_alloc (Below.refl _ _) _))
          have hez : RowIs (World.drew (wr.alloc (.cells #[.string ⟨#[]⟩, .string ⟨#[]⟩] 146))) wr.heap.size 146 [.string ⟨#[]⟩, .string ⟨#[]⟩] := (rowIs_new wr 146 [.string ⟨#[]⟩, .string ⟨#[]⟩]).kept rfl
          have hzb : wr.heap.size ≤ wr.heap.size := Nat.le_refl _
          refine hK.out _ _ hSa (fun hS => ?_)
          clear hK K hSa
          generalize World.drew (wr.alloc (.cells #[.string ⟨#[]⟩, .string ⟨#[]⟩] 146)) = wz at *
          refine wpAnyH_ready (rs := [2]) (by kernel_rfl) (by simp) ?_; refine AllReadyH.cons rfl (fun K hK => ?_) AllReadyH.nil; rw [if_pos (by kernel_rfl)]; go_simp
          refine (implReadShape t _ htm).mono ?_; rintro e ua ⟨rfl, hua⟩
          have hSa := HMK.out ua (bchain (HLB.out _ hS) hua)
          replace hez := hez.new hua
          refine hK.out _ _ hSa (fun hS => ?_)
          clear hK K hSa
          refine wpAnyH_ready (rs := [3]) (by kernel_rfl) (by simp) ?_; refine AllReadyH.cons rfl (fun K hK => ?_) AllReadyH.nil; rw [if_pos (by kernel_rfl)]; go_simp
          have hcl := implMeant M room _ (rdShp t) _ ((reads_of_owns HO.out).new (HLB.out _ hS)) HOKM.out
          rw [show mntF M (rdShp t) = f from hff] at hcl
          refine hcl.mono ?_; clear hcl; rintro e ub ⟨rfl, hub⟩
          have hSa := HMK.out ub (bchain (HLB.out _ hS) hub)
          replace hez := hez.new hub
          refine hK.out _ _ hSa (fun hS => ?_)
          clear hK K hSa
          have e0 := hez.cell (j := 0) rfl
          have e1 := hez.cell (j := 1) rfl
          have e2 := hez.frozen 0
          have e3 := hez.frozen 1
          refine wpAnyH_ready (rs := [5]) (by kernel_rfl) (by simp) ?_; refine AllReadyH.cons rfl (fun K hK => ?_) AllReadyH.nil; rw [if_pos (by kernel_rfl)]; go_simp
          have hbs := ((HLB.out _ hS).setCell (p := ⟨wr.heap.size, 0, none⟩) (show wr.heap.size ≤ wr.heap.size by omega) (.string f.n)).setCell (p := ⟨wr.heap.size, 1, none⟩) (show wr.heap.size ≤ wr.heap.size by omega) (.string f.v)
          have HFB := hide ((hez.set 0 (.string f.n)).set 1 (.string f.v))
          refine hK.out _ _ (HMK.out _ hbs) (fun hS => ?_)
          clear hK K
          refine wpAnyH_done (by kernel_rfl) ?_ _
          go_wp2_with fail
          go_meet
          exact ⟨_, rfl, by omega, HFB.out, hbs⟩
      case rest =>
        obtain ⟨b12, rfl, hb12, hfb, hbS⟩ := hcut
        obtain ⟨w4, rfl⟩ : ∃ v : World, v = wc := ⟨_, rfl⟩
        replace HX := hide (HX.out.new hbS); replace HO := hide (owns_new HO.out hbS); replace HOL := hide (owns_new HOL.out hbS); replace HO1 := hide (owns_new HO1.out hbS); replace H7 := hide (H7.out.new hbS); replace HRR := hide (HRR.out.new hbS); replace HBW := hide (bchain HBW.out hbS)
        have HFB := hide hfb
        have hz4 := hbS.size
        clear hfb hbS HS0 HMK HLB S
        have y0 := HFB.out.cell (j := 0) rfl
        have y1 := HFB.out.cell (j := 1) rfl
        by_cases hl20 : (out.length : Int) = 20
        · have HDD : Hid (D = ([], (room, L), false)) := by show _ = _; rw [HDB.out, ← HREC.out, decI_none ht0 (.inl (by omega))]
          go_upto_region 9 with fail
          clear y0 y1
          have x0 := H7.out.cell (j := 0) rfl
          have x1 := H7.out.cell (j := 1) rfl
          have r0 := HRR.out.cell (j := 0) rfl
          have r1 := HRR.out.cell (j := 1) rfl
          have r2 := HRR.out.frozen 0
          have r3 := HRR.out.frozen 1
          have hne9 : ¬ w.heap.size + 1 = w1.heap.size := by omega
          go_wp2_with fail
          go_region_with (fail)
          all_goals (go_wp2_with fail)
          all_goals (refine bodyPost_ret (v := (.tuple #[.slice none 0 0, .agg #[.int .i64 room, .slice a1 L.length p1], .bool false])) (by simp [results, Tryz.results176, go_sem, *]) rfl ?_)
          all_goals (rw [HDD.out]; refine ⟨_, _, rfl, own_nil _ _ _, owns_apart (owns_apart (owns_kept HO1.out (fun k hk _ => rfl)) _ _ (fun e => by have := (NE1.out _ e).1; simp at this)) _ _ (fun e => by have := (NE1.out _ e).1; simp at this), fun q hq => by simp [Value.ownBlock] at hq, Below.setCell (Below.setCell HBW.out.drew (show w.heap.size ≤ w.heap.size + 1 by omega) _) (show w.heap.size ≤ w.heap.size + 1 by omega) _⟩)
        have hl20' : ¬ out.length = 20 := by omega
        cases hokf : okF f
        · have HDD : Hid (D = ([], (room, L), false)) := by show _ = _; rw [HDB.out, ← HREC.out, decI_none ht0 (.inr (by rw [hff]; exact hokf))]
          go_wp2_with fail
          refine (implRight f _ HFIN.out).mono ?_; rw [hokf]; rintro x w5 ⟨rfl, hb5⟩
          replace HO1 := hide (owns_new HO1.out hb5); replace H7 := hide (H7.out.new hb5); replace HRR := hide (HRR.out.new hb5); replace HBW := hide (bchain HBW.out hb5)
          clear y0 y1 hb5
          have x0 := H7.out.cell (j := 0) rfl
          have x1 := H7.out.cell (j := 1) rfl
          have r0 := HRR.out.cell (j := 0) rfl
          have r1 := HRR.out.cell (j := 1) rfl
          have r2 := HRR.out.frozen 0
          have r3 := HRR.out.frozen 1
          have hne9 : ¬ w.heap.size + 1 = w1.heap.size := by omega
          go_wp2_with fail
          go_region_with (fail)
          all_goals (go_wp2_with fail)
          all_goals (refine bodyPost_ret (v := (.tuple #[.slice none 0 0, .agg #[.int .i64 room, .slice a1 L.length p1], .bool false])) (by simp [results, Tryz.results176, go_sem, *]) rfl ?_)
          all_goals (rw [HDD.out]; refine ⟨_, _, rfl, own_nil _ _ _, owns_apart (owns_apart (owns_kept HO1.out (fun k hk _ => rfl)) _ _ (fun e => by have := (NE1.out _ e).1; simp at this)) _ _ (fun e => by have := (NE1.out _ e).1; simp at this), fun q hq => by simp [Value.ownBlock] at hq, Below.setCell (Below.setCell HBW.out.drew (show w.heap.size ≤ w.heap.size + 1 by omega) _) (show w.heap.size ≤ w.heap.size + 1 by omega) _⟩)
        go_wp2_with fail
        refine (implRight f _ HFIN.out).mono ?_; rw [hokf]; rintro x w5 ⟨rfl, hb5⟩
        replace HX := hide (HX.out.new hb5); replace HO := hide (owns_new HO.out hb5); replace HOL := hide (owns_new HOL.out hb5); replace HO1 := hide (owns_new HO1.out hb5); replace H7 := hide (H7.out.new hb5); replace HRR := hide (HRR.out.new hb5); replace HFB := hide (HFB.out.new hb5); replace HBW := hide (bchain HBW.out hb5)
        have hz5 := hb5.size
        clear y0 y1 hb5
        have x0 := HX.out.cell (j := 0) rfl
        have x1 := HX.out.cell (j := 1) rfl
        have y0 := HFB.out.cell (j := 0) rfl
        have y1 := HFB.out.cell (j := 1) rfl
        obtain ⟨F, hF⟩ : ∃ F, encF room M f = F := ⟨_, rfl⟩
        have hFz := encF_size (room := room) (L := M) f
        have HOKF := hide (encF_ok HOKM.out hokf)
        go_wp2_with fail
        refine (implPart M room _ f w.heap.size _ HO.out (by omega) HOKM.out hokf).mono ?_; rw [hF] at hFz HOKF ⊢; rintro x w6 ⟨v6, rfl, ho6, hfr6, hb6⟩
        clear x0 x1 y0 y1
        obtain ⟨a6, p6, rfl, _⟩ := owns_form ho6
        have hlx := HX.out.lt
        have hlr := HRR.out.lt
        have HNE6 : Hid (∀ q, (Value.slice a6 F.2.length p6).ownBlock = some q → q ≠ V1.heap.size ∧ q ≠ w.heap.size + 1 ∧ (Value.slice la out.length lp).ownBlock ≠ some q) := fun q hq => by
          rcases hfr6 q hq with h | h
          · exact HNE.out q h
          · refine ⟨by omega, by omega, fun e => ?_⟩
            have := (HOL.out.lt q e).2
            omega
        replace HX := hide (HX.out.new hb6); replace HO := hide (owns_new HO.out hb6); replace HOL := hide (owns_new HOL.out hb6); replace HO1 := hide (owns_new HO1.out hb6); replace H7 := hide (H7.out.new hb6); replace HRR := hide (HRR.out.new hb6); replace HFB := hide (HFB.out.new hb6); replace HBW := hide (bchain HBW.out hb6)
        replace HO := hide ho6
        have hz6 := hb6.size
        clear ho6 hfr6 hb6 HNE
        have FB := hide hF
        obtain ⟨F1, F2⟩ := F
        simp only at hFz HOKF HNE6 HO ⊢
        clear hF
        obtain ⟨W, hW⟩ : ∃ W, w6.alloc (.cells #[.int .i64 room, .slice a6 F2.length p6] 40) = W := ⟨_, rfl⟩
        have hbW : Below w6.heap.size w6 W := by rw [← hW]; exact (Below.refl _ _).alloc (Nat.le_refl _) _
        have h14 : RowIs W w6.heap.size 40 [.int .i64 room, .slice a6 F2.length p6] := by rw [← hW]; exact rowIs_new w6 _ _
        replace HX := hide (HX.out.new hbW); replace HO := hide (owns_new HO.out hbW); replace HOL := hide (owns_new HOL.out hbW); replace HO1 := hide (owns_new HO1.out hbW); replace H7 := hide (H7.out.new hbW); replace HRR := hide (HRR.out.new hbW); replace HFB := hide (HFB.out.new hbW); replace HBW := hide (bchain HBW.out hbW)
        have H14 := hide h14
        have hzW := h14.lt
        clear hbW h14
        have hF1m : F1.size ≤ maxLen := by unfold maxLen; omega
        cases hbg : begins t F1
        · have HDD : Hid (D = ([], (room, L), false)) := by show _ = _; rw [HDB.out, ← HREC.out, decI_no ht0 (by rw [hff, FB.out]; exact hbg)]
          go_wp2_with fail
          refine (begins1 t F1 _ htm hF1m).mono ?_; rw [hbg]; rintro x w7 ⟨rfl, hb7⟩
          replace HO1 := hide (owns_new HO1.out hb7); replace H7 := hide (H7.out.new hb7); replace HRR := hide (HRR.out.new hb7); replace HBW := hide (bchain HBW.out hb7)
          clear hb7 hW
          have x0 := H7.out.cell (j := 0) rfl
          have x1 := H7.out.cell (j := 1) rfl
          have r0 := HRR.out.cell (j := 0) rfl
          have r1 := HRR.out.cell (j := 1) rfl
          have r2 := HRR.out.frozen 0
          have r3 := HRR.out.frozen 1
          have hne9 : ¬ w.heap.size + 1 = w1.heap.size := by omega
          go_wp2_with fail
          go_region_with (fail)
          all_goals (go_wp2_with fail)
          all_goals (refine bodyPost_ret (v := (.tuple #[.slice none 0 0, .agg #[.int .i64 room, .slice a1 L.length p1], .bool false])) (by simp [results, Tryz.results176, go_sem, *]) rfl ?_)
          all_goals (rw [HDD.out]; refine ⟨_, _, rfl, own_nil _ _ _, owns_apart (owns_apart (owns_kept HO1.out (fun k hk _ => rfl)) _ _ (fun e => by have := (NE1.out _ e).1; simp at this)) _ _ (fun e => by have := (NE1.out _ e).1; simp at this), fun q hq => by simp [Value.ownBlock] at hq, Below.setCell (Below.setCell HBW.out.drew (show w.heap.size ≤ w.heap.size + 1 by omega) _) (show w.heap.size ≤ w.heap.size + 1 by omega) _⟩)
        obtain ⟨n', rfl⟩ : ∃ n', n = n' + 1 := ⟨n - 1, by omega⟩
        have HNEXT : Hid (decI room n' F2 (out ++ [f]) (t.extract F1.size t.size) = R) := by
          have := decI_step (room := room) (n := n') (L := M) (out := out) (s := t) ht0 hl20' (by rw [hff]; exact hokf) (by rw [hff, FB.out]; exact hbg)
          rw [hff, FB.out] at this
          exact this.symm.trans HREC.out
        have hF1p : 0 < F1.size := by have := (encF_first (room := room) (f := f) (okT_parts HOKM.out).2.2.2.2 ⟨#[]⟩).1; rw [FB.out] at this; exact this
        have hF1t : F1.size ≤ t.size := (begins_yes hbg).1
        have hTs : (t.extract F1.size t.size).size = t.size - F1.size := ba_extract_size (Nat.le_refl _) hF1t
        obtain ⟨T, hT⟩ : ∃ T, t.extract F1.size t.size = T := ⟨_, rfl⟩
        rw [hT] at hTs HNEXT
        have hsl : ∀ w : World, (Instr.slice 9 (.string t) (some (.int .i64 (F1.size : Int))) none none).run Tryz.prog w = .ok (.string T) w := by
          intro w
          rw [run_slice_string_from_if (P := Tryz.prog) w 9 t .i64 (F1.size : Int) Tryz.underlying9, if_pos ⟨by omega, by omega⟩, Int.toNat_natCast, hT]
        clear hT
        go_wp2_with fail
        refine (begins1 t F1 _ htm hF1m).mono ?_; rw [hbg]; rintro x w7 ⟨rfl, hb7⟩
        replace HX := hide (HX.out.new hb7); replace HO := hide (owns_new HO.out hb7); replace HOL := hide (owns_new HOL.out hb7); replace HO1 := hide (owns_new HO1.out hb7); replace H7 := hide (H7.out.new hb7); replace HRR := hide (HRR.out.new hb7); replace HFB := hide (HFB.out.new hb7); replace HBW := hide (bchain HBW.out hb7)
        replace H14 := hide (H14.out.new hb7)
        have hz7b := hb7.size
        clear hb7 hW
        go_upto_region 13 with fail
        obtain ⟨S, HS0, HMK, HLB⟩ : ∃ S : World → Prop, Hid (S w7) ∧ Hid (∀ u, RowIs u b12 146 [.string f.n, .string f.v] ∧ RowIs u w6.heap.size 40 [.int .i64 room, .slice a6 F2.length p6] → S u) ∧ Hid (∀ u, S u → RowIs u b12 146 [.string f.n, .string f.v] ∧ RowIs u w6.heap.size 40 [.int .i64 room, .slice a6 F2.length p6]) := ⟨fun u => RowIs u b12 146 [.string f.n, .string f.v] ∧ RowIs u w6.heap.size 40 [.int .i64 room, .slice a6 F2.length p6], hide ⟨HFB.out, H14.out⟩, hide (fun u h => h), hide (fun u h => h)⟩
        have hS : S (World.drew w7) := HMK.out _ ⟨HFB.out.kept rfl, H14.out.kept rfl⟩
        go_wp2_with fail
        refine wp_region_held (S := S) (by kernel_rfl) ?_
        change wpAnyH _ _ _ _ _ _ _ _ (World.drew _)
        refine wpAnyH_take (i := 0) (v := ?_) rfl (by kernel_rfl) (by kernel_rfl) (by kernel_rfl) (fun _ _ _ h => h) (Or.inl ⟨by kernel_rfl, ?_⟩) hS ?_; rotate_left; focus (intro w hw; clear hw; go_simp; try with_reducible rfl)
        refine wpAnyH_take (i := 1) (v := (.agg #[.string f.n, .string f.v])) rfl (by kernel_rfl) (by kernel_rfl) (by kernel_rfl) (fun _ _ _ h => h) (Or.inl ⟨by kernel_rfl, ?ld⟩) hS ?_; case ld => (intro w hw; have l0 := (RowIs.cell (j := 0) ((HLB.out _ hw).1) rfl); have l1 := (RowIs.cell (j := 1) ((HLB.out _ hw).1) rfl); clear hw; go_simp)
        refine wpAnyH_take (i := 8) (v := (.agg #[.int .i64 room, .slice a6 F2.length p6])) rfl (by kernel_rfl) (by kernel_rfl) (by kernel_rfl) (fun _ _ _ h => h) (Or.inl ⟨by kernel_rfl, ?ld⟩) hS ?_; case ld => (intro w hw; have l0 := (RowIs.cell (j := 0) ((HLB.out _ hw).2) rfl); have l1 := (RowIs.cell (j := 1) ((HLB.out _ hw).2) rfl); clear hw; go_simp)
        refine wpAnyH_take (i := 4) (v := ?_) rfl (by kernel_rfl) (by kernel_rfl) (by kernel_rfl) (fun _ _ _ h => h) (Or.inl ⟨by kernel_rfl, ?_⟩) hS ?_; rotate_left; focus (intro w hw; clear hw; go_simp; try with_reducible rfl)
        refine wpAnyH_take (i := 5) (v := ?_) rfl (by kernel_rfl) (by kernel_rfl) (by kernel_rfl) (fun _ _ _ h => h) (Or.inl ⟨by kernel_rfl, ?_⟩) hS ?_; rotate_left; focus (intro w hw; clear hw; go_simp; try with_reducible rfl)
        refine wpAnyH_take (i := 6) (v := ?_) rfl (by kernel_rfl) (by kernel_rfl) (by kernel_rfl) (fun _ _ _ h => h) (Or.inl ⟨by kernel_rfl, ?_⟩) hS ?_; rotate_left; focus (intro w hw; clear hw; go_simp; try with_reducible rfl)
        refine wpAnyH_take (i := 7) (v := ?_) rfl (by kernel_rfl) (by kernel_rfl) (by kernel_rfl) (fun _ _ _ h => h) (Or.inl ⟨by kernel_rfl, ?_⟩) hS ?_; rotate_left; focus (intro w hw; clear hw; go_simp; try with_reducible rfl)
        refine wpAnyH_ready (rs := [2]) (by kernel_rfl) (by simp) ?_; refine AllReadyH.cons rfl (fun K hK => ?_) AllReadyH.nil; rw [if_pos (by kernel_rfl)]; go_simp
        have hX : Below w7.heap.size w7 (World.drew (w7.alloc (.cells #[.string f.n, .string f.v] 146))) := Below.drew (bo_alloc (Below.refl _ _) _)
        have hRd : Reads (World.drew (w7.alloc (.cells #[.string f.n, .string f.v] 146))) (.slice (some ⟨w7.heap.size, 0, none⟩) 1 1) 1 2 (fv [f]) := (reads_of_owns (owns_two w7 146 f)).kept (Nat.le_refl _) (fun _ _ _ => rfl)
        replace HX := hide (HX.out.new hX); replace HO := hide (owns_new HO.out hX); replace HOL := hide (owns_new HOL.out hX); replace HO1 := hide (owns_new HO1.out hX); replace H7 := hide (H7.out.new hX); replace HRR := hide (HRR.out.new hX); replace HFB := hide (HFB.out.new hX); replace HBW := hide (bchain HBW.out hX)
        replace H14 := hide (H14.out.new hX)
        have hzx := hX.size
        refine hK.out _ _ (HMK.out _ ⟨HFB.out, H14.out⟩) (fun hS => ?_)
        clear hK K hX
        generalize World.drew (w7.alloc (.cells #[.string f.n, .string f.v] 146)) = wz at *
        refine wpAnyH_ready (rs := [3]) (by kernel_rfl) (by simp) ?_
        refine AllReadyH.cons rfl (fun K hK => ?_) AllReadyH.nil
        refine step_app _ (by rfl) _ _ 38 (by rfl) 146 (.agg #[.string ⟨#[]⟩, .string ⟨#[]⟩]) 2 32 Tryz.underlying38 (by kernel_rfl) rfl (by decide) w3.heap.size _ out.length (fv out) (by rfl) HOL.out _ 1 (fv [f]) (by rfl) hRd (fv_one _) (by omega) (by decide) (by omega) ?_
        intro ad8 cap8 w8 hown8 hg8 hat8
        have HK8 : Hid (∀ k, k < wz.heap.size → (k < w3.heap.size ∨ wr.heap.size ≤ k) → w8.heap[k]? = wz.heap[k]?) := fun k hk hh => hg8.block k hk (fun e => by have := HLT.out k e.symm; omega)
        replace HX := hide (HX.out.kept (HK8.out _ HX.out.lt (.inl (by omega))))
        have HLO := hide (HO.out.lt)
        replace HO := hide (owns_kept HO.out (fun k hk hlt => hg8.block k hlt (fun e => (HNE6.out k hk).2.2 e.symm)))
        replace HO1 := hide (owns_kept HO1.out (fun k hk hlt => HK8.out k hlt (.inl (by have := (NE1.out k hk).2; omega))))
        replace H7 := hide (H7.out.kept (HK8.out _ H7.out.lt (.inl (by omega))))
        replace HRR := hide (HRR.out.kept (HK8.out _ HRR.out.lt (.inl (by omega))))
        replace HFB := hide (HFB.out.kept (HK8.out _ HFB.out.lt (.inr (by omega))))
        replace H14 := hide (H14.out.kept (HK8.out _ H14.out.lt (.inr (by omega))))
        replace HBW : Hid (Below w.heap.size w w8) := hide (HBW.out.trans ⟨hg8.os, hg8.tape, hg8.output, hg8.size, fun k hk => HK8.out k (Nat.lt_of_lt_of_le hk HBW.out.size) (.inl (by omega))⟩)
        have HOL8 := hide hown8
        have HNE8 : Hid (∀ q, (Value.slice a6 F2.length p6).ownBlock = some q → q ≠ V1.heap.size ∧ q ≠ w.heap.size + 1 ∧ (Value.slice ad8 (out.length + 1) cap8).ownBlock ≠ some q) := fun q hq => ⟨(HNE6.out q hq).1, (HNE6.out q hq).2.1, fun e => by
          rcases hat8 with h | h
          · exact (HNE6.out q hq).2.2 (h ▸ e)
          · have h2 := (HLO.out q hq).2
            rw [h] at e
            simp only [Option.some.injEq] at e
            omega⟩
        have HL8 : Hid (∀ q, (Value.slice ad8 (out.length + 1) cap8).ownBlock = some q → w3.heap.size ≤ q) := fun q hq => (hown8.lt q hq).1
        have hz8 := hg8.size
        refine hK.out _ _ (HMK.out _ ⟨HFB.out, H14.out⟩) (fun hS => ?_)
        clear hK K hown8 hg8 hat8 hRd HNE6 HOL
        refine wpAnyH_take (i := 9) (v := ?_) rfl (by kernel_rfl) (by kernel_rfl) (by kernel_rfl) (fun _ _ _ h => h) (Or.inl ⟨by kernel_rfl, ?_⟩) hS ?_; rotate_left; focus (intro w hw; clear hw; go_simp; try with_reducible rfl)
        simp only [Act.put, List.getElem_toArray, List.getElem_cons_succ, List.getElem_cons_zero, List.setIfInBounds_toArray, List.set_cons_zero, List.set_cons_succ]
        refine wpAnyH_take (i := 10) (v := ?_) rfl (by kernel_rfl) (by kernel_rfl) (by kernel_rfl) (fun _ _ _ h => h) (Or.inl ⟨by kernel_rfl, ?_⟩) hS ?_; rotate_left; focus (intro w hw; clear hw; go_simp; try with_reducible rfl)
        simp only [Act.put, List.getElem_toArray, List.getElem_cons_succ, List.getElem_cons_zero, List.setIfInBounds_toArray, List.set_cons_zero, List.set_cons_succ]
        have x0 := HX.out.cell (j := 0) rfl
        have x1 := HX.out.cell (j := 1) rfl
        have x2 := HX.out.frozen 0
        have x3 := HX.out.frozen 1
        refine wpAnyH_ready (rs := [11]) (by kernel_rfl) (by simp) ?_; refine AllReadyH.cons rfl (fun K hK => ?_) AllReadyH.nil; rw [if_pos (by kernel_rfl)]; go_simp
        have hn1 : V1.heap.size ≠ b12 := by omega
        have hn2 : V1.heap.size ≠ w6.heap.size := by omega
        have hn3 : V1.heap.size ≠ w1.heap.size := by omega
        have hn4 : V1.heap.size ≠ w.heap.size + 1 := by omega
        refine hK.out _ _ (HMK.out _ ⟨(HFB.out.far _ _ hn1).far _ _ hn1, (H14.out.far _ _ hn2).far _ _ hn2⟩) (fun hS => ?_)
        clear hK K
        refine wpAnyH_done (by kernel_rfl) ?_ _
        go_wp2_with fail
        go_roundw
        case rel =>
          have hlen : (out ++ [f]).length = out.length + 1 := by simp
          refine ⟨n', F2, out ++ [f], T, a6, p6, ad8, cap8, ?_⟩
          rw [hlen, fv_app]
          exact ⟨rfl, rfl, by omega, by omega, by omega, HOKF.out, HNEXT.out, (HX.out.set 0 _).set 1 _, owns_apart (owns_apart HO.out _ _ (fun e => (HNE8.out _ e).1 rfl)) _ _ (fun e => (HNE8.out _ e).1 rfl), owns_apart (owns_apart HOL8.out _ _ (fun e => by have := HL8.out _ e; simp at this; omega)) _ _ (fun e => by have := HL8.out _ e; simp at this; omega), HNE8.out, owns_apart (owns_apart HO1.out _ _ (fun e => by have := (NE1.out _ e).2; simp at this; omega)) _ _ (fun e => by have := (NE1.out _ e).2; simp at this; omega), (H7.out.far _ _ hn3).far _ _ hn3, (HRR.out.far _ _ hn4).far _ _ hn4, by simp; omega, Below.setCell (Below.setCell HBW.out (show w.heap.size ≤ V1.heap.size by omega) _) (show w.heap.size ≤ V1.heap.size by omega) _⟩
        case measure => show T.size < t.size; omega
end Go.Proofs.YtllaeakeaabiaaaGreat
