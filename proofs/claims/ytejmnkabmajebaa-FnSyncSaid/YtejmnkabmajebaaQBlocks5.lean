/- The program's Encoded. -/
import Derived.Test.YtejmnkabmajebaaQBlocks4
import Derived.Deep.Cut
import Derived.Deep.DeepCutAuto
namespace Go.Proofs.Ytejmnkabmajebaa
open Go.RowKit
set_option maxRecDepth 100000
set_option linter.unusedSimpArgs false
set_option linter.unusedVariables false

theorem encL_take {room : Int} (L l : List Fd) (k : Nat) (h : k < l.length) : (encL room L (l.take (k + 1))).1 = (encL room L (l.take k)).1 ++ (encF room (encL room L (l.take k)).2 l[k]).1 ∧ (encL room L (l.take (k + 1))).2 = (encF room (encL room L (l.take k)).2 l[k]).2 := by
  induction k generalizing L l with
  | zero =>
    cases l with
    | nil => simp at h
    | cons f l => simp [encL, ba_nil_append, ba_append_nil]
  | succ k ih =>
    cases l with
    | nil => simp at h
    | cons f l =>
      have hk : k < l.length := by simpa using h
      obtain ⟨i1, i2⟩ := ih (encF room L f).2 l hk
      simp only [List.take_succ_cons, encL, List.getElem_cons_succ]
      exact ⟨by rw [i1, ba_append_assoc], i2⟩
theorem encF_size {room : Int} {L : List Fd} (f : Fd) : (encF room L f).1.size ≤ 500 := by
  unfold encF
  split
  · have := preV_small (lookL L f).1 7 128; simp only; omega
  · have h1 := preV_small (lookL L f).1 6 64
    have h2 := litV_small f.n
    have h3 := litV_small f.v
    simp only
    rw [ba_size_append, ba_size_append]
    split
    · omega
    · have : (⟨#[]⟩ : ByteArray).size = 0 := rfl
      omega
theorem encL_size {room : Int} : ∀ (l L : List Fd), (encL room L l).1.size ≤ 500 * l.length
  | [], L => by show (⟨#[]⟩ : ByteArray).size ≤ _; simp [ByteArray.size]
  | f :: l, L => by
    have h1 := encF_size (room := room) (L := L) f
    have h2 := encL_size (room := room) l (encF room L f).2
    show ((encF room L f).1 ++ (encL room (encF room L f).2 l).1).size ≤ _
    rw [ba_size_append]
    simp
    omega

set_option maxRecDepth 100000 in
set_option maxHeartbeats 4000000 in
theorem implEncoded (L l : List Fd) (room : Int) (v lv : Value) (w : World) (hr0 : Reads w v L.length 2 (fv L)) (hf : ∀ f ∈ L, f.fine) (hr1 : Reads w lv l.length 2 (fv l)) (hfl : ∀ f ∈ l, f.fine) :
    Calls Try.prog 11 #[.agg #[.int .i64 room, v], lv] w fun x w' => ∃ v', x = .returned (.tuple #[.string (encodedD room L l).1, .agg #[.int .i64 (encodedD room L l).2.1.1, v'], .bool (encodedD room L l).2.2]) ∧ w'.ownsRow w.heap.size 46 2 v' (encodedD room L l).2.1.2.length (fv (encodedD room L l).2.1.2) ∧ Below w.heap.size w w' := by
  obtain ⟨D, hD⟩ : ∃ D, encodedD room L l = D := ⟨_, rfl⟩
  rw [hD]
  have HD := hide hD
  have HR := hide hr0; have HRL := hide hr1; have HF := hide hf; have HFL := hide hfl
  obtain ⟨ad, cap, rfl, _⟩ := hr0.2
  obtain ⟨la, lc, rfl, hlc, hlm, h3⟩ := hr1.2
  have H3 := hide h3
  clear hr0 hr1 hf hfl hD h3
  unfold maxLen at hlm
  go_enter Try.func11, Try.ntmps11
  go_wp2_with fail
  obtain ⟨V, hV⟩ : ∃ V, (w.alloc (.cells #[.int .i64 room, .slice ad L.length cap] 26)).alloc (.cells #[.int .i64 0, .slice none 0 0] 26) = V := ⟨_, rfl⟩
  have HBW : Hid (Below w.heap.size w V) := by show Below _ _ _; rw [← hV]; exact bo_alloc ((Below.refl _ _).alloc (Nat.le_refl _) _) _
  have HRR : Hid (RowIs V (w.heap.size + 1) 26 [.int .i64 0, .slice none 0 0]) := by show RowIs _ _ _ _; rw [← hV]; simpa using rowIs_new (w.alloc (.cells #[.int .i64 room, .slice ad L.length cap] 26)) 26 [.int .i64 0, .slice none 0 0]
  rw [hV]
  clear hV
  refine (implOwn L room _ _ (HR.out.new HBW.out) HF.out).mono ?_; rintro x w1 ⟨v1, rfl, ho1, hb1⟩
  have hzV := HRR.out.lt
  have hz1 := hb1.size
  replace HRR := hide (HRR.out.new hb1); replace HBW := hide (bchain HBW.out hb1)
  cases hok : okT room L
  · have HDD : Hid (D = (⟨#[]⟩, (0, []), false)) := by show _ = _; rw [← HD.out]; simp [encodedD, hok]
    rw [resized_no hok] at ho1 ⊢
    simp only at ho1 ⊢
    obtain ⟨a1, p1, rfl, _⟩ := owns_form ho1
    have r0 := HRR.out.cell (j := 0) rfl
    have r1 := HRR.out.cell (j := 1) rfl
    have r2 := HRR.out.frozen 0
    have r3 := HRR.out.frozen 1
    have hl9 := HRR.out.lt
    go_wp2_with fail
    refine bodyPost_ret (v := (.tuple #[.string ⟨#[]⟩, .agg #[.int .i64 0, .slice none 0 0], .bool false])) (by simp [results, Try.results11, go_sem, *]) rfl ?_
    rw [HDD.out]
    have hbw := HBW.out
    have hsz := HBW.out.size
    exact ⟨_, rfl, own_nil _ _ _, (by repeat' (first | (with_reducible exact hbw) | (with_reducible refine Below.setCell ?_ ?_ _) | (with_reducible refine Below.alloc ?_ ?_ _) | (with_reducible refine Below.drew ?_) | (with_reducible refine bo_drewN _ ?_) | omega | (simp; done) | (simp; omega)))⟩
  rw [resized_own hok] at ho1 ⊢
  simp only at ho1 ⊢
  obtain ⟨a1, p1, rfl, _⟩ := owns_form ho1
  have NE : Hid (∀ k, (Value.slice a1 L.length p1).ownBlock = some k → w.heap.size + 1 < k ∧ k < w1.heap.size) := fun k hk => by have := ho1.lt k hk; omega
  have HO := hide (owns_base (base' := w.heap.size) ho1 fun k hk => by have := (ho1.lt k hk).1; omega)
  clear ho1
  obtain ⟨V1, hV1⟩ : ∃ V1, w1.alloc (.cells #[.int .i64 room, .slice a1 L.length p1] 26) = V1 := ⟨_, rfl⟩
  have hbV : Below w1.heap.size w1 V1 := by rw [← hV1]; exact (Below.refl _ _).alloc (Nat.le_refl _) _
  have H7 : Hid (RowIs V1 w1.heap.size 26 [.int .i64 room, .slice a1 L.length p1]) := by show RowIs _ _ _ _; rw [← hV1]; exact rowIs_new w1 _ _
  replace HRR := hide (HRR.out.new hbV); replace HBW := hide (bchain HBW.out hbV); replace HO := hide (owns_new HO.out hbV)
  have hz7 := H7.out.lt
  clear hbV hb1
  by_cases hlen : (20 : Int) < l.length
  · have HDD : Hid (D = (⟨#[]⟩, (room, L), false)) := by show _ = _; rw [← HD.out]; simp [encodedD, hok, okFs, show ¬ l.length ≤ 20 by omega]
    go_upto_region 5 with fail
    clear hV1
    have x0 := H7.out.cell (j := 0) rfl
    have x1 := H7.out.cell (j := 1) rfl
    have r0 := HRR.out.cell (j := 0) rfl
    have r1 := HRR.out.cell (j := 1) rfl
    have r2 := HRR.out.frozen 0
    have r3 := HRR.out.frozen 1
    have hne : ¬ w.heap.size + 1 = w1.heap.size := by omega
    go_wp2_with fail
    go_region_with (fail)
    all_goals (go_wp2_with fail)
    all_goals (refine bodyPost_ret (v := (.tuple #[.string ⟨#[]⟩, .agg #[.int .i64 room, .slice a1 L.length p1], .bool false])) (by simp [results, Try.results11, go_sem, *]) rfl ?_)
    all_goals (rw [HDD.out]; refine ⟨_, rfl, owns_apart (owns_apart (owns_kept HO.out (fun k hk _ => rfl)) _ _ (fun e => by have := (NE.out _ e).1; simp at this)) _ _ (fun e => by have := (NE.out _ e).1; simp at this), Below.setCell (Below.setCell HBW.out.drew (show w.heap.size ≤ w.heap.size + 1 by omega) _) (show w.heap.size ≤ w.heap.size + 1 by omega) _⟩)
  cases hall : l.all okF
  · have HDD : Hid (D = (⟨#[]⟩, (room, L), false)) := by show _ = _; rw [← HD.out]; simp [encodedD, hok, okFs, hall]
    go_wp2_with fail
    clear hV1
    refine (implRights l _ _ (HRL.out.new HBW.out) HFL.out).mono ?_; rw [hall]; rintro x w2 ⟨rfl, hb2⟩
    replace HRR := hide (HRR.out.new hb2); replace HBW := hide (bchain HBW.out hb2); replace HO := hide (owns_new HO.out hb2); replace H7 := hide (H7.out.new hb2)
    clear hb2
    have x0 := H7.out.cell (j := 0) rfl
    have x1 := H7.out.cell (j := 1) rfl
    have r0 := HRR.out.cell (j := 0) rfl
    have r1 := HRR.out.cell (j := 1) rfl
    have r2 := HRR.out.frozen 0
    have r3 := HRR.out.frozen 1
    have hne : ¬ w.heap.size + 1 = w1.heap.size := by omega
    go_wp2_with fail
    go_region_with (fail)
    all_goals (go_wp2_with fail)
    all_goals (refine bodyPost_ret (v := (.tuple #[.string ⟨#[]⟩, .agg #[.int .i64 room, .slice a1 L.length p1], .bool false])) (by simp [results, Try.results11, go_sem, *]) rfl ?_)
    all_goals (rw [HDD.out]; refine ⟨_, rfl, owns_apart (owns_apart (owns_kept HO.out (fun k hk _ => rfl)) _ _ (fun e => by have := (NE.out _ e).1; simp at this)) _ _ (fun e => by have := (NE.out _ e).1; simp at this), Below.setCell (Below.setCell HBW.out.drew (show w.heap.size ≤ w.heap.size + 1 by omega) _) (show w.heap.size ≤ w.heap.size + 1 by omega) _⟩)
  have hokl : ∀ f ∈ l, okF f = true := List.all_eq_true.1 hall
  have HDD : Hid (D = ((encL room L l).1, (room, (encL room L l).2), true)) := by show _ = _; rw [← HD.out]; simp [encodedD, hok, okFs, hall, show l.length ≤ 20 by omega]
  have HOK := hide hokl
  clear hokl
  go_wp2_with fail
  clear hV1
  refine (implRights l _ _ (HRL.out.new HBW.out) HFL.out).mono ?_; rw [hall]; rintro x w2 ⟨rfl, hb2⟩
  replace HRR := hide (HRR.out.new hb2); replace HBW := hide (bchain HBW.out hb2); replace HO := hide (owns_new HO.out hb2); replace H7 := hide (H7.out.new hb2)
  have hz2 := hb2.size
  clear hb2
  go_upto_region 6 with fail
  go_cut [9, 10] (fun s p wx => s = .string ⟨#[]⟩ ∧ p = .pointer (some ⟨w2.heap.size, 0, none⟩) ∧ RowIs wx w2.heap.size 26 [.int .i64 room, .slice a1 L.length p1] ∧ Below w2.heap.size w2 wx)
  case first =>
    have x0 := H7.out.cell (j := 0) rfl
    have x1 := H7.out.cell (j := 1) rfl
    have hl7 := H7.out.lt
    go_wp2_with fail
    go_region_with (fail)
    all_goals (go_wp2_with fail)
    all_goals go_meet
    all_goals (exact ⟨rfl, rfl, (rowIs_new w2 _ _).kept rfl, Below.drew ((Below.refl _ _).alloc (Nat.le_refl _) _)⟩)
  case rest =>
    obtain ⟨rfl, rfl, hx3, hb3⟩ := hcut
    obtain ⟨w3, rfl⟩ : ∃ v : World, v = wc := ⟨_, rfl⟩
    replace HRR := hide (HRR.out.new hb3); replace HBW := hide (bchain HBW.out hb3); replace HO := hide (owns_new HO.out hb3)
    have HX := hide hx3
    have hz3 := HX.out.lt
    clear hb3 hx3 H7
    have NE2 : Hid (∀ k, (Value.slice a1 L.length p1).ownBlock = some k → k ≠ w2.heap.size ∧ k ≠ w.heap.size + 1) := fun k hk => by have := NE.out k hk; omega
    clear NE
    go_wp2_with fail
    go_loopw [9, 35] (fun s i wr => ∃ (k : Nat) (a : Option Addr) (p : Nat), i = .int .i64 k ∧ k ≤ l.length ∧ s = .string (encL room L (l.take k)).1 ∧ RowIs wr w2.heap.size 26 [.int .i64 room, .slice a (encL room L (l.take k)).2.length p] ∧ wr.ownsRow w.heap.size 46 2 (.slice a (encL room L (l.take k)).2.length p) (encL room L (l.take k)).2.length (fv (encL room L (l.take k)).2) ∧ (∀ q, (Value.slice a (encL room L (l.take k)).2.length p).ownBlock = some q → q ≠ w2.heap.size ∧ q ≠ w.heap.size + 1) ∧ RowIs wr (w.heap.size + 1) 26 [.int .i64 0, .slice none 0 0] ∧ Below w.heap.size w wr) (fun _ i _ => l.length - (intOf i).toNat)
    case atStart => exact ⟨0, a1, p1, rfl, Nat.zero_le _, rfl, HX.out, HO.out, NE2.out, HRR.out, HBW.out⟩
    case round =>
      clear HX HO NE2 HRR HBW
      obtain ⟨k, a, p, rfl, hk, rfl, hx, ho, hne, hrr, hbw⟩ := hrel
      have hEz := encL_size (room := room) (l.take k) L
      rw [List.length_take, Nat.min_eq_left hk] at hEz
      replace hEz : (encL room L (l.take k)).1.size ≤ 10000 := by omega
      have HOKN := hide (encL_ok (room := room) (l.take k) hok fun f hf => HOK.out f (List.mem_of_mem_take hf))
      by_cases hlt : k < l.length
      · have HTK := hide (encL_take (room := room) L l k hlt)
        have hfk := HOK.out _ (List.getElem_mem hlt)
        obtain ⟨b, o, rfl, hbb, hc⟩ := H3.out (by omega)
        obtain ⟨s0, s1⟩ := fv_get l k hlt
        have c0 : wr.cell? ⟨b, o + k * 2, none⟩ = some (.string l[k].n) := by rw [hbw.cell (p := ⟨b, o + k * 2, none⟩) hbb]; exact hc _ _ s0
        have c1 : wr.cell? ⟨b, o + k * 2 + 1, none⟩ = some (.string l[k].v) := by rw [hbw.cell (p := ⟨b, o + k * 2 + 1, none⟩) hbb]; exact hc _ _ s1
        generalize l[k] = f at *
        obtain ⟨E, hE⟩ : ∃ E, encL room L (l.take k) = E := ⟨_, rfl⟩
        rw [hE] at HTK hEz HOKN hx ho hne ⊢
        obtain ⟨es, N⟩ := E
        simp only at HTK hEz HOKN hx ho hne ⊢
        have hFz := encF_size (room := room) (L := N) f
        obtain ⟨F, hF⟩ : ∃ F, encF room N f = F := ⟨_, rfl⟩
        have x0 := hx.cell (j := 0) rfl
        have x1 := hx.cell (j := 1) rfl
        have HX := hide hx; have HO := hide ho; have HNE := hide hne; have HRR := hide hrr; have HBW := hide hbw
        have hlx := hx.lt
        have hsw := hbw.size
        clear hc s0 s1 hx ho hne hrr hbw hE
        go_wp2_with fail
        obtain ⟨W, hW⟩ : ∃ W, wr.alloc (.cells #[.string f.n, .string f.v] 46) = W := ⟨_, rfl⟩
        have hbW : Below wr.heap.size wr W := by rw [← hW]; exact (Below.refl _ _).alloc (Nat.le_refl _) _
        rw [hW]
        clear hW c0 c1 x0 x1
        replace HX := hide (HX.out.new hbW); replace HRR := hide (HRR.out.new hbW); replace HBW := hide (bchain HBW.out hbW); replace HO := hide (owns_new HO.out hbW)
        have hsW := hbW.size
        clear hbW
        refine (implPart N room _ f w.heap.size _ HO.out (by omega) HOKN.out hfk).mono ?_; rw [hF] at hFz HTK ⊢; rintro x w5 ⟨v5, rfl, ho5, hfr5, hb5⟩
        obtain ⟨F1, F2⟩ := F
        simp only at hFz HTK ho5 hfr5 ⊢
        obtain ⟨a5, p5, rfl, _⟩ := owns_form ho5
        have hlW := HX.out.lt
        have hlW2 := HRR.out.lt
        have HNE5 : Hid (∀ q, (Value.slice a5 F2.length p5).ownBlock = some q → q ≠ w2.heap.size ∧ q ≠ w.heap.size + 1) := fun q hq => by
          rcases hfr5 q hq with h | h
          · exact HNE.out q h
          · omega
        replace HX := hide (HX.out.new hb5); replace HRR := hide (HRR.out.new hb5); replace HBW := hide (bchain HBW.out hb5)
        have hs5 := hb5.size
        replace HO := hide ho5
        clear ho5 hfr5 hb5 HNE hF
        obtain ⟨W2, hW2⟩ : ∃ W2, w5.alloc (.cells #[.int .i64 room, .slice a5 F2.length p5] 26) = W2 := ⟨_, rfl⟩
        have hbW2 : Below w5.heap.size w5 W2 := by rw [← hW2]; exact (Below.refl _ _).alloc (Nat.le_refl _) _
        have h14 : RowIs W2 w5.heap.size 26 [.int .i64 room, .slice a5 F2.length p5] := by rw [← hW2]; exact rowIs_new w5 _ _
        replace HX := hide (HX.out.new hbW2); replace HRR := hide (HRR.out.new hbW2); replace HBW := hide (bchain HBW.out hbW2); replace HO := hide (owns_new HO.out hbW2)
        have y0 := h14.cell (j := 0) rfl
        have y1 := h14.cell (j := 1) rfl
        have x0 := HX.out.cell (j := 0) rfl
        have x1 := HX.out.cell (j := 1) rfl
        have x2 := HX.out.frozen 0
        have x3 := HX.out.frozen 1
        clear hbW2 h14
        go_upto_region 11 with fail
        clear hW2
        have hn12 : ¬ w2.heap.size = w.heap.size + 1 := by omega
        have hcz : es.size + F1.size ≤ 9223372036854775807 := by omega
        go_wp2_with fail
        go_region_with (fail)
        all_goals (go_wp2_with fail)
        all_goals go_roundw
        all_goals (first | (simp [intOf]; omega) | (refine ⟨k + 1, a5, p5, by go_num, by omega, ?_⟩; rw [HTK.out.1, HTK.out.2]; exact ⟨rfl, ((HX.out.set 0 _).set 1 _).kept rfl, owns_kept (owns_apart (owns_apart HO.out _ _ (fun e => (HNE5.out _ e).1 rfl)) _ _ (fun e => (HNE5.out _ e).1 rfl)) (fun _ _ _ => rfl), HNE5.out, ((HRR.out.far _ _ (by simpa using hn12)).far _ _ (by simpa using hn12)).kept rfl, Below.drew (Below.setCell (Below.setCell HBW.out (show w.heap.size ≤ w2.heap.size by omega) _) (show w.heap.size ≤ w2.heap.size by omega) _)⟩))
      · obtain rfl : k = l.length := by omega
        rw [List.take_length] at hx ho hne hEz HOKN ⊢
        obtain ⟨E, hE⟩ : ∃ E, encL room L l = E := ⟨_, rfl⟩
        have HD4 := HDD.out
        rw [hE] at hx ho hne hEz HOKN HD4 ⊢
        obtain ⟨es, N⟩ := E
        simp only at hx ho hne hEz HOKN HD4 ⊢
        have HD5 := hide HD4
        clear HD4 HDD hE
        have x0 := hx.cell (j := 0) rfl
        have x1 := hx.cell (j := 1) rfl
        have r0 := hrr.cell (j := 0) rfl
        have r1 := hrr.cell (j := 1) rfl
        have r2 := hrr.frozen 0
        have r3 := hrr.frozen 1
        have HX := hide hx; have HO := hide ho; have HNE := hide hne; have HRR := hide hrr; have HBW := hide hbw
        have hnx : ¬ w.heap.size + 1 = w2.heap.size := by omega
        clear hx ho hne hrr hbw
        go_wp2_with fail
        go_region_with (fail)
        all_goals (go_wp2_with fail)
        all_goals (refine bodyPost_ret (v := (.tuple #[.string es, .agg #[.int .i64 room, .slice a N.length p], .bool true])) (by simp [results, Try.results11, go_sem, *]) rfl ?_)
        all_goals (rw [HD5.out]; refine ⟨_, rfl, owns_apart (owns_apart (owns_kept HO.out (fun k hk _ => rfl)) _ _ (fun e => (HNE.out _ e).2 rfl)) _ _ (fun e => (HNE.out _ e).2 rfl), Below.setCell (Below.setCell HBW.out.drew (show w.heap.size ≤ w.heap.size + 1 by omega) _) (show w.heap.size ≤ w.heap.size + 1 by omega) _⟩)
end Go.Proofs.Ytejmnkabmajebaa
