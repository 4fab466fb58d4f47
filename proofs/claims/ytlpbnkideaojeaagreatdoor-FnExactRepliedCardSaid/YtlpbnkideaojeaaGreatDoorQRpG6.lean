/- Lemmas. -/
import Derived.Test.YtlpbnkideaojeaaGreatDoorQRpG5
import Derived.Lib.AppendIntMem
import Derived.Shelf.Strconv.Itoa4
import Derived.Shelf.Strconv.ErrVarParseInt
import Derived.Shelf.Strings.SplitShaped
namespace Go.Proofs.YtlpbnkideaojeaaGreatDoor
open Go.RowKit
set_option maxRecDepth 100000
set_option linter.unusedSimpArgs false
set_option linter.unusedVariables false
structure bZ where
 lim : Int
 top : Int
 es : List aF
def nQ (d : bZ) : Int := nR d.es
theorem UA (d : bZ) : 0 ≤ nQ d := by unfold nQ; have := UC d.es; omega
set_option maxHeartbeats 1000000 in
theorem UD (d : bZ) (lT : Value) (w : World) (oM : aT bE w lT d.es) (hs : nQ d ≤ 1048576) :
  Calls Tryz.prog 20 #[.agg #[.int .i64 d.lim, .int .i64 d.top, lT]] w fun x w' => ∃ Mg : Value, x = .returned (.agg #[.int .i64 d.lim, .int .i64 d.top, Mg]) ∧ aD bE w' w.heap.size w'.heap.size Mg d.es ∧ Below w.heap.size w w' := by
 have Aa := hide oM
 obtain ⟨Mh, Mi, rfl, _⟩ := oM.form
 clear oM
 have hz : nR d.es ≤ 1048576 := by unfold nQ at hs; omega
 go_enter Tryz.func20, Tryz.ntmps20
 go_wp2_with fail
 refine (UE d.es _ _ ?c1 hz).mono ?_
 case c1 => exact Aa.out.new (by repeat' (first | (with_reducible exact Below.refl _ _) | (with_reducible refine Below.drew ?_) | (with_reducible refine ay _ ?_) | (with_reducible refine aA ?_ _) | (refine ah ?_ (by with_reducible assumption)) | (with_reducible refine Below.setCell ?_ ?_ _) | go_size))
 rintro x w1 ⟨v1, rfl, ho, hb1⟩; have hz1 := hb1.size; (try simp at hz1); have hc1 := fun o => hb1.cell (p := ⟨w.heap.size, o, none⟩) (by first | (simp; done) | (simp; omega) | omega); have hf1 := fun o => hb1.frozen (p := ⟨w.heap.size, o, none⟩) (by first | (simp; done) | (simp; omega) | omega); have uw := fun o => hb1.cell (p := ⟨w.heap.size + 1, o, none⟩) (by first | (simp; done) | (simp; omega) | omega); have uy := fun o => hb1.frozen (p := ⟨w.heap.size + 1, o, none⟩) (by first | (simp; done) | (simp; omega) | omega); have hcm1 := fun o => hb1.cell (p := ⟨w.heap.size + 2, o, none⟩) (by first | (simp; done) | (simp; omega) | omega); have UF := fun o => hb1.frozen (p := ⟨w.heap.size + 2, o, none⟩) (by first | (simp; done) | (simp; omega) | omega)
 have hbw : Below w.heap.size w w1 := (by repeat' (first | (with_reducible exact Below.refl _ _) | (with_reducible refine Below.drew ?_) | (with_reducible refine ay _ ?_) | (with_reducible refine aA ?_ _) | (refine ah ?_ (by with_reducible assumption)) | (with_reducible refine Below.setCell ?_ ?_ _) | go_size))
 obtain ⟨dN, dO, rfl, _⟩ := ho.form
 have HO := hide ho
 clear ho
 go_wp2_with fail
 refine bodyPost_ret (v := .agg #[.int .i64 d.lim, .int .i64 d.top, .slice dN d.es.length dO]) (by simp [results, Tryz.results20, go_sem, *]) rfl ?_
 refine ⟨_, rfl, ?_, (by repeat' (first | (with_reducible exact Below.refl _ _) | (with_reducible refine Below.drew ?_) | (with_reducible refine ay _ ?_) | (with_reducible refine aA ?_ _) | (refine ah ?_ (by with_reducible assumption)) | (with_reducible refine Below.setCell ?_ ?_ _) | go_size))⟩
 refine (aD.wide (lo' := w.heap.size) ?_ (Nat.le_refl _) (Nat.le_refl _))
 have ho := HO.out.wide (lo' := w.heap.size + 3) (by simp) (Nat.le_refl _)
 have hz1 := HO.out
 refine aD.top (hi := w1.heap.size) ?_
 refine aD.wide (lo := w.heap.size + 3) ?_ (by omega) (Nat.le_refl _)
 (repeat' (first | (with_reducible exact ho) | (with_reducible refine aD.far ?_ _ _ ?_) | (simp; done) | (simp; omega)))
set_option maxHeartbeats 1000000 in
theorem UG (d : bZ) (lT : Value) (Mj : Value) (w : World) (oM : aT bE w lT d.es) (Gt : aT bE w Mj d.es) :
  Calls Tryz.prog 27 #[.agg #[.int .i64 d.lim, .int .i64 d.top, lT], .agg #[.int .i64 d.lim, .int .i64 d.top, Mj]] w fun x w' => x = .returned (.bool true) ∧ Below w.heap.size w w' := by
 have Aa := hide oM
 obtain ⟨Mh, Mi, rfl, _⟩ := oM.form
 clear oM
 have UH := hide Gt
 obtain ⟨abn, abo, rfl, _⟩ := Gt.form
 clear Gt
 go_enter Tryz.func27, Tryz.ntmps27
 go_wp2_with fail
 refine (UJ d.es _ _ _ ?c1 ?c2).mono ?_
 case c1 => exact Aa.out.new (by repeat' (first | (with_reducible exact Below.refl _ _) | (with_reducible refine Below.drew ?_) | (with_reducible refine ay _ ?_) | (with_reducible refine aA ?_ _) | (refine ah ?_ (by with_reducible assumption)) | (with_reducible refine Below.setCell ?_ ?_ _) | go_size))
 case c2 => exact UH.out.new (by repeat' (first | (with_reducible exact Below.refl _ _) | (with_reducible refine Below.drew ?_) | (with_reducible refine ay _ ?_) | (with_reducible refine aA ?_ _) | (refine ah ?_ (by with_reducible assumption)) | (with_reducible refine Below.setCell ?_ ?_ _) | go_size))
 rintro x w1 ⟨rfl, hb1⟩; have hz1 := hb1.size; (try simp at hz1); have hc1 := fun o => hb1.cell (p := ⟨w.heap.size, o, none⟩) (by first | (simp; done) | (simp; omega) | omega); have hf1 := fun o => hb1.frozen (p := ⟨w.heap.size, o, none⟩) (by first | (simp; done) | (simp; omega) | omega); have uw := fun o => hb1.cell (p := ⟨w.heap.size + 1, o, none⟩) (by first | (simp; done) | (simp; omega) | omega); have uy := fun o => hb1.frozen (p := ⟨w.heap.size + 1, o, none⟩) (by first | (simp; done) | (simp; omega) | omega)
 go_wp2_with fail
 go_ret
 exact ⟨rfl, (by repeat' (first | (with_reducible exact Below.refl _ _) | (with_reducible refine Below.drew ?_) | (with_reducible refine ay _ ?_) | (with_reducible refine aA ?_ _) | (refine ah ?_ (by with_reducible assumption)) | (with_reducible refine Below.setCell ?_ ?_ _) | go_size))⟩
set_option maxHeartbeats 1000000 in
theorem UK (d : bZ) (lT : Value) (left : Int) (w : World) (oM : aT bE w lT d.es) (h0 : 0 ≤ left) (h1 : left ≤ 1048576) :
  Calls Tryz.prog 14 #[.agg #[.int .i64 d.lim, .int .i64 d.top, lT], .int .i64 left] w fun x w' => (x = .returned (.int .i64 (-1)) ∨ (x = .returned (.int .i64 (left - nQ d)) ∧ 0 ≤ left - nQ d)) ∧ Below w.heap.size w w' := by
 have Aa := hide oM
 obtain ⟨Mh, Mi, rfl, _⟩ := oM.form
 clear oM
 unfold nQ
 obtain ⟨R, hR⟩ : ∃ R, left - nR d.es = R := ⟨_, rfl⟩
 rw [hR]
 have hcall := fun v w h => UL d.es v left w h h0 h1
 rw [hR] at hcall
 clear hR
 go_enter Tryz.func14, Tryz.ntmps14
 go_wp2_with fail
 refine (hcall _ _ ?c1).mono ?_
 case c1 => exact Aa.out.new (by repeat' (first | (with_reducible exact Below.refl _ _) | (with_reducible refine Below.drew ?_) | (with_reducible refine ay _ ?_) | (with_reducible refine aA ?_ _) | (refine ah ?_ (by with_reducible assumption)) | (with_reducible refine Below.setCell ?_ ?_ _) | go_size))
 rintro x w1 ⟨rfl | ⟨rfl, hp⟩, hb1⟩
 ·go_wp2_with fail
  go_ret
  exact ⟨.inl rfl, (by repeat' (first | (with_reducible exact Below.refl _ _) | (with_reducible refine Below.drew ?_) | (with_reducible refine ay _ ?_) | (with_reducible refine aA ?_ _) | (refine ah ?_ (by with_reducible assumption)) | (with_reducible refine Below.setCell ?_ ?_ _) | go_size))⟩
 ·have hp' : ¬ R < 0 := by omega
  go_wp2_with fail
  go_ret
  exact ⟨.inr ⟨rfl, hp⟩, (by repeat' (first | (with_reducible exact Below.refl _ _) | (with_reducible refine Below.drew ?_) | (with_reducible refine ay _ ?_) | (with_reducible refine aA ?_ _) | (refine ah ?_ (by with_reducible assumption)) | (with_reducible refine Below.setCell ?_ ?_ _) | go_size))⟩
set_option maxHeartbeats 1000000 in
theorem UM (d : bZ) (lT : Value) (k : Nat) (bs : List Nat) (w : World) (ho : aW bE w lT d.es bs) (hn : bs.Nodup) (hk1 : k + iW d.es ≤ 1000000000) :
  Calls Tryz.prog 31 #[.agg #[.int .i64 d.lim, .int .i64 d.top, lT], .int .i64 k] w fun x w' => x = .returned (.int .i64 ((k + iW d.es : Nat) : Int)) ∧ aW bE w' lT (rV d.es k) bs ∧ aG bs w w' := by
 obtain ⟨ad, cap, rfl, h1, h2⟩ := ho.rd.form
 have HO := hide ho
 clear ho
 obtain ⟨K, hK⟩ : ∃ K : Nat, K = k + iW d.es := ⟨_, rfl⟩
 rw [← hK]
 have HK := hide hK
 clear hK
 go_enter Tryz.func31, Tryz.ntmps31
 go_wp2_with fail
 have hbx : Below w.heap.size w (w.alloc (.cells #[.int .i64 d.lim, .int .i64 d.top, .slice ad d.es.length cap] 34)) := (Below.refl _ _).alloc (Nat.le_refl _) _
 refine (UN d.es k _ bs _ (HO.out.keep hbx.size (fun b hb => hbx.block b (HO.out.lt b hb))) hn hk1).mono ?_
 rw [← HK.out]
 rintro x w1 ⟨rfl, ho1, ht1⟩
 have wH := hide ho1
 have HT1 := hide ((aG.new (bs := bs) hbx).trans ht1)
 clear ho1 ht1
 go_wp2_with fail
 go_ret
 exact ⟨rfl, wH.out, HT1.out⟩
set_option maxHeartbeats 1000000 in
theorem UO (d : bZ) (lT : Value) (k : Nat) (w : World) (L : List aF) (hr : aT bE w lT (rV L k)) (hk1 : k + iW L ≤ 1000000000) :
  Calls Tryz.prog 35 #[.agg #[.int .i64 d.lim, .int .i64 d.top, lT], .int .i64 k] w fun x w' => x = .returned (.int .i64 ((k + iW L : Nat) : Int)) ∧ Below w.heap.size w w' := by
 obtain ⟨ad, cap, rfl, h1, h2⟩ := hr.form
 have HR := hide hr
 clear hr
 obtain ⟨K, hK⟩ : ∃ K : Nat, K = k + iW L := ⟨_, rfl⟩
 rw [← hK]
 have HK := hide hK
 clear hK
 go_enter Tryz.func35, Tryz.ntmps35
 go_wp2_with fail
 refine (UQ L k _ _ ?c1 hk1).mono ?_
 case c1 => exact HR.out.new (by repeat' (first | (with_reducible exact Below.refl _ _) | (with_reducible refine Below.drew ?_) | (with_reducible refine ay _ ?_) | (with_reducible refine aA ?_ _) | (refine ah ?_ (by with_reducible assumption)) | (with_reducible refine Below.setCell ?_ ?_ _) | go_size))
 rw [← HK.out]
 rintro x w1 ⟨rfl, hb1⟩
 go_wp2_with fail
 go_ret
 exact ⟨rfl, (by repeat' (first | (with_reducible exact Below.refl _ _) | (with_reducible refine Below.drew ?_) | (with_reducible refine ay _ ?_) | (with_reducible refine aA ?_ _) | (refine ah ?_ (by with_reducible assumption)) | (with_reducible refine Below.setCell ?_ ?_ _) | go_size))⟩
end Go.Proofs.YtlpbnkideaojeaaGreatDoor
namespace Go.Proofs.YtlpbnkideaojeaaGreatDoor
open Go.RowKit Go.Shelf
attribute [local go_sem] Oper.semAt_some
set_option linter.unusedSimpArgs false
set_option linter.unusedVariables false
def jl (n b h : Int) : Bool := rR n b && aQ h 0 255 && decide (h % pw b = 0)
def aY (n b h : Int) : ByteArray := if jl n b h = true then strOf (kY h (bytesOf n (pw b - 1))) else ⟨#[]⟩
theorem zV {n b h : Int} (k : jl n b h = true) : (0 ≤ n ∧ n ≤ 268435456 ∧ 1 ≤ b ∧ b ≤ 8) ∧ (0 ≤ h ∧ h ≤ 255) ∧ h % pw b = 0 ∧ h + (pw b - 1) ≤ 255 := by
 simp only [jl, Bool.and_eq_true] at k
 have k1 := Md k.1.1
 have k2 := jm k.1.2
 have k3 : h % pw b = 0 := of_decide_eq_true k.2
 have k4 := Mk k1.2.2.1 k1.2.2.2
 refine ⟨k1, k2, k3, ?_⟩
 rcases k4 with e | e | e | e | e | e | e | e <;> rw [e] at k3 ⊢ <;> omega
theorem UR : ∀ k : Fin 256, (bits .and .i64 (k.val : Int) 1 = (k.val : Int) % 2 ∧ bits .and .i64 (k.val : Int) 3 = (k.val : Int) % 4 ∧ bits .and .i64 (k.val : Int) 7 = (k.val : Int) % 8
  ∧ bits .and .i64 (k.val : Int) 15 = (k.val : Int) % 16) ∧ (bits .and .i64 (k.val : Int) 31 = (k.val : Int) % 32 ∧ bits .and .i64 (k.val : Int) 63 = (k.val : Int) % 64
  ∧ bits .and .i64 (k.val : Int) 127 = (k.val : Int) % 128 ∧ bits .and .i64 (k.val : Int) 255 = (k.val : Int) % 256) := by decide +kernel
theorem Ul {x b : Int} (h0 : 0 ≤ x) (h1 : x ≤ 255) (hb1 : 1 ≤ b) (Gu : b ≤ 8) : bits .and .i64 x (pw b - 1) = x % pw b := by
 obtain ⟨⟨a1, a2, a3, a4⟩, a5, a6, a7, a8⟩ := UR ⟨x.toNat, by omega⟩
 have e : ((x.toNat : Nat) : Int) = x := by omega
 simp only [e] at a1 a2 a3 a4 a5 a6 a7 a8
 rcases Gv hb1 Gu with rfl | rfl | rfl | rfl | rfl | rfl | rfl | rfl <;> simpa [pw] using (by assumption)
theorem Us {x h b : Int} (hx0 : 0 ≤ x) (hx1 : x < pw b) (h0 : 0 ≤ h) (h1 : h ≤ 255) (hm : h % pw b = 0) (hb1 : 1 ≤ b) (Gu : b ≤ 8) : bits .or .u8 x h = h + x := by
 have hp := (wE hb1 Gu).2
 rw [bits_join_low .u8 8 (by decide) (fun n h₀ h₁ => by rw [IntKind.wrap_u8]; omega) b.toNat x h hx0 hx1 (by omega) h0 hm (by omega)]
 omega
end Go.Proofs.YtlpbnkideaojeaaGreatDoor
namespace Go.Proofs.YtlpbnkideaojeaaGreatDoor
open Go.RowKit
set_option maxRecDepth 100000
set_option linter.unusedSimpArgs false
set_option linter.unusedVariables false
def zF : Fd := ⟨⟨#[]⟩, ⟨#[]⟩⟩
def cu (first : Nat) (L : List Fd) : List Fd := (List.range 112).map fun k => L.getD ((k + 112 - first) % 112) zF
theorem gX (first : Nat) (L : List Fd) : (cu first L).length = 112 := by simp [cu]
theorem uz (first : Nat) (L : List Fd) (k : Nat) (hk : k < (cu first L).length) : (cu first L)[k] = L.getD ((k + 112 - first) % 112) zF := by simp [cu]
theorem Gw {first : Nat} {L : List Fd} (hf : first < 112) (hL : L.length ≤ 112) (n : Nat) (hn : n < L.length) : (cu first L)[(first + n) % 112]'(by rw [gX]; omega) = L[n] := by
 rw [uz, show ((first + n) % 112 + 112 - first) % 112 = n by omega]
 simp [hn]
theorem UU {first : Nat} {L : List Fd} (f : Fd) (hf : first < 112) (hL : L.length < 112) : (cu first L).set ((first + L.length) % 112) f = cu first (L ++ [f]) := by
 refine List.ext_getElem (by simp [gX]) fun k h1 h2 => ?_
 have hk : k < 112 := by rw [gX] at h2; exact h2
 rw [List.getElem_set, uz, uz]
 split
 ·rename_i e
  rw [show (k + 112 - first) % 112 = L.length by omega]
  simp
 ·rename_i e
  have : (k + 112 - first) % 112 ≠ L.length := by omega
  generalize (k + 112 - first) % 112 = i at *
  simp only [List.getD_eq_getElem?_getD, List.getElem?_append]
  split
  ·rfl
  ·rw [List.getElem?_eq_none (by omega), List.getElem?_eq_none (by simp; omega)]
theorem UW {first : Nat} {L : List Fd} (f : Fd) (hf : first < 112) (hL : L.length < 112) : (cu first L).set ((first + 111) % 112) f = cu ((first + 111) % 112) (f :: L) := by
 refine List.ext_getElem (by simp [gX]) fun k h1 h2 => ?_
 have hk : k < 112 := by rw [gX] at h2; exact h2
 rw [List.getElem_set, uz, uz]
 split
 ·rename_i e
  rw [show (k + 112 - (first + 111) % 112) % 112 = 0 by omega]
  simp
 ·rename_i e
  have h0 : (k + 112 - (first + 111) % 112) % 112 = (k + 112 - first) % 112 + 1 ∨ ((k + 112 - first) % 112 = 111 ∧ (k + 112 - (first + 111) % 112) % 112 = 0) := by omega
  rcases h0 with h0 | ⟨h0, h3⟩
  ·rw [h0]; simp
  ·omega
theorem UY {first : Nat} {L : List Fd} (hf : first < 112) (h0 : 0 < L.length) (hL : L.length ≤ 112) : (cu first L).set ((first + (L.length - 1)) % 112) zF = cu first L.dropLast := by
 refine List.ext_getElem (by simp [gX]) fun k h1 h2 => ?_
 have hk : k < 112 := by rw [gX] at h2; exact h2
 rw [List.getElem_set, uz, uz]
 split
 ·rename_i e
  rw [show (k + 112 - first) % 112 = L.length - 1 by omega]
  simp [List.getD_eq_getElem?_getD, List.getElem?_dropLast]
 ·rename_i e
  have : (k + 112 - first) % 112 ≠ L.length - 1 := by omega
  generalize (k + 112 - first) % 112 = i at *
  simp only [List.getD_eq_getElem?_getD, List.getElem?_dropLast]
  split
  ·rfl
  ·rw [List.getElem?_eq_none (by omega)]
theorem UZ : okF zF = false := by decide
theorem U0 {L : List Fd} {j : Nat} (hL : L.length ≤ 112) (hok : ∀ f ∈ L, okF f = true) (h : cu 0 (L.take j) = cu 0 L) : L.take j = L := by
 by_cases hj : j < L.length
 ·have h1 := Gw (first := 0) (L := L) (by omega) hL j hj
  have h2 : (cu 0 (L.take j))[(0 + j) % 112]'(by rw [gX]; omega) = zF := by
   rw [uz, show ((0 + j) % 112 + 112 - 0) % 112 = j by omega, List.getD_eq_getElem?_getD, List.getElem?_eq_none (by simp; omega)]
   rfl
  have h3 : L[j] = zF := by rw [← h1, ← h2]; congr 1; exact h.symm
  have h4 := hok L[j] (List.getElem_mem hj)
  rw [h3, UZ] at h4
  cases h4
 ·exact List.take_of_length_le (by omega)
theorem U1 (room : Int) (L : List Fd) : ∃ j, shr room L = L.take j := by
 have : ∀ n (L : List Fd), ∃ j, ig room n L = L.take j := fun n => by
  induction n with
  | zero => intro L; exact ⟨L.length, by simp [ig]⟩
  | succ n ih =>
   intro L
   rw [ig]
   split
   ·obtain ⟨j, hj⟩ := ih L.dropLast
    refine ⟨min j (L.length - 1), ?_⟩
    rw [hj, List.dropLast_eq_take, List.take_take]
   ·exact ⟨L.length, by simp⟩
 exact this _ _
theorem U2 {room : Int} (h : 0 ≤ room) (L : List Fd) : aS (shr room L) ≤ room := by
 have : ∀ n (L : List Fd), L.length ≤ n → aS (ig room n L) ≤ room := fun n => by
  induction n with
  | zero =>
   intro L hL
   have : L = [] := List.length_eq_zero_iff.1 (by omega)
   subst this
   simpa [ig, aS] using h
  | succ n ih =>
   intro L hL
   rw [ig]
   split
   ·exact ih _ (by rw [List.length_dropLast]; omega)
   ·omega
 exact this _ _ (Nat.le_refl _)
theorem U4 {room : Int} {L : List Fd} (h : 0 ≤ room) (hL : L.length ≤ 112) (hok : ∀ f ∈ L, okF f = true) : (cu 0 (shr room L) = cu 0 L) ↔ aS L ≤ room := by
 constructor
 ·intro e
  obtain ⟨j, hj⟩ := U1 room L
  rw [hj] at e
  have h1 := U0 hL hok e
  have h2 := U2 h L
  rw [hj, h1] at h2
  exact h2
 ·intro e
  rw [zq (by omega)]
def rC (sl : List Fd) (first count g : Int) : List Value := fv sl ++ [.int .i64 first, .int .i64 count, .int .i64 g]
theorem Du {sl : List Fd} (h : sl.length = 112) (f c g : Int) : (rC sl f c g).length = 227 := by simp [rC, gY, h]
theorem wI (sl : List Fd) (f c g : Int) : ∀ u ∈ rC sl f c g, u.oneCell' = true := by
 intro u hu
 rcases List.mem_append.1 hu with h | h
 ·exact nV sl u h
 ·simp only [List.mem_cons, List.not_mem_nil, or_false] at h
  rcases h with rfl | rfl | rfl <;> rfl
theorem rT {sl : List Fd} (h : sl.length = 112) (f c g : Int) (k : Nat) (hk : k < 112) : (rC sl f c g)[k * 2]? = some (.string (sl[k]'(by omega)).n) ∧ (rC sl f c g)[k * 2 + 1]? = some (.string (sl[k]'(by omega)).v) := by
 have := kK sl k (by omega)
 unfold rC
 rw [List.getElem?_append_left (by rw [gY]; omega), List.getElem?_append_left (by rw [gY]; omega)]
 exact this
theorem ku {sl : List Fd} (h : sl.length = 112) (f c g : Int) : (rC sl f c g)[224]? = some (.int .i64 f) ∧ (rC sl f c g)[225]? = some (.int .i64 c) ∧ (rC sl f c g)[226]? = some (.int .i64 g) := by
 unfold rC
 rw [List.getElem?_append_right (by rw [gY]; omega), List.getElem?_append_right (by rw [gY]; omega), List.getElem?_append_right (by rw [gY]; omega), gY, h]
 exact ⟨rfl, rfl, rfl⟩
theorem U6 {sl : List Fd} (h : sl.length = 112) (f c g f' : Int) : (rC sl f c g).set 224 (.int .i64 f') = rC sl f' c g := by
 unfold rC; rw [List.set_append_right _ _ (by rw [gY]; omega), gY, h]; rfl
theorem Gn {sl : List Fd} (h : sl.length = 112) (f c g c' : Int) : (rC sl f c g).set 225 (.int .i64 c') = rC sl f c' g := by
 unfold rC; rw [List.set_append_right _ _ (by rw [gY]; omega), gY, h]; rfl
theorem Gp {sl : List Fd} (h : sl.length = 112) (f c g g' : Int) : (rC sl f c g).set 226 (.int .i64 g') = rC sl f c g' := by
 unfold rC; rw [List.set_append_right _ _ (by rw [gY]; omega), gY, h]; rfl
theorem wG {sl : List Fd} (h : sl.length = 112) (f c g : Int) (k : Nat) (hk : k < 112) (x : Fd) : ((rC sl f c g).set (k * 2) (.string x.n)).set (k * 2 + 1) (.string x.v) = rC (sl.set k x) f c g := by
 unfold rC
 rw [List.set_append_left _ _ (by rw [gY]; omega), List.set_append_left _ _ (by rw [List.length_set, gY]; omega)]
 congr 1
 have h1 := Gx Fd.cs 2 Ab sl k (by omega) 0 (by omega) (.string x.n) ⟨x.n, (sl[k]'(by omega)).v⟩ rfl
 have h2 := Gx Fd.cs 2 Ab (sl.set k ⟨x.n, (sl[k]'(by omega)).v⟩) k (by simp; omega) 1 (by omega) (.string x.v) x (by simp [Fd.cs])
 unfold fv
 rw [show k * 2 = k * 2 + 0 from rfl, h1, show k * 2 + 0 + 1 = k * 2 + 1 from rfl, h2, List.set_set]
theorem Dr (L : List Fd) (k : Nat) (h : k < L.length) (ha : ∀ f ∈ L.take k, okF f = true) (hk : okF L[k] = true) : ∀ f ∈ L.take (k + 1), okF f = true := by
 rw [List.take_succ_eq_append_getElem h]
 intro f hf
 rcases List.mem_append.1 hf with h | h
 ·exact ha f h
 ·simp only [List.mem_singleton] at h; rw [h]; exact hk
theorem Ml {room : Int} {L : List Fd} (h : aQ room 0 1000 = false) : bI room L = false := by simp [bI, h]
theorem Mq {room : Int} {L : List Fd} (h : 111 < L.length) : bI room L = false := by
 cases he : bI room L
 ·rfl
 ·have := (mE he).2.2.2.2; omega
theorem Mr {room : Int} {L : List Fd} (k : Nat) (hk : k < L.length) (h : okF L[k] = false) : bI room L = false := by
 cases he : bI room L
 ·rfl
 ·have := (mE he).2.2.1 _ (List.getElem_mem hk); rw [h] at this; cases this
theorem Ms {room : Int} {L : List Fd} (h1 : aQ room 0 1000 = true) (h2 : ∀ f ∈ L, okF f = true) : bI room L = decide (aS L ≤ room) := by
 have : L.all okF = true := List.all_eq_true.2 h2
 simp [bI, h1, this]
set_option maxHeartbeats 1000000 in
theorem nD (L : List Fd) (room : Int) (v : Value) (w : World) (hr0 : Reads w v L.length 2 (fv L)) (hf : ∀ f ∈ L, f.fine) :
  Calls Tryz.prog 42 #[.agg #[.int .i64 room, v]] w fun x w' => x = .returned (.bool (bI room L)) ∧ Below w.heap.size w w' := by
 have HR := hide hr0; have HF := hide hf
 obtain ⟨hl, ad, cap, rfl, h1, h2, h3⟩ := hr0
 have H3 := hide h3
 clear h3 hf
 unfold maxLen at h2
 cases hrm : aQ room 0 1000
 ·rw [Ml hrm]
  go_enter Tryz.func42, Tryz.ntmps42
  go_wp2_with fail
  refine (jP _ _ _ _).mono ?_; rw [hrm]; rintro e w1 ⟨rfl, rfl⟩
  go_wp2_with fail
  go_ret
  exact ⟨rfl, (by repeat' (first | (with_reducible exact Below.refl _ _) | (with_reducible refine Below.drew ?_) | (with_reducible refine ay _ ?_) | (with_reducible refine aA ?_ _) | (refine ah ?_ (by with_reducible assumption)) | (with_reducible refine Below.setCell ?_ ?_ _) | go_size))⟩
 ·by_cases hlen : (200 : Int) < L.length
  ·rw [Mq (by omega)]
   go_enter Tryz.func42, Tryz.ntmps42
   go_wp2_with fail
   refine (jP _ _ _ _).mono ?_; rw [hrm]; rintro e w1 ⟨rfl, rfl⟩
   go_wp2_with fail
   go_ret
   exact ⟨rfl, (by repeat' (first | (with_reducible exact Below.refl _ _) | (with_reducible refine Below.drew ?_) | (with_reducible refine ay _ ?_) | (with_reducible refine aA ?_ _) | (refine ah ?_ (by with_reducible assumption)) | (with_reducible refine Below.setCell ?_ ?_ _) | go_size))⟩
  ·obtain ⟨R, hR⟩ : ∃ R, R = bI room L := ⟨_, rfl⟩
   rw [← hR]
   have HRR := hide hR
   clear hR
   go_enter Tryz.func42, Tryz.ntmps42
   go_wp2_with fail
   refine (jP _ _ _ _).mono ?_; rw [hrm]; rintro e w1 ⟨rfl, rfl⟩
   go_wp2_with fail
   generalize hV : w.alloc (.cells #[.int .i64 room, .slice ad L.length cap] 37) = V
   have aO : Below w.heap.size w V := by rw [← hV]; exact (Below.refl _ _).alloc (Nat.le_refl _) _
   have x0 : V.cell? ⟨w.heap.size, 0, none⟩ = some (.int .i64 room) := by rw [← hV]; simp
   have x1 : V.cell? ⟨w.heap.size, 1, none⟩ = some (.slice ad L.length cap) := by rw [← hV]; simp
   have jy : w.heap.size < V.heap.size := by rw [← hV]; simp
   clear hV
   go_loopw [3] (fun i wr => ∃ (k : Nat), i = .int .i64 k ∧ k ≤ L.length ∧ (∀ f ∈ L.take k, okF f = true) ∧ Below V.heap.size V wr) (fun i _ => L.length - (intOf i).toNat)
   case atStart => exact ⟨0, rfl, Nat.zero_le _, by simp, Below.refl _ _⟩
   case round =>
    obtain ⟨k, rfl, hk, hall, hb⟩ := hrel
    have y0 := (hb.cell (p := ⟨w.heap.size, 0, none⟩) jy).trans x0
    have y1 := (hb.cell (p := ⟨w.heap.size, 1, none⟩) jy).trans x1
    have jQ : w.heap.size < wr.heap.size := Nat.lt_of_lt_of_le jy hb.size
    clear x0 x1
    by_cases hlt : k < L.length
    ·obtain ⟨b, o, rfl, hbw, hc⟩ := H3.out (by omega)
     obtain ⟨s0, s1⟩ := kK L k hlt
     have fT := HF.out _ (List.getElem_mem hlt)
     have hbr := aO.trans (hb.mono aO.size)
     have HA := hide (Dr L k hlt hall)
     have HB := hide (Mr (room := room) k hlt)
     obtain ⟨f, bK⟩ : ∃ f, f = L[k] := ⟨_, rfl⟩
     rw [← bK] at s0 s1 fT HA HB
     have c0 : wr.cell? ⟨b, o + k * 2, none⟩ = some (.string f.n) := by rw [hbr.cell (p := ⟨b, o + k * 2, none⟩) hbw]; exact hc _ _ s0
     have c1 : wr.cell? ⟨b, o + k * 2 + 1, none⟩ = some (.string f.v) := by rw [hbr.cell (p := ⟨b, o + k * 2 + 1, none⟩) hbw]; exact hc _ _ s1
     clear hc s0 s1 bK hall hbr
     cases hok : okF f
     ·have jO := HRR.out.trans (HB.out hok)
      subst jO
      clear HB HRR HA
      go_wp2_with fail
      refine (yw f _ fT).mono ?_; rw [hok]; rintro x w1 ⟨rfl, hb1⟩
      go_wp2_with fail
      go_ret
      exact ⟨rfl, (aO.trans (hb.mono aO.size)).trans (hb1.mono (by have := hb.size; have := aO.size; omega))⟩
     ·go_wp2_with fail
      refine (yw f _ fT).mono ?_; rw [hok]; rintro x w1 ⟨rfl, hb1⟩
      have hy' := (hb1.cell (p := ⟨w.heap.size, 1, none⟩) jQ).trans y1
      go_wp2_with fail
      exact ⟨⟨k + 1, by go_num, by omega, HA.out hok, ah hb hb1⟩, by simp [intOf]; omega⟩
    ·obtain rfl : k = L.length := by omega
     rw [List.take_length] at hall
     have jO := HRR.out.trans (Ms hrm hall)
     subst jO
     clear HRR hall H3
     have HR' := hide (HR.out.new (aO.trans (hb.mono aO.size)))
     have hsl := Nat.le_trans aO.size hb.size
     go_wp2_with fail
     have q0 : ∀ y : Later wr, y.w.cell? ⟨w.heap.size, 0, none⟩ = some (.int .i64 room) := fun y => (y.b.cell (p := ⟨w.heap.size, 0, none⟩) jQ).trans y0
     have q1 : ∀ y : Later wr, y.w.cell? ⟨w.heap.size, 1, none⟩ = some (.slice ad L.length cap) := fun y => (y.b.cell (p := ⟨w.heap.size, 1, none⟩) jQ).trans y1
     have hne : Nonempty (Later wr) := ⟨⟨wr, Below.refl _ _⟩⟩; refine eH (by kernel_rfl) (by kernel_rfl) ?_
     repeat (go_big_quiet_step (fail))
     go_big_quiet_want; go_big_quiet_op; refine ⟨.int .i64 (aS L), fun y => gW (x := y) ((fun _ => Mt L _ y.w (HR'.out.new y.b) HF.out (by omega)) y.w), ?_⟩; go_big_quiet_on
     repeat (go_big_quiet_step (fail))
     refine wpQuiet_nil ?_; intro _ hw'; obtain ⟨y, hw''⟩ := hw'; subst hw''; have hby := y.b
     go_wp2_with fail
     go_ret
     exact ⟨rfl, (aO.trans (hb.mono aO.size)).trans (hby.mono hsl)⟩
theorem U7 {w w' : World} {n : String} {cs : Array Value} (hb : Below w.heap.size w w') (h : w.var? Tryz.prog n = some cs) : w'.var? Tryz.prog n = some cs := by
 unfold World.var? at h ⊢
 cases hg : Tryz.prog.globalNamed n with
 | none => simp [hg] at h
 | some g =>
  simp only [hg, Option.bind_some] at h ⊢
  have hlt : g < w.heap.size := by
   rcases Nat.lt_or_ge g w.heap.size with h' | h'
   ·exact h'
   ·simp [Array.getElem?_eq_none h'] at h
  rw [hb.block g hlt]
  exact h
def qU (w : World) : Prop := Lib.TabIs Tryz.prog w "internal/strconv.uint64pow10" .u64 Lib.pow10Tab
theorem qU.new {w w' : World} (h : qU w) (hb : Below w.heap.size w w') : qU w' := U7 hb h
theorem KQ (n : Nat) (w : World) (hn : n ≤ 9223372036854775807) (ht : qU w) : Calls Tryz.prog 62 #[.int .i64 n, .int .i64 10] w fun e w' => e = .returned (.string (strOf (iK n))) ∧ Below w.heap.size w w' := by
 refine (Any.strconv_FormatInt_10 U8 (n : Int) (by omega) (by omega) w ht).mono ?_
 rintro e w' ⟨rfl, k, os, rfl⟩
 exact ⟨by rw [Va], Lib.below_grow _ w (Nat.le_refl _) k os⟩
end Go.Proofs.YtlpbnkideaojeaaGreatDoor
