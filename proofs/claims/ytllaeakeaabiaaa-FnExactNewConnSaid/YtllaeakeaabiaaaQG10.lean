/- Several small texts of one level, one behind the other. -/
import Derived.Test.YtllaeakeaabiaaaQG9
import Derived.Test.YtllaeakeaabiaaaQG2
import Derived.Handy
import Derived.Deep.RegionHeld3
import Derived.Deep.LoopGhost
import Derived.WalkMore
/- The signs of chapter 4 and their numbers: l4Sign, l4Byte and the place in the row of signs. -/
namespace Go.Proofs.Ytllaeakeaabiaaa
open Go.RowKit
set_option maxRecDepth 100000
set_option linter.unusedSimpArgs false
set_option linter.unusedVariables false

/-- The number of a sign; -1: it is none. -/
def sgn (b : Int) : Int := if 97 ≤ b ∧ b ≤ 122 then b - 97 else if b = 45 then 26 else if b = 46 then 27 else if b = 47 then 28 else if b = 58 then 29 else if b = 61 then 30 else -1
/-- The sign of a number. -/
def sch (n : Int) : Int := if n < 26 then 97 + n else if n = 26 then 45 else if n = 27 then 46 else if n = 28 then 47 else if n = 29 then 58 else 61
theorem sgn_range (b : Int) : -1 ≤ sgn b ∧ sgn b ≤ 30 := by unfold sgn; repeat' split <;> omega
theorem sch_range {n : Int} (h0 : 0 ≤ n) (h1 : n ≤ 30) : 0 ≤ sch n ∧ sch n ≤ 255 := by unfold sch; repeat' split <;> omega
theorem sgn_sch {n : Int} (h0 : 0 ≤ n) (h1 : n ≤ 30) : sgn (sch n) = n := by unfold sgn sch; repeat' split <;> omega
theorem sch_sgn {b : Int} (h : 0 ≤ sgn b) : sch (sgn b) = b := by
  unfold sgn at h ⊢
  unfold sch
  repeat' split at h
  all_goals (repeat' split) <;> omega
theorem sgn_letter {b : Int} (h : 97 ≤ b) (h2 : b ≤ 122) : sgn b = b - 97 := by simp [sgn, h, h2]

/-- The row of signs, as the program keeps it. -/
def signs : ByteArray := ⟨#[97, 98, 99, 100, 101, 102, 103, 104, 105, 106, 107, 108, 109, 110, 111, 112, 113, 114, 115, 116, 117, 118, 119, 120, 121, 122, 45, 46, 47, 58, 61]⟩
theorem ix_all : ∀ k : Fin 256, Lib.indexByte signs.data.toList (UInt8.ofNat k.val) = sgn (k.val : Int) := by decide +kernel
theorem ix_sgn {b : Int} (h0 : 0 ≤ b) (h1 : b ≤ 255) : Lib.indexByte signs.data.toList b.toNat.toUInt8 = sgn b := by
  obtain ⟨k, rfl⟩ := Int.eq_ofNat_of_zero_le h0
  exact ix_all ⟨k, by omega⟩
theorem signs_at : ∀ k : Fin 31, ((signs[k.val]'(by have := k.isLt; exact this)).toNat : Int) = sch (k.val : Int) := by decide +kernel
end Go.Proofs.Ytllaeakeaabiaaa
/- The program's registry, its small words: odd numbers, entries, which ones are kept, whether they rise, where one is. -/
namespace Go.Proofs.Ytllaeakeaabiaaa
open Go.RowKit
set_option maxRecDepth 100000
set_option linter.unusedSimpArgs false
set_option linter.unusedVariables false
def oddTo (x m : Int) : Bool := decide (1 ≤ x ∧ x ≤ m ∧ x % 2 = 1)
theorem implOdd (x m : Int) (w : World) : Calls Try.prog 76 #[.int .i64 x, .int .i64 m] w fun e w' => e = .returned (.bool (oddTo x m)) ∧ w' = w := by
  cases h : inB x 1 m
  · have hv : oddTo x m = false := by unfold oddTo; refine decide_eq_false fun c => ?_; exact inB_false h ⟨c.1, c.2.1⟩
    rw [hv]
    go_enter Try.func76, Try.ntmps76
    go_wp2_with fail
    refine (implWithin _ _ _ _).mono ?_; rw [h]; rintro e w1 ⟨rfl, hsame⟩; obtain rfl := hsame.symm; clear hsame
    go_wp2_with fail
    go_ret
    exact ⟨rfl, rfl⟩
  · obtain ⟨h0, h1⟩ := inB_true h
    have ht : x.tmod 2 = x % 2 := Int.tmod_eq_emod_of_nonneg (by omega)
    have hv : oddTo x m = decide (x % 2 = 1) := by unfold oddTo; congr 1; exact propext ⟨fun c => c.2.2, fun c => ⟨h0, h1, c⟩⟩
    rw [hv]
    go_enter Try.func76, Try.ntmps76
    go_wp2_with fail
    refine (implWithin _ _ _ _).mono ?_; rw [h]; rintro e w1 ⟨rfl, hsame⟩; obtain rfl := hsame.symm; clear hsame
    go_wp2_with fail
    go_ret
    exact ⟨by rfl, rfl⟩
theorem implId (x : Int) (w : World) : Calls Try.prog 76 #[.int .i64 x, .int .i64 100000] w fun e w' => e = .returned (.bool (idB x)) ∧ w' = w := implOdd x 100000 w
def liB (e : EntryD) : Bool := !decide (e.state = 4)
def rtB (e : EntryD) : Bool := idB e.id && inB e.state 1 4
theorem implELive (e : EntryD) (w : World) : Calls Try.prog 91 #[.agg #[.int .i64 e.id, .int .i64 e.state]] w fun x w' => x = .returned (.bool (liB e)) ∧ Below w.heap.size w w' := by
  by_cases h : e.state = 4
  · have hv : liB e = false := by unfold liB; simp [h]
    rw [hv, h]
    go_enter Try.func91, Try.ntmps91
    go_wp2_with fail
    go_ret
    exact ⟨rfl, (by repeat' (first | (with_reducible exact Below.refl _ _) | (with_reducible refine Below.drew ?_) | (with_reducible refine bo_drewN _ ?_) | (with_reducible refine bo_alloc ?_ _) | (refine bchain ?_ (by with_reducible assumption)) | (with_reducible refine Below.setCell ?_ ?_ _) | go_size))⟩
  · have hv : liB e = true := by unfold liB; simp [h]
    rw [hv]
    have h4 : (e.state != 4) = true := by simpa using h
    clear h hv
    go_enter Try.func91, Try.ntmps91
    go_wp2_with fail
    go_ret
    exact ⟨rfl, (by repeat' (first | (with_reducible exact Below.refl _ _) | (with_reducible refine Below.drew ?_) | (with_reducible refine bo_drewN _ ?_) | (with_reducible refine bo_alloc ?_ _) | (refine bchain ?_ (by with_reducible assumption)) | (with_reducible refine Below.setCell ?_ ?_ _) | go_size))⟩
theorem implERight (e : EntryD) (w : World) : Calls Try.prog 79 #[.agg #[.int .i64 e.id, .int .i64 e.state]] w fun x w' => x = .returned (.bool (rtB e)) ∧ Below w.heap.size w w' := by
  cases h : idB e.id
  · have hv : rtB e = false := by unfold rtB; rw [h]; rfl
    rw [hv]
    go_enter Try.func79, Try.ntmps79
    go_wp2_with fail
    refine (implId _ _).mono ?_; rw [h]; rintro e w1 ⟨rfl, hsame⟩; obtain rfl := hsame.symm; clear hsame
    go_wp2_with fail
    go_ret
    exact ⟨rfl, (by repeat' (first | (with_reducible exact Below.refl _ _) | (with_reducible refine Below.drew ?_) | (with_reducible refine bo_drewN _ ?_) | (with_reducible refine bo_alloc ?_ _) | (refine bchain ?_ (by with_reducible assumption)) | (with_reducible refine Below.setCell ?_ ?_ _) | go_size))⟩
  · have hv : rtB e = inB e.state 1 4 := by unfold rtB; rw [h]; rfl
    rw [hv]
    go_enter Try.func79, Try.ntmps79
    go_wp2_with fail
    refine (implId _ _).mono ?_; rw [h]; rintro e w1 ⟨rfl, hsame⟩; obtain rfl := hsame.symm; clear hsame
    go_wp2_with fail
    refine (implWithin _ _ _ _).mono ?_; rintro e w1 ⟨rfl, hsame⟩; obtain rfl := hsame.symm; clear hsame
    go_wp2_with fail
    go_ret
    exact ⟨rfl, (by repeat' (first | (with_reducible exact Below.refl _ _) | (with_reducible refine Below.drew ?_) | (with_reducible refine bo_drewN _ ?_) | (with_reducible refine bo_alloc ?_ _) | (refine bchain ?_ (by with_reducible assumption)) | (with_reducible refine Below.setCell ?_ ?_ _) | go_size))⟩
theorem implReaches (l t : Int) (v : Value) (e : EntryD) (w : World) (hv : ∃ ad n cap, v = .slice ad n cap) : Calls Try.prog 80 #[.agg #[.int .i64 l, .int .i64 t, v], .agg #[.int .i64 e.id, .int .i64 e.state]] w fun x w' => x = .returned (.bool (decide (e.id ≤ t))) ∧ Below w.heap.size w w' := by
  obtain ⟨ad, n, cap, rfl⟩ := hv
  go_enter Try.func80, Try.ntmps80
  go_wp2_with fail
  go_ret
  exact ⟨rfl, (by repeat' (first | (with_reducible exact Below.refl _ _) | (with_reducible refine Below.drew ?_) | (with_reducible refine bo_drewN _ ?_) | (with_reducible refine bo_alloc ?_ _) | (refine bchain ?_ (by with_reducible assumption)) | (with_reducible refine Below.setCell ?_ ?_ _) | go_size))⟩
theorem implBelow (a b : EntryD) (w : World) : Calls Try.prog 82 #[.agg #[.int .i64 a.id, .int .i64 a.state], .agg #[.int .i64 b.id, .int .i64 b.state]] w fun x w' => x = .returned (.bool (decide (a.id < b.id))) ∧ Below w.heap.size w w' := by
  go_enter Try.func82, Try.ntmps82
  go_wp2_with fail
  go_ret
  exact ⟨rfl, (by repeat' (first | (with_reducible exact Below.refl _ _) | (with_reducible refine Below.drew ?_) | (with_reducible refine bo_drewN _ ?_) | (with_reducible refine bo_alloc ?_ _) | (refine bchain ?_ (by with_reducible assumption)) | (with_reducible refine Below.setCell ?_ ?_ _) | go_size))⟩
theorem implList (d : RegistryD) (v : Value) (w : World) (hr : RdR entryS w v d.es) : Calls Try.prog 77 #[.agg #[.int .i64 d.lim, .int .i64 d.top, v]] w fun x w' => x = .returned v ∧ Below w.heap.size w w' := by
  obtain ⟨ad, cap, rfl, h1, h2⟩ := hr.form
  go_enter Try.func77, Try.ntmps77
  go_wp2_with fail
  go_ret
  exact ⟨rfl, (by repeat' (first | (with_reducible exact Below.refl _ _) | (with_reducible refine Below.drew ?_) | (with_reducible refine bo_drewN _ ?_) | (with_reducible refine bo_alloc ?_ _) | (refine bchain ?_ (by with_reducible assumption)) | (with_reducible refine Below.setCell ?_ ?_ _) | go_size))⟩
/-- What may be wanted of an entry: that it is live, that it is right, that some Registry's Top reaches it. -/
abbrev Wn := Bool ⊕ (Int × Int × Option Addr × Nat × Nat)
def wnV : Wn → Value
  | .inl false => .func (.func 91) #[] #[]
  | .inl true => .func (.func 79) #[] #[]
  | .inr (l, t, a, n, c) => .func (.func 80) #[.agg #[.int .i64 l, .int .i64 t, .slice a n c]] #[]
def wnP : Wn → EntryD → Bool
  | .inl false, e => liB e
  | .inl true, e => rtB e
  | .inr (_, t, _), e => decide (e.id ≤ t)
theorem wn_one (ws : List Wn) : ∀ u ∈ ws.map wnV, u.oneCell' = true := by
  intro u hu
  obtain ⟨x, _, rfl⟩ := List.mem_map.1 hu
  rcases x with (_ | _) | ⟨l, t, a, n, c⟩ <;> rfl
def keep (ws : List Wn) (L : List EntryD) : List EntryD := L.filter fun e => ws.all fun x => wnP x e
theorem keep_yes {ws : List Wn} {L : List EntryD} {k : Nat} (hk : k < L.length) (h : (ws.all fun x => wnP x L[k]) = true) : keep ws (L.take (k + 1)) = keep ws (L.take k) ++ [L[k]] := by
  unfold keep
  rw [List.take_add_one, List.filter_append, List.getElem?_eq_getElem hk]
  simp only [Option.toList]
  rw [List.filter_cons_of_pos (p := fun e => ws.all fun x => wnP x e) h]; rfl
theorem keep_no {ws : List Wn} {L : List EntryD} {k : Nat} (hk : k < L.length) (h : (ws.all fun x => wnP x L[k]) = false) : keep ws (L.take (k + 1)) = keep ws (L.take k) := by
  unfold keep
  rw [List.take_add_one, List.filter_append, List.getElem?_eq_getElem hk]
  simp only [Option.toList]
  rw [List.filter_cons_of_neg (p := fun e => ws.all fun x => wnP x e) (by rw [h]; simp)]; simp
theorem keep_len (ws : List Wn) (L : List EntryD) : (keep ws L).length ≤ L.length := List.length_filter_le _ _
set_option maxHeartbeats 4000000 in
theorem implOnly (L : List EntryD) (ws : List Wn) (v : Value) (fa : Option Addr) (fc : Nat) (w : World) (hr : RdR entryS w v L) (hf : Reads w (.slice fa ws.length fc) ws.length 1 (ws.map wnV)) (hL : L.length ≤ 60) (hW : ws.length ≤ 5) :
    Calls Try.prog 78 #[v, .slice fa ws.length fc] w fun x w' => ∃ v', x = .returned v' ∧ w'.ownsRow w.heap.size 62 2 v' (keep ws L).length (ev (keep ws L)) ∧ Below w.heap.size w w' := by
  obtain ⟨ad, cap, rfl, h1, h2⟩ := hr.form
  have HR := hide hr
  have HF := hide hf
  clear hr hf
  go_enter Try.func78, Try.ntmps78
  go_wp2_with fail
  go_step3
  go_wp2_with fail
  go_step3
  go_wp2_with fail
  go_loopg [5, 12] L.length (fun g s i wr => ∃ (k : Nat) (a : Option Addr) (p : Nat) (M : List EntryD), k + g = L.length ∧ i = .int .i64 k ∧ s = .slice a M.length p ∧ Hid (keep ws (L.take k) = M) ∧ Hid (wr.ownsRow w.heap.size 62 2 (.slice a M.length p) M.length (ev M)) ∧ Hid (Below w.heap.size w wr))
  case atStart => exact ⟨0, none, 0, [], by omega, rfl, rfl, rfl, World.ownsRow_nil w w.heap.size 62 2, Below.refl _ _⟩
  case round =>
    obtain ⟨k, a, p, M, hkg, rfl, rfl, HM, HO, HB⟩ := hrel
    cases gk with
    | zero =>
      have hkz : ¬ ((k : Int) < (L.length : Int)) := by omega
      have HMM : Hid (M = keep ws L) := by show M = _; rw [← HM.out, List.take_of_length_le (by omega)]
      clear hkg
      go_wp2_with fail
      try rw [Exit.noGoto_ret]
      go_ret
      have := HMM.out
      subst this
      exact ⟨_, rfl, HO.out, HB.out⟩
    | succ go1 =>
      have hlt : k < L.length := by omega
      obtain ⟨b, o, cs, rfl, hbw, rfl, hc⟩ := (HR.out.new HB.out).at k hlt
      have c0 : wr.cell? ⟨b, o + k * 2, none⟩ = some (.int .i64 L[k].id) := hc 0 _ rfl
      have c1 : wr.cell? ⟨b, o + k * 2 + 1, none⟩ = some (.int .i64 L[k].state) := hc 1 _ rfl
      clear hc
      obtain ⟨e, he⟩ : ∃ e, L[k] = e := ⟨_, rfl⟩
      rw [he] at c0 c1
      have HY : Hid ((ws.all fun x => wnP x e) = true → keep ws (L.take (k + 1)) = M ++ [e]) := by rw [← he, ← HM.out]; exact keep_yes hlt
      have HN : Hid ((ws.all fun x => wnP x e) = false → keep ws (L.take (k + 1)) = M) := by rw [← he, ← HM.out]; exact keep_no hlt
      have hkl : M.length ≤ k := by have := keep_len ws (L.take k); rw [List.length_take, HM.out] at this; omega
      clear he HM
      go_upto_region 5 with fail
      have hbe : Below wr.heap.size wr (wr.alloc (.cells #[.int .i64 e.id, .int .i64 e.state] 62)) := (Below.refl _ _).alloc (Nat.le_refl _) _
      have HE : Hid (RowIs (wr.alloc (.cells #[.int .i64 e.id, .int .i64 e.state] 62)) wr.heap.size 62 [.int .i64 e.id, .int .i64 e.state]) := rowIs_new wr 62 [.int .i64 e.id, .int .i64 e.state]
      generalize wr.alloc (.cells #[.int .i64 e.id, .int .i64 e.state] 62) = X at *
      have HOX := hide (owns_new HO.out hbe)
      have HBX := hide (bchain HB.out hbe)
      have hne : (Value.slice a M.length p).ownBlock ≠ some wr.heap.size := fun hq => by have := (HO.out.lt _ hq).2; omega
      have HNE := hide hne
      have HGB : Hid (w.heap.size ≤ wr.heap.size) := HB.out.size
      generalize wr.heap.size = go at *
      clear c0 c1 hbe HO hne HB
      go_wp2_with fail
      go_loopg [18] ws.length (fun g i wi => ∃ (j : Nat), j + g = ws.length ∧ i = .int .i64 j ∧ Hid (∀ x ∈ ws.take j, wnP x e = true) ∧ Hid (RowIs wi go 62 [.int .i64 e.id, .int .i64 e.state]) ∧ Hid (wi.ownsRow w.heap.size 62 2 (.slice a M.length p) M.length (ev M)) ∧ Hid (Below w.heap.size w wi))
      case atStart => exact ⟨0, by omega, rfl, by show ∀ x ∈ ws.take 0, _; simp, HE, HOX, HBX⟩
      case round =>
        clear HE HOX HBX
        obtain ⟨j, hjg, rfl, HA, HE, HO, HB⟩ := hrel
        have hlE := HE.out.lt
        have e0 := HE.out.cell (j := 0) rfl
        have e1 := HE.out.cell (j := 1) rfl
        cases gk with
        | zero =>
          have hjz : ¬ ((j : Int) < (ws.length : Int)) := by omega
          have HQ : Hid ((ws.all fun x => wnP x e) = true) := by
            show _ = true
            refine List.all_eq_true.2 fun x hx => HA.out x ?_
            rw [List.take_of_length_le (by omega)]; exact hx
          have HM2 := hide (HY.out HQ.out)
          clear hjg
          have hX : Below wr.heap.size wr (wr.alloc (.cells #[.int .i64 e.id, .int .i64 e.state] 62)) := (Below.refl _ _).alloc (Nat.le_refl _) _
          have hownX := owns_new HO.out hX
          have hRd : Reads (wr.alloc (.cells #[.int .i64 e.id, .int .i64 e.state] 62)) (.slice (some ⟨wr.heap.size, 0, none⟩) 1 1) 1 2 (ev [e]) := reads_of_owns (owns_lit wr 62 2 1 #[.int .i64 e.id, .int .i64 e.state] rfl (by omega))
          have HBX := hide (bchain HB.out hX)
          have hbs := HBX.out.size
          go_wp2_with (at_builtin; refine wpList_app _ (by rfl) _ _ 121 (by rfl) 62 (.agg #[.int .i64 0, .int .i64 0]) 2 16 Try.underlying121 (by kernel_rfl) rfl (by decide) w.heap.size _ M.length (ev M) (by rfl) hownX _ 1 (ev [e]) (by rfl) hRd (ev_one _) (by omega) (by decide) hbs ?_)
          intro ad7 cap7 w7 hown7 hg7 hat7
          have HB7 : Hid (Below w.heap.size w w7) := by
            have hb := HBX.out
            exact ⟨hg7.os.trans hb.os, hg7.tape.trans hb.tape, hg7.output.trans hb.output, Nat.le_trans hb.size hg7.size, fun k hk => (hg7.block k (by have := hb.size; omega) (fun e => by have := (hownX.lt k e.symm).1; omega)).trans (hb.block k hk)⟩
          have HO7 : Hid (w7.ownsRow w.heap.size 62 2 (.slice ad7 (M ++ [e]).length cap7) (M ++ [e]).length (ev (M ++ [e]))) := by
            show World.ownsRow _ _ _ _ _ _ _
            have := hown7
            rw [← ev_app] at this
            simpa using this
          clear hown7 hg7 hat7 hownX hRd hX hbs
          go_wp2_with fail
          go_roundg go1
          case measure => omega
          case rel => exact ⟨k + 1, ad7, cap7, M ++ [e], by omega, by go_num, by simp, HM2, HO7, HB7⟩
        | succ gj =>
          have hj : j < ws.length := by omega
          obtain ⟨_, fa', fc', hfe, _, _, hf4⟩ := HF.out.new HB.out
          obtain ⟨fb, fo, hfa, hfb, hfc⟩ := hf4 (by omega)
          simp only [Value.slice.injEq] at hfe
          obtain ⟨rfl, -, rfl⟩ := hfe
          subst hfa
          obtain ⟨x, hxj⟩ : ∃ x, ws[j] = x := ⟨_, rfl⟩
          have hcx : wr.cell? ⟨fb, fo + j, none⟩ = some (wnV x) := hfc j _ (by rw [List.getElem?_map, List.getElem?_eq_getElem hj, hxj]; rfl)
          clear hfc hf4
          rcases x with (_ | _) | ⟨l, t, xa, xn, xc⟩
          · simp only [wnV] at hcx
            go_wp2_with fail
            refine (implELive e _).mono ?_; rintro z w5 ⟨rfl, hb5⟩
            replace HE := hide (HE.out.new hb5)
            replace HO := hide (owns_new HO.out hb5)
            replace HB := hide (bchain HB.out hb5)
            clear hb5 e0 e1 hcx
            cases hq : wnP (.inl false) e
            · have HQ : Hid ((ws.all fun x => wnP x e) = false) := by
                show _ = false
                refine List.all_eq_false.2 ⟨ws[j], List.getElem_mem hj, ?_⟩
                rw [hxj, hq]; simp
              have HM2 := hide (HN.out HQ.out)
              change liB e = _ at hq
              rw [hq]
              clear hxj hq
              go_wp2_with fail
              go_roundg go1
              case measure => omega
              case rel => exact ⟨k + 1, a, p, M, by omega, by go_num, rfl, HM2, HO, HB⟩
            · have HA2 : Hid (∀ x ∈ ws.take (j + 1), wnP x e = true) := by
                show ∀ x ∈ _, _
                intro x hx
                rw [List.take_add_one, List.getElem?_eq_getElem hj, hxj] at hx
                rcases List.mem_append.1 hx with hx | hx
                · exact HA.out x hx
                · simp at hx; subst hx; exact hq
              change liB e = _ at hq
              rw [hq]
              clear hxj hq
              go_wp2_with fail
              go_roundg gj
              case measure => omega
              case rel => exact ⟨j + 1, by omega, by go_num, HA2, HE, HO, HB⟩
          · simp only [wnV] at hcx
            go_wp2_with fail
            refine (implERight e _).mono ?_; rintro z w5 ⟨rfl, hb5⟩
            replace HE := hide (HE.out.new hb5)
            replace HO := hide (owns_new HO.out hb5)
            replace HB := hide (bchain HB.out hb5)
            clear hb5 e0 e1 hcx
            cases hq : wnP (.inl true) e
            · have HQ : Hid ((ws.all fun x => wnP x e) = false) := by
                show _ = false
                refine List.all_eq_false.2 ⟨ws[j], List.getElem_mem hj, ?_⟩
                rw [hxj, hq]; simp
              have HM2 := hide (HN.out HQ.out)
              change rtB e = _ at hq
              rw [hq]
              clear hxj hq
              go_wp2_with fail
              go_roundg go1
              case measure => omega
              case rel => exact ⟨k + 1, a, p, M, by omega, by go_num, rfl, HM2, HO, HB⟩
            · have HA2 : Hid (∀ x ∈ ws.take (j + 1), wnP x e = true) := by
                show ∀ x ∈ _, _
                intro x hx
                rw [List.take_add_one, List.getElem?_eq_getElem hj, hxj] at hx
                rcases List.mem_append.1 hx with hx | hx
                · exact HA.out x hx
                · simp at hx; subst hx; exact hq
              change rtB e = _ at hq
              rw [hq]
              clear hxj hq
              go_wp2_with fail
              go_roundg gj
              case measure => omega
              case rel => exact ⟨j + 1, by omega, by go_num, HA2, HE, HO, HB⟩
          · simp only [wnV] at hcx
            go_wp2_with fail
            refine (implReaches l t (.slice xa xn xc) e _ ⟨_, _, _, rfl⟩).mono ?_; rintro z w5 ⟨rfl, hb5⟩
            replace HE := hide (HE.out.new hb5)
            replace HO := hide (owns_new HO.out hb5)
            replace HB := hide (bchain HB.out hb5)
            clear hb5 e0 e1 hcx
            cases hq : wnP (.inr (l, t, xa, xn, xc)) e
            · have HQ : Hid ((ws.all fun x => wnP x e) = false) := by
                show _ = false
                refine List.all_eq_false.2 ⟨ws[j], List.getElem_mem hj, ?_⟩
                rw [hxj, hq]; simp
              have HM2 := hide (HN.out HQ.out)
              change decide (e.id ≤ t) = _ at hq
              rw [hq]
              clear hxj hq
              go_wp2_with fail
              go_roundg go1
              case measure => omega
              case rel => exact ⟨k + 1, a, p, M, by omega, by go_num, rfl, HM2, HO, HB⟩
            · have HA2 : Hid (∀ x ∈ ws.take (j + 1), wnP x e = true) := by
                show ∀ x ∈ _, _
                intro x hx
                rw [List.take_add_one, List.getElem?_eq_getElem hj, hxj] at hx
                rcases List.mem_append.1 hx with hx | hx
                · exact HA.out x hx
                · simp at hx; subst hx; exact hq
              change decide (e.id ≤ t) = _ at hq
              rw [hq]
              clear hxj hq
              go_wp2_with fail
              go_roundg gj
              case measure => omega
              case rel => exact ⟨j + 1, by omega, by go_num, HA2, HE, HO, HB⟩
end Go.Proofs.Ytllaeakeaabiaaa
/- Chapter 10's model: Opened, Happened, Swept. -/
namespace Go.Proofs.Ytllaeakeaabiaaa
open Go.RowKit
set_option maxRecDepth 100000
set_option linter.unusedSimpArgs false
set_option linter.unusedVariables false
end Go.Proofs.Ytllaeakeaabiaaa
