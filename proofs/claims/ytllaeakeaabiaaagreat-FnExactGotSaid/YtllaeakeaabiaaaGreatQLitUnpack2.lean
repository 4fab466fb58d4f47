/- Unpacked of the model: it reads, and holds what it read against its own packing. -/
import Derived.Test.YtllaeakeaabiaaaGreatQLitUnpack
import Derived.Handy
import Derived.Test.YtllaeakeaabiaaaGreatQG3
namespace Go.Proofs.YtllaeakeaabiaaaGreat
open Go.RowKit
set_option maxRecDepth 100000
set_option linter.unusedSimpArgs false
set_option linter.unusedVariables false

theorem bys_sch {l : List Int} (h : ∀ x ∈ l, 0 ≤ x ∧ x ≤ 30) : bys (strOf (l.map sch)) = l.map sch := bys_strOf (sch_range_all h)
theorem sgnL_sch {l : List Int} (h : ∀ x ∈ l, 0 ≤ x ∧ x ≤ 30) : sgnL (strOf (l.map sch)) = l := by
  unfold sgnL
  rw [bys_sch h, List.map_map]
  exact (List.map_congr_left fun x hx => sgn_sch (h x hx).1 (h x hx).2).trans (List.map_id l)
theorem okS_sch {l : List Int} (h : ∀ x ∈ l, 0 ≤ x ∧ x ≤ 30) : okS (strOf (l.map sch)) = true := by
  unfold okS
  rw [sgnL_sch h]
  exact List.all_eq_true.2 fun n hn => by simpa using (h n hn).1
theorem size_sch (l : List Int) : (strOf (l.map sch)).size = l.length := by rw [strOf_size, List.length_map]
theorem strOf_sgn {s : ByteArray} (h : okS s = true) : strOf ((sgnL s).map sch) = s := by
  refine bys_inj ?_
  rw [bys_sch (okS_range h)]
  unfold sgnL
  rw [List.map_map]
  refine (List.map_congr_left fun x hx => ?_).trans (List.map_id _)
  exact sch_sgn (by simpa using List.all_eq_true.1 h (sgn x) (List.mem_map_of_mem hx))
theorem pkV_sch {l : List Int} (h : ∀ x ∈ l, 0 ≤ x ∧ x ≤ 30) (hl : l.length ≤ 200) : pkV (strOf (l.map sch)) = (strOf (packF l 0 0), true) := by
  unfold pkV l4V
  rw [if_pos (by rw [size_sch]; exact hl), if_pos (okS_sch h), sgnL_sch h]

theorem rawF_range : ∀ (k c : Nat) (u : Int) (bs : List Int) (r : List Int × Nat × Int), rawF k c u bs = some r → 0 ≤ u → (∀ b ∈ bs, 0 ≤ b ∧ b ≤ 255) → ∀ x ∈ r.1, 0 ≤ x ∧ x ≤ 30 := by
  intro k
  induction k with
  | zero => intro c u bs r h; simp [rawF] at h
  | succ k ih =>
    intro c u bs r h h0 hb
    by_cases h5 : c < 5
    · cases bs with
      | nil => rw [rawF_end h5] at h; obtain rfl := (Option.some.inj h).symm; simp
      | cons b bs =>
        rw [rawF_more h5] at h
        have := hb b (by simp)
        exact ih _ _ _ _ h (by omega) (fun x hx => hb x (by simp [hx]))
    · by_cases hs : 31 ≤ u / tw (c - 5)
      · rw [rawF_ones h5 hs] at h
        split at h
        · obtain rfl := (Option.some.inj h).symm; simp
        · cases h
      · rw [rawF_sign h5 hs] at h
        cases hr : rawF k (c - 5) (u % tw (c - 5)) bs with
        | none => rw [hr] at h; cases h
        | some r' =>
          rw [hr] at h
          obtain rfl := (Option.some.inj h).symm
          have hp : 0 < tw (c - 5) := by unfold tw; exact Int.pow_pos (by decide)
          intro x hx
          rcases List.mem_cons.1 hx with rfl | hx
          · exact ⟨Int.ediv_nonneg h0 (by omega), by omega⟩
          · exact ih _ _ _ _ hr (Int.emod_nonneg _ (by omega)) hb x hx

/-- What ends well is what its signs are packed as. -/
theorem raw_iff {s : ByteArray} {r : List Int × Nat × Int} (h : rawV s = some r) : okUB r = true ↔ packF r.1 0 0 = bys s := by
  rw [okUB_iff]
  have := raw_pack _ _ _ _ _ h (by omega) (by omega) (by simp [tw]) (bys_range s) 0 (by omega) (by simp [hidden, tw])
  simpa [hidden, ahead] using this
theorem raw_range {s : ByteArray} {r : List Int × Nat × Int} (h : rawV s = some r) : ∀ x ∈ r.1, 0 ≤ x ∧ x ≤ 30 := rawF_range _ _ _ _ _ h (by omega) (bys_range s)
theorem rawF_some : ∀ (k c : Nat) (u : Int) (bs : List Int) (r : List Int × Nat × Int), rawF k c u bs = some r → ∀ j, k ≤ j → rawF j c u bs = some r := by
  intro k
  induction k with
  | zero => intro c u bs r h; simp [rawF] at h
  | succ k ih =>
    intro c u bs r h j hj
    obtain ⟨j, rfl⟩ : ∃ j', j = j' + 1 := ⟨j - 1, by omega⟩
    by_cases h5 : c < 5
    · cases bs with
      | nil => rw [rawF_end h5] at h ⊢; exact h
      | cons b bs => rw [rawF_more h5] at h ⊢; exact ih _ _ _ _ h _ (by omega)
    · by_cases hs : 31 ≤ u / tw (c - 5)
      · rw [rawF_ones h5 hs] at h ⊢; exact h
      · rw [rawF_sign h5 hs] at h ⊢
        cases hr : rawF k (c - 5) (u % tw (c - 5)) bs with
        | none => rw [hr] at h; cases h
        | some r' => rw [hr] at h; rw [ih _ _ _ _ hr _ (by omega)]; exact h
/-- What was packed is read. -/
theorem raw_packed {l : List Int} (h : ∀ x ∈ l, 0 ≤ x ∧ x ≤ 30) : ∃ c u, rawV (strOf (packF l 0 0)) = some (l, c, u) ∧ okUB (l, c, u) = true := by
  obtain ⟨c, u, k, hr, ho⟩ := (raw_read l 0 0 (by omega) (by omega) (by simp [tw]) h).1 rfl
  refine ⟨c, u, ?_, (okUB_iff _).2 ho⟩
  unfold rawV
  rw [bys_strOf (packF_range l 0 0 (by omega) (by omega) (by simp [tw]) h)]
  have h1 := rawF_some _ _ _ _ _ hr (max k (enF 0 (packF l 0 0))) (by omega)
  rw [← h1]
  exact rawF_enough _ _ _ _ _ (Nat.le_refl _) (by omega)

/-- What Unpacked answers, held against packing. -/
theorem unV_pack (s : ByteArray) : unV s = match rawV s with
    | some r => if r.1.length ≤ 200 ∧ packF r.1 0 0 = bys s then (strOf (r.1.map sch), true) else (⟨#[]⟩, false)
    | none => (⟨#[]⟩, false) := by
  unfold unV
  cases hr : rawV s with
  | none => simp
  | some r =>
    simp only
    by_cases hp : packF r.1 0 0 = bys s
    · have hok : okUB r = true := (raw_iff hr).2 hp
      have hlen : s.size = (5 * r.1.length + 7) / 8 := by
        rw [← bys_len, ← hp, packF_len _ _ _ (by omega)]; omega
      by_cases h125 : s.size ≤ 125
      · rw [if_pos h125, if_pos hok, if_pos ⟨by omega, hp⟩]
      · rw [if_neg h125, if_neg (by omega)]
    · have hok : okUB r = false := by
        cases e : okUB r
        · rfl
        · exact absurd ((raw_iff hr).1 e) hp
      simp [hok, hp]

/-- What the model holds at the head of its outer round: it goes on, or it has come to the end. -/
def UnAt (s : ByteArray) (k c : Nat) (z : Int) (pre : List Int) : Prop :=
  (k < s.size ∧ c < 5 ∧ 0 ≤ z ∧ z < tw c ∧ rawV s = (rawF (enF c ((bys s).drop k)) c z ((bys s).drop k)).map (fun r => (pre ++ r.1, r.2))) ∨ (k = s.size ∧ rawV s = some (pre, c, z))
theorem UnAt.end {s : ByteArray} {k c : Nat} {z : Int} {pre : List Int} (h : UnAt s k c z pre) (hk : k = s.size) : rawV s = some (pre, c, z) := by
  rcases h with ⟨h, _⟩ | ⟨_, h⟩
  · omega
  · exact h
theorem UnAt.long {s : ByteArray} {k c : Nat} {z : Int} {pre : List Int} (h : UnAt s k c z pre) (hl : 200 < pre.length) : unV s = (⟨#[]⟩, false) := by
  rw [unV_pack]
  rcases h with ⟨_, _, _, _, h⟩ | ⟨_, h⟩
  · rw [h]
    cases rawF (enF c ((bys s).drop k)) c z ((bys s).drop k) with
    | none => rfl
    | some r => simp only [Option.map_some]; rw [if_neg (by simp; omega)]
  · rw [h]; simp only; rw [if_neg (by omega)]
theorem UnAt.next {s : ByteArray} {k c : Nat} {z : Int} {pre : List Int} (hc : c < 5) (hk : k ≤ s.size) (z0 : 0 ≤ z) (z1 : z < tw c) (h : rawV s = (rawF (enF c ((bys s).drop k)) c z ((bys s).drop k)).map (fun r => (pre ++ r.1, r.2))) : UnAt s k c z pre := by
  by_cases e : k < s.size
  · exact .inl ⟨e, hc, z0, z1, h⟩
  · refine .inr ⟨by omega, ?_⟩
    rw [bys_end s k (by omega), show enF c [] = c + 1 from by simp [enF], rawF_end hc] at h
    simpa using h

set_option maxHeartbeats 8000000 in
set_option maxRecDepth 100000 in
theorem specUnpacked (s : ByteArray) (w : World) (hs : s.size ≤ maxLen) : Calls Tryz.prog 223 #[.string s] w fun e w' => e = .returned (.tuple #[.string (unV s).1, .bool (unV s).2]) ∧ Below w.heap.size w w' := by
  unfold maxLen at hs
  obtain ⟨i0, hi, hz0, hz1, hz2⟩ := info_parts (P := Tryz.prog) (e := 5) (z := .int .u8 0) (size := 1) (bytes := 1) (by kernel_rfl)
  go_enter Tryz.func223, Tryz.ntmps223
  go_wp2_with fail
  go_loopw [4, 5, 6, 7] (fun b v hv i wr => ∃ (k c : Nat) (z : Int) (pre : List Int) (ad : Option Addr) (cap : Nat), i = .int .i64 k ∧ hv = .int .i64 c ∧ v = .int .i64 z ∧ b = .slice ad pre.length cap ∧ k ≤ s.size ∧ 5 * pre.length + c = 8 * k ∧ Hid (UnAt s k c z pre) ∧ SgRow w b pre wr) (fun _ _ _ i _ => s.size - (intOf i).toNat)
  case atStart =>
    refine ⟨0, 0, 0, [], some ⟨w.heap.size, 0, none⟩, 0, rfl, rfl, rfl, rfl, Nat.zero_le _, rfl, ?_, World.ownsRow_made w #[] 0 (Nat.le_refl _) (Nat.zero_le _) rfl, by show ∀ x ∈ _, _; simp, (Below.refl _ _).alloc (Nat.le_refl _) _⟩
    exact UnAt.next (by omega) (Nat.zero_le _) (by omega) (by simp [tw]) (by simp [rawV])
  case round =>
    obtain ⟨k, c, z, pre, ad, cap, rfl, rfl, rfl, rfl, hk, hpl, hU, hown, hx, hB⟩ := hrel
    have hsz := hB.size
    have hssz : (strOf (pre.map sch)).size ≤ maxLen := by rw [size_sch]; obtain ⟨_, _, e, h1, h2⟩ := owns_form hown; omega
    by_cases hlong : 200 < pre.length
    · have HV : Hid (unV s = (⟨#[]⟩, false)) := hU.out.long hlong
      have hpk : pkV (strOf (pre.map sch)) = (⟨#[]⟩, false) := by unfold pkV; rw [if_neg (by rw [size_sch]; omega)]
      have hcv := row_string (l := pre.map sch) hown (sch_range_all hx.out)
      have hlong' : ¬ (pre.length : Int) ≤ 200 := by omega
      clear hU hx
      have hks : ((k : Int) < s.size) ∨ ¬ ((k : Int) < s.size) := by omega
      rcases hks with hks | hks
      all_goals
        go_wp2_with (go_at_call 245; refine (specPacked _ _ hssz).mono ?_; rw [hpk]; rintro e w1 ⟨rfl, hb1⟩)
        go_ret2
        rw [HV.out]
        exact ⟨rfl, bchain hB hb1⟩
    have hlen' : (pre.length : Int) ≤ 200 := by omega
    by_cases hend : k = s.size
    · have hraw := hU.out.end hend
      have hpk := pkV_sch hx.out (by omega : pre.length ≤ 200)
      have hUP := unV_pack s
      rw [hraw] at hUP
      simp only at hUP
      have hcv := row_string (l := pre.map sch) hown (sch_range_all hx.out)
      have hks : ¬ ((k : Int) < s.size) := by omega
      have hrng := packF_range pre 0 0 (by omega) (by omega) (by simp [tw]) hx.out
      have hiff : strOf (packF pre 0 0) = s ↔ packF pre 0 0 = bys s := by rw [bys_eq, bys_strOf hrng]
      have hxx := sch_range_all hx.out
      by_cases hp : strOf (packF pre 0 0) = s
      · rw [if_pos ⟨by omega, hiff.1 hp⟩] at hUP
        have HV : Hid (unV s = (strOf (pre.map sch), true)) := hUP
        rw [hp] at hpk
        clear hU hx hUP hiff hrng hraw hp
        go_wp2_with (first | (go_at_call 245; refine (specPacked _ _ hssz).mono ?_; rw [hpk]; rintro e w1 ⟨rfl, hb1⟩; have hcv2 := row_string (l := pre.map sch) (owns_new hown hb1) hxx) | fail)
        go_ret2
        rw [HV.out]
        exact ⟨rfl, bchain hB hb1⟩
      · rw [if_neg (fun h => hp (hiff.2 h.2))] at hUP
        have HV : Hid (unV s = (⟨#[]⟩, false)) := hUP
        have hpb := tl_ne hp
        clear hU hx hUP hiff hrng hraw
        go_wp2_with (first | (go_at_call 245; refine (specPacked _ _ hssz).mono ?_; rw [hpk]; rintro e w1 ⟨rfl, hb1⟩) | fail)
        go_ret2
        rw [HV.out]
        exact ⟨rfl, bchain hB hb1⟩
    have hks : k < s.size := by omega
    have hks' : (k : Int) < s.size := by omega
    have hc0 : 0 ≤ (s[k].toNat : Int) := by omega
    have hc1 : (s[k].toNat : Int) ≤ 255 := by have := s[k].toNat_lt; omega
    obtain ⟨h5, z0, z1, hR⟩ : c < 5 ∧ 0 ≤ z ∧ z < tw c ∧ rawV s = (rawF (enF c ((bys s).drop k)) c z ((bys s).drop k)).map (fun r => (pre ++ r.1, r.2)) := by
      rcases hU.out with ⟨_, h⟩ | ⟨h, _⟩
      · exact h
      · omega
    clear hU
    have z16 : z < 16 := by
      have : c = 0 ∨ c = 1 ∨ c = 2 ∨ c = 3 ∨ c = 4 := by omega
      rcases this with rfl | rfl | rfl | rfl | rfl <;> simp [tw] at z1 <;> omega
    have hor : bits .or .i64 (z * 256) (s[k].toNat : Int) = z * 256 + (s[k].toNat : Int) := or_join 8 (by omega) (by omega) (by simp [tw]) (by omega) (by omega) (by simp [tw]; omega)
    have HZ : Hid (z * 256 + (s[k].toNat : Int) < tw (c + 8)) := by
      show _ < _
      have : c = 0 ∨ c = 1 ∨ c = 2 ∨ c = 3 ∨ c = 4 := by omega
      rcases this with rfl | rfl | rfl | rfl | rfl <;> simp [tw] at z1 ⊢ <;> omega
    have HR : Hid (rawV s = (rawF (enF (c + 8) ((bys s).drop (k + 1))) (c + 8) (z * 256 + (s[k].toNat : Int)) ((bys s).drop (k + 1))).map (fun r => (pre ++ r.1, r.2))) := by
      show _ = _
      rw [hR, en_drop, bys_drop s k hks, rawF_more (by omega), en_drop, rawF_enough _ (9 * (s.size - (k + 1)) + (c + 8) + 1)]
      · rw [en_drop]; omega
      · rw [en_drop]; omega
    have hkb : k + 1 ≤ 127 := by omega
    clear hR z1 hssz
    go_wp2_with fail
    go_loopw [4, 5, 6] (fun b v hv wr => ∃ (c : Nat) (z : Int) (pre : List Int) (ad : Option Addr) (cap : Nat), hv = .int .i64 c ∧ v = .int .i64 z ∧ b = .slice ad pre.length cap ∧ c ≤ 12 ∧ 0 ≤ z ∧ Hid (z < tw c) ∧ 5 * pre.length + c = 8 * (k + 1) ∧ Hid (rawV s = (rawF (enF c ((bys s).drop (k + 1))) c z ((bys s).drop (k + 1))).map (fun r => (pre ++ r.1, r.2))) ∧ SgRow w b pre wr) (fun _ _ hv _ => (intOf hv).toNat)
    case atStart => exact ⟨c + 8, _, pre, ad, cap, by go_num, rfl, rfl, by omega, by omega, HZ, by omega, HR, hown, hx, hB⟩
    case round =>
      clear HZ HR hown hx hB hor z16 z0 hpl h5 hlen' hlong hsz
      obtain ⟨c, z, pre, ad, cap, rfl, rfl, rfl, hc, z0, z1, hpl, hR, hown, hx, hB⟩ := hrel
      have hsz := hB.size
      by_cases h5 : c < 5
      · have HU : Hid (UnAt s (k + 1) c z pre) := UnAt.next h5 (by omega) z0 z1.out hR.out
        clear hR
        go_wp2_with fail
        go_roundw
        case rel => exact ⟨k + 1, c, z, pre, ad, cap, by go_num, rfl, rfl, rfl, by omega, by omega, HU, hown, hx, hB⟩
        case measure => simp [intOf]; omega
      have : c = 5 ∨ c = 6 ∨ c = 7 ∨ c = 8 ∨ c = 9 ∨ c = 10 ∨ c = 11 ∨ c = 12 := by omega
      rcases this with rfl | rfl | rfl | rfl | rfl | rfl | rfl | rfl
      · have hzb : z < 32 := by have := z1.out; simpa [tw] using this
        have hq : z / tw (5 - 5) = z := by simp [tw]
        obtain ⟨n, hn⟩ : ∃ n, z % 32 = n := ⟨_, rfl⟩
        have hn' : z = n := by omega
        have hn0 : 0 ≤ n := by omega
        by_cases h31 : n = 31
        · subst h31
          by_cases hlast : k + 1 < s.size
          · have HV : Hid (unV s = (⟨#[]⟩, false)) := by
              show _ = _
              rw [unV_pack, hR.out, en_drop, rawF_ones (by omega) (by rw [hq]; omega), if_neg (bys_short hlast)]; rfl
            have hlast' : (k : Int) + 1 < s.size := by omega
            clear hR z1 hq hn'
            go_wp2_with fail
            go_ret2
            rw [HV.out]
            exact ⟨rfl, hB⟩
          · have HU : Hid (UnAt s (k + 1) 5 z pre) := .inr ⟨by omega, by
              rw [hR.out, en_drop, rawF_ones (by omega) (by rw [hq]; omega), if_pos (bys_end s (k + 1) (by omega))]; simp⟩
            have hlast' : ¬ (k : Int) + 1 < s.size := by omega
            clear hR z1 hq hn'
            go_wp2_with fail
            go_roundw
            case rel => exact ⟨k + 1, 5, z, pre, ad, cap, by go_num, rfl, rfl, rfl, by omega, by omega, HU, hown, hx, hB⟩
            case measure => simp [intOf]; omega
        have hn30 : n ≤ 30 := by omega
        have h31b : (n == 31) = false := by simpa using h31
        have HZ : Hid (z % 1 < tw 0) := by show _ < _; simp [tw]
        have HR : Hid (rawV s = (rawF (enF 0 ((bys s).drop (k + 1))) 0 (z % 1) ((bys s).drop (k + 1))).map (fun r => ((pre ++ [n]) ++ r.1, r.2))) := by
          show _ = _
          rw [hR.out, en_drop, rawF_sign (by omega) (by rw [hq]; omega), hq, hn', en_drop, rawF_enough _ (9 * (s.size - (k + 1)) + 0 + 1)]
          · show Option.map _ (Option.map _ (rawF _ 0 (n % tw 0) _)) = _
            rw [Option.map_map, show n % tw 0 = n % 1 from by simp [tw]]; simp [Function.comp_def]
          · rw [en_drop]; omega
          · rw [en_drop]; omega
        have hown2 := hown.alloc (.cells #[.int .u8 (sch n)] 5)
        have hlen : (pre.map sch).length = pre.length := List.length_map _
        clear hR z1 hq h31 hn'
        go_wp2_with (first | (go_at_call 244; refine (specByte n _ hn0 hn30).mono ?_; rintro e w' ⟨rfl, rfl⟩) | (at_builtin; refine wpList_append_own _ rfl _ _ 131 rfl w.heap.size 5 i0 (.int .u8 0) 1 1 Tryz.underlying131 hi hz0 hz1 hz2 rfl (by decide) _ _ _ rfl hown2 ⟨_, 0, none⟩ 1 1 [.int .u8 (sch n)] rfl rfl (cell_one_new _ _ _) ?d2 ?d3 ?d4 ?d5 ?_))
        case d2 => first | rfl | (intro u hu; simp at hu; subst hu; rfl)
        case d3 => first | omega | (unfold maxLen; omega)
        case d4 => omega
        case d5 => first | omega | (simp; omega)
        intro v' w3 hown3 hgrow _
        have HX : Hid (∀ x ∈ pre ++ [n], 0 ≤ x ∧ x ≤ 30) := by show ∀ _ ∈ _, _; intro x hx2; rcases List.mem_append.1 hx2 with h | h; exact hx.out x h; simp at h; omega
        have hB3 : Below w.heap.size w w3 := (hB.alloc hB.size _).grown hgrow (by simp; omega) (fun k hk => (hown2.lt k hk).1)
        have HO : Hid (w3.ownsRow w.heap.size 5 1 v' (pre ++ [n]).length (((pre ++ [n]).map sch).map (Value.int .u8))) := by show World.ownsRow _ _ _ _ _ _ _; simpa using hown3
        obtain ⟨ad2, cap2, hv2, _, _⟩ := owns_form HO.out
        subst hv2
        clear hown3 hown2 hown hx hlen hgrow
        go_wp2_with fail
        go_roundw
        case rel => exact ⟨0, z % 1, pre ++ [n], ad2, cap2, by go_num, by go_num, rfl, by omega, by omega, HZ, by simp; omega, HR, HO.out, HX, hB3⟩
        case measure => simp [intOf]
      · have hzb : z < 64 := by have := z1.out; simpa [tw] using this
        have hq : z / tw (6 - 5) = z / 2 := by simp [tw]
        obtain ⟨n, hn⟩ : ∃ n, z / 2 % 32 = n := ⟨_, rfl⟩
        have hn' : z / 2 = n := by omega
        have hn0 : 0 ≤ n := by omega
        by_cases h31 : n = 31
        · subst h31
          by_cases hlast : k + 1 < s.size
          · have HV : Hid (unV s = (⟨#[]⟩, false)) := by
              show _ = _
              rw [unV_pack, hR.out, en_drop, rawF_ones (by omega) (by rw [hq]; omega), if_neg (bys_short hlast)]; rfl
            have hlast' : (k : Int) + 1 < s.size := by omega
            clear hR z1 hq hn'
            go_wp2_with fail
            go_ret2
            rw [HV.out]
            exact ⟨rfl, hB⟩
          · have HU : Hid (UnAt s (k + 1) 6 z pre) := .inr ⟨by omega, by
              rw [hR.out, en_drop, rawF_ones (by omega) (by rw [hq]; omega), if_pos (bys_end s (k + 1) (by omega))]; simp⟩
            have hlast' : ¬ (k : Int) + 1 < s.size := by omega
            clear hR z1 hq hn'
            go_wp2_with fail
            go_roundw
            case rel => exact ⟨k + 1, 6, z, pre, ad, cap, by go_num, rfl, rfl, rfl, by omega, by omega, HU, hown, hx, hB⟩
            case measure => simp [intOf]; omega
        have hn30 : n ≤ 30 := by omega
        have h31b : (n == 31) = false := by simpa using h31
        have HZ : Hid (z % 2 < tw 1) := by show _ < _; simp [tw]; omega
        have HR : Hid (rawV s = (rawF (enF 1 ((bys s).drop (k + 1))) 1 (z % 2) ((bys s).drop (k + 1))).map (fun r => ((pre ++ [n]) ++ r.1, r.2))) := by
          show _ = _
          rw [hR.out, en_drop, rawF_sign (by omega) (by rw [hq]; omega), hq, hn', en_drop, rawF_enough _ (9 * (s.size - (k + 1)) + 1 + 1)]
          · show Option.map _ (Option.map _ (rawF _ 1 (z % tw 1) _)) = _
            rw [Option.map_map, show z % tw 1 = z % 2 from by simp [tw]]; simp [Function.comp_def]
          · rw [en_drop]; omega
          · rw [en_drop]; omega
        have hown2 := hown.alloc (.cells #[.int .u8 (sch n)] 5)
        have hlen : (pre.map sch).length = pre.length := List.length_map _
        clear hR z1 hq h31 hn'
        go_wp2_with (first | (go_at_call 244; refine (specByte n _ hn0 hn30).mono ?_; rintro e w' ⟨rfl, rfl⟩) | (at_builtin; refine wpList_append_own _ rfl _ _ 131 rfl w.heap.size 5 i0 (.int .u8 0) 1 1 Tryz.underlying131 hi hz0 hz1 hz2 rfl (by decide) _ _ _ rfl hown2 ⟨_, 0, none⟩ 1 1 [.int .u8 (sch n)] rfl rfl (cell_one_new _ _ _) ?d2 ?d3 ?d4 ?d5 ?_))
        case d2 => first | rfl | (intro u hu; simp at hu; subst hu; rfl)
        case d3 => first | omega | (unfold maxLen; omega)
        case d4 => omega
        case d5 => first | omega | (simp; omega)
        intro v' w3 hown3 hgrow _
        have HX : Hid (∀ x ∈ pre ++ [n], 0 ≤ x ∧ x ≤ 30) := by show ∀ _ ∈ _, _; intro x hx2; rcases List.mem_append.1 hx2 with h | h; exact hx.out x h; simp at h; omega
        have hB3 : Below w.heap.size w w3 := (hB.alloc hB.size _).grown hgrow (by simp; omega) (fun k hk => (hown2.lt k hk).1)
        have HO : Hid (w3.ownsRow w.heap.size 5 1 v' (pre ++ [n]).length (((pre ++ [n]).map sch).map (Value.int .u8))) := by show World.ownsRow _ _ _ _ _ _ _; simpa using hown3
        obtain ⟨ad2, cap2, hv2, _, _⟩ := owns_form HO.out
        subst hv2
        clear hown3 hown2 hown hx hlen hgrow
        go_wp2_with fail
        go_roundw
        case rel => exact ⟨1, z % 2, pre ++ [n], ad2, cap2, by go_num, by go_num, rfl, by omega, by omega, HZ, by simp; omega, HR, HO.out, HX, hB3⟩
        case measure => simp [intOf]
      · have hzb : z < 128 := by have := z1.out; simpa [tw] using this
        have hq : z / tw (7 - 5) = z / 4 := by simp [tw]
        obtain ⟨n, hn⟩ : ∃ n, z / 4 % 32 = n := ⟨_, rfl⟩
        have hn' : z / 4 = n := by omega
        have hn0 : 0 ≤ n := by omega
        by_cases h31 : n = 31
        · subst h31
          by_cases hlast : k + 1 < s.size
          · have HV : Hid (unV s = (⟨#[]⟩, false)) := by
              show _ = _
              rw [unV_pack, hR.out, en_drop, rawF_ones (by omega) (by rw [hq]; omega), if_neg (bys_short hlast)]; rfl
            have hlast' : (k : Int) + 1 < s.size := by omega
            clear hR z1 hq hn'
            go_wp2_with fail
            go_ret2
            rw [HV.out]
            exact ⟨rfl, hB⟩
          · have HU : Hid (UnAt s (k + 1) 7 z pre) := .inr ⟨by omega, by
              rw [hR.out, en_drop, rawF_ones (by omega) (by rw [hq]; omega), if_pos (bys_end s (k + 1) (by omega))]; simp⟩
            have hlast' : ¬ (k : Int) + 1 < s.size := by omega
            clear hR z1 hq hn'
            go_wp2_with fail
            go_roundw
            case rel => exact ⟨k + 1, 7, z, pre, ad, cap, by go_num, rfl, rfl, rfl, by omega, by omega, HU, hown, hx, hB⟩
            case measure => simp [intOf]; omega
        have hn30 : n ≤ 30 := by omega
        have h31b : (n == 31) = false := by simpa using h31
        have HZ : Hid (z % 4 < tw 2) := by show _ < _; simp [tw]; omega
        have HR : Hid (rawV s = (rawF (enF 2 ((bys s).drop (k + 1))) 2 (z % 4) ((bys s).drop (k + 1))).map (fun r => ((pre ++ [n]) ++ r.1, r.2))) := by
          show _ = _
          rw [hR.out, en_drop, rawF_sign (by omega) (by rw [hq]; omega), hq, hn', en_drop, rawF_enough _ (9 * (s.size - (k + 1)) + 2 + 1)]
          · show Option.map _ (Option.map _ (rawF _ 2 (z % tw 2) _)) = _
            rw [Option.map_map, show z % tw 2 = z % 4 from by simp [tw]]; simp [Function.comp_def]
          · rw [en_drop]; omega
          · rw [en_drop]; omega
        have hown2 := hown.alloc (.cells #[.int .u8 (sch n)] 5)
        have hlen : (pre.map sch).length = pre.length := List.length_map _
        clear hR z1 hq h31 hn'
        go_wp2_with (first | (go_at_call 244; refine (specByte n _ hn0 hn30).mono ?_; rintro e w' ⟨rfl, rfl⟩) | (at_builtin; refine wpList_append_own _ rfl _ _ 131 rfl w.heap.size 5 i0 (.int .u8 0) 1 1 Tryz.underlying131 hi hz0 hz1 hz2 rfl (by decide) _ _ _ rfl hown2 ⟨_, 0, none⟩ 1 1 [.int .u8 (sch n)] rfl rfl (cell_one_new _ _ _) ?d2 ?d3 ?d4 ?d5 ?_))
        case d2 => first | rfl | (intro u hu; simp at hu; subst hu; rfl)
        case d3 => first | omega | (unfold maxLen; omega)
        case d4 => omega
        case d5 => first | omega | (simp; omega)
        intro v' w3 hown3 hgrow _
        have HX : Hid (∀ x ∈ pre ++ [n], 0 ≤ x ∧ x ≤ 30) := by show ∀ _ ∈ _, _; intro x hx2; rcases List.mem_append.1 hx2 with h | h; exact hx.out x h; simp at h; omega
        have hB3 : Below w.heap.size w w3 := (hB.alloc hB.size _).grown hgrow (by simp; omega) (fun k hk => (hown2.lt k hk).1)
        have HO : Hid (w3.ownsRow w.heap.size 5 1 v' (pre ++ [n]).length (((pre ++ [n]).map sch).map (Value.int .u8))) := by show World.ownsRow _ _ _ _ _ _ _; simpa using hown3
        obtain ⟨ad2, cap2, hv2, _, _⟩ := owns_form HO.out
        subst hv2
        clear hown3 hown2 hown hx hlen hgrow
        go_wp2_with fail
        go_roundw
        case rel => exact ⟨2, z % 4, pre ++ [n], ad2, cap2, by go_num, by go_num, rfl, by omega, by omega, HZ, by simp; omega, HR, HO.out, HX, hB3⟩
        case measure => simp [intOf]
      · have hzb : z < 256 := by have := z1.out; simpa [tw] using this
        have hq : z / tw (8 - 5) = z / 8 := by simp [tw]
        obtain ⟨n, hn⟩ : ∃ n, z / 8 % 32 = n := ⟨_, rfl⟩
        have hn' : z / 8 = n := by omega
        have hn0 : 0 ≤ n := by omega
        by_cases h31 : n = 31
        · subst h31
          by_cases hlast : k + 1 < s.size
          · have HV : Hid (unV s = (⟨#[]⟩, false)) := by
              show _ = _
              rw [unV_pack, hR.out, en_drop, rawF_ones (by omega) (by rw [hq]; omega), if_neg (bys_short hlast)]; rfl
            have hlast' : (k : Int) + 1 < s.size := by omega
            clear hR z1 hq hn'
            go_wp2_with fail
            go_ret2
            rw [HV.out]
            exact ⟨rfl, hB⟩
          · have HU : Hid (UnAt s (k + 1) 8 z pre) := .inr ⟨by omega, by
              rw [hR.out, en_drop, rawF_ones (by omega) (by rw [hq]; omega), if_pos (bys_end s (k + 1) (by omega))]; simp⟩
            have hlast' : ¬ (k : Int) + 1 < s.size := by omega
            clear hR z1 hq hn'
            go_wp2_with fail
            go_roundw
            case rel => exact ⟨k + 1, 8, z, pre, ad, cap, by go_num, rfl, rfl, rfl, by omega, by omega, HU, hown, hx, hB⟩
            case measure => simp [intOf]; omega
        have hn30 : n ≤ 30 := by omega
        have h31b : (n == 31) = false := by simpa using h31
        have HZ : Hid (z % 8 < tw 3) := by show _ < _; simp [tw]; omega
        have HR : Hid (rawV s = (rawF (enF 3 ((bys s).drop (k + 1))) 3 (z % 8) ((bys s).drop (k + 1))).map (fun r => ((pre ++ [n]) ++ r.1, r.2))) := by
          show _ = _
          rw [hR.out, en_drop, rawF_sign (by omega) (by rw [hq]; omega), hq, hn', en_drop, rawF_enough _ (9 * (s.size - (k + 1)) + 3 + 1)]
          · show Option.map _ (Option.map _ (rawF _ 3 (z % tw 3) _)) = _
            rw [Option.map_map, show z % tw 3 = z % 8 from by simp [tw]]; simp [Function.comp_def]
          · rw [en_drop]; omega
          · rw [en_drop]; omega
        have hown2 := hown.alloc (.cells #[.int .u8 (sch n)] 5)
        have hlen : (pre.map sch).length = pre.length := List.length_map _
        clear hR z1 hq h31 hn'
        go_wp2_with (first | (go_at_call 244; refine (specByte n _ hn0 hn30).mono ?_; rintro e w' ⟨rfl, rfl⟩) | (at_builtin; refine wpList_append_own _ rfl _ _ 131 rfl w.heap.size 5 i0 (.int .u8 0) 1 1 Tryz.underlying131 hi hz0 hz1 hz2 rfl (by decide) _ _ _ rfl hown2 ⟨_, 0, none⟩ 1 1 [.int .u8 (sch n)] rfl rfl (cell_one_new _ _ _) ?d2 ?d3 ?d4 ?d5 ?_))
        case d2 => first | rfl | (intro u hu; simp at hu; subst hu; rfl)
        case d3 => first | omega | (unfold maxLen; omega)
        case d4 => omega
        case d5 => first | omega | (simp; omega)
        intro v' w3 hown3 hgrow _
        have HX : Hid (∀ x ∈ pre ++ [n], 0 ≤ x ∧ x ≤ 30) := by show ∀ _ ∈ _, _; intro x hx2; rcases List.mem_append.1 hx2 with h | h; exact hx.out x h; simp at h; omega
        have hB3 : Below w.heap.size w w3 := (hB.alloc hB.size _).grown hgrow (by simp; omega) (fun k hk => (hown2.lt k hk).1)
        have HO : Hid (w3.ownsRow w.heap.size 5 1 v' (pre ++ [n]).length (((pre ++ [n]).map sch).map (Value.int .u8))) := by show World.ownsRow _ _ _ _ _ _ _; simpa using hown3
        obtain ⟨ad2, cap2, hv2, _, _⟩ := owns_form HO.out
        subst hv2
        clear hown3 hown2 hown hx hlen hgrow
        go_wp2_with fail
        go_roundw
        case rel => exact ⟨3, z % 8, pre ++ [n], ad2, cap2, by go_num, by go_num, rfl, by omega, by omega, HZ, by simp; omega, HR, HO.out, HX, hB3⟩
        case measure => simp [intOf]
      · have hzb : z < 512 := by have := z1.out; simpa [tw] using this
        have hq : z / tw (9 - 5) = z / 16 := by simp [tw]
        obtain ⟨n, hn⟩ : ∃ n, z / 16 % 32 = n := ⟨_, rfl⟩
        have hn' : z / 16 = n := by omega
        have hn0 : 0 ≤ n := by omega
        by_cases h31 : n = 31
        · subst h31
          by_cases hlast : k + 1 < s.size
          · have HV : Hid (unV s = (⟨#[]⟩, false)) := by
              show _ = _
              rw [unV_pack, hR.out, en_drop, rawF_ones (by omega) (by rw [hq]; omega), if_neg (bys_short hlast)]; rfl
            have hlast' : (k : Int) + 1 < s.size := by omega
            clear hR z1 hq hn'
            go_wp2_with fail
            go_ret2
            rw [HV.out]
            exact ⟨rfl, hB⟩
          · have HU : Hid (UnAt s (k + 1) 9 z pre) := .inr ⟨by omega, by
              rw [hR.out, en_drop, rawF_ones (by omega) (by rw [hq]; omega), if_pos (bys_end s (k + 1) (by omega))]; simp⟩
            have hlast' : ¬ (k : Int) + 1 < s.size := by omega
            clear hR z1 hq hn'
            go_wp2_with fail
            go_roundw
            case rel => exact ⟨k + 1, 9, z, pre, ad, cap, by go_num, rfl, rfl, rfl, by omega, by omega, HU, hown, hx, hB⟩
            case measure => simp [intOf]; omega
        have hn30 : n ≤ 30 := by omega
        have h31b : (n == 31) = false := by simpa using h31
        have HZ : Hid (z % 16 < tw 4) := by show _ < _; simp [tw]; omega
        have HR : Hid (rawV s = (rawF (enF 4 ((bys s).drop (k + 1))) 4 (z % 16) ((bys s).drop (k + 1))).map (fun r => ((pre ++ [n]) ++ r.1, r.2))) := by
          show _ = _
          rw [hR.out, en_drop, rawF_sign (by omega) (by rw [hq]; omega), hq, hn', en_drop, rawF_enough _ (9 * (s.size - (k + 1)) + 4 + 1)]
          · show Option.map _ (Option.map _ (rawF _ 4 (z % tw 4) _)) = _
            rw [Option.map_map, show z % tw 4 = z % 16 from by simp [tw]]; simp [Function.comp_def]
          · rw [en_drop]; omega
          · rw [en_drop]; omega
        have hown2 := hown.alloc (.cells #[.int .u8 (sch n)] 5)
        have hlen : (pre.map sch).length = pre.length := List.length_map _
        clear hR z1 hq h31 hn'
        go_wp2_with (first | (go_at_call 244; refine (specByte n _ hn0 hn30).mono ?_; rintro e w' ⟨rfl, rfl⟩) | (at_builtin; refine wpList_append_own _ rfl _ _ 131 rfl w.heap.size 5 i0 (.int .u8 0) 1 1 Tryz.underlying131 hi hz0 hz1 hz2 rfl (by decide) _ _ _ rfl hown2 ⟨_, 0, none⟩ 1 1 [.int .u8 (sch n)] rfl rfl (cell_one_new _ _ _) ?d2 ?d3 ?d4 ?d5 ?_))
        case d2 => first | rfl | (intro u hu; simp at hu; subst hu; rfl)
        case d3 => first | omega | (unfold maxLen; omega)
        case d4 => omega
        case d5 => first | omega | (simp; omega)
        intro v' w3 hown3 hgrow _
        have HX : Hid (∀ x ∈ pre ++ [n], 0 ≤ x ∧ x ≤ 30) := by show ∀ _ ∈ _, _; intro x hx2; rcases List.mem_append.1 hx2 with h | h; exact hx.out x h; simp at h; omega
        have hB3 : Below w.heap.size w w3 := (hB.alloc hB.size _).grown hgrow (by simp; omega) (fun k hk => (hown2.lt k hk).1)
        have HO : Hid (w3.ownsRow w.heap.size 5 1 v' (pre ++ [n]).length (((pre ++ [n]).map sch).map (Value.int .u8))) := by show World.ownsRow _ _ _ _ _ _ _; simpa using hown3
        obtain ⟨ad2, cap2, hv2, _, _⟩ := owns_form HO.out
        subst hv2
        clear hown3 hown2 hown hx hlen hgrow
        go_wp2_with fail
        go_roundw
        case rel => exact ⟨4, z % 16, pre ++ [n], ad2, cap2, by go_num, by go_num, rfl, by omega, by omega, HZ, by simp; omega, HR, HO.out, HX, hB3⟩
        case measure => simp [intOf]
      · have hzb : z < 1024 := by have := z1.out; simpa [tw] using this
        have hq : z / tw (10 - 5) = z / 32 := by simp [tw]
        obtain ⟨n, hn⟩ : ∃ n, z / 32 % 32 = n := ⟨_, rfl⟩
        have hn' : z / 32 = n := by omega
        have hn0 : 0 ≤ n := by omega
        by_cases h31 : n = 31
        · subst h31
          by_cases hlast : k + 1 < s.size
          · have HV : Hid (unV s = (⟨#[]⟩, false)) := by
              show _ = _
              rw [unV_pack, hR.out, en_drop, rawF_ones (by omega) (by rw [hq]; omega), if_neg (bys_short hlast)]; rfl
            have hlast' : (k : Int) + 1 < s.size := by omega
            clear hR z1 hq hn'
            go_wp2_with fail
            go_ret2
            rw [HV.out]
            exact ⟨rfl, hB⟩
          · have HU : Hid (UnAt s (k + 1) 10 z pre) := .inr ⟨by omega, by
              rw [hR.out, en_drop, rawF_ones (by omega) (by rw [hq]; omega), if_pos (bys_end s (k + 1) (by omega))]; simp⟩
            have hlast' : ¬ (k : Int) + 1 < s.size := by omega
            clear hR z1 hq hn'
            go_wp2_with fail
            go_roundw
            case rel => exact ⟨k + 1, 10, z, pre, ad, cap, by go_num, rfl, rfl, rfl, by omega, by omega, HU, hown, hx, hB⟩
            case measure => simp [intOf]; omega
        have hn30 : n ≤ 30 := by omega
        have h31b : (n == 31) = false := by simpa using h31
        have HZ : Hid (z % 32 < tw 5) := by show _ < _; simp [tw]; omega
        have HR : Hid (rawV s = (rawF (enF 5 ((bys s).drop (k + 1))) 5 (z % 32) ((bys s).drop (k + 1))).map (fun r => ((pre ++ [n]) ++ r.1, r.2))) := by
          show _ = _
          rw [hR.out, en_drop, rawF_sign (by omega) (by rw [hq]; omega), hq, hn', en_drop, rawF_enough _ (9 * (s.size - (k + 1)) + 5 + 1)]
          · show Option.map _ (Option.map _ (rawF _ 5 (z % tw 5) _)) = _
            rw [Option.map_map, show z % tw 5 = z % 32 from by simp [tw]]; simp [Function.comp_def]
          · rw [en_drop]; omega
          · rw [en_drop]; omega
        have hown2 := hown.alloc (.cells #[.int .u8 (sch n)] 5)
        have hlen : (pre.map sch).length = pre.length := List.length_map _
        clear hR z1 hq h31 hn'
        go_wp2_with (first | (go_at_call 244; refine (specByte n _ hn0 hn30).mono ?_; rintro e w' ⟨rfl, rfl⟩) | (at_builtin; refine wpList_append_own _ rfl _ _ 131 rfl w.heap.size 5 i0 (.int .u8 0) 1 1 Tryz.underlying131 hi hz0 hz1 hz2 rfl (by decide) _ _ _ rfl hown2 ⟨_, 0, none⟩ 1 1 [.int .u8 (sch n)] rfl rfl (cell_one_new _ _ _) ?d2 ?d3 ?d4 ?d5 ?_))
        case d2 => first | rfl | (intro u hu; simp at hu; subst hu; rfl)
        case d3 => first | omega | (unfold maxLen; omega)
        case d4 => omega
        case d5 => first | omega | (simp; omega)
        intro v' w3 hown3 hgrow _
        have HX : Hid (∀ x ∈ pre ++ [n], 0 ≤ x ∧ x ≤ 30) := by show ∀ _ ∈ _, _; intro x hx2; rcases List.mem_append.1 hx2 with h | h; exact hx.out x h; simp at h; omega
        have hB3 : Below w.heap.size w w3 := (hB.alloc hB.size _).grown hgrow (by simp; omega) (fun k hk => (hown2.lt k hk).1)
        have HO : Hid (w3.ownsRow w.heap.size 5 1 v' (pre ++ [n]).length (((pre ++ [n]).map sch).map (Value.int .u8))) := by show World.ownsRow _ _ _ _ _ _ _; simpa using hown3
        obtain ⟨ad2, cap2, hv2, _, _⟩ := owns_form HO.out
        subst hv2
        clear hown3 hown2 hown hx hlen hgrow
        go_wp2_with fail
        go_roundw
        case rel => exact ⟨5, z % 32, pre ++ [n], ad2, cap2, by go_num, by go_num, rfl, by omega, by omega, HZ, by simp; omega, HR, HO.out, HX, hB3⟩
        case measure => simp [intOf]
      · have hzb : z < 2048 := by have := z1.out; simpa [tw] using this
        have hq : z / tw (11 - 5) = z / 64 := by simp [tw]
        obtain ⟨n, hn⟩ : ∃ n, z / 64 % 32 = n := ⟨_, rfl⟩
        have hn' : z / 64 = n := by omega
        have hn0 : 0 ≤ n := by omega
        by_cases h31 : n = 31
        · subst h31
          by_cases hlast : k + 1 < s.size
          · have HV : Hid (unV s = (⟨#[]⟩, false)) := by
              show _ = _
              rw [unV_pack, hR.out, en_drop, rawF_ones (by omega) (by rw [hq]; omega), if_neg (bys_short hlast)]; rfl
            have hlast' : (k : Int) + 1 < s.size := by omega
            clear hR z1 hq hn'
            go_wp2_with fail
            go_ret2
            rw [HV.out]
            exact ⟨rfl, hB⟩
          · have HU : Hid (UnAt s (k + 1) 11 z pre) := .inr ⟨by omega, by
              rw [hR.out, en_drop, rawF_ones (by omega) (by rw [hq]; omega), if_pos (bys_end s (k + 1) (by omega))]; simp⟩
            have hlast' : ¬ (k : Int) + 1 < s.size := by omega
            clear hR z1 hq hn'
            go_wp2_with fail
            go_roundw
            case rel => exact ⟨k + 1, 11, z, pre, ad, cap, by go_num, rfl, rfl, rfl, by omega, by omega, HU, hown, hx, hB⟩
            case measure => simp [intOf]; omega
        have hn30 : n ≤ 30 := by omega
        have h31b : (n == 31) = false := by simpa using h31
        have HZ : Hid (z % 64 < tw 6) := by show _ < _; simp [tw]; omega
        have HR : Hid (rawV s = (rawF (enF 6 ((bys s).drop (k + 1))) 6 (z % 64) ((bys s).drop (k + 1))).map (fun r => ((pre ++ [n]) ++ r.1, r.2))) := by
          show _ = _
          rw [hR.out, en_drop, rawF_sign (by omega) (by rw [hq]; omega), hq, hn', en_drop, rawF_enough _ (9 * (s.size - (k + 1)) + 6 + 1)]
          · show Option.map _ (Option.map _ (rawF _ 6 (z % tw 6) _)) = _
            rw [Option.map_map, show z % tw 6 = z % 64 from by simp [tw]]; simp [Function.comp_def]
          · rw [en_drop]; omega
          · rw [en_drop]; omega
        have hown2 := hown.alloc (.cells #[.int .u8 (sch n)] 5)
        have hlen : (pre.map sch).length = pre.length := List.length_map _
        clear hR z1 hq h31 hn'
        go_wp2_with (first | (go_at_call 244; refine (specByte n _ hn0 hn30).mono ?_; rintro e w' ⟨rfl, rfl⟩) | (at_builtin; refine wpList_append_own _ rfl _ _ 131 rfl w.heap.size 5 i0 (.int .u8 0) 1 1 Tryz.underlying131 hi hz0 hz1 hz2 rfl (by decide) _ _ _ rfl hown2 ⟨_, 0, none⟩ 1 1 [.int .u8 (sch n)] rfl rfl (cell_one_new _ _ _) ?d2 ?d3 ?d4 ?d5 ?_))
        case d2 => first | rfl | (intro u hu; simp at hu; subst hu; rfl)
        case d3 => first | omega | (unfold maxLen; omega)
        case d4 => omega
        case d5 => first | omega | (simp; omega)
        intro v' w3 hown3 hgrow _
        have HX : Hid (∀ x ∈ pre ++ [n], 0 ≤ x ∧ x ≤ 30) := by show ∀ _ ∈ _, _; intro x hx2; rcases List.mem_append.1 hx2 with h | h; exact hx.out x h; simp at h; omega
        have hB3 : Below w.heap.size w w3 := (hB.alloc hB.size _).grown hgrow (by simp; omega) (fun k hk => (hown2.lt k hk).1)
        have HO : Hid (w3.ownsRow w.heap.size 5 1 v' (pre ++ [n]).length (((pre ++ [n]).map sch).map (Value.int .u8))) := by show World.ownsRow _ _ _ _ _ _ _; simpa using hown3
        obtain ⟨ad2, cap2, hv2, _, _⟩ := owns_form HO.out
        subst hv2
        clear hown3 hown2 hown hx hlen hgrow
        go_wp2_with fail
        go_roundw
        case rel => exact ⟨6, z % 64, pre ++ [n], ad2, cap2, by go_num, by go_num, rfl, by omega, by omega, HZ, by simp; omega, HR, HO.out, HX, hB3⟩
        case measure => simp [intOf]
      · have hzb : z < 4096 := by have := z1.out; simpa [tw] using this
        have hq : z / tw (12 - 5) = z / 128 := by simp [tw]
        obtain ⟨n, hn⟩ : ∃ n, z / 128 % 32 = n := ⟨_, rfl⟩
        have hn' : z / 128 = n := by omega
        have hn0 : 0 ≤ n := by omega
        by_cases h31 : n = 31
        · subst h31
          by_cases hlast : k + 1 < s.size
          · have HV : Hid (unV s = (⟨#[]⟩, false)) := by
              show _ = _
              rw [unV_pack, hR.out, en_drop, rawF_ones (by omega) (by rw [hq]; omega), if_neg (bys_short hlast)]; rfl
            have hlast' : (k : Int) + 1 < s.size := by omega
            clear hR z1 hq hn'
            go_wp2_with fail
            go_ret2
            rw [HV.out]
            exact ⟨rfl, hB⟩
          · have HU : Hid (UnAt s (k + 1) 12 z pre) := .inr ⟨by omega, by
              rw [hR.out, en_drop, rawF_ones (by omega) (by rw [hq]; omega), if_pos (bys_end s (k + 1) (by omega))]; simp⟩
            have hlast' : ¬ (k : Int) + 1 < s.size := by omega
            clear hR z1 hq hn'
            go_wp2_with fail
            go_roundw
            case rel => exact ⟨k + 1, 12, z, pre, ad, cap, by go_num, rfl, rfl, rfl, by omega, by omega, HU, hown, hx, hB⟩
            case measure => simp [intOf]; omega
        have hn30 : n ≤ 30 := by omega
        have h31b : (n == 31) = false := by simpa using h31
        have HZ : Hid (z % 128 < tw 7) := by show _ < _; simp [tw]; omega
        have HR : Hid (rawV s = (rawF (enF 7 ((bys s).drop (k + 1))) 7 (z % 128) ((bys s).drop (k + 1))).map (fun r => ((pre ++ [n]) ++ r.1, r.2))) := by
          show _ = _
          rw [hR.out, en_drop, rawF_sign (by omega) (by rw [hq]; omega), hq, hn', en_drop, rawF_enough _ (9 * (s.size - (k + 1)) + 7 + 1)]
          · show Option.map _ (Option.map _ (rawF _ 7 (z % tw 7) _)) = _
            rw [Option.map_map, show z % tw 7 = z % 128 from by simp [tw]]; simp [Function.comp_def]
          · rw [en_drop]; omega
          · rw [en_drop]; omega
        have hown2 := hown.alloc (.cells #[.int .u8 (sch n)] 5)
        have hlen : (pre.map sch).length = pre.length := List.length_map _
        clear hR z1 hq h31 hn'
        go_wp2_with (first | (go_at_call 244; refine (specByte n _ hn0 hn30).mono ?_; rintro e w' ⟨rfl, rfl⟩) | (at_builtin; refine wpList_append_own _ rfl _ _ 131 rfl w.heap.size 5 i0 (.int .u8 0) 1 1 Tryz.underlying131 hi hz0 hz1 hz2 rfl (by decide) _ _ _ rfl hown2 ⟨_, 0, none⟩ 1 1 [.int .u8 (sch n)] rfl rfl (cell_one_new _ _ _) ?d2 ?d3 ?d4 ?d5 ?_))
        case d2 => first | rfl | (intro u hu; simp at hu; subst hu; rfl)
        case d3 => first | omega | (unfold maxLen; omega)
        case d4 => omega
        case d5 => first | omega | (simp; omega)
        intro v' w3 hown3 hgrow _
        have HX : Hid (∀ x ∈ pre ++ [n], 0 ≤ x ∧ x ≤ 30) := by show ∀ _ ∈ _, _; intro x hx2; rcases List.mem_append.1 hx2 with h | h; exact hx.out x h; simp at h; omega
        have hB3 : Below w.heap.size w w3 := (hB.alloc hB.size _).grown hgrow (by simp; omega) (fun k hk => (hown2.lt k hk).1)
        have HO : Hid (w3.ownsRow w.heap.size 5 1 v' (pre ++ [n]).length (((pre ++ [n]).map sch).map (Value.int .u8))) := by show World.ownsRow _ _ _ _ _ _ _; simpa using hown3
        obtain ⟨ad2, cap2, hv2, _, _⟩ := owns_form HO.out
        subst hv2
        clear hown3 hown2 hown hx hlen hgrow
        go_wp2_with fail
        go_roundw
        case rel => exact ⟨7, z % 128, pre ++ [n], ad2, cap2, by go_num, by go_num, rfl, by omega, by omega, HZ, by simp; omega, HR, HO.out, HX, hB3⟩
        case measure => simp [intOf]
end Go.Proofs.YtllaeakeaabiaaaGreat
