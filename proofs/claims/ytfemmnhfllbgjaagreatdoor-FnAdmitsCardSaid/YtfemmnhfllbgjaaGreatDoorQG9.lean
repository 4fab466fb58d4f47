/- Several small texts of one level, one behind the other. -/
import Derived.Test.YtfemmnhfllbgjaaGreatDoorQG6
import Derived.Test.YtfemmnhfllbgjaaGreatDoorQG8
import Derived.WideShapes
import Derived.Test.YtfemmnhfllbgjaaGreatDoorQG4
import Derived.Test.YtfemmnhfllbgjaaGreatDoorQG3
import Derived.Deep.RegionHeld3
import Derived.Deep.DeepCutAuto
/- Tenants in plain words: when a list of them is right, who is found, who is admitted, who reaches a place. -/
namespace Go.Proofs.YtfemmnhfllbgjaaGreatDoor
open Go.RowKit
set_option maxRecDepth 100000
set_option linter.unusedSimpArgs false
set_option linter.unusedVariables false
/-- The order of texts, as the language compares them. -/
def leS (a b : ByteArray) : Bool := Op.bytesLess a.toList b.toList || a.toList == b.toList
def zTn : TenantD := ⟨⟨#[]⟩, ⟨#[]⟩, [], 0⟩
abbrev tn (L : List TenantD) (i : Nat) : TenantD := L.getD i zTn
theorem tn_get {L : List TenantD} {i : Nat} (h : i < L.length) : tn L i = L[i] := by simp [tn, h]
def okTn (x : TenantD) : Bool := nameB x.nm && inB (x.key.size : Int) 1 40 && decide (x.list.length ≤ 20) && inB x.quota 0 20 && x.list.all (fun s => decide (s.size ≤ 60))
theorem okTn_iff {x : TenantD} : okTn x = true ↔ nameB x.nm = true ∧ inB (x.key.size : Int) 1 40 = true ∧ x.list.length ≤ 20 ∧ inB x.quota 0 20 = true ∧ ∀ s ∈ x.list, s.size ≤ 60 := by
  unfold okTn
  simp only [Bool.and_eq_true, decide_eq_true_eq, List.all_eq_true]
  constructor
  · rintro ⟨⟨⟨⟨a, b⟩, c⟩, d⟩, e⟩; exact ⟨a, b, c, d, e⟩
  · rintro ⟨a, b, c, d, e⟩; exact ⟨⟨⟨⟨a, b⟩, c⟩, d⟩, e⟩
def okTs (L : List TenantD) : Bool := decide (L.length ≤ 8) && (List.range L.length).all (fun i => okTn (tn L i) && (decide (i = 0) || !leS (tn L i).nm (tn L (i - 1)).nm))
theorem okTs_iff {L : List TenantD} : okTs L = true ↔ L.length ≤ 8 ∧ ∀ i, i < L.length → okTn (tn L i) = true ∧ (i = 0 ∨ leS (tn L i).nm (tn L (i - 1)).nm = false) := by
  unfold okTs
  simp only [Bool.and_eq_true, decide_eq_true_eq, List.all_eq_true, List.mem_range, Bool.or_eq_true, Bool.not_eq_true']
theorem ts_false {L : List TenantD} (h : ¬ (L.length ≤ 8 ∧ ∀ i, i < L.length → okTn (tn L i) = true ∧ (i = 0 ∨ leS (tn L i).nm (tn L (i - 1)).nm = false))) : okTs L = false := by
  cases e : okTs L
  · rfl
  · exact absurd (okTs_iff.1 e) h
/-- The first of that name, or none. -/
def atF (name : ByteArray) : Nat → List TenantD → Int
  | _, [] => -1
  | i, x :: L => if x.nm = name then (i : Int) else atF name (i + 1) L
def atV (L : List TenantD) (name : ByteArray) : Int := atF name 0 L
theorem atF_at {name : ByteArray} : ∀ (L : List TenantD) (i : Nat), atF name i L = -1 ∨ ∃ k : Nat, ∃ h : k < L.length, atF name i L = ((i + k : Nat) : Int) ∧ L[k].nm = name
  | [], i => .inl rfl
  | x :: L, i => by
    unfold atF
    split
    · rename_i h; exact .inr ⟨0, by simp, by simp, h⟩
    · rcases atF_at L (i + 1) with h | ⟨k, hk, h1, h2⟩
      · exact .inl h
      · exact .inr ⟨k + 1, by simpa using hk, by rw [h1]; congr 1; omega, by simpa using h2⟩
theorem at_found {L : List TenantD} {name : ByteArray} (h : 0 ≤ atV L name) : ∃ k : Nat, k < L.length ∧ atV L name = k ∧ (tn L k).nm = name := by
  rcases atF_at (name := name) L 0 with e | ⟨k, hk, h1, h2⟩
  · unfold atV at h; omega
  · exact ⟨k, hk, by unfold atV; rw [h1]; simp, by rw [tn_get hk]; exact h2⟩
theorem at_neg {L : List TenantD} {name : ByteArray} (h : ¬ 0 ≤ atV L name) : atV L name = -1 := by
  rcases atF_at (name := name) L 0 with e | ⟨k, hk, h1, h2⟩
  · exact e
  · exfalso; apply h; unfold atV; rw [h1]; omega
theorem atF_none {name : ByteArray} : ∀ (L : List TenantD) (i : Nat), (∀ x ∈ L, x.nm ≠ name) → atF name i L = -1
  | [], i, _ => rfl
  | x :: L, i, h => by unfold atF; rw [if_neg (h x (by simp))]; exact atF_none L (i + 1) (fun y hy => h y (by simp [hy]))
theorem str_eq (a b : ByteArray) : (a.toList == b.toList) = decide (a = b) := by
  by_cases h : a = b
  · subst h; simp
  · have : ¬ a.toList = b.toList := fun e => h (by rw [ByteArray.toList_eq, ByteArray.toList_eq] at e; exact Go.WideShapes.bytes_inj e)
    simp [h, this]
def tenantV (L : List TenantD) (name : ByteArray) : TenantD × Bool := if okTs L = true ∧ 0 ≤ atV L name then (tn L (atV L name).toNat, true) else (zTn, false)
def admitV (L : List TenantD) (token target : ByteArray) (now open_ : Int) : Int :=
  if okTs L = false ∨ timeB now = false ∨ open_ < 0 then 500
  else if (readV token).2.2 = false ∨ atV L (readV token).1 < 0 ∨ signV token (tn L (atV L (readV token).1).toNat).key now = false then 401
  else if listV (tn L (atV L (readV token).1).toNat).list target = false then 403
  else if (tn L (atV L (readV token).1).toNat).quota ≤ open_ then 429 else 200
def reachV (L : List TenantD) (target : ByteArray) : List ByteArray := if okTs L = true then (L.filter (fun x => listV x.list target)).map (·.nm) else []
end Go.Proofs.YtfemmnhfllbgjaaGreatDoor
/- What the laws of tokens draw: digits, texts of a few. -/
namespace Go.Proofs.YtfemmnhfllbgjaaGreatDoor
open Go.RowKit
set_option maxRecDepth 100000
set_option linter.unusedSimpArgs false
set_option linter.unusedVariables false
set_option maxHeartbeats 1000000 in
theorem drawName14 (g B : Nat) (w : World) (hc : Cur w g B) :
    Calls Tryz.prog 31 #[.pointer (some ⟨g, 0, none⟩)] w fun e w' => ∃ z : ByteArray, z.size ≤ 100 ∧ e = .returned (.string z) ∧ Cur w' g B ∧ Moves g w w' := by
  have hgw := hc.lt
  go_enter Tryz.func31, Tryz.ntmps31
  go_wp2_with fail
  refine (once1 g B 14 _ hc (by omega)).mono ?_; rintro e w1 ⟨v, rfl, hc1, hm1⟩
  have hg1 := hc1.lt
  cases v
  · go_wp2_with fail
    obtain ⟨VA, hVA⟩ : ∃ V, w1.alloc (.cells #[.string ⟨#[97, 110, 110, 97]⟩, .string ⟨#[98, 101, 114, 116]⟩] 9) = V := ⟨_, rfl⟩
    have RA : RowIs VA w1.heap.size 9 [.string ⟨#[97, 110, 110, 97]⟩, .string ⟨#[98, 101, 114, 116]⟩] := by rw [← hVA]; exact rowIs_new w1 _ _
    have hbA : Below w1.heap.size w1 VA := by rw [← hVA]; exact (Below.refl _ _).alloc (Nat.le_refl _) _
    rw [hVA]
    clear hVA
    refine (below1 g B 2 _ (hc1.below hbA) (by omega)).mono ?_; rintro e w2 ⟨q, q0, q1, _, rfl, hc2, hm2⟩
    have q6 := q1 (by omega)
    replace RA := RA.moves hm2 (by omega)
    obtain ⟨qn, rfl⟩ : ∃ n : Nat, q = n := ⟨q.toNat, by omega⟩
    obtain ⟨z, hz0, hz⟩ : ∃ z : ByteArray, z.size ≤ 100 ∧ w2.cell? ⟨w1.heap.size, qn, none⟩ = some (.string z) := by
      have : qn = 0 ∨ qn = 1 := by omega
      rcases this with rfl | rfl <;> exact ⟨_, by decide, RA.cell rfl⟩
    have hlA := RA.lt
    have hmm := (hm1.trans (Moves.of_below hbA)).trans hm2
    clear q1 RA hbA hm2 hm1
    go_wp2_with fail
    go_ret
    exact ⟨z, hz0, rfl, hc2, hmm⟩
  · go_wp2_with fail
    obtain ⟨VA, hVA⟩ : ∃ V, w1.alloc (.cells #[.string ⟨#[]⟩, .string ⟨#[65]⟩, .string ⟨#[97, 98, 99, 100, 101, 102, 103, 104, 105, 106, 107, 108, 109, 110, 111, 112, 113, 114, 115, 116]⟩, .string ⟨#[97, 98, 99, 100, 101, 102, 103, 104, 105, 106, 107, 108, 109, 110, 111, 112, 113, 114, 115, 116, 117]⟩, .string ⟨#[100, 111, 114, 97]⟩] 9) = V := ⟨_, rfl⟩
    have RA : RowIs VA w1.heap.size 9 [.string ⟨#[]⟩, .string ⟨#[65]⟩, .string ⟨#[97, 98, 99, 100, 101, 102, 103, 104, 105, 106, 107, 108, 109, 110, 111, 112, 113, 114, 115, 116]⟩, .string ⟨#[97, 98, 99, 100, 101, 102, 103, 104, 105, 106, 107, 108, 109, 110, 111, 112, 113, 114, 115, 116, 117]⟩, .string ⟨#[100, 111, 114, 97]⟩] := by rw [← hVA]; exact rowIs_new w1 _ _
    have hbA : Below w1.heap.size w1 VA := by rw [← hVA]; exact (Below.refl _ _).alloc (Nat.le_refl _) _
    rw [hVA]
    clear hVA
    refine (below1 g B 5 _ (hc1.below hbA) (by omega)).mono ?_; rintro e w2 ⟨q, q0, q1, _, rfl, hc2, hm2⟩
    have q6 := q1 (by omega)
    replace RA := RA.moves hm2 (by omega)
    obtain ⟨qn, rfl⟩ : ∃ n : Nat, q = n := ⟨q.toNat, by omega⟩
    obtain ⟨z, hz0, hz⟩ : ∃ z : ByteArray, z.size ≤ 100 ∧ w2.cell? ⟨w1.heap.size, qn, none⟩ = some (.string z) := by
      have : qn = 0 ∨ qn = 1 ∨ qn = 2 ∨ qn = 3 ∨ qn = 4 := by omega
      rcases this with rfl | rfl | rfl | rfl | rfl <;> exact ⟨_, by decide, RA.cell rfl⟩
    have hlA := RA.lt
    have hmm := (hm1.trans (Moves.of_below hbA)).trans hm2
    clear q1 RA hbA hm2 hm1
    go_wp2_with fail
    go_ret
    exact ⟨z, hz0, rfl, hc2, hmm⟩
end Go.Proofs.YtfemmnhfllbgjaaGreatDoor
/- The program's mac. -/
namespace Go.Proofs.YtfemmnhfllbgjaaGreatDoor
open Go.RowKit
set_option maxRecDepth 100000
set_option linter.unusedSimpArgs false
set_option linter.unusedVariables false
set_option maxHeartbeats 1600000 in
theorem implMac (key text : ByteArray) (w : World) (hk : key.size ≤ maxLen) (ht : text.size ≤ maxLen) : Calls Tryz.prog 72 #[.string key, .string text] w fun x w' => x = .returned (.int .i64 (macV key text)) ∧ Below w.heap.size w w' := by
  have hmac : ∀ (g : Nat) (u : World), RowIs u g 119 [.string key, .int .u32 0, .int .i32 0, .int .u32 0, .int .i64 0, .int .i64 0] → Calls Tryz.prog 86 #[.pointer (some ⟨g, 0, none⟩), .string text] u fun x w' => x = .returned (.int .i64 (macV key text)) ∧ Below g u w' := by
    intro g u R
    obtain ⟨H, hH⟩ : ∃ H, macL 17 (bys key ++ [10]) = H := ⟨_, rfl⟩
    have eH : macS (macL 17 (bys key)) 10 = H := by rw [← hH, macL_app]; rfl
    have eV : macL (macS (macL H (bys text)) 10) (bys key) = macV key text := by
      unfold macV
      rw [macL_app, macL_app, macL_app, macL_app, ← hH, macL_app]; rfl
    have rH : 0 ≤ H ∧ H ≤ 2147483646 := by rw [← hH]; exact macL_range _ (by decide) (by decide)
    have r17 := macL_range (h := 17) (bys key) (by decide) (by decide)
    have hm1 := mixedKey1 key 17 g u hk (by decide) (by decide) R
    obtain ⟨h17, e17⟩ : ∃ x, macL 17 (bys key) = x := ⟨_, rfl⟩
    rw [e17] at hm1 eH r17
    obtain ⟨A, hA⟩ : ∃ A, macV key text = A := ⟨_, rfl⟩
    rw [hA] at eV ⊢
    have EV := hide eV
    clear hH e17 R eV hA
    unfold maxLen at ht
    go_enter Tryz.func86, Tryz.ntmps86
    go_wp2_with fail
    refine hm1.mono ?_; rintro e w2 ⟨rfl, R2, b2⟩
    have HR := hide R2; have HB := hide b2
    clear R2 b2 hm1
    go_wp2_with fail
    refine (implMixed h17 10 _ r17.1 r17.2 (by decide) (by decide)).mono ?_; rw [eH]; rintro e w3 ⟨rfl, hsame⟩; obtain rfl := hsame.symm; clear hsame
    clear eH r17
    go_wp2_with fail
    go_loop [5, 12] (fun h i => ∃ k : Nat, i = .int .i64 k ∧ k ≤ text.size ∧ h = .int .i64 (macL H ((bys text).take k))) (fun _ i => text.size - (intOf i).toNat)
    case atStart => exact ⟨0, rfl, Nat.zero_le _, by rw [List.take_zero]; rfl⟩
    case round =>
      obtain ⟨k, rfl, hks, rfl⟩ := hrel
      have rm := macL_range ((bys text).take k) rH.1 rH.2
      by_cases hlt : k < text.size
      · have hltI : (k : Int) < text.size := by omega
        have hmt := mac_take (h := H) hlt
        obtain ⟨m, hm⟩ : ∃ m, macL H ((bys text).take k) = m := ⟨_, rfl⟩
        rw [hm] at hmt rm ⊢
        obtain ⟨b, hb⟩ : ∃ b, (text[k].toNat : Int) = b := ⟨_, rfl⟩
        have rb : 0 ≤ b ∧ b ≤ 255 := by have := text[k].toNat_lt; omega
        rw [hb] at hmt
        have HMT := hide hmt
        clear hm hmt
        go_wp2_with fail
        refine (implMixed m b _ rm.1 rm.2 rb.1 rb.2).mono ?_; rintro e w3 ⟨rfl, hsame⟩; obtain rfl := hsame.symm; clear hsame
        go_wp2_with fail
        go_round
        case rel => exact ⟨k + 1, by go_num, by omega, by rw [HMT.out]⟩
        case measure => simp [intOf]; omega
      · obtain rfl : k = text.size := by omega
        have hE : (bys text).take text.size = bys text := List.take_of_length_le (by rw [bys_len]; omega)
        rw [hE] at rm ⊢
        obtain ⟨m, hm⟩ : ∃ m, macL H (bys text) = m := ⟨_, rfl⟩
        rw [hm] at rm EV ⊢
        clear hm hE
        go_wp2_with fail
        refine (implMixed m 10 _ rm.1 rm.2 (by decide) (by decide)).mono ?_; rintro e w3 ⟨rfl, hsame⟩; obtain rfl := hsame.symm; clear hsame
        go_wp2_with fail
        have rs := macS_range m 10
        refine (mixedKey2 key (macS m 10) g _ rs.1 rs.2 HR.out).mono ?_; rw [EV.out]; rintro e w3 ⟨rfl, b3⟩
        have HB3 := hide b3
        clear b3
        go_wp2_with fail
        go_ret
        exact ⟨rfl, HB.out.trans HB3.out⟩
  have HM := hide hmac
  clear hmac
  go_enter Tryz.func72, Tryz.ntmps72
  go_wp2_with fail
  have R : RowIs _ w.heap.size 119 [.string key, .int .u32 0, .int .i32 0, .int .u32 0, .int .i64 0, .int .i64 0] := rowIs_new w 119 [.string key, .int .u32 0, .int .i32 0, .int .u32 0, .int .i64 0, .int .i64 0]
  refine (HM.out _ _ R).mono ?_; rintro e w2 ⟨rfl, b2⟩
  have HB : Hid (Below w.heap.size w w2) := ((Below.refl _ _).alloc (Nat.le_refl _) _).trans b2
  clear b2 R
  go_wp2_with fail
  go_ret
  exact ⟨rfl, HB.out⟩
end Go.Proofs.YtfemmnhfllbgjaaGreatDoor
