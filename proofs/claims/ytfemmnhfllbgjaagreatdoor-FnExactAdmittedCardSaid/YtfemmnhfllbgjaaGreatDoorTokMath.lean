/- Tokens in plain words: the mac, numbers as texts and back, texts parted at a sign. -/
import Derived.Test.YtfemmnhfllbgjaaGreatDoorByteMath
import Derived.Test.YtfemmnhfllbgjaaGreatDoorInB
namespace Go.Proofs.YtfemmnhfllbgjaaGreatDoor
open Go.RowKit
set_option maxRecDepth 100000
set_option linter.unusedSimpArgs false
set_option linter.unusedVariables false
def macS (h b : Int) : Int := (h * 1000003 + b + 1) % 2147483647
def macL (h : Int) : List Int → Int
  | [] => h
  | b :: l => macL (macS h b) l
theorem macL_app (h : Int) (a b : List Int) : macL h (a ++ b) = macL (macL h a) b := by
  induction a generalizing h with
  | nil => rfl
  | cons x a ih => exact ih _
theorem macS_range (h b : Int) : 0 ≤ macS h b ∧ macS h b ≤ 2147483646 := by
  unfold macS
  have h1 := Int.emod_nonneg (h * 1000003 + b + 1) (show (2147483647 : Int) ≠ 0 by decide)
  have h2 := Int.emod_lt_of_pos (h * 1000003 + b + 1) (show (0 : Int) < 2147483647 by decide)
  omega
theorem macL_range {h : Int} (l : List Int) (h0 : 0 ≤ h) (h1 : h ≤ 2147483646) : 0 ≤ macL h l ∧ macL h l ≤ 2147483646 := by
  induction l generalizing h with
  | nil => exact ⟨h0, h1⟩
  | cons b l ih => have := macS_range h b; exact ih this.1 this.2
def macV (key text : ByteArray) : Int := macL 17 (bys key ++ ([10] ++ (bys text ++ ([10] ++ bys key))))
theorem macV_range (key text : ByteArray) : 0 ≤ macV key text ∧ macV key text ≤ 2147483646 := macL_range _ (by decide) (by decide)
def nameB (s : ByteArray) : Bool := (bys s).all (fun b => inB b 97 122) && inB (s.size : Int) 1 20
/-- A number's digits. -/
def decFT : Nat → Nat → List Int
  | 0, _ => []
  | f + 1, n => if n < 10 then [48 + (n : Int)] else decFT f (n / 10) ++ [48 + ((n % 10 : Nat) : Int)]
def decL (n : Nat) : List Int := decFT (n + 1) n
theorem decF_eq : ∀ (f f' n : Nat), n < f → n < f' → decFT f n = decFT f' n
  | 0, _, _, h, _ => absurd h (Nat.not_lt_zero _)
  | _ + 1, 0, _, _, h => absurd h (Nat.not_lt_zero _)
  | f + 1, f' + 1, n, h, h' => by
    unfold decFT
    split
    · rfl
    · rename_i hn
      rw [decF_eq f f' (n / 10) (by omega) (by omega)]
theorem decL_step {n : Nat} (h : ¬ n < 10) : decL n = decL (n / 10) ++ [48 + ((n % 10 : Nat) : Int)] := by
  show decFT (n + 1) n = _
  rw [decFT, if_neg h]
  unfold decL
  rw [decF_eq n (n / 10 + 1) (n / 10) (by omega) (by omega)]
theorem decL_one {n : Nat} (h : n < 10) : decL n = [48 + (n : Int)] := by
  show decFT (n + 1) n = _
  rw [decFT, if_pos h]
theorem decL_range (n : Nat) : ∀ x ∈ decL n, 48 ≤ x ∧ x ≤ 57 := by
  induction n using Nat.strongRecOn with
  | _ n ih =>
    by_cases h : n < 10
    · rw [decL_one h]; intro x hx; simp at hx; omega
    · rw [decL_step h]
      intro x hx
      rcases List.mem_append.1 hx with hx | hx
      · exact ih (n / 10) (by omega) x hx
      · simp at hx; omega
theorem decL_len (n : Nat) : 1 ≤ (decL n).length := by
  by_cases h : n < 10
  · rw [decL_one h]; simp
  · rw [decL_step h]; simp
/-- How many digits there are. -/
theorem decL_short : ∀ (k n : Nat), n < 10 ^ k → 0 < k → (decL n).length ≤ k
  | 0, _, _, h => absurd h (Nat.lt_irrefl _)
  | k + 1, n, h, _ => by
    by_cases h1 : n < 10
    · rw [decL_one h1]; simp
    · rw [decL_step h1]
      have hk : 0 < k := by
        rcases Nat.eq_zero_or_pos k with e | e
        · subst e; simp at h; omega
        · exact e
      have := decL_short k (n / 10) (by rw [Nat.pow_succ] at h; omega) hk
      simp; omega
def valL (n : Int) : List Int → Int
  | [] => n
  | b :: l => valL (n * 10 + (b - 48)) l
theorem valL_app (n : Int) (a b : List Int) : valL n (a ++ b) = valL (valL n a) b := by
  induction a generalizing n with
  | nil => rfl
  | cons x a ih => exact ih _
theorem valL_dec (n : Nat) : valL 0 (decL n) = n := by
  induction n using Nat.strongRecOn with
  | _ n ih =>
    by_cases h : n < 10
    · rw [decL_one h]; simp [valL]; omega
    · rw [decL_step h, valL_app, ih (n / 10) (by omega)]
      simp only [valL]
      omega
theorem dec_first {n : Nat} (h : (decL n).head? = some 48) : n = 0 := by
  induction n using Nat.strongRecOn with
  | _ n ih =>
    by_cases h1 : n < 10
    · rw [decL_one h1] at h; simp at h; omega
    · rw [decL_step h1] at h
      have hl := decL_len (n / 10)
      cases hd : decL (n / 10) with
      | nil => rw [hd] at hl; simp at hl
      | cons x l =>
        rw [hd] at h
        have := ih (n / 10) (by omega) (by rw [hd]; simpa using h)
        omega
/-- A number of at most so many digits, as texts have it. -/
def digL (neg : Bool) (l : List Int) (most : Nat) : Int × Bool :=
  if l.length < 1 ∨ most < l.length then (0, false)
  else if l.all (fun b => inB b 48 57) = false then (0, false)
  else if l.head? = some 48 ∧ (neg = true ∨ 1 < l.length) then (0, false)
  else (if neg = true then - valL 0 l else valL 0 l, true)
def digV (s : ByteArray) (most : Nat) : Int × Bool := if (bys s).head? = some 45 then digL true ((bys s).drop 1) most else digL false (bys s) most
theorem digL_dec {n most : Nat} (h : (decL n).length ≤ most) : digL false (decL n) most = ((n : Int), true) := by
  unfold digL
  have hl := decL_len n
  rw [if_neg (by omega)]
  have ha : (decL n).all (fun b => inB b 48 57) = true := List.all_eq_true.2 fun x hx => inB_of (decL_range n x hx).1 (decL_range n x hx).2
  rw [if_neg (by rw [ha]; simp), if_neg ?_]
  · simp [valL_dec]
  · rintro ⟨h1, h2⟩
    have := dec_first h1
    subst this
    rcases h2 with h2 | h2
    · cases h2
    · rw [decL_one (by decide)] at h2; simp at h2
def timeB (t : Int) : Bool := inB t 0 1000000
def tokB (name : ByteArray) (until_ : Int) : List Int := bys name ++ ([46] ++ decL until_.toNat)
def tokL (name : ByteArray) (until_ : Int) (key : ByteArray) : List Int :=
  if nameB name = true ∧ timeB until_ = true ∧ key.size ≤ 40 then tokB name until_ ++ ([46] ++ decL (macV key (strOf (tokB name until_))).toNat) else []
def tokV (name : ByteArray) (until_ : Int) (key : ByteArray) : ByteArray := strOf (tokL name until_ key)
/-- A text parted at each sign 46. -/
def splitL : List Int → List (List Int)
  | [] => [] :: []
  | b :: l => if b = 46 then [] :: splitL l else match splitL l with
    | [] => [b] :: []
    | x :: r => (b :: x) :: r
theorem splitL_none {l : List Int} (h : ∀ x ∈ l, x ≠ 46) : splitL l = [l] := by
  induction l with
  | nil => rfl
  | cons b l ih =>
    unfold splitL
    rw [if_neg (h b (by simp)), ih (fun x hx => h x (by simp [hx]))]
theorem splitL_app {a b : List Int} (h : ∀ x ∈ a, x ≠ 46) : splitL (a ++ 46 :: b) = a :: splitL b := by
  induction a with
  | nil => simp [splitL]
  | cons x a ih =>
    have e := ih (fun y hy => h y (by simp [hy]))
    show splitL (x :: (a ++ 46 :: b)) = _
    rw [splitL, if_neg (h x (by simp)), e]
def readV (s : ByteArray) : ByteArray × Int × Bool :=
  match splitL (bys s) with
  | [x, y, z] => if nameB (strOf x) = true ∧ (digV (strOf y) 9).2 = true ∧ (digV (strOf z) 10).2 = true ∧ timeB (digV (strOf y) 9).1 = true ∧ inB (digV (strOf z) 10).1 0 2147483646 = true then (strOf x, (digV (strOf y) 9).1, true) else (⟨#[]⟩, 0, false)
  | _ => (⟨#[]⟩, 0, false)
def signV (s key : ByteArray) (now : Int) : Bool := (readV s).2.2 && decide (now < (readV s).2.1) && decide (s = tokV (readV s).1 (readV s).2.1 key)
theorem tok_range {name : ByteArray} {u : Int} : ∀ x ∈ tokB name u, 0 ≤ x ∧ x ≤ 255 := by
  intro x hx
  unfold tokB at hx
  simp only [List.mem_append, List.mem_singleton] at hx
  rcases hx with hx | rfl | hx
  · exact bys_range name x hx
  · decide
  · have := decL_range _ x hx; omega
theorem tokL_range {name : ByteArray} {u : Int} {key : ByteArray} : ∀ x ∈ tokL name u key, 0 ≤ x ∧ x ≤ 255 := by
  intro x hx
  unfold tokL at hx
  split at hx
  · simp only [List.mem_append, List.mem_singleton] at hx
    rcases hx with hx | rfl | hx
    · exact tok_range x hx
    · decide
    · have := decL_range _ x hx; omega
  · cases hx
/-- A token is read as it was made. -/
theorem read_tok {name : ByteArray} {u : Int} {key : ByteArray} (h1 : nameB name = true) (h2 : timeB u = true) (h3 : key.size ≤ 40) : readV (tokV name u key) = (name, u, true) := by
  have hb : bys (tokV name u key) = tokL name u key := bys_strOf tokL_range
  obtain ⟨t0, t1⟩ := inB_true h2
  have hn : ∀ x ∈ bys name, x ≠ 46 := fun x hx e => by
    unfold nameB at h1
    simp only [Bool.and_eq_true, List.all_eq_true] at h1
    have := inB_true (h1.1 x hx)
    omega
  have hd : ∀ k, ∀ x ∈ decL k, x ≠ 46 := fun k x hx e => by have := decL_range k x hx; omega
  have hs : splitL (tokL name u key) = [bys name, decL u.toNat, decL (macV key (strOf (tokB name u))).toNat] := by
    unfold tokL
    rw [if_pos ⟨h1, h2, h3⟩]
    show splitL ((bys name ++ ([46] ++ decL u.toNat)) ++ ([46] ++ decL _)) = _
    rw [List.append_assoc]
    show splitL (bys name ++ 46 :: (decL u.toNat ++ 46 :: decL _)) = _
    rw [splitL_app hn, splitL_app (hd _), splitL_none (hd _)]
  have dv : ∀ k most : Nat, (decL k).length ≤ most → digV (strOf (decL k)) most = ((k : Int), true) := fun k most hk => by
    have e : bys (strOf (decL k)) = decL k := bys_strOf (fun x hx => by have := decL_range k x hx; omega)
    unfold digV
    rw [e, if_neg, digL_dec hk]
    intro c
    have hm : (45 : Int) ∈ decL k := List.mem_of_head? c
    have := decL_range k 45 hm
    omega
  have m := macV_range key (strOf (tokB name u))
  have dy := dv u.toNat 9 (decL_short 9 _ (by omega) (by decide))
  have dz := dv (macV key (strOf (tokB name u))).toNat 10 (decL_short 10 _ (by omega) (by decide))
  unfold readV
  rw [hb, hs]
  simp only [dy, dz, strOf_bys]
  rw [if_pos ⟨h1, trivial, trivial, inB_of (by omega) (by omega), inB_of (by omega) (by omega)⟩]
  have e : ((u.toNat : Nat) : Int) = u := by omega
  rw [e]
theorem tok_empty {name : ByteArray} {u : Int} {key : ByteArray} : tokV name u key = ⟨#[]⟩ ↔ ¬ (nameB name = true ∧ timeB u = true ∧ key.size ≤ 40) := by
  constructor
  · intro h c
    have hb : bys (tokV name u key) = tokL name u key := bys_strOf tokL_range
    rw [h] at hb
    unfold tokL at hb
    rw [if_pos c] at hb
    have : (bys (⟨#[]⟩ : ByteArray)).length = 0 := rfl
    rw [hb] at this
    simp at this
  · intro h
    unfold tokV tokL
    rw [if_neg h]; rfl
theorem dec_inj {a b : Nat} (h : decL a = decL b) : a = b := by
  have h1 := valL_dec a
  rw [h, valL_dec b] at h1
  omega
/-- Two keys make one token of a name and a time just where they make one mac of the text ahead. -/
theorem tok_same {name : ByteArray} {u : Int} {key key' : ByteArray} (h1 : nameB name = true) (h2 : timeB u = true) (h3 : key.size ≤ 40) (h4 : key'.size ≤ 40) : tokV name u key = tokV name u key' ↔ macV key (strOf (tokB name u)) = macV key' (strOf (tokB name u)) := by
  have b1 : bys (tokV name u key) = tokL name u key := bys_strOf tokL_range
  have b2 : bys (tokV name u key') = tokL name u key' := bys_strOf tokL_range
  have m1 := macV_range key (strOf (tokB name u))
  have m2 := macV_range key' (strOf (tokB name u))
  constructor
  · intro h
    rw [h, b2] at b1
    unfold tokL at b1
    rw [if_pos ⟨h1, h2, h4⟩, if_pos ⟨h1, h2, h3⟩] at b1
    have e := List.append_cancel_left (List.append_cancel_left b1)
    have := dec_inj e
    omega
  · intro h
    refine bys_inj ?_
    rw [b1, b2]
    unfold tokL
    rw [if_pos ⟨h1, h2, h3⟩, if_pos ⟨h1, h2, h4⟩, h]
/-- A token is signed while it lasts by its own key, and by another one just where both make one mac. -/
theorem sign_tok {name : ByteArray} {u : Int} {key key' : ByteArray} (now : Int) (h1 : nameB name = true) (h2 : timeB u = true) (h3 : key.size ≤ 40) (h4 : key'.size ≤ 40) : signV (tokV name u key) key' now = (decide (now < u) && decide (macV key (strOf (tokB name u)) = macV key' (strOf (tokB name u)))) := by
  unfold signV
  rw [read_tok h1 h2 h3]
  simp only [Bool.true_and]
  congr 1
  exact decide_eq_decide.2 (tok_same h1 h2 h3 h4)
/-- What is signed is a token of this key that lasts. -/
theorem sign_is {s key : ByteArray} {now : Int} (h : signV s key now = true) : (readV s).2.2 = true ∧ now < (readV s).2.1 ∧ tokV (readV s).1 (readV s).2.1 key = s := by
  unfold signV at h
  simp only [Bool.and_eq_true, decide_eq_true_eq] at h
  exact ⟨h.1.1, h.1.2, h.2.symm⟩
end Go.Proofs.YtfemmnhfllbgjaaGreatDoor
