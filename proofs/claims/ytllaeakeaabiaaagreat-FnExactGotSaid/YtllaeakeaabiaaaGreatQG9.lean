/- Several small texts of one level, one behind the other. -/
import Derived.Test.YtllaeakeaabiaaaGreatQG8
import Derived.Test.YtllaeakeaabiaaaGreatQRing2
import Derived.Test.YtllaeakeaabiaaaGreatQG2
import Derived.Test.YtllaeakeaabiaaaGreatQG3
import Derived.Test.YtllaeakeaabiaaaGreatQG5
import Derived.Deep.RegionHeld3
import Derived.Deep.Cut
/- Packing signs of five bits into bytes, and back, in plain words: what is unpacked of what was packed is what was packed, and what ends well is what it is packed as. -/
namespace Go.Proofs.YtllaeakeaabiaaaGreat

/-- Two to the h, for a few bits. -/
def tw (h : Nat) : Int := 2 ^ h
theorem tw0 : tw 0 = 1 := rfl
theorem tw1 : tw 1 = 2 := rfl
theorem tw2 : tw 2 = 4 := rfl
theorem tw3 : tw 3 = 8 := rfl
theorem tw4 : tw 4 = 16 := rfl
theorem tw5 : tw 5 = 32 := rfl
theorem tw6 : tw 6 = 64 := rfl
theorem tw7 : tw 7 = 128 := rfl
theorem tw8 : tw 8 = 256 := rfl
theorem tw9 : tw 9 = 512 := rfl
theorem tw10 : tw 10 = 1024 := rfl
theorem tw11 : tw 11 = 2048 := rfl
theorem tw12 : tw 12 = 4096 := rfl

/-- The bytes that signs ns take behind h bits, whose number is v. -/
def packF : List Int → Nat → Int → List Int
  | [], h, v => if 0 < h then [v * tw (8 - h) + (tw (8 - h) - 1)] else []
  | n :: ns, h, v => if 8 ≤ h + 5 then ((v * 32 + n) / tw (h + 5 - 8)) :: packF ns (h + 5 - 8) ((v * 32 + n) % tw (h + 5 - 8)) else packF ns (h + 5) (v * 32 + n)

theorem packF_nil {h : Nat} {v : Int} : packF [] h v = if 0 < h then [v * tw (8 - h) + (tw (8 - h) - 1)] else [] := rfl
theorem packF_full {n : Int} {ns : List Int} {h : Nat} {v : Int} (k : 8 ≤ h + 5) : packF (n :: ns) h v = ((v * 32 + n) / tw (h + 5 - 8)) :: packF ns (h + 5 - 8) ((v * 32 + n) % tw (h + 5 - 8)) := by rw [packF, if_pos k]
theorem packF_part {n : Int} {ns : List Int} {h : Nat} {v : Int} (k : ¬ 8 ≤ h + 5) : packF (n :: ns) h v = packF ns (h + 5) (v * 32 + n) := by rw [packF, if_neg k]

theorem packF_len : ∀ (ns : List Int) (h : Nat) (v : Int), h < 8 → (packF ns h v).length = (h + 5 * ns.length + 7) / 8 := by
  intro ns
  induction ns with
  | nil => intro h v hh; rw [packF_nil]; split <;> simp <;> omega
  | cons n ns ih =>
    intro h v hh
    by_cases k : 8 ≤ h + 5
    · rw [packF_full k, List.length_cons, ih _ _ (by omega), List.length_cons]; omega
    · rw [packF_part k, ih _ _ (by omega), List.length_cons]; omega

theorem packF_range : ∀ (ns : List Int) (h : Nat) (v : Int), h < 8 → 0 ≤ v → v < tw h → (∀ n ∈ ns, 0 ≤ n ∧ n ≤ 30) → ∀ x ∈ packF ns h v, 0 ≤ x ∧ x ≤ 255 := by
  intro ns
  induction ns with
  | nil =>
    intro h v hh h0 h1 _ x hx
    rw [packF_nil] at hx
    have : h = 0 ∨ h = 1 ∨ h = 2 ∨ h = 3 ∨ h = 4 ∨ h = 5 ∨ h = 6 ∨ h = 7 := by omega
    rcases this with rfl | rfl | rfl | rfl | rfl | rfl | rfl | rfl <;> simp [tw] at hx h1 <;> omega
  | cons n ns ih =>
    intro h v hh h0 h1 hn x hx
    have hn0 := hn n (by simp)
    have hns : ∀ m ∈ ns, 0 ≤ m ∧ m ≤ 30 := fun m hm => hn m (by simp [hm])
    have : h = 0 ∨ h = 1 ∨ h = 2 ∨ h = 3 ∨ h = 4 ∨ h = 5 ∨ h = 6 ∨ h = 7 := by omega
    rcases this with rfl | rfl | rfl | rfl | rfl | rfl | rfl | rfl
    iterate 3
      · rw [packF_part (by omega)] at hx
        exact ih _ _ (by omega) (by omega) (by simp [tw] at h1 ⊢; omega) hns x hx
    all_goals
      rw [packF_full (by omega), List.mem_cons] at hx
      rcases hx with rfl | hx
      · simp [tw] at *; omega
      · exact ih _ _ (by omega) (by simp [tw] at h1 ⊢ <;> omega) (by simp [tw] at h1 ⊢ <;> omega) hns x hx

/-- Reading signs: c bits are held, their number is u; bs are to come. The signs, and what is left when no byte is to come and no further sign is; none: a number of ones only ahead of a byte. -/
def rawF : Nat → Nat → Int → List Int → Option (List Int × Nat × Int)
  | 0, _, _, _ => none
  | k + 1, c, u, bs => if c < 5 then (match bs with
      | [] => some ([], c, u)
      | b :: bs => rawF k (c + 8) (u * 256 + b) bs)
    else if 31 ≤ u / tw (c - 5) then (if bs = [] then some ([], c, u) else none)
    else (rawF k (c - 5) (u % tw (c - 5)) bs).map fun r => (u / tw (c - 5) :: r.1, r.2)

/-- How many steps are enough. -/
def enF (c : Nat) (bs : List Int) : Nat := 9 * bs.length + c + 1

theorem rawF_more {k c : Nat} {u b : Int} {bs : List Int} (h : c < 5) : rawF (k + 1) c u (b :: bs) = rawF k (c + 8) (u * 256 + b) bs := by rw [rawF, if_pos h]
theorem rawF_end {k c : Nat} {u : Int} (h : c < 5) : rawF (k + 1) c u [] = some ([], c, u) := by rw [rawF, if_pos h]
theorem rawF_ones {k c : Nat} {u : Int} {bs : List Int} (h : ¬ c < 5) (h1 : 31 ≤ u / tw (c - 5)) : rawF (k + 1) c u bs = if bs = [] then some ([], c, u) else none := by cases bs <;> simp [rawF, h, h1]
theorem rawF_sign {k c : Nat} {u : Int} {bs : List Int} (h : ¬ c < 5) (h1 : ¬ 31 ≤ u / tw (c - 5)) : rawF (k + 1) c u bs = (rawF k (c - 5) (u % tw (c - 5)) bs).map fun r => (u / tw (c - 5) :: r.1, r.2) := by cases bs <;> simp [rawF, h, h1]

/-- More steps than enough change nothing. -/
theorem rawF_enough : ∀ (k j c : Nat) (u : Int) (bs : List Int), enF c bs ≤ k → enF c bs ≤ j → rawF k c u bs = rawF j c u bs := by
  intro k
  induction k with
  | zero => intro j c u bs h; simp [enF] at h
  | succ k ih =>
    intro j c u bs h h'
    obtain ⟨j, rfl⟩ : ∃ j', j = j' + 1 := ⟨j - 1, by unfold enF at h'; omega⟩
    by_cases hc : c < 5
    · cases bs with
      | nil => rw [rawF_end hc, rawF_end hc]
      | cons b bs =>
        rw [rawF_more hc, rawF_more hc]
        exact ih j _ _ _ (by simp [enF] at *; omega) (by simp [enF] at *; omega)
    · by_cases h1 : 31 ≤ u / tw (c - 5)
      · rw [rawF_ones hc h1, rawF_ones hc h1]
      · rw [rawF_sign hc h1, rawF_sign hc h1, ih j _ _ _ (by simp [enF] at *; omega) (by simp [enF] at *; omega)]

/-- What is left is ones only, less than a byte of them. -/
def okEnd (r : List Int × Nat × Int) : Prop := r.2.1 < 8 ∧ r.2.2 = tw r.2.1 - 1

/-- The bytes that are to come, those of which bits are held among them, the bits ahead of these being v. -/
def ahead (c : Nat) (u : Int) (bs : List Int) (v : Int) : List Int :=
  if c = 0 then bs else if c < 8 then (v * tw c + u) :: bs else if c = 8 then u :: bs else (v * tw (c - 8) + u / 256) :: (u % 256) :: bs
def hidden (c : Nat) : Nat := if c = 0 then 0 else if c < 8 then 8 - c else if c = 8 then 0 else 8 - (c - 8)

set_option maxHeartbeats 2000000 in
theorem raw_pack : ∀ (k c : Nat) (u : Int) (bs : List Int) (r : List Int × Nat × Int), rawF k c u bs = some r → c ≤ 12 → 0 ≤ u → u < tw c → (∀ b ∈ bs, 0 ≤ b ∧ b ≤ 255) →
    ∀ v, 0 ≤ v → v < tw (hidden c) → (okEnd r ↔ packF r.1 (hidden c) v = ahead c u bs v) := by
  intro k
  induction k with
  | zero => intro c u bs r h; simp [rawF] at h
  | succ k ih =>
    intro c u bs r h hc h0 h1 hb v v0 v1
    by_cases h5 : c < 5
    · cases bs with
      | nil =>
        rw [rawF_end h5] at h
        obtain rfl := (Option.some.inj h).symm
        have : c = 0 ∨ c = 1 ∨ c = 2 ∨ c = 3 ∨ c = 4 := by omega
        rcases this with rfl | rfl | rfl | rfl | rfl <;> simp [okEnd, hidden, ahead, packF_nil, tw] at * <;> omega
      | cons b bs =>
        rw [rawF_more h5] at h
        have hb0 := hb b (by simp)
        have hbs : ∀ x ∈ bs, 0 ≤ x ∧ x ≤ 255 := fun x hx => hb x (by simp [hx])
        have K := ih _ _ _ _ h (by omega) (by omega)
        have : c = 0 ∨ c = 1 ∨ c = 2 ∨ c = 3 ∨ c = 4 := by omega
        rcases this with rfl | rfl | rfl | rfl | rfl
        · obtain rfl : u = 0 := by simp [tw] at h1; omega
          have K := K (by simp [tw]; omega) hbs v v0 v1
          rw [K]; simp [hidden, ahead]
        all_goals
          have K := K (by simp [tw] at *; omega) hbs v v0 v1
          rw [K]
          have e1 : (u * 256 + b) / 256 = u := by omega
          have e2 : (u * 256 + b) % 256 = b := by omega
          simp [hidden, ahead, e1, e2]
    · by_cases hs : 31 ≤ u / tw (c - 5)
      · rw [rawF_ones h5 hs] at h
        split at h
        · rename_i hbs
          subst hbs
          obtain rfl := (Option.some.inj h).symm
          have : c = 5 ∨ c = 6 ∨ c = 7 ∨ c = 8 ∨ c = 9 ∨ c = 10 ∨ c = 11 ∨ c = 12 := by omega
          rcases this with rfl | rfl | rfl | rfl | rfl | rfl | rfl | rfl <;> simp [okEnd, hidden, ahead, packF_nil, tw] at * <;> omega
        · cases h
      · rw [rawF_sign h5 hs] at h
        cases hr : rawF k (c - 5) (u % tw (c - 5)) bs with
        | none => rw [hr] at h; cases h
        | some r' =>
          rw [hr] at h
          obtain rfl := (Option.some.inj h).symm
          have hok : okEnd (u / tw (c - 5) :: r'.1, r'.2) ↔ okEnd r' := Iff.rfl
          rw [hok]
          have K := ih _ _ _ _ hr (by omega)
          have : c = 5 ∨ c = 6 ∨ c = 7 ∨ c = 8 ∨ c = 9 ∨ c = 10 ∨ c = 11 ∨ c = 12 := by omega
          rcases this with rfl | rfl | rfl | rfl | rfl | rfl | rfl | rfl
          · have K := K (by simp [tw]) (by simp [tw]) hb 0 (by omega) (by simp [hidden, tw])
            rw [K]; simp [hidden, ahead, packF, tw] at h0 h1 v0 v1 ⊢
          · have K := K (by simp [tw] at *; omega) (by simp [tw] at *; omega) hb (v * 32 + u / 2) (by simp [hidden, tw] at *; omega) (by simp [hidden, tw] at *; omega)
            rw [K]; simp [hidden, ahead, packF, tw] at h0 h1 v0 v1 ⊢
            rw [show (v * 32 + u / 2) * 2 + u % 2 = v * 64 + u from by omega]
          · have K := K (by simp [tw] at *; omega) (by simp [tw] at *; omega) hb (v * 32 + u / 4) (by simp [hidden, tw] at *; omega) (by simp [hidden, tw] at *; omega)
            rw [K]; simp [hidden, ahead, packF, tw] at h0 h1 v0 v1 ⊢
            rw [show (v * 32 + u / 4) * 4 + u % 4 = v * 128 + u from by omega]
          · have K := K (by simp [tw] at *; omega) (by simp [tw] at *; omega) hb (v * 32 + u / 8) (by simp [hidden, tw] at *; omega) (by simp [hidden, tw] at *; omega)
            rw [K]; simp [hidden, ahead, packF, tw] at h0 h1 v0 v1 ⊢
            rw [show (v * 32 + u / 8) * 8 + u % 8 = u from by omega]
          · have K := K (by simp [tw] at *; omega) (by simp [tw] at *; omega) hb ((v * 32 + u / 16) % 16) (by simp [hidden, tw] at *; omega) (by simp [hidden, tw] at *; omega)
            rw [K]; simp [hidden, ahead, packF, tw] at h0 h1 v0 v1 ⊢
            rw [show (v * 32 + u / 16) % 16 * 16 + u % 16 = u % 256 from by omega, show (v * 32 + u / 16) / 16 = v * 2 + u / 256 from by omega]; simp
          · have K := K (by simp [tw] at *; omega) (by simp [tw] at *; omega) hb ((v * 32 + u / 32) % 8) (by simp [hidden, tw] at *; omega) (by simp [hidden, tw] at *; omega)
            rw [K]; simp [hidden, ahead, packF, tw] at h0 h1 v0 v1 ⊢
            rw [show (v * 32 + u / 32) % 8 * 32 + u % 32 = u % 256 from by omega, show (v * 32 + u / 32) / 8 = v * 4 + u / 256 from by omega]; simp
          · have K := K (by simp [tw] at *; omega) (by simp [tw] at *; omega) hb ((v * 32 + u / 64) % 4) (by simp [hidden, tw] at *; omega) (by simp [hidden, tw] at *; omega)
            rw [K]; simp [hidden, ahead, packF, tw] at h0 h1 v0 v1 ⊢
            rw [show (v * 32 + u / 64) % 4 * 64 + u % 64 = u % 256 from by omega, show (v * 32 + u / 64) / 4 = v * 8 + u / 256 from by omega]; simp
          · have K := K (by simp [tw] at *; omega) (by simp [tw] at *; omega) hb ((v * 32 + u / 128) % 2) (by simp [hidden, tw] at *; omega) (by simp [hidden, tw] at *; omega)
            rw [K]; simp [hidden, ahead, packF, tw] at h0 h1 v0 v1 ⊢
            rw [show (v * 32 + u / 128) % 2 * 128 + u % 128 = u % 256 from by omega, show (v * 32 + u / 128) / 2 = v * 16 + u / 256 from by omega]; simp

theorem packF_head : ∀ (ns : List Int) (h : Nat) (v : Int), 0 < h → h < 8 → 0 ≤ v → v < tw h → (∀ n ∈ ns, 0 ≤ n ∧ n ≤ 30) →
    ∃ b bs, packF ns h v = b :: bs ∧ b / tw (8 - h) = v ∧ 0 ≤ b ∧ b ≤ 255 := by
  intro ns
  induction ns with
  | nil =>
    intro h v hp hh h0 h1 _
    have : h = 1 ∨ h = 2 ∨ h = 3 ∨ h = 4 ∨ h = 5 ∨ h = 6 ∨ h = 7 := by omega
    refine ⟨v * tw (8 - h) + (tw (8 - h) - 1), [], by rw [packF_nil, if_pos hp], ?_⟩
    rcases this with rfl | rfl | rfl | rfl | rfl | rfl | rfl <;> simp [tw] at h1 ⊢ <;> omega
  | cons n ns ih =>
    intro h v hp hh h0 h1 hn
    have hn0 := hn n (by simp)
    have hns : ∀ m ∈ ns, 0 ≤ m ∧ m ≤ 30 := fun m hm => hn m (by simp [hm])
    have : h = 1 ∨ h = 2 ∨ h = 3 ∨ h = 4 ∨ h = 5 ∨ h = 6 ∨ h = 7 := by omega
    rcases this with rfl | rfl | rfl | rfl | rfl | rfl | rfl
    · obtain ⟨b, bs, e, hb⟩ := ih 6 (v * 32 + n) (by omega) (by omega) (by omega) (by simp [tw] at h1 ⊢; omega) hns
      refine ⟨b, bs, by rw [packF_part (by omega), e], ?_⟩
      simp [tw] at h1 hb ⊢; omega
    · obtain ⟨b, bs, e, hb⟩ := ih 7 (v * 32 + n) (by omega) (by omega) (by omega) (by simp [tw] at h1 ⊢; omega) hns
      refine ⟨b, bs, by rw [packF_part (by omega), e], ?_⟩
      simp [tw] at h1 hb ⊢; omega
    all_goals
      refine ⟨_, _, packF_full (by omega), ?_⟩
      simp [tw] at h1 ⊢; omega

theorem rawF_app {k c : Nat} {u : Int} {bs : List Int} {n : Int} {r : List Int × Nat × Int} (hc : ¬ c < 5) (hn : u / tw (c - 5) = n) (h30 : n ≤ 30) (h : rawF k (c - 5) (u % tw (c - 5)) bs = some r) :
    rawF (k + 1) c u bs = some (n :: r.1, r.2) := by
  rw [rawF_sign hc (by omega), h, hn]; rfl

set_option maxHeartbeats 2000000 in
/-- What is packed is read. -/
theorem raw_read : ∀ (ns : List Int) (h : Nat) (v : Int), h < 8 → 0 ≤ v → v < tw h → (∀ n ∈ ns, 0 ≤ n ∧ n ≤ 30) →
    (h = 0 → ∃ c u k, rawF k 0 0 (packF ns 0 0) = some (ns, c, u) ∧ okEnd (ns, c, u)) ∧
    (0 < h → ∀ b bs, packF ns h v = b :: bs → ∃ c u k, rawF k (8 - h) (b % tw (8 - h)) bs = some (ns, c, u) ∧ okEnd (ns, c, u)) := by
  intro ns
  induction ns with
  | nil =>
    intro h v hh h0 h1 _
    refine ⟨fun _ => ⟨0, 0, 1, rfl, by simp [okEnd, tw]⟩, fun hp b bs e => ?_⟩
    rw [packF_nil, if_pos hp] at e
    obtain ⟨rfl, rfl⟩ := List.cons.inj e
    have m : (v * tw (8 - h) + (tw (8 - h) - 1)) % tw (8 - h) = tw (8 - h) - 1 := by
      have : h = 1 ∨ h = 2 ∨ h = 3 ∨ h = 4 ∨ h = 5 ∨ h = 6 ∨ h = 7 := by omega
      rcases this with rfl | rfl | rfl | rfl | rfl | rfl | rfl <;> simp [tw] <;> omega
    rw [m]
    refine ⟨8 - h, tw (8 - h) - 1, 1, ?_, by show 8 - h < 8; omega, rfl⟩
    by_cases h5 : 8 - h < 5
    · exact rawF_end h5
    · have : h = 1 ∨ h = 2 ∨ h = 3 := by omega
      rcases this with rfl | rfl | rfl <;> exact (rawF_ones h5 (by simp [tw])).trans (by simp)
  | cons n ns ih =>
    intro h v hh h0 h1 hn
    have hn0 := hn n (by simp)
    have hns : ∀ m ∈ ns, 0 ≤ m ∧ m ≤ 30 := fun m hm => hn m (by simp [hm])
    constructor
    · intro e0
      subst e0
      rw [packF_part (by omega)]
      have r0 : 0 * 32 + n < tw (0 + 5) := by simp [tw]; omega
      obtain ⟨b, bs, e, hb, hb0, hb1⟩ := packF_head ns (0 + 5) (0 * 32 + n) (by omega) (by omega) (by omega) r0 hns
      obtain ⟨c, u, k, hr, ho⟩ := (ih (0 + 5) (0 * 32 + n) (by omega) (by omega) r0 hns).2 (by omega) b bs e
      simp [tw] at hb hr
      refine ⟨c, u, k + 1 + 1, ?_, ho⟩
      rw [e, rawF_more (by omega)]
      refine rawF_app (r := (ns, c, u)) (by omega) ?_ hn0.2 ?_
      · simp [tw]; omega
      · simp [tw]; exact hr
    · intro hp b bs e
      have : h = 1 ∨ h = 2 ∨ h = 3 ∨ h = 4 ∨ h = 5 ∨ h = 6 ∨ h = 7 := by omega
      rcases this with rfl | rfl | rfl | rfl | rfl | rfl | rfl
      · rw [packF_part (by omega)] at e
        have r0 : v * 32 + n < tw 6 := by simp [tw] at h1 ⊢; omega
        obtain ⟨b', bs', e', hb, hb0, hb1⟩ := packF_head ns 6 (v * 32 + n) (by omega) (by omega) (by omega) r0 hns
        obtain ⟨rfl, rfl⟩ := List.cons.inj (e'.symm.trans e)
        obtain ⟨c, u, k, hr, ho⟩ := (ih 6 (v * 32 + n) (by omega) (by omega) r0 hns).2 (by omega) _ _ e'
        simp [tw] at hb hr
        refine ⟨c, u, k + 1, ?_, ho⟩
        refine rawF_app (r := (ns, c, u)) (by omega) ?_ hn0.2 ?_
        · simp [tw]; omega
        · simp [tw]
          exact hr
      · rw [packF_part (by omega)] at e
        have r0 : v * 32 + n < tw 7 := by simp [tw] at h1 ⊢; omega
        obtain ⟨b', bs', e', hb, hb0, hb1⟩ := packF_head ns 7 (v * 32 + n) (by omega) (by omega) (by omega) r0 hns
        obtain ⟨rfl, rfl⟩ := List.cons.inj (e'.symm.trans e)
        obtain ⟨c, u, k, hr, ho⟩ := (ih 7 (v * 32 + n) (by omega) (by omega) r0 hns).2 (by omega) _ _ e'
        simp [tw] at hb hr
        refine ⟨c, u, k + 1, ?_, ho⟩
        refine rawF_app (r := (ns, c, u)) (by omega) ?_ hn0.2 ?_
        · simp [tw]; omega
        · simp [tw]
          exact hr
      · -- three bits are held: the byte is full, and nothing is left
        rw [packF_full (by omega)] at e
        obtain ⟨rfl, rfl⟩ := List.cons.inj e
        obtain ⟨c, u, k, hr, ho⟩ := (ih 0 0 (by omega) (by omega) (by simp [tw]) hns).1 rfl
        refine ⟨c, u, k + 1, ?_, ho⟩
        refine rawF_app (r := (ns, c, u)) (by omega) ?_ hn0.2 ?_
        · simp [tw]; omega
        · simpa [tw] using hr
      · rw [packF_full (by omega)] at e
        obtain ⟨rfl, e2⟩ := List.cons.inj e
        have r0 : (v * 32 + n) % tw 1 < tw 1 := by simp [tw]; omega
        have r1 : 0 ≤ (v * 32 + n) % tw 1 := by simp [tw]; omega
        obtain ⟨b', bs', e', hb, hb0, hb1⟩ := packF_head ns 1 _ (by omega) (by omega) r1 r0 hns
        obtain ⟨c, u, k, hr, ho⟩ := (ih 1 _ (by omega) r1 r0 hns).2 (by omega) _ _ e'
        have e3 : b' :: bs' = bs := e'.symm.trans e2
        subst e3
        simp [tw] at hb hr
        refine ⟨c, u, k + 1 + 1, ?_, ho⟩
        rw [rawF_more (by omega)]
        refine rawF_app (r := (ns, c, u)) (by omega) ?_ hn0.2 ?_
        · simp [tw]; omega
        · simp [tw]
          have em : ((v * 32 + n) / 2 % 16 * 256 + b') % 128 = b' % 128 := by omega
          rw [em]; exact hr
      · rw [packF_full (by omega)] at e
        obtain ⟨rfl, e2⟩ := List.cons.inj e
        have r0 : (v * 32 + n) % tw 2 < tw 2 := by simp [tw]; omega
        have r1 : 0 ≤ (v * 32 + n) % tw 2 := by simp [tw]; omega
        obtain ⟨b', bs', e', hb, hb0, hb1⟩ := packF_head ns 2 _ (by omega) (by omega) r1 r0 hns
        obtain ⟨c, u, k, hr, ho⟩ := (ih 2 _ (by omega) r1 r0 hns).2 (by omega) _ _ e'
        have e3 : b' :: bs' = bs := e'.symm.trans e2
        subst e3
        simp [tw] at hb hr
        refine ⟨c, u, k + 1 + 1, ?_, ho⟩
        rw [rawF_more (by omega)]
        refine rawF_app (r := (ns, c, u)) (by omega) ?_ hn0.2 ?_
        · simp [tw]; omega
        · simp [tw]
          have em : ((v * 32 + n) / 4 % 8 * 256 + b') % 64 = b' % 64 := by omega
          rw [em]; exact hr
      · rw [packF_full (by omega)] at e
        obtain ⟨rfl, e2⟩ := List.cons.inj e
        have r0 : (v * 32 + n) % tw 3 < tw 3 := by simp [tw]; omega
        have r1 : 0 ≤ (v * 32 + n) % tw 3 := by simp [tw]; omega
        obtain ⟨b', bs', e', hb, hb0, hb1⟩ := packF_head ns 3 _ (by omega) (by omega) r1 r0 hns
        obtain ⟨c, u, k, hr, ho⟩ := (ih 3 _ (by omega) r1 r0 hns).2 (by omega) _ _ e'
        have e3 : b' :: bs' = bs := e'.symm.trans e2
        subst e3
        simp [tw] at hb hr
        refine ⟨c, u, k + 1 + 1, ?_, ho⟩
        rw [rawF_more (by omega)]
        refine rawF_app (r := (ns, c, u)) (by omega) ?_ hn0.2 ?_
        · simp [tw]; omega
        · simp [tw]
          have em : ((v * 32 + n) / 8 % 4 * 256 + b') % 32 = b' % 32 := by omega
          rw [em]; exact hr
      · rw [packF_full (by omega)] at e
        obtain ⟨rfl, e2⟩ := List.cons.inj e
        have r0 : (v * 32 + n) % tw 4 < tw 4 := by simp [tw]; omega
        have r1 : 0 ≤ (v * 32 + n) % tw 4 := by simp [tw]; omega
        obtain ⟨b', bs', e', hb, hb0, hb1⟩ := packF_head ns 4 _ (by omega) (by omega) r1 r0 hns
        obtain ⟨c, u, k, hr, ho⟩ := (ih 4 _ (by omega) r1 r0 hns).2 (by omega) _ _ e'
        have e3 : b' :: bs' = bs := e'.symm.trans e2
        subst e3
        simp [tw] at hb hr
        refine ⟨c, u, k + 1 + 1, ?_, ho⟩
        rw [rawF_more (by omega)]
        refine rawF_app (r := (ns, c, u)) (by omega) ?_ hn0.2 ?_
        · simp [tw]; omega
        · simp [tw]
          have em : ((v * 32 + n) / 16 % 2 * 256 + b') % 16 = b' % 16 := by omega
          rw [em]; exact hr
end Go.Proofs.YtllaeakeaabiaaaGreat
/- The ring's own functions: it is made to fit, and its rows are laid out as a Table. -/
namespace Go.Proofs.YtllaeakeaabiaaaGreat
open Go.RowKit
set_option maxRecDepth 100000
set_option linter.unusedSimpArgs false
set_option linter.unusedVariables false

theorem box_frozen (u : World) (s : Nat) (h : u.heap.size = s) (x y : Value) (t : TypeId) (j : Nat) : (u.alloc (.cells #[x, y] t)).frozen? ⟨s, j, none⟩ = false := by subst h; exact (rowIs_new u t [x, y]).frozen j
/-- A ring whose rows are L. -/
structure RingAt (w : World) (b first : Nat) (L : List Fd) : Prop where
  fst : first < 112
  len : L.length ≤ 112
  row : RowIs w b 199 (rC (ringS first L) first L.length (sumW L))
theorem RingAt.new {w w' : World} {b first : Nat} {L : List Fd} (h : RingAt w b first L) (hb : Below w.heap.size w w') : RingAt w' b first L := ⟨h.fst, h.len, h.row.new hb⟩
theorem RingAt.turn {w w' : World} {b first : Nat} {L : List Fd} (h : RingAt w b first L) {lo hi : Nat} (ht : Turn lo hi w w') (hk : b < lo ∨ hi ≤ b) : RingAt w' b first L := ⟨h.fst, h.len, h.row.kept (ht.block b h.row.lt hk)⟩
/-- How many rows a ring tells that it has. -/
def cntOf (b : Nat) (w : World) : Nat := match w.cell? ⟨b, 225, none⟩ with | some (.int _ c) => c.toNat | _ => 0
theorem RingAt.cnt {w : World} {b first : Nat} {L : List Fd} (h : RingAt w b first L) : cntOf b w = L.length := by
  have := h.row.cell (rC_num (ringS_len first L) first L.length (sumW L)).2.1
  simp [cntOf, this]
theorem RingAt.wgt {w : World} {b first : Nat} {L : List Fd} (h : RingAt w b first L) : w.cell? ⟨b, 226, none⟩ = some (.int .i64 (sumW L)) := h.row.cell (rC_num (ringS_len first L) first L.length (sumW L)).2.2
theorem RingAt.count {w : World} {b first : Nat} {L : List Fd} (h : RingAt w b first L) : w.cell? ⟨b, 225, none⟩ = some (.int .i64 L.length) := h.row.cell (rC_num (ringS_len first L) first L.length (sumW L)).2.1
theorem sumW_dropLast {L : List Fd} (h : 0 < L.length) : sumW L.dropLast = sumW L - wt (L[L.length - 1]'(by omega)) := by
  have hne : L ≠ [] := fun e => by subst e; simp at h
  have h1 := List.dropLast_concat_getLast hne
  have h2 : sumW L = sumW (L.dropLast ++ [L.getLast hne]) := by rw [h1]
  rw [sumW_app, List.getLast_eq_getElem] at h2
  simp only [sumW] at h2
  omega

theorem drop2 (b first : Nat) (L : List Fd) (w : World) (h : RingAt w b first L) (h0 : 0 < L.length) (hok : ∀ f ∈ L, okF f = true) :
    Calls Tryz.prog 228 #[.pointer (some ⟨b, 0, none⟩)] w fun x w' => x = .returned (.tuple #[]) ∧ RingAt w' b first L.dropLast ∧ Turn b (b + 1) w w' := by
  obtain ⟨n, hn⟩ : ∃ n, L.length = n + 1 := ⟨L.length - 1, by omega⟩
  have hln := h.len
  have hlt : n < L.length := by omega
  have hr := h.row
  rw [hn] at hr
  have hrg := sumW_range L
  refine (dropLast1 b first n (ringS first L) (sumW L) L[n] w (ringS_len _ _) hr h.fst (by omega) (ringS_at h.fst hln n hlt) (fine_of (hok _ (List.getElem_mem hlt))) hrg.1 (by omega)).mono ?_
  rintro x w' ⟨rfl, hr', ht⟩
  refine ⟨rfl, ⟨h.fst, by rw [List.length_dropLast]; omega, ?_⟩, ht⟩
  have e1 := ringS_drop (first := first) (L := L) h.fst h0 hln
  rw [show L.length - 1 = n by omega] at e1
  have e2 := sumW_dropLast h0
  simp only [show L.length - 1 = n by omega] at e2
  rw [List.length_dropLast, show L.length - 1 = n by omega, e2, ← e1]
  exact hr'

set_option maxHeartbeats 1000000 in
theorem fit1 (b first : Nat) (L : List Fd) (room : Int) (w : World) (h : RingAt w b first L) (hok : ∀ f ∈ L, okF f = true) (hroom : 0 ≤ room) :
    Calls Tryz.prog 203 #[.pointer (some ⟨b, 0, none⟩), .int .i64 room] w fun x w' => x = .returned (.tuple #[]) ∧ RingAt w' b first (shr room L) ∧ Turn b (b + 1) w w' := by
  obtain ⟨R, hR⟩ : ∃ R, R = shr room L := ⟨_, rfl⟩
  rw [← hR]
  have H0 := hide h; have HOK := hide hok; have HRR := hide hR
  clear h hok hR
  go_enter Tryz.func203, Tryz.ntmps203
  go_wp2_with fail
  go_loopw [] (fun wr => ∃ L' : List Fd, RingAt wr b first L' ∧ (∀ f ∈ L', okF f = true) ∧ R = shr room L' ∧ Turn b (b + 1) w wr) (fun wr => cntOf b wr)
  case atStart => exact ⟨L, H0.out, HOK.out, HRR.out, Turn.refl _ _ _⟩
  case round =>
    obtain ⟨L', hra, hok', hR', ht⟩ := hrel
    have c6 := hra.wgt
    by_cases hgt : room < sumW L'
    · have hpos : 0 < L'.length := by
        rcases Nat.eq_zero_or_pos L'.length with h0 | h0
        · have : L' = [] := List.length_eq_zero_iff.1 h0
          subst this
          simp [sumW] at hgt; omega
        · exact h0
      have HD := hide (hR'.trans (shr_go hgt))
      have HA := hide hra; have HO := hide hok'; have HT := hide ht
      clear hR' hra hok' ht
      go_wp2_with fail
      refine (drop2 b first L' _ HA.out hpos HO.out).mono ?_; rintro x w1 ⟨rfl, hra1, ht1⟩
      have hc1 := hra1.cnt
      have hc0 := HA.out.cnt
      rw [List.length_dropLast] at hc1
      have HA1 := hide hra1
      have HC0 := hide hc0; have HC1 := hide hc1
      clear hra1 hc0 hc1
      go_wp2_with fail
      exact ⟨⟨L'.dropLast, HA1.out, fun f hf => HO.out f ((List.dropLast_sublist _).subset hf), HD.out, HT.out.trans ht1⟩, by have := HC0.out; have := HC1.out; omega⟩
    · have HD := hide (hR'.trans (shr_stop hgt))
      have HA := hide hra; have HT := hide ht
      clear hR' hra hok' ht
      go_wp2_with fail
      refine bodyPost_end (v := .tuple #[]) (by simp [results, Tryz.results203, go_sem]) rfl ?_
      exact ⟨rfl, by rw [HD.out]; exact HA.out, HT.out⟩

set_option maxHeartbeats 1000000 in
theorem apart1 (f : Fd) (w : World) (hf : okF f = true) :
    Calls Tryz.prog 167 #[.agg #[.string f.n, .string f.v]] w fun x w' => x = .returned (.agg #[.string f.n, .string f.v]) ∧ Below w.heap.size w w' := by
  obtain ⟨p1, p2, p3⟩ := okF_parts hf
  go_enter Tryz.func167, Tryz.ntmps167
  go_wp2_with fail
  generalize hV : (w.alloc (.cells #[.string f.n, .string f.v] 146)).alloc (.cells #[.string ⟨#[]⟩, .string ⟨#[]⟩] 146) = V
  have hbV : Below w.heap.size w V := by rw [← hV]; exact bo_alloc ((Below.refl _ _).alloc (Nat.le_refl _) _) _
  have x0 : V.cell? ⟨w.heap.size, 0, none⟩ = some (.string f.n) := by rw [← hV]; simp
  have x1 : V.cell? ⟨w.heap.size, 1, none⟩ = some (.string f.v) := by rw [← hV]; simp
  have r0 : V.cell? ⟨w.heap.size + 1, 0, none⟩ = some (.string ⟨#[]⟩) := by rw [← hV]; exact box_cell0 _ _ (by simp) _ _ _
  have r1 : V.cell? ⟨w.heap.size + 1, 1, none⟩ = some (.string ⟨#[]⟩) := by rw [← hV]; exact box_cell1 _ _ (by simp) _ _ _
  have f0 : V.frozen? ⟨w.heap.size + 1, 0, none⟩ = false := by rw [← hV]; exact box_frozen _ _ (by simp) _ _ _ _
  have f1 : V.frozen? ⟨w.heap.size + 1, 1, none⟩ = false := by rw [← hV]; exact box_frozen _ _ (by simp) _ _ _ _
  have hlV : w.heap.size + 1 < V.heap.size := by rw [← hV]; simp
  have hlV0 : w.heap.size < V.heap.size := by omega
  clear hV
  have hS0 := And.intro x0 x1
  refine wp_region_held_drew (S := (fun u => u.cell? ⟨w.heap.size, 0, none⟩ = some (.string f.n) ∧ u.cell? ⟨w.heap.size, 1, none⟩ = some (.string f.v))) (by kernel_rfl) hS0 (fun hS => ?_)
  refine wpAnyH_take (i := 0) (v := ?_) rfl (by kernel_rfl) (by kernel_rfl) (by kernel_rfl) (fun _ _ _ h => h) (Or.inl ⟨by rfl, ?_⟩) hS ?_; rotate_left; focus (intro w hw; clear hw; go_simp; try with_reducible rfl)
  refine wpAnyH_take (i := 3) (v := ?_) rfl (by kernel_rfl) (by kernel_rfl) (by kernel_rfl) (fun _ _ _ h => h) (Or.inl ⟨by rfl, ?_⟩) hS ?_; rotate_left; focus (intro w hw; clear hw; go_simp; try with_reducible rfl)
  refine wpAnyH_take (i := 1) (v := ?_) rfl (by kernel_rfl) (by kernel_rfl) (by kernel_rfl) (fun _ _ _ h => h) (Or.inl ⟨by rfl, ?_⟩) hS ?_; rotate_left; focus (intro w hw; obtain ⟨l0, l1⟩ := hw; go_simp; try with_reducible rfl)
  refine wpAnyH_take (i := 4) (v := ?_) rfl (by kernel_rfl) (by kernel_rfl) (by kernel_rfl) (fun _ _ _ h => h) (Or.inl ⟨by rfl, ?_⟩) hS ?_; rotate_left; focus (intro w hw; obtain ⟨l0, l1⟩ := hw; go_simp; try with_reducible rfl)
  refine wpAnyH_ready (rs := [2]) (by kernel_rfl) (by simp) ?_; refine AllReadyH.cons rfl (fun K hK => ?_) AllReadyH.nil; go_simp
  refine (clone f.n _ (by omega)).mono ?_; rintro x w2 ⟨rfl, hb2⟩
  have hb2' : Below V.heap.size V w2 := bchain (bo_drewN 1 (Below.refl _ _)) hb2
  refine hK.out _ _ ⟨(hb2'.cell (p := ⟨w.heap.size, 0, none⟩) hlV0).trans x0, (hb2'.cell (p := ⟨w.heap.size, 1, none⟩) hlV0).trans x1⟩ (fun hS => ?_)
  clear hK K
  refine wpAnyH_ready (rs := [5]) (by kernel_rfl) (by simp) ?_; refine AllReadyH.cons rfl (fun K hK => ?_) AllReadyH.nil; go_simp
  refine (clone f.v _ (by omega)).mono ?_; rintro x w3 ⟨rfl, hb3⟩
  have hb3' : Below V.heap.size V w3 := bchain hb2' hb3
  refine hK.out _ _ ⟨(hb3'.cell (p := ⟨w.heap.size, 0, none⟩) hlV0).trans x0, (hb3'.cell (p := ⟨w.heap.size, 1, none⟩) hlV0).trans x1⟩ (fun hS => ?_)
  clear hK K
  have g0 := (hb3'.cell (p := ⟨w.heap.size + 1, 0, none⟩) hlV).trans r0
  have g1 := (hb3'.cell (p := ⟨w.heap.size + 1, 1, none⟩) hlV).trans r1
  have g2 := (hb3'.frozen (p := ⟨w.heap.size + 1, 0, none⟩) hlV).trans f0
  have g3 := (hb3'.frozen (p := ⟨w.heap.size + 1, 1, none⟩) hlV).trans f1
  refine wpAnyH_take (i := 6) (v := ?_) rfl (by kernel_rfl) (by kernel_rfl) (by kernel_rfl) (fun _ _ _ h => h) (Or.inl ⟨by rfl, ?_⟩) hS ?_; rotate_left; focus (intro w hw; clear hw; go_simp; try with_reducible rfl)
  refine wpAnyH_ready (rs := [7]) (by kernel_rfl) (by simp) ?_; refine AllReadyH.cons rfl (fun K hK => ?_) AllReadyH.nil; go_simp
  have hw := hbV.trans (hb3'.mono hbV.size)
  refine hK.out _ _ ⟨(World.cell?_setCell_other _ _ _ _ (by simp)).trans ((World.cell?_setCell_other _ _ _ _ (by simp)).trans ((hb3'.cell (p := ⟨w.heap.size, 0, none⟩) hlV0).trans x0)), (World.cell?_setCell_other _ _ _ _ (by simp)).trans ((World.cell?_setCell_other _ _ _ _ (by simp)).trans ((hb3'.cell (p := ⟨w.heap.size, 1, none⟩) hlV0).trans x1))⟩ (fun _ => ?_)
  clear hK K
  refine wpAnyH_done (by kernel_rfl) ?_ _
  go_wp2_with fail
  refine bodyPost_ret (v := .agg #[.string f.n, .string f.v]) (by simp [results, Tryz.results167, go_sem, *]) rfl ?_
  exact ⟨rfl, (hw.setCell (by simp) _).setCell (by simp) _⟩
end Go.Proofs.YtllaeakeaabiaaaGreat
/- Chapter 10's model, what it makes: a copy, one opened, what happens, what is swept. -/
namespace Go.Proofs.YtllaeakeaabiaaaGreat
open Go.RowKit
set_option maxRecDepth 100000
set_option linter.unusedSimpArgs false
set_option linter.unusedVariables false
set_option maxHeartbeats 1000000 in
theorem copyReg (d : RegistryD) (v : Value) (w : World) (hr0 : RdR entryS w v d.es) (hL : d.es.length ≤ 1000) :
    Calls Tryz.prog 54 #[.agg #[.int .i64 d.lim, .int .i64 d.top, v]] w fun x w' => ∃ v', x = .returned (.agg #[.int .i64 d.lim, .int .i64 d.top, v']) ∧ w'.ownsRow w.heap.size 103 2 v' d.es.length (ev d.es) ∧ Below w.heap.size w w' := by
  obtain ⟨ad, cap, rfl, h1, h2⟩ := hr0.form
  have HR := hide (rd_ev hr0)
  clear hr0
  go_enter Tryz.func54, Tryz.ntmps54
  go_wp2_with fail
  generalize hV : (w.alloc (.cells #[.int .i64 d.lim, .int .i64 d.top, .slice ad d.es.length cap] 37)).alloc (.cells #[.int .i64 0, .int .i64 0, .slice none 0 0] 37) = V
  have hbV : Below w.heap.size w V := by rw [← hV]; exact bo_alloc ((Below.refl _ _).alloc (Nat.le_refl _) _) _
  have hX : RowIs V w.heap.size 37 [.int .i64 d.lim, .int .i64 d.top, .slice ad d.es.length cap] := by rw [← hV]; exact (rowIs_new w 37 [.int .i64 d.lim, .int .i64 d.top, .slice ad d.es.length cap]).alloc _
  have hRR : RowIs V (w.heap.size + 1) 37 [.int .i64 0, .int .i64 0, .slice none 0 0] := by rw [← hV]; simpa using rowIs_new (w.alloc (.cells #[.int .i64 d.lim, .int .i64 d.top, .slice ad d.es.length cap] 37)) 37 [.int .i64 0, .int .i64 0, .slice none 0 0]
  clear hV
  have HX := hide hX; have HRR := hide hRR
  have hlV := hRR.lt
  have x0 := hX.cell (j := 0) rfl
  have x1 := hX.cell (j := 1) rfl
  have x2 := hX.cell (j := 2) rfl
  clear hX hRR
  have hS0 := And.intro x0 (And.intro x1 x2)
  refine wp_region_held_drew (S := (fun u => u.cell? ⟨w.heap.size, 0, none⟩ = some (.int .i64 d.lim) ∧ u.cell? ⟨w.heap.size, 1, none⟩ = some (.int .i64 d.top) ∧ u.cell? ⟨w.heap.size, 2, none⟩ = some (.slice ad d.es.length cap))) (by kernel_rfl) hS0 (fun hS => ?_)
  refine wpAnyH_take (i := 0) (v := ?_) rfl (by kernel_rfl) (by kernel_rfl) (by kernel_rfl) (fun _ _ _ h => h) (Or.inl ⟨by rfl, ?_⟩) hS ?_; rotate_left; focus (intro w hw; clear hw; go_simp; try with_reducible rfl)
  refine wpAnyH_take (i := 2) (v := ?_) rfl (by kernel_rfl) (by kernel_rfl) (by kernel_rfl) (fun _ _ _ h => h) (Or.inl ⟨by rfl, ?_⟩) hS ?_; rotate_left; focus (intro w hw; clear hw; go_simp; try with_reducible rfl)
  refine wpAnyH_take (i := 5) (v := ?_) rfl (by kernel_rfl) (by kernel_rfl) (by kernel_rfl) (fun _ _ _ h => h) (Or.inl ⟨by rfl, ?_⟩) hS ?_; rotate_left; focus (intro w hw; clear hw; go_simp; try with_reducible rfl)
  refine wpAnyH_take (i := 1) (v := ?_) rfl (by kernel_rfl) (by kernel_rfl) (by kernel_rfl) (fun _ _ _ h => h) (Or.inl ⟨by rfl, ?_⟩) hS ?_; rotate_left; focus (intro w hw; obtain ⟨l0, l1, l2⟩ := hw; go_simp; try with_reducible rfl)
  refine wpAnyH_take (i := 3) (v := ?_) rfl (by kernel_rfl) (by kernel_rfl) (by kernel_rfl) (fun _ _ _ h => h) (Or.inl ⟨by rfl, ?_⟩) hS ?_; rotate_left; focus (intro w hw; obtain ⟨l0, l1, l2⟩ := hw; go_simp; try with_reducible rfl)
  refine wpAnyH_take (i := 6) (v := ?_) rfl (by kernel_rfl) (by kernel_rfl) (by kernel_rfl) (fun _ _ _ h => h) (Or.inl ⟨by rfl, ?_⟩) hS ?_; rotate_left; focus (intro w hw; obtain ⟨l0, l1, l2⟩ := hw; go_simp; try with_reducible rfl)
  refine wpAnyH_ready (rs := [4]) (by kernel_rfl) (by simp) ?_; refine AllReadyH.cons rfl (fun K hK => ?_) AllReadyH.nil; go_simp
  have hbA : Below V.heap.size V ((World.drew V).alloc (.cells #[] 103)) := bo_alloc (bo_drewN 1 (Below.refl _ _)) _
  have hoA : ((World.drew V).alloc (.cells #[] 103)).ownsRow V.heap.size 103 2 (.slice (some ⟨V.heap.size, 0, none⟩) 0 0) 0 [] := owns_lit (World.drew V) 103 2 0 #[] rfl (by omega)
  have hrA := (HR.out.new hbV).new hbA
  refine hK.out _ _ ⟨(HX.out.new hbA).cell (j := 0) rfl, (HX.out.new hbA).cell (j := 1) rfl, (HX.out.new hbA).cell (j := 2) rfl⟩ (fun hS => ?_)
  clear hK K
  refine wpAnyH_ready (rs := [7]) (by kernel_rfl) (by simp) ?_
  refine AllReadyH.cons rfl (fun K hK => ?_) AllReadyH.nil
  refine step_app _ (by rfl) _ _ 35 (by rfl) 103 (.agg #[.int .i64 0, .int .i64 0]) 2 16 Tryz.underlying35 (by kernel_rfl) rfl (by decide) V.heap.size _ 0 [] (by rfl) hoA _ d.es.length (ev d.es) (by rfl) hrA (ev_one _) (by omega) (by decide) hbA.size ?_
  intro ad5 cap5 w5 hown5 hgrow5 hat5
  have hb5 : Below V.heap.size V w5 := ⟨hgrow5.os.trans hbA.os, hgrow5.tape.trans hbA.tape, hgrow5.output.trans hbA.output, Nat.le_trans hbA.size hgrow5.size, fun k hk => (hgrow5.block k (Nat.lt_of_lt_of_le hk hbA.size) (fun e => absurd (show V.heap.size ≤ k from (hoA.lt k e.symm).1) (Nat.not_le_of_lt hk))).trans (hbA.block k hk)⟩
  refine hK.out _ _ ⟨(HX.out.new hb5).cell (j := 0) rfl, (HX.out.new hb5).cell (j := 1) rfl, (HX.out.new hb5).cell (j := 2) rfl⟩ (fun hS => ?_)
  clear hK K hat5 hgrow5 hoA hrA hbA
  rw [Nat.zero_add] at hown5 ⊢
  rw [List.nil_append] at hown5
  have hRR5 := HRR.out.new hb5
  have r0 := hRR5.cell (j := 0) rfl
  have r1 := hRR5.cell (j := 1) rfl
  have r2 := hRR5.cell (j := 2) rfl
  have r3 := hRR5.frozen 0
  have r4 := hRR5.frozen 1
  have r5 := hRR5.frozen 2
  have HO := hide hown5
  clear hown5 hRR5
  refine wpAnyH_take (i := 8) (v := ?_) rfl (by kernel_rfl) (by kernel_rfl) (by kernel_rfl) (fun _ _ _ h => h) (Or.inl ⟨by rfl, ?_⟩) hS ?_; rotate_left; focus (intro w hw; clear hw; go_simp; try with_reducible rfl)
  refine wpAnyH_ready (rs := [9]) (by kernel_rfl) (by simp) ?_; refine AllReadyH.cons rfl (fun K hK => ?_) AllReadyH.nil; go_simp
  have hcx : ∀ j u, ([.int .i64 d.lim, .int .i64 d.top, .slice ad d.es.length cap] : List Value)[j]? = some u → (((w5.setCell ⟨w.heap.size + 1, 0, none⟩ (.int .i64 d.lim)).setCell ⟨w.heap.size + 1, 1, none⟩ (.int .i64 d.top)).setCell ⟨w.heap.size + 1, 2, none⟩ (.slice ad5 d.es.length cap5)).cell? ⟨w.heap.size, j, none⟩ = some u := fun j u hu => ((((HX.out.new hb5).far ⟨w.heap.size + 1, 0, none⟩ (.int .i64 d.lim) (by simp)).far ⟨w.heap.size + 1, 1, none⟩ (.int .i64 d.top) (by simp)).far ⟨w.heap.size + 1, 2, none⟩ (.slice ad5 d.es.length cap5) (by simp)).cell hu
  refine hK.out _ _ ⟨hcx 0 _ rfl, hcx 1 _ rfl, hcx 2 _ rfl⟩ (fun _ => ?_)
  clear hK K
  refine wpAnyH_done (by kernel_rfl) ?_ _
  go_wp2_with fail
  refine bodyPost_ret (v := (.agg #[.int .i64 d.lim, .int .i64 d.top, .slice ad5 d.es.length cap5])) (by simp [results, Tryz.results54, go_sem, *]) rfl ?_
  have hov : ∀ q, (Value.slice ad5 d.es.length cap5).ownBlock = some q → w.heap.size + 2 ≤ q := fun q hq => by have := (HO.out.lt q hq).1; omega
  have hlt1 : w.heap.size + 1 < w.heap.size + 2 := by omega
  exact ⟨_, rfl, owns_base (owns_far (w.heap.size + 2) (owns_far (w.heap.size + 2) (owns_far (w.heap.size + 2) HO.out hov _ _ hlt1) hov _ _ hlt1) hov _ _ hlt1) (fun q hq => by have := hov q hq; omega), (((hbV.trans (hb5.mono hbV.size)).setCell (show w.heap.size ≤ w.heap.size + 1 by omega) _).setCell (show w.heap.size ≤ w.heap.size + 1 by omega) _).setCell (show w.heap.size ≤ w.heap.size + 1 by omega) _⟩
/-- A Registry in block g whose entries are owned, in a block apart from it. -/
structure RegAt (w : World) (g base : Nat) (d : RegistryD) : Prop where
  ex : ∃ ad cap, RowIs w g 37 [.int .i64 d.lim, .int .i64 d.top, .slice ad d.es.length cap] ∧ w.ownsRow base 103 2 (.slice ad d.es.length cap) d.es.length (ev d.es) ∧ (Value.slice ad d.es.length cap).ownBlock ≠ some g
theorem RegAt.new {w w' : World} {g base : Nat} {d : RegistryD} (h : RegAt w g base d) (hb : Below w.heap.size w w') : RegAt w' g base d := by
  obtain ⟨ad, cap, h1, h2, h3⟩ := h.ex
  exact ⟨ad, cap, h1.new hb, owns_new h2 hb, h3⟩
theorem regAt_new {w : World} {base : Nat} {d : RegistryD} {ad : Option Addr} {cap : Nat} (h : w.ownsRow base 103 2 (.slice ad d.es.length cap) d.es.length (ev d.es)) : RegAt (w.alloc (.cells #[.int .i64 d.lim, .int .i64 d.top, .slice ad d.es.length cap] 37)) w.heap.size base d :=
  ⟨ad, cap, rowIs_new w 37 [.int .i64 d.lim, .int .i64 d.top, .slice ad d.es.length cap], h.alloc _, fun hq => by have := (h.lt _ hq).2; omega⟩
theorem ev_set (L : List EntryD) (k : Nat) (hk : k < L.length) (s : Int) : (ev L).set (k * 2 + 1) (.int .i64 s) = ev (L.set k ⟨L[k].id, s⟩) := flat_set EntryD.cs 2 (fun _ => rfl) L k hk 1 (by decide) (.int .i64 s) ⟨L[k].id, s⟩ rfl
set_option maxHeartbeats 2000000 in
theorem openAt (g base : Nat) (r : RegistryD) (id : Int) (w : World) (h : RegAt w g base r) (hL : r.es.length ≤ 1000) (hbs : base ≤ w.heap.size) :
    Calls Tryz.prog 105 #[.pointer (some ⟨g, 0, none⟩), .int .i64 id] w fun x w' => x = .returned (.int .i64 (openRaw r id).2) ∧ RegAt w' g base (openRaw r id).1 ∧ ∀ B, B ≤ base → B ≤ g → B ≤ w.heap.size → Below B w w' := by
  have HRA := hide h
  obtain ⟨ad, cap, hrow, hown, hne⟩ := h.ex
  have HROW := hide hrow; have HOWN := hide hown; have HNE := hide hne
  have hlg := hrow.lt
  clear h hrow hown hne
  cases hid : idB id
  · have hv : openRaw r id = (r, 1) := by unfold openRaw; rw [if_neg (by rw [hid]; simp)]
    rw [hv]
    go_enter Tryz.func105, Tryz.ntmps105
    go_wp2_with fail
    refine (specId id _).mono ?_; rw [hid]; rintro e w1 ⟨rfl, hsame⟩; obtain rfl := hsame.symm; clear hsame
    go_wp2_with fail
    go_ret
    exact ⟨rfl, HRA.out, fun B _ _ _ => Below.refl _ _⟩
  have g1 := HROW.out.cell (j := 1) rfl
  by_cases htop : r.top < id
  rotate_left
  · have hv : openRaw r id = (r, 1) := open_again (by omega)
    rw [hv]
    go_enter Tryz.func105, Tryz.ntmps105
    go_wp2_with fail
    refine (specId id _).mono ?_; rw [hid]; rintro e w1 ⟨rfl, hsame⟩; obtain rfl := hsame.symm; clear hsame
    go_wp2_with fail
    go_ret
    exact ⟨rfl, HRA.out, fun B _ _ _ => Below.refl _ _⟩
  obtain ⟨R, hR⟩ : ∃ R, openRaw r id = R := ⟨_, rfl⟩
  rw [hR]
  have HR : Hid (R = if r.lim ≤ liveL r.es ∨ r.es.length = 60 then (⟨r.lim, id, r.es⟩, 2) else (⟨r.lim, id, r.es ++ [⟨id, 1⟩]⟩, 0)) := by show R = _; rw [← hR]; unfold openRaw; rw [if_pos ⟨hid, htop⟩]
  clear hR
  have g5 := HROW.out.frozen 1
  go_enter Tryz.func105, Tryz.ntmps105
  go_wp2_with fail
  refine (specId id _).mono ?_; rw [hid]; rintro e w1 ⟨rfl, hsame⟩; obtain rfl := hsame.symm; clear hsame
  go_upto_region 4 with fail
  have hrow : RowIs (w.setCell ⟨g, 1, none⟩ (.int .i64 id)) g 37 [.int .i64 r.lim, .int .i64 id, .slice ad r.es.length cap] := HROW.out.set 1 (.int .i64 id)
  have hown1 := owns_apart HOWN.out ⟨g, 1, none⟩ (.int .i64 id) HNE.out
  have HB1 : Hid (∀ B, B ≤ base → B ≤ g → B ≤ w.heap.size → Below B w (w.setCell ⟨g, 1, none⟩ (.int .i64 id))) := fun B h1 h2 h3 => (Below.refl _ _).setCell (by simpa using h2) _
  have hsz : w.heap.size ≤ (w.setCell ⟨g, 1, none⟩ (.int .i64 id)).heap.size := by simp
  clear g1 g5 HROW HOWN HRA
  generalize w.setCell ⟨g, 1, none⟩ (.int .i64 id) = w2 at *
  have x0 := hrow.cell (j := 0) rfl
  have x1 := hrow.cell (j := 1) rfl
  have x2 := hrow.cell (j := 2) rfl
  have hlg2 := hrow.lt
  have q0 : ∀ y : Later w2, y.w.cell? ⟨g, 0, none⟩ = some (.int .i64 r.lim) := fun y => (y.b.cell (p := ⟨g, 0, none⟩) hlg2).trans x0
  have q1 : ∀ y : Later w2, y.w.cell? ⟨g, 1, none⟩ = some (.int .i64 id) := fun y => (y.b.cell (p := ⟨g, 1, none⟩) hlg2).trans x1
  have q2 : ∀ y : Later w2, y.w.cell? ⟨g, 2, none⟩ = some (.slice ad r.es.length cap) := fun y => (y.b.cell (p := ⟨g, 2, none⟩) hlg2).trans x2
  have HROW1 := hide hrow; have HOWN1 := hide hown1
  clear x0 x1 x2 hrow hown1
  have hlv := fun w h => specLiveL ⟨r.lim, id, r.es⟩ (.slice ad r.es.length cap) w h
  have hln := live_le r.es
  obtain ⟨q, hq⟩ : ∃ q, liveL r.es = q := ⟨_, rfl⟩
  dsimp only at hlv
  rw [hq] at hlv hln
  have HQ := hide hq
  clear hq
  have hrd : ∀ y : Later w2, RdR entryS y.w (.slice ad r.es.length cap) r.es := fun y => (ev_rd (reads_of_owns HOWN1.out)).new y.b
  by_cases hfull : r.lim ≤ q
  · have HF : Hid (R = (⟨r.lim, id, r.es⟩, 2)) := by show R = _; rw [HR.out, if_pos (.inl (by rw [HQ.out]; exact hfull))]
    have hne : Nonempty (Later w2) := ⟨⟨w2, Below.refl _ _⟩⟩; refine region_later (by kernel_rfl) (by kernel_rfl) ?_; (repeat (go_big_quiet_step (fail))); go_big_quiet_want; go_big_quiet_op; refine ⟨.int .i64 q, fun y => later_calls (x := y) (hlv y.w (hrd y)), ?_⟩; go_big_quiet_on; (repeat (go_big_quiet_step (fail))); refine wpQuiet_nil ?_; intro _ hw'; obtain ⟨y, hw''⟩ := hw'; subst hw''; have hby := y.b
    go_wp2_with fail
    go_ret
    rw [HF.out]
    exact ⟨rfl, ⟨ad, cap, HROW1.out.new hby, owns_new HOWN1.out hby, HNE.out⟩, fun B h1 h2 h3 => (HB1.out B h1 h2 h3).trans (hby.mono (Nat.le_trans h3 hsz))⟩
  by_cases h60 : (r.es.length : Int) = 60
  · have HF : Hid (R = (⟨r.lim, id, r.es⟩, 2)) := by show R = _; rw [HR.out, if_pos (.inr (by omega))]
    have h60' : ((r.es.length : Int) == 60) = true := by simpa using h60
    have hfu : ¬ r.lim ≤ q := hfull
    have H60 := hide h60
    clear h60
    have hne : Nonempty (Later w2) := ⟨⟨w2, Below.refl _ _⟩⟩; refine region_later (by kernel_rfl) (by kernel_rfl) ?_; (repeat (go_big_quiet_step (fail))); go_big_quiet_want; go_big_quiet_op; refine ⟨.int .i64 q, fun y => later_calls (x := y) (hlv y.w (hrd y)), ?_⟩; go_big_quiet_on; (repeat (go_big_quiet_step (fail))); refine wpQuiet_nil ?_; intro _ hw'; obtain ⟨y, hw''⟩ := hw'; subst hw''; have hby := y.b
    go_wp2_with fail
    go_ret
    rw [HF.out]
    exact ⟨rfl, ⟨ad, cap, HROW1.out.new hby, owns_new HOWN1.out hby, HNE.out⟩, fun B h1 h2 h3 => (HB1.out B h1 h2 h3).trans (hby.mono (Nat.le_trans h3 hsz))⟩
  have HF : Hid (R = (⟨r.lim, id, r.es ++ [⟨id, 1⟩]⟩, 0)) := by show R = _; rw [HR.out, if_neg (fun c => by rw [HQ.out] at c; omega)]
  have h60' : ((r.es.length : Int) == 60) = false := by simpa using h60
  clear h60
  have hne : Nonempty (Later w2) := ⟨⟨w2, Below.refl _ _⟩⟩; refine region_later (by kernel_rfl) (by kernel_rfl) ?_; (repeat (go_big_quiet_step (fail))); go_big_quiet_want; go_big_quiet_op; refine ⟨.int .i64 q, fun y => later_calls (x := y) (hlv y.w (hrd y)), ?_⟩; go_big_quiet_on; (repeat (go_big_quiet_step (fail))); refine wpQuiet_nil ?_; intro _ hw'; obtain ⟨y, hw''⟩ := hw'; subst hw''; have hby := y.b
  have hrow3 := HROW1.out.new hby
  have hown3 := owns_new HOWN1.out hby
  have HB3 : Hid (∀ B, B ≤ base → B ≤ g → B ≤ w.heap.size → Below B w y.w) := fun B h1 h2 h3 => (HB1.out B h1 h2 h3).trans (hby.mono (Nat.le_trans h3 hsz))
  have hs3 : w.heap.size ≤ y.w.heap.size := Nat.le_trans hsz hby.size
  clear q0 q1 q2 hrd hlv hne
  generalize y.w = w3 at *
  clear hby HROW1 HOWN1 HB1
  have x2 := hrow3.cell (j := 2) rfl
  have hlg3 := hrow3.lt
  have hX : Below w3.heap.size w3 (w3.alloc (.cells #[.int .i64 id, .int .i64 1] 103)) := (Below.refl _ _).alloc (Nat.le_refl _) _
  have hownX := owns_new hown3 hX
  have hRd : Reads (w3.alloc (.cells #[.int .i64 id, .int .i64 1] 103)) (.slice (some ⟨w3.heap.size, 0, none⟩) 1 1) 1 2 (ev [⟨id, 1⟩]) := reads_of_owns (owns_lit w3 103 2 1 #[.int .i64 id, .int .i64 1] rfl (by omega))
  have hrowX := hrow3.new hX
  have hsX := hX.size
  have HBX : Hid (∀ B, B ≤ base → B ≤ g → B ≤ w.heap.size → Below B w (w3.alloc (.cells #[.int .i64 id, .int .i64 1] 103))) := fun B h1 h2 h3 => (HB3.out B h1 h2 h3).trans (hX.mono (Nat.le_trans h3 hs3))
  have HROWX := hide hrowX
  clear hrowX hrow3 hown3 hX HB3
  go_wp2_with (at_builtin; refine wpList_app _ (by rfl) _ _ 35 (by rfl) 103 (.agg #[.int .i64 0, .int .i64 0]) 2 16 Tryz.underlying35 (by kernel_rfl) rfl (by decide) base _ r.es.length (ev r.es) (by rfl) hownX _ 1 (ev [⟨id, 1⟩]) (by rfl) hRd (ev_one _) (by omega) (by decide) (by omega) ?_)
  intro ad7 cap7 w7 hown7 hg7 hat7
  generalize w3.alloc (.cells #[.int .i64 id, .int .i64 1] 103) = wX at *
  have hlgX := HROWX.out.lt
  have hrow7 := HROWX.out.kept (hg7.block g hlgX (fun e => HNE.out e.symm))
  have y2 := hrow7.cell (j := 2) rfl
  have yf := hrow7.frozen 2
  have hlg7 := hrow7.lt
  have hne7 : (Value.slice ad7 (r.es.length + 1) cap7).ownBlock ≠ some g := by
    rcases hat7 with e | e
    · rw [e]; exact HNE.out
    · rw [e]; intro hc; have := Option.some.inj hc; omega
  have HROW7 := hide hrow7; have HOWN7 := hide hown7; have HNE7 := hide hne7
  have HB7 : Hid (∀ B, B ≤ base → B ≤ g → B ≤ w.heap.size → Below B w w7) := fun B h1 h2 h3 => by
    have hb := HBX.out B h1 h2 h3
    exact ⟨hg7.os.trans hb.os, hg7.tape.trans hb.tape, hg7.output.trans hb.output, Nat.le_trans hb.size hg7.size, fun k hk => (hg7.block k (by have := hb.size; omega) (fun e => by have := (hownX.lt k e.symm).1; omega)).trans (hb.block k hk)⟩
  clear hrow7 hown7 hne7 hat7 hg7 hownX hRd x2
  go_wp2_with fail
  go_ret
  rw [HF.out]
  refine ⟨rfl, ⟨ad7, cap7, ?_, ?_, ?_⟩, fun B h1 h2 h3 => (HB7.out B h1 h2 h3).setCell (by simpa using h2) _⟩
  · have := HROW7.out.set 2 (.slice ad7 (r.es.length + 1) cap7)
    simpa using this
  · have := owns_apart HOWN7.out ⟨g, 2, none⟩ (.slice ad7 (r.es.length + 1) cap7) HNE7.out
    simpa [ev_app] using this
  · simpa using HNE7.out
set_option maxHeartbeats 2000000 in
theorem happenAt (g base : Nat) (r : RegistryD) (id evn : Int) (w : World) (h : RegAt w g base r) (hbs : base ≤ w.heap.size) :
    Calls Tryz.prog 63 #[.pointer (some ⟨g, 0, none⟩), .int .i64 id, .int .i64 evn] w fun x w' => x = .returned (.bool (happenRaw r id evn).2) ∧ RegAt w' g base (happenRaw r id evn).1 ∧ ∀ B, B ≤ base → B ≤ g → B ≤ w.heap.size → Below B w w' := by
  have HRA := hide h
  obtain ⟨ad, cap, hrow, hown, hne⟩ := h.ex
  have x0 := hrow.cell (j := 0) rfl
  have x1 := hrow.cell (j := 1) rfl
  have x2 := hrow.cell (j := 2) rfl
  have HROW := hide hrow; have HOWN := hide hown; have HNE := hide hne
  have hlg := hrow.lt
  clear h hrow hown hne
  have hat := fun w h => specAt r id (.slice ad r.es.length cap) w h
  cases hq : atE r.es id with
  | none =>
    have hI : atI r.es id = -1 := by unfold atI; rw [hq]
    rw [hI] at hat
    rw [happenRaw_none hq]
    clear hI hq
    go_enter Tryz.func63, Tryz.ntmps63
    go_wp2_with fail
    refine (hat _ (ev_rd (reads_of_owns HOWN.out))).mono ?_; rintro x w1 ⟨rfl, hb1⟩
    go_wp2_with fail
    go_ret
    exact ⟨rfl, HRA.out.new hb1, fun B h1 h2 h3 => hb1.mono h3⟩
  | some k =>
    obtain ⟨hk, _, _⟩ := atE_some hq
    have hI : atI r.es id = k := atI_some hq
    rw [hI] at hat
    rw [happenRaw_some hq hk]
    have hes := ev_set r.es k hk
    obtain ⟨gv1, gv2⟩ := ev_get r.es k hk
    obtain ⟨e, he⟩ : ∃ e, r.es[k] = e := ⟨_, rfl⟩
    rw [he] at gv1 gv2 hes ⊢
    clear hI hq he
    obtain ⟨n, b, hn⟩ : ∃ n b, nxV e.state evn = (n, b) := ⟨_, _, rfl⟩
    have hnx := fun w => specNext e.state evn w
    rw [hn] at hnx ⊢
    dsimp only at hnx ⊢
    clear hn
    go_enter Tryz.func63, Tryz.ntmps63
    go_wp2_with fail
    refine (hat _ (ev_rd (reads_of_owns HOWN.out))).mono ?_; rintro x w1 ⟨rfl, hb1⟩
    clear x0 x1 x2
    replace HROW := hide (HROW.out.new hb1)
    replace HOWN := hide (owns_new HOWN.out hb1)
    have x2 := HROW.out.cell (j := 2) rfl
    have hlg1 := HROW.out.lt
    obtain ⟨gb, gcap, hsl, hg0, hg1, hg2, _, _, hc, hf⟩ := owns_open HOWN.out (by omega)
    simp only [Value.slice.injEq] at hsl
    obtain ⟨rfl, -, -⟩ := hsl
    have c1 := hc _ _ gv2
    have f1 := hf (k * 2 + 1)
    have hgg : gb ≠ g := fun e => HNE.out (by rw [hg0, e])
    have HOWN2 := hide (owns_set HOWN.out hg0 (k * 2 + 1) (.int .i64 n))
    have HB1 : Hid (∀ B, B ≤ base → B ≤ g → B ≤ w.heap.size → Below B w w1) := fun B h1 h2 h3 => hb1.mono h3
    have HES := hide hes
    have HG0 := hide hg0
    clear hc hf gv1 gv2 hb1 hat hes hg0
    go_wp2_with fail
    refine (hnx _).mono ?_; rintro e w2 ⟨rfl, hsame⟩; obtain rfl := hsame.symm; clear hsame
    go_wp2_with fail
    go_ret
    refine ⟨rfl, ⟨some ⟨gb, 0, none⟩, cap, ?_, ?_, ?_⟩, fun B h1 h2 h3 => (HB1.out B h1 h2 h3).setCell (by simp; omega) _⟩
    · have := HROW.out.far ⟨gb, k * 2 + 1, none⟩ (.int .i64 n) hgg
      simpa using this
    · have := HOWN2.out
      rw [HES.out n] at this
      simpa using this
    · simpa [Value.ownBlock] using hgg
end Go.Proofs.YtllaeakeaabiaaaGreat
/- The model's Noted and Resized. -/
namespace Go.Proofs.YtllaeakeaabiaaaGreat
open Go.RowKit
set_option maxRecDepth 100000
set_option linter.unusedSimpArgs false
set_option linter.unusedVariables false

/-- A Table's box, filled behind a call that copied its rows. -/
theorem tabAt_new {w : World} {base : Nat} {room : Int} {L : List Fd} {a : Option Addr} {p : Nat} (ho : w.ownsRow base 146 2 (.slice a L.length p) L.length (fv L)) :
    TabAt (w.alloc (.cells #[.int .i64 room, .slice a L.length p] 40)) w.heap.size base room L :=
  ⟨⟨a, p, rowIs_new w 40 [.int .i64 room, .slice a L.length p], ho.alloc _, fun hq => by have := (ho.lt _ hq).2; omega⟩⟩
theorem tabAt_room {w : World} {g base : Nat} {room : Int} {L : List Fd} (h : TabAt w g base room L) (r : Int) : TabAt (w.setCell ⟨g, 0, none⟩ (.int .i64 r)) g base r L := by
  obtain ⟨a, p, h1, h2, h3⟩ := h.ex
  exact ⟨⟨a, p, h1.set 0 _, owns_apart h2 _ _ h3, h3⟩⟩
theorem tabAt_later {w w' : World} {g base : Nat} {room : Int} {L : List Fd} (h : TabAt w g base room L) (hb : Below w.heap.size w w') : TabAt w' g base room L := by
  obtain ⟨a, p, h1, h2, h3⟩ := h.ex
  exact ⟨⟨a, p, h1.new hb, owns_new h2 hb, h3⟩⟩

end Go.Proofs.YtllaeakeaabiaaaGreat
/- Chapter 7's Payload, of the program and of the model. -/
namespace Go.Proofs.YtllaeakeaabiaaaGreat
open Go.RowKit
set_option maxRecDepth 100000
set_option linter.unusedSimpArgs false
set_option linter.unusedVariables false
theorem ext_ext {s : ByteArray} {i j m : Nat} (h : j ≤ s.size) (hm : i + m ≤ j) : (s.extract i j).extract 0 m = s.extract i (i + m) := by
  refine bys_inj ?_
  rw [bys_extract, bys_extract, bys_extract, List.drop_zero, List.take_drop, List.take_take]
  congr 2
  omega
theorem ok_pad {k fl st : Int} {b : ByteArray} (h : okFr ⟨k, fl, st, b⟩ = true) (hk : k = 1) (hf : 2 ≤ fl) : ∃ h0 : 0 < b.size, (b[0].toNat : Int) ≤ (b.size : Int) - 1 := by
  have hh := ok_head h
  dsimp only at hh
  have hpos := hd_pad hh hk hf
  rw [okFr_mk, Bool.and_eq_true] at h
  have h2 := h.2
  unfold bodB at h2
  rw [if_pos ⟨hk, hf⟩, fst0_get (by omega)] at h2
  exact ⟨by omega, of_decide_eq_true h2⟩

set_option maxHeartbeats 1000000 in
theorem implPayload (k fl st : Int) (b : ByteArray) (w : World) (hb : b.size ≤ maxLen) : Calls Tryz.prog 208 #[.agg #[.int .i64 k, .int .i64 fl, .int .i64 st, .string b]] w fun e w' => e = .returned (.string (payV ⟨k, fl, st, b⟩)) ∧ Below w.heap.size w w' := by
  have hbm := hb
  unfold maxLen at hb
  cases hok : okFr ⟨k, fl, st, b⟩
  · have hv : payV ⟨k, fl, st, b⟩ = ⟨#[]⟩ := by simp [payV, hok]
    rw [hv]
    go_enter Tryz.func208, Tryz.ntmps208
    go_wp2_with fail
    refine (implFrameOk k fl st b _ hbm).mono ?_; rw [hok]; rintro e w1 ⟨rfl, hb1⟩
    go_wp2_with fail
    go_ret
    exact ⟨rfl, (by repeat' (first | (with_reducible exact Below.refl _ _) | (with_reducible refine Below.drew ?_) | (with_reducible refine bo_drewN _ ?_) | (with_reducible refine bo_alloc ?_ _) | (refine bchain ?_ (by with_reducible assumption)) | (with_reducible refine Below.setCell ?_ ?_ _) | go_size))⟩
  · have hh := ok_head hok
    dsimp only at hh
    obtain ⟨p1, p2, p3, p4, p5, p6, p7, p8⟩ := hd_parts hh
    have hp := fun w => implPadded k fl st b w p1 p2
    have HOK := hide hok
    clear hh
    by_cases hk : k = 1 ∧ 2 ≤ fl
    · have hpb : padB k fl = true := by simp [padB, hk.1, hk.2]
      rw [hpb] at hp
      obtain ⟨hpos, hle⟩ := ok_pad hok hk.1 hk.2
      have hby := byte_range b 0 hpos
      obtain ⟨z, hz⟩ : ∃ z : Nat, z = b[0].toNat := ⟨_, rfl⟩
      have hv : payV ⟨k, fl, st, b⟩ = b.extract 1 (b.size - z) := by
        unfold payV; rw [if_pos hok, if_pos hk, fst0_get hpos, ← hz]
        dsimp only
        congr 1; omega
      rw [hv]
      have hx : (b.extract 1 b.size).size = b.size - 1 := ba_extract_size (Nat.le_refl _) (by omega)
      have he : (b.extract 1 b.size).extract 0 (b.size - 1 - z) = b.extract 1 (b.size - z) := by
        rw [ext_ext (Nat.le_refl _) (by omega)]; congr 1; omega
      obtain ⟨X, hX⟩ : ∃ X, b.extract 1 b.size = X := ⟨_, rfl⟩
      rw [hX] at hx he
      have hsl1 : ∀ w, (Instr.slice 9 (.string b) (some (.int .i64 1)) none none).run Tryz.prog w = .ok (.string X) w := fun w => by
        rw [run_slice_string_from_if (P := Tryz.prog) w 9 b .i64 1 Tryz.underlying9, if_pos ⟨by omega, by omega⟩, ← hX]; rfl
      have hsl2 : ∀ w, (Instr.slice 9 (.string X) none (some (.int .i64 ((X.size : Int) - z))) none).run Tryz.prog w = .ok (.string (b.extract 1 (b.size - z))) w := fun w => by
        rw [run_slice_string_to_if (P := Tryz.prog) w 9 X .i64 _ Tryz.underlying9, if_pos ⟨by omega, by omega⟩, ← he]; congr 3; omega
      have hle2 : (b.extract 1 (b.size - z)).size ≤ 281474976710656 := by rw [ba_extract_size (by omega) (by omega)]; omega
      have hzle : (z : Int) ≤ 255 := by omega
      have hX1 : (z : Int) ≤ (X.size : Int) := by omega
      have hX2 : (X.size : Int) ≤ 1000 := by omega
      generalize b.extract 1 (b.size - z) = Y at *
      have HX := hide hx
      clear hv hpb hx he hX hk hok
      have HZ := hide hz
      rw [← hz] at hby hle
      go_enter Tryz.func208, Tryz.ntmps208
      go_wp2_with fail
      refine (implFrameOk k fl st b _ hbm).mono ?_; rw [HOK.out]; rintro e w1 ⟨rfl, hb1⟩
      have c0 : w1.cell? ⟨w.heap.size, 0, none⟩ = some (.int .i64 k) := by rw [hb1.cell (p := ⟨w.heap.size, 0, none⟩) (by simp)]; simp
      have c1 : w1.cell? ⟨w.heap.size, 1, none⟩ = some (.int .i64 fl) := by rw [hb1.cell (p := ⟨w.heap.size, 1, none⟩) (by simp)]; simp
      have c2 : w1.cell? ⟨w.heap.size, 2, none⟩ = some (.int .i64 st) := by rw [hb1.cell (p := ⟨w.heap.size, 2, none⟩) (by simp)]; simp
      have c3 : w1.cell? ⟨w.heap.size, 3, none⟩ = some (.string b) := by rw [hb1.cell (p := ⟨w.heap.size, 3, none⟩) (by simp)]; simp
      have hlt : w.heap.size < w1.heap.size := by have := hb1.size; simp at this; omega
      go_wp2_with fail
      refine (hp _).mono ?_; rintro e w2 ⟨rfl, hb2⟩
      have d3 : w2.cell? ⟨w.heap.size, 3, none⟩ = some (.string b) := (hb2.cell (p := ⟨w.heap.size, 3, none⟩) hlt).trans c3
      have hzz := HZ.out
      rw [hz] at *
      clear hz
      go_wp2_with fail
      go_quiet (fail)
      go_wp2_with fail
      refine (clone Y _ hle2).mono ?_; rintro e w3 ⟨rfl, hb3⟩
      go_wp2_with fail
      go_ret
      exact ⟨rfl, (by repeat' (first | (with_reducible exact Below.refl _ _) | (with_reducible refine Below.drew ?_) | (with_reducible refine bo_drewN _ ?_) | (with_reducible refine bo_alloc ?_ _) | (refine bchain ?_ (by with_reducible assumption)) | (with_reducible refine Below.setCell ?_ ?_ _) | go_size))⟩
    · have hpb : padB k fl = false := by
        cases e : padB k fl
        · rfl
        · simp [padB] at e; exact absurd e hk
      rw [hpb] at hp
      have hv : payV ⟨k, fl, st, b⟩ = b := by unfold payV; rw [if_pos hok, if_neg hk]
      rw [hv]
      clear hv hpb hok hk
      go_enter Tryz.func208, Tryz.ntmps208
      go_wp2_with fail
      refine (implFrameOk k fl st b _ hbm).mono ?_; rw [HOK.out]; rintro e w1 ⟨rfl, hb1⟩
      have c0 : w1.cell? ⟨w.heap.size, 0, none⟩ = some (.int .i64 k) := by rw [hb1.cell (p := ⟨w.heap.size, 0, none⟩) (by simp)]; simp
      have c1 : w1.cell? ⟨w.heap.size, 1, none⟩ = some (.int .i64 fl) := by rw [hb1.cell (p := ⟨w.heap.size, 1, none⟩) (by simp)]; simp
      have c2 : w1.cell? ⟨w.heap.size, 2, none⟩ = some (.int .i64 st) := by rw [hb1.cell (p := ⟨w.heap.size, 2, none⟩) (by simp)]; simp
      have c3 : w1.cell? ⟨w.heap.size, 3, none⟩ = some (.string b) := by rw [hb1.cell (p := ⟨w.heap.size, 3, none⟩) (by simp)]; simp
      have hlt : w.heap.size < w1.heap.size := by have := hb1.size; simp at this; omega
      go_wp2_with fail
      refine (hp _).mono ?_; rintro e w2 ⟨rfl, hb2⟩
      have d3 : w2.cell? ⟨w.heap.size, 3, none⟩ = some (.string b) := (hb2.cell (p := ⟨w.heap.size, 3, none⟩) hlt).trans c3
      go_wp2_with fail
      refine (clone b _ (by omega)).mono ?_; rintro e w3 ⟨rfl, hb3⟩
      go_wp2_with fail
      go_ret
      exact ⟨rfl, (by repeat' (first | (with_reducible exact Below.refl _ _) | (with_reducible refine Below.drew ?_) | (with_reducible refine bo_drewN _ ?_) | (with_reducible refine bo_alloc ?_ _) | (refine bchain ?_ (by with_reducible assumption)) | (with_reducible refine Below.setCell ?_ ?_ _) | go_size))⟩
set_option maxHeartbeats 1000000 in
theorem specPayload (k fl st : Int) (b : ByteArray) (w : World) (hb : b.size ≤ maxLen) : Calls Tryz.prog 110 #[.agg #[.int .i64 k, .int .i64 fl, .int .i64 st, .string b]] w fun e w' => e = .returned (.string (payV ⟨k, fl, st, b⟩)) ∧ Below w.heap.size w w' := by
  have hbm := hb
  unfold maxLen at hb
  cases hok : okFr ⟨k, fl, st, b⟩
  · have hv : payV ⟨k, fl, st, b⟩ = ⟨#[]⟩ := by simp [payV, hok]
    rw [hv]
    go_enter Tryz.func110, Tryz.ntmps110
    go_wp2_with fail
    refine (specFrameOk k fl st b _ hbm).mono ?_; rw [hok]; rintro e w1 ⟨rfl, hb1⟩
    go_wp2_with fail
    go_ret
    exact ⟨rfl, (by repeat' (first | (with_reducible exact Below.refl _ _) | (with_reducible refine Below.drew ?_) | (with_reducible refine bo_drewN _ ?_) | (with_reducible refine bo_alloc ?_ _) | (refine bchain ?_ (by with_reducible assumption)) | (with_reducible refine Below.setCell ?_ ?_ _) | go_size))⟩
  · have HOK := hide hok
    by_cases hk : k = 1 ∧ 2 ≤ fl
    · obtain ⟨rfl, hf⟩ := hk
      obtain ⟨hpos, hle⟩ := ok_pad hok rfl hf
      have hby := byte_range b 0 hpos
      have hv : payV ⟨1, fl, st, b⟩ = b.extract 1 (b.size - b[0].toNat) := by
        unfold payV; rw [if_pos hok, if_pos ⟨rfl, hf⟩, fst0_get hpos]
        dsimp only
        congr 1; omega
      rw [hv]
      have hsl1 : ∀ w, (Instr.slice 9 (.string b) (some (.int .i64 1)) (some (.int .i64 ((b.size : Int) - b[0].toNat))) none).run Tryz.prog w = .ok (.string (b.extract 1 (b.size - b[0].toNat))) w := fun w => by
        rw [run_slice_string (P := Tryz.prog) w 9 b .i64 .i64 1 ((b.size : Int) - b[0].toNat) Tryz.underlying9 (by omega) (by omega) (by omega)]; congr 3; omega
      generalize b.extract 1 (b.size - b[0].toNat) = Y at *
      clear hv hok
      go_enter Tryz.func110, Tryz.ntmps110
      go_wp2_with fail
      refine (specFrameOk 1 fl st b _ hbm).mono ?_; rw [HOK.out]; rintro e w1 ⟨rfl, hb1⟩
      have c0 : w1.cell? ⟨w.heap.size, 0, none⟩ = some (.int .i64 1) := by rw [hb1.cell (p := ⟨w.heap.size, 0, none⟩) (by simp)]; simp
      have c1 : w1.cell? ⟨w.heap.size, 1, none⟩ = some (.int .i64 fl) := by rw [hb1.cell (p := ⟨w.heap.size, 1, none⟩) (by simp)]; simp
      have c3 : w1.cell? ⟨w.heap.size, 3, none⟩ = some (.string b) := by rw [hb1.cell (p := ⟨w.heap.size, 3, none⟩) (by simp)]; simp
      have hlt : w.heap.size < w1.heap.size := by have := hb1.size; simp at this; omega
      go_wp2_with fail
      go_quiet (fail)
      go_wp2_with fail
      go_ret
      exact ⟨rfl, (by repeat' (first | (with_reducible exact Below.refl _ _) | (with_reducible refine Below.drew ?_) | (with_reducible refine bo_drewN _ ?_) | (with_reducible refine bo_alloc ?_ _) | (refine bchain ?_ (by with_reducible assumption)) | (with_reducible refine Below.setCell ?_ ?_ _) | go_size))⟩
    · have hv : payV ⟨k, fl, st, b⟩ = b := by unfold payV; rw [if_pos hok, if_neg hk]
      rw [hv]
      have hk2 : k = 1 → ¬ 2 ≤ fl := fun a c => hk ⟨a, c⟩
      clear hv hok hk
      by_cases h1 : k = 1
      · subst h1
        have hf := hk2 rfl
        clear hk2
        go_enter Tryz.func110, Tryz.ntmps110
        go_wp2_with fail
        refine (specFrameOk 1 fl st b _ hbm).mono ?_; rw [HOK.out]; rintro e w1 ⟨rfl, hb1⟩
        have c0 : w1.cell? ⟨w.heap.size, 0, none⟩ = some (.int .i64 1) := by rw [hb1.cell (p := ⟨w.heap.size, 0, none⟩) (by simp)]; simp
        have c1 : w1.cell? ⟨w.heap.size, 1, none⟩ = some (.int .i64 fl) := by rw [hb1.cell (p := ⟨w.heap.size, 1, none⟩) (by simp)]; simp
        have c3 : w1.cell? ⟨w.heap.size, 3, none⟩ = some (.string b) := by rw [hb1.cell (p := ⟨w.heap.size, 3, none⟩) (by simp)]; simp
        go_wp2_with fail
        go_ret
        exact ⟨rfl, (by repeat' (first | (with_reducible exact Below.refl _ _) | (with_reducible refine Below.drew ?_) | (with_reducible refine bo_drewN _ ?_) | (with_reducible refine bo_alloc ?_ _) | (refine bchain ?_ (by with_reducible assumption)) | (with_reducible refine Below.setCell ?_ ?_ _) | go_size))⟩
      · clear hk2
        go_enter Tryz.func110, Tryz.ntmps110
        go_wp2_with fail
        refine (specFrameOk k fl st b _ hbm).mono ?_; rw [HOK.out]; rintro e w1 ⟨rfl, hb1⟩
        have c0 : w1.cell? ⟨w.heap.size, 0, none⟩ = some (.int .i64 k) := by rw [hb1.cell (p := ⟨w.heap.size, 0, none⟩) (by simp)]; simp
        have c3 : w1.cell? ⟨w.heap.size, 3, none⟩ = some (.string b) := by rw [hb1.cell (p := ⟨w.heap.size, 3, none⟩) (by simp)]; simp
        go_wp2_with fail
        go_ret
        exact ⟨rfl, (by repeat' (first | (with_reducible exact Below.refl _ _) | (with_reducible refine Below.drew ?_) | (with_reducible refine bo_drewN _ ?_) | (with_reducible refine bo_alloc ?_ _) | (refine bchain ?_ (by with_reducible assumption)) | (with_reducible refine Below.setCell ?_ ?_ _) | go_size))⟩
end Go.Proofs.YtllaeakeaabiaaaGreat
/- The model's Note: the rows behind it are new. -/
namespace Go.Proofs.YtllaeakeaabiaaaGreat
open Go.RowKit
set_option maxRecDepth 100000
set_option linter.unusedSimpArgs false
set_option linter.unusedVariables false

set_option maxHeartbeats 4000000 in
theorem note2 (g base base0 : Nat) (room : Int) (L : List Fd) (f : Fd) (w : World) (h : TabAt w g base0 room L) (hok : ∀ f ∈ L, okF f = true) (hf : okF f = true) (hroom : 0 ≤ room) (hL : L.length ≤ 190) (hbs : base ≤ w.heap.size) :
    Calls Tryz.prog 153 #[.pointer (some ⟨g, 0, none⟩), .agg #[.string f.n, .string f.v]] w fun x w' => x = .returned (.tuple #[]) ∧ TabAt w' g base room (shr room (f :: L)) ∧ Turn g (g + 1) w w' := by
  obtain ⟨ad, cap, hrow, hown, _⟩ := h.ex
  have HALL : Hid (∀ u ∈ f :: L, okF u = true) := fun u hu => by rcases List.mem_cons.1 hu with rfl | hu; exact hf; exact hok u hu
  obtain ⟨R, hR⟩ : ∃ R, R = shr room (f :: L) := ⟨_, rfl⟩
  have hgl := hrow.lt
  have HROW0 := hide hrow; have HOWN0 := hide hown
  clear h hrow hown hok
  go_enter Tryz.func153, Tryz.ntmps153
  go_wp2_with fail
  generalize hV : w.alloc (.cells #[.string f.n, .string f.v] 146) = V
  have hbV : Below w.heap.size w V := by rw [← hV]; exact (Below.refl _ _).alloc (Nat.le_refl _) _
  have x0 : V.cell? ⟨w.heap.size, 0, none⟩ = some (.string f.n) := by rw [← hV]; simp
  have x1 : V.cell? ⟨w.heap.size, 1, none⟩ = some (.string f.v) := by rw [← hV]; simp
  have hlV : w.heap.size < V.heap.size := by rw [← hV]; simp
  clear hV
  have HROW := hide (HROW0.out.new hbV)
  have HOWN := hide (owns_new HOWN0.out hbV)
  have y1 := HROW.out.cell (j := 1) rfl
  have hglV : g < V.heap.size := Nat.lt_of_lt_of_le hgl hbV.size
  have hbA : Below V.heap.size V ((World.drew V).alloc (.cells #[.string f.n, .string f.v] 146)) := bo_alloc (bo_drewN 1 (Below.refl _ _)) _
  have hoA := owns_two (World.drew V) 146 f
  have hrA := (reads_of_owns HOWN.out).new hbA
  refine wp_region_any (by kernel_rfl) ?_; change wpAny _ _ _ _ _ _ _ (World.drew _)
  refine wpAny_take (i := 0) (v := ?_) rfl (by kernel_rfl) (by kernel_rfl) (by kernel_rfl) (fun _ _ _ h => h) (Or.inl ⟨by rfl, ?_⟩) ?_; rotate_left; focus (intro w; go_simp; try with_reducible rfl)
  refine wpAny_take (i := 3) (v := ?_) rfl (by kernel_rfl) (by kernel_rfl) (by kernel_rfl) (fun _ _ _ h => h) (Or.inl ⟨by rfl, ?_⟩) ?_; rotate_left; focus (intro w; go_simp; try with_reducible rfl)
  refine wpAny_take (i := 4) (v := ?_) rfl (by kernel_rfl) (by kernel_rfl) (by kernel_rfl) (fun _ _ _ h => h) (Or.inl ⟨by rfl, ?_⟩) ?_; rotate_left; focus (intro w; go_simp; try with_reducible rfl)
  refine wpAny_take (i := 5) (v := ?_) rfl (by kernel_rfl) (by kernel_rfl) (by kernel_rfl) (fun _ _ _ h => h) (Or.inl ⟨by rfl, ?_⟩) ?_; rotate_left; focus (intro w; go_simp; try with_reducible rfl)
  refine wpAny_ready (rs := [1, 6]) (by kernel_rfl) (by simp) ?_; refine AllReady.cons rfl (fun K hK => ?_) (AllReady.cons rfl (fun K hK => ?_) AllReady.nil)
  · go_simp; refine hK _ _ ?_; clear hK K
    refine wpAny_ready (rs := [2, 6]) (by kernel_rfl) (by simp) ?_; refine AllReady.cons rfl (fun K hK => ?_) (AllReady.cons rfl (fun K hK => ?_) AllReady.nil)
    · go_simp; refine hK _ _ ?_; clear hK K
      refine wpAny_ready (rs := [6]) (by kernel_rfl) (by simp) ?_; refine AllReady.cons rfl (fun K hK => ?_) AllReady.nil
      go_simp; refine hK _ _ ?_; clear hK K
      refine wpAny_ready (rs := [7]) (by kernel_rfl) (by simp) ?_; refine AllReady.cons rfl (fun K hK => ?_) AllReady.nil
      refine step_app _ (by rfl) _ _ 38 (by rfl) 146 (.agg #[.string ⟨#[]⟩, .string ⟨#[]⟩]) 2 32 Tryz.underlying38 (by kernel_rfl) rfl (by decide) V.heap.size _ 1 (fv [f]) (by rfl) hoA _ L.length (fv L) (by rfl) hrA (fv_one _) (by omega) (by decide) hbA.size ?_
      intro ad5 cap5 w5 hown5 hgrow5 hat5
      have hb5 : Below V.heap.size V w5 := ⟨hgrow5.os.trans hbA.os, hgrow5.tape.trans hbA.tape, hgrow5.output.trans hbA.output, Nat.le_trans hbA.size hgrow5.size, fun k hk => (hgrow5.block k (Nat.lt_of_lt_of_le hk hbA.size) (fun e => absurd (show V.heap.size ≤ k from (hoA.lt k e.symm).1) (Nat.not_le_of_lt hk))).trans (hbA.block k hk)⟩
      refine hK _ _ ?_
      clear hK K hat5 hgrow5
      have hrow5 := HROW.out.new hb5
      have g0 := hrow5.cell (j := 1) rfl
      have g1 := hrow5.frozen 1
      have HROW5 := hide hrow5; have HOWN5 := hide hown5
      clear hrow5 hown5 x0 x1 y1
      refine wpAny_take (i := 8) (v := ?_) rfl (by kernel_rfl) (by kernel_rfl) (by kernel_rfl) (fun _ _ _ h => h) (Or.inl ⟨by rfl, ?_⟩) ?_; rotate_left; focus (intro w; go_simp; try with_reducible rfl)
      refine wpAny_take (i := 9) (v := ?_) rfl (by kernel_rfl) (by kernel_rfl) (by kernel_rfl) (fun _ _ _ h => h) (Or.inl ⟨by rfl, ?_⟩) ?_; rotate_left; focus (intro w; go_simp; try with_reducible rfl)
      refine wpAny_ready (rs := [10]) (by kernel_rfl) (by simp) ?_; refine AllReady.cons rfl (fun K hK => ?_) AllReady.nil
      go_simp; refine hK _ _ ?_; clear hK K
      refine wpAny_done (by kernel_rfl) ?_ _
      have hta : TabAt (w5.setCell ⟨g, 1, none⟩ (.slice ad5 (1 + L.length) cap5)) g base room (f :: L) := by
        have e1 : (f :: L).length = 1 + L.length := by simp; omega
        refine ⟨⟨ad5, cap5, by rw [e1]; exact HROW5.out.set 1 _, ?_, ?_⟩⟩
        · rw [e1, show fv (f :: L) = fv [f] ++ fv L from fv_app [f] L]
          exact owns_base (owns_apart HOWN5.out ⟨g, 1, none⟩ _ (fun hq => by have := (HOWN5.out.lt g hq).1; have := hbV.size; omega)) (fun q hq => by have := (HOWN5.out.lt q hq).1; have := hbV.size; omega)
        · rw [e1]; exact fun hq => by have := (HOWN5.out.lt g hq).1; have := hbV.size; omega
      have ht5 : Turn g (g + 1) w (w5.setCell ⟨g, 1, none⟩ (.slice ad5 (1 + L.length) cap5)) := ((turn_new hbV g (g + 1)).trans (turn_new hb5 g (g + 1))).setCell (p := ⟨g, 1, none⟩) _ (.inl ⟨Nat.le_refl _, Nat.lt_succ_self _⟩)
      have HTA := hide hta; have HT5 := hide ht5
      clear hta ht5
      generalize w5.setCell ⟨g, 1, none⟩ (.slice ad5 (1 + L.length) cap5) = w6 at *
      go_wp2_with fail
      refine (shrink1 g base room (f :: L) _ HTA.out HALL.out hroom (by simp only [List.length_cons]; omega)).mono ?_; rintro x w7 ⟨rfl, hta7, ht7⟩
      have HTA7 := hide hta7
      clear hta7
      go_wp2_with fail
      refine bodyPost_end (v := .tuple #[]) (by simp [results, Tryz.results153, go_sem]) rfl ?_
      exact ⟨rfl, HTA7.out, HT5.out.trans ht7⟩
    · go_simp; refine hK _ _ ?_; clear hK K
      refine wpAny_ready (rs := [2]) (by kernel_rfl) (by simp) ?_; refine AllReady.cons rfl (fun K hK => ?_) AllReady.nil
      go_simp; refine hK _ _ ?_; clear hK K
      refine wpAny_ready (rs := [7]) (by kernel_rfl) (by simp) ?_; refine AllReady.cons rfl (fun K hK => ?_) AllReady.nil
      refine step_app _ (by rfl) _ _ 38 (by rfl) 146 (.agg #[.string ⟨#[]⟩, .string ⟨#[]⟩]) 2 32 Tryz.underlying38 (by kernel_rfl) rfl (by decide) V.heap.size _ 1 (fv [f]) (by rfl) hoA _ L.length (fv L) (by rfl) hrA (fv_one _) (by omega) (by decide) hbA.size ?_
      intro ad5 cap5 w5 hown5 hgrow5 hat5
      have hb5 : Below V.heap.size V w5 := ⟨hgrow5.os.trans hbA.os, hgrow5.tape.trans hbA.tape, hgrow5.output.trans hbA.output, Nat.le_trans hbA.size hgrow5.size, fun k hk => (hgrow5.block k (Nat.lt_of_lt_of_le hk hbA.size) (fun e => absurd (show V.heap.size ≤ k from (hoA.lt k e.symm).1) (Nat.not_le_of_lt hk))).trans (hbA.block k hk)⟩
      refine hK _ _ ?_
      clear hK K hat5 hgrow5
      have hrow5 := HROW.out.new hb5
      have g0 := hrow5.cell (j := 1) rfl
      have g1 := hrow5.frozen 1
      have HROW5 := hide hrow5; have HOWN5 := hide hown5
      clear hrow5 hown5 x0 x1 y1
      refine wpAny_take (i := 8) (v := ?_) rfl (by kernel_rfl) (by kernel_rfl) (by kernel_rfl) (fun _ _ _ h => h) (Or.inl ⟨by rfl, ?_⟩) ?_; rotate_left; focus (intro w; go_simp; try with_reducible rfl)
      refine wpAny_take (i := 9) (v := ?_) rfl (by kernel_rfl) (by kernel_rfl) (by kernel_rfl) (fun _ _ _ h => h) (Or.inl ⟨by rfl, ?_⟩) ?_; rotate_left; focus (intro w; go_simp; try with_reducible rfl)
      refine wpAny_ready (rs := [10]) (by kernel_rfl) (by simp) ?_; refine AllReady.cons rfl (fun K hK => ?_) AllReady.nil
      go_simp; refine hK _ _ ?_; clear hK K
      refine wpAny_done (by kernel_rfl) ?_ _
      have hta : TabAt (w5.setCell ⟨g, 1, none⟩ (.slice ad5 (1 + L.length) cap5)) g base room (f :: L) := by
        have e1 : (f :: L).length = 1 + L.length := by simp; omega
        refine ⟨⟨ad5, cap5, by rw [e1]; exact HROW5.out.set 1 _, ?_, ?_⟩⟩
        · rw [e1, show fv (f :: L) = fv [f] ++ fv L from fv_app [f] L]
          exact owns_base (owns_apart HOWN5.out ⟨g, 1, none⟩ _ (fun hq => by have := (HOWN5.out.lt g hq).1; have := hbV.size; omega)) (fun q hq => by have := (HOWN5.out.lt q hq).1; have := hbV.size; omega)
        · rw [e1]; exact fun hq => by have := (HOWN5.out.lt g hq).1; have := hbV.size; omega
      have ht5 : Turn g (g + 1) w (w5.setCell ⟨g, 1, none⟩ (.slice ad5 (1 + L.length) cap5)) := ((turn_new hbV g (g + 1)).trans (turn_new hb5 g (g + 1))).setCell (p := ⟨g, 1, none⟩) _ (.inl ⟨Nat.le_refl _, Nat.lt_succ_self _⟩)
      have HTA := hide hta; have HT5 := hide ht5
      clear hta ht5
      generalize w5.setCell ⟨g, 1, none⟩ (.slice ad5 (1 + L.length) cap5) = w6 at *
      go_wp2_with fail
      refine (shrink1 g base room (f :: L) _ HTA.out HALL.out hroom (by simp only [List.length_cons]; omega)).mono ?_; rintro x w7 ⟨rfl, hta7, ht7⟩
      have HTA7 := hide hta7
      clear hta7
      go_wp2_with fail
      refine bodyPost_end (v := .tuple #[]) (by simp [results, Tryz.results153, go_sem]) rfl ?_
      exact ⟨rfl, HTA7.out, HT5.out.trans ht7⟩
  · go_simp; refine hK _ _ ?_; clear hK K
    refine wpAny_ready (rs := [1]) (by kernel_rfl) (by simp) ?_; refine AllReady.cons rfl (fun K hK => ?_) AllReady.nil
    go_simp; refine hK _ _ ?_; clear hK K
    refine wpAny_ready (rs := [2]) (by kernel_rfl) (by simp) ?_; refine AllReady.cons rfl (fun K hK => ?_) AllReady.nil
    go_simp; refine hK _ _ ?_; clear hK K
    refine wpAny_ready (rs := [7]) (by kernel_rfl) (by simp) ?_; refine AllReady.cons rfl (fun K hK => ?_) AllReady.nil
    refine step_app _ (by rfl) _ _ 38 (by rfl) 146 (.agg #[.string ⟨#[]⟩, .string ⟨#[]⟩]) 2 32 Tryz.underlying38 (by kernel_rfl) rfl (by decide) V.heap.size _ 1 (fv [f]) (by rfl) hoA _ L.length (fv L) (by rfl) hrA (fv_one _) (by omega) (by decide) hbA.size ?_
    intro ad5 cap5 w5 hown5 hgrow5 hat5
    have hb5 : Below V.heap.size V w5 := ⟨hgrow5.os.trans hbA.os, hgrow5.tape.trans hbA.tape, hgrow5.output.trans hbA.output, Nat.le_trans hbA.size hgrow5.size, fun k hk => (hgrow5.block k (Nat.lt_of_lt_of_le hk hbA.size) (fun e => absurd (show V.heap.size ≤ k from (hoA.lt k e.symm).1) (Nat.not_le_of_lt hk))).trans (hbA.block k hk)⟩
    refine hK _ _ ?_
    clear hK K hat5 hgrow5
    have hrow5 := HROW.out.new hb5
    have g0 := hrow5.cell (j := 1) rfl
    have g1 := hrow5.frozen 1
    have HROW5 := hide hrow5; have HOWN5 := hide hown5
    clear hrow5 hown5 x0 x1 y1
    refine wpAny_take (i := 8) (v := ?_) rfl (by kernel_rfl) (by kernel_rfl) (by kernel_rfl) (fun _ _ _ h => h) (Or.inl ⟨by rfl, ?_⟩) ?_; rotate_left; focus (intro w; go_simp; try with_reducible rfl)
    refine wpAny_take (i := 9) (v := ?_) rfl (by kernel_rfl) (by kernel_rfl) (by kernel_rfl) (fun _ _ _ h => h) (Or.inl ⟨by rfl, ?_⟩) ?_; rotate_left; focus (intro w; go_simp; try with_reducible rfl)
    refine wpAny_ready (rs := [10]) (by kernel_rfl) (by simp) ?_; refine AllReady.cons rfl (fun K hK => ?_) AllReady.nil
    go_simp; refine hK _ _ ?_; clear hK K
    refine wpAny_done (by kernel_rfl) ?_ _
    have hta : TabAt (w5.setCell ⟨g, 1, none⟩ (.slice ad5 (1 + L.length) cap5)) g base room (f :: L) := by
      have e1 : (f :: L).length = 1 + L.length := by simp; omega
      refine ⟨⟨ad5, cap5, by rw [e1]; exact HROW5.out.set 1 _, ?_, ?_⟩⟩
      · rw [e1, show fv (f :: L) = fv [f] ++ fv L from fv_app [f] L]
        exact owns_base (owns_apart HOWN5.out ⟨g, 1, none⟩ _ (fun hq => by have := (HOWN5.out.lt g hq).1; have := hbV.size; omega)) (fun q hq => by have := (HOWN5.out.lt q hq).1; have := hbV.size; omega)
      · rw [e1]; exact fun hq => by have := (HOWN5.out.lt g hq).1; have := hbV.size; omega
    have ht5 : Turn g (g + 1) w (w5.setCell ⟨g, 1, none⟩ (.slice ad5 (1 + L.length) cap5)) := ((turn_new hbV g (g + 1)).trans (turn_new hb5 g (g + 1))).setCell (p := ⟨g, 1, none⟩) _ (.inl ⟨Nat.le_refl _, Nat.lt_succ_self _⟩)
    have HTA := hide hta; have HT5 := hide ht5
    clear hta ht5
    generalize w5.setCell ⟨g, 1, none⟩ (.slice ad5 (1 + L.length) cap5) = w6 at *
    go_wp2_with fail
    refine (shrink1 g base room (f :: L) _ HTA.out HALL.out hroom (by simp only [List.length_cons]; omega)).mono ?_; rintro x w7 ⟨rfl, hta7, ht7⟩
    have HTA7 := hide hta7
    clear hta7
    go_wp2_with fail
    refine bodyPost_end (v := .tuple #[]) (by simp [results, Tryz.results153, go_sem]) rfl ?_
    exact ⟨rfl, HTA7.out, HT5.out.trans ht7⟩
end Go.Proofs.YtllaeakeaabiaaaGreat
