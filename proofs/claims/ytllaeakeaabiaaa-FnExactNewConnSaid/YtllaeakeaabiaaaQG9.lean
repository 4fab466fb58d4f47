/- Several small texts of one level, one behind the other. -/
import Derived.Test.YtllaeakeaabiaaaQG8
import Derived.Test.YtllaeakeaabiaaaQRing2
import Derived.Test.YtllaeakeaabiaaaQG2
import Derived.Test.YtllaeakeaabiaaaQG3
import Derived.Deep.Cut
import Derived.Test.YtllaeakeaabiaaaQG5
import Derived.Deep.RegionHeld3
/- Packing signs of five bits into bytes, and back, in plain words: what is unpacked of what was packed is what was packed, and what ends well is what it is packed as. -/
namespace Go.Proofs.Ytllaeakeaabiaaa

/-- Two to the h, for a few bits. -/
def tw (h : Nat) : Int := 2 ^ h
theorem tw0 : tw 0 = 1 := rfl
theorem tw1 : tw 1 = 2 := rfl
theorem tw2 : tw 2 = 4 := rfl
theorem tw3 : tw 3 = 8 := rfl
theorem tw4 : tw 4 = 16 := rfl
theorem tw5 : tw 5 = 32 := rfl
theorem tw6 : tw 6 = 64 := rfl
theorem tw7 : tw 7 = 128 := rfl
theorem tw8 : tw 8 = 256 := rfl
theorem tw9 : tw 9 = 512 := rfl
theorem tw10 : tw 10 = 1024 := rfl
theorem tw11 : tw 11 = 2048 := rfl
theorem tw12 : tw 12 = 4096 := rfl

/-- The bytes that signs ns take behind h bits, whose number is v. -/
def packF : List Int → Nat → Int → List Int
  | [], h, v => if 0 < h then [v * tw (8 - h) + (tw (8 - h) - 1)] else []
  | n :: ns, h, v => if 8 ≤ h + 5 then ((v * 32 + n) / tw (h + 5 - 8)) :: packF ns (h + 5 - 8) ((v * 32 + n) % tw (h + 5 - 8)) else packF ns (h + 5) (v * 32 + n)

theorem packF_nil {h : Nat} {v : Int} : packF [] h v = if 0 < h then [v * tw (8 - h) + (tw (8 - h) - 1)] else [] := rfl
theorem packF_full {n : Int} {ns : List Int} {h : Nat} {v : Int} (k : 8 ≤ h + 5) : packF (n :: ns) h v = ((v * 32 + n) / tw (h + 5 - 8)) :: packF ns (h + 5 - 8) ((v * 32 + n) % tw (h + 5 - 8)) := by rw [packF, if_pos k]
theorem packF_part {n : Int} {ns : List Int} {h : Nat} {v : Int} (k : ¬ 8 ≤ h + 5) : packF (n :: ns) h v = packF ns (h + 5) (v * 32 + n) := by rw [packF, if_neg k]

theorem packF_len : ∀ (ns : List Int) (h : Nat) (v : Int), h < 8 → (packF ns h v).length = (h + 5 * ns.length + 7) / 8 := by
  intro ns
  induction ns with
  | nil => intro h v hh; rw [packF_nil]; split <;> simp <;> omega
  | cons n ns ih =>
    intro h v hh
    by_cases k : 8 ≤ h + 5
    · rw [packF_full k, List.length_cons, ih _ _ (by omega), List.length_cons]; omega
    · rw [packF_part k, ih _ _ (by omega), List.length_cons]; omega

theorem packF_range : ∀ (ns : List Int) (h : Nat) (v : Int), h < 8 → 0 ≤ v → v < tw h → (∀ n ∈ ns, 0 ≤ n ∧ n ≤ 30) → ∀ x ∈ packF ns h v, 0 ≤ x ∧ x ≤ 255 := by
  intro ns
  induction ns with
  | nil =>
    intro h v hh h0 h1 _ x hx
    rw [packF_nil] at hx
    have : h = 0 ∨ h = 1 ∨ h = 2 ∨ h = 3 ∨ h = 4 ∨ h = 5 ∨ h = 6 ∨ h = 7 := by omega
    rcases this with rfl | rfl | rfl | rfl | rfl | rfl | rfl | rfl <;> simp [tw] at hx h1 <;> omega
  | cons n ns ih =>
    intro h v hh h0 h1 hn x hx
    have hn0 := hn n (by simp)
    have hns : ∀ m ∈ ns, 0 ≤ m ∧ m ≤ 30 := fun m hm => hn m (by simp [hm])
    have : h = 0 ∨ h = 1 ∨ h = 2 ∨ h = 3 ∨ h = 4 ∨ h = 5 ∨ h = 6 ∨ h = 7 := by omega
    rcases this with rfl | rfl | rfl | rfl | rfl | rfl | rfl | rfl
    iterate 3
      · rw [packF_part (by omega)] at hx
        exact ih _ _ (by omega) (by omega) (by simp [tw] at h1 ⊢; omega) hns x hx
    all_goals
      rw [packF_full (by omega), List.mem_cons] at hx
      rcases hx with rfl | hx
      · simp [tw] at *; omega
      · exact ih _ _ (by omega) (by simp [tw] at h1 ⊢ <;> omega) (by simp [tw] at h1 ⊢ <;> omega) hns x hx

/-- Reading signs: c bits are held, their number is u; bs are to come. The signs, and what is left when no byte is to come and no further sign is; none: a number of ones only ahead of a byte. -/
def rawF : Nat → Nat → Int → List Int → Option (List Int × Nat × Int)
  | 0, _, _, _ => none
  | k + 1, c, u, bs => if c < 5 then (match bs with
      | [] => some ([], c, u)
      | b :: bs => rawF k (c + 8) (u * 256 + b) bs)
    else if 31 ≤ u / tw (c - 5) then (if bs = [] then some ([], c, u) else none)
    else (rawF k (c - 5) (u % tw (c - 5)) bs).map fun r => (u / tw (c - 5) :: r.1, r.2)

/-- How many steps are enough. -/
def enF (c : Nat) (bs : List Int) : Nat := 9 * bs.length + c + 1

theorem rawF_more {k c : Nat} {u b : Int} {bs : List Int} (h : c < 5) : rawF (k + 1) c u (b :: bs) = rawF k (c + 8) (u * 256 + b) bs := by rw [rawF, if_pos h]
theorem rawF_end {k c : Nat} {u : Int} (h : c < 5) : rawF (k + 1) c u [] = some ([], c, u) := by rw [rawF, if_pos h]
theorem rawF_ones {k c : Nat} {u : Int} {bs : List Int} (h : ¬ c < 5) (h1 : 31 ≤ u / tw (c - 5)) : rawF (k + 1) c u bs = if bs = [] then some ([], c, u) else none := by cases bs <;> simp [rawF, h, h1]
theorem rawF_sign {k c : Nat} {u : Int} {bs : List Int} (h : ¬ c < 5) (h1 : ¬ 31 ≤ u / tw (c - 5)) : rawF (k + 1) c u bs = (rawF k (c - 5) (u % tw (c - 5)) bs).map fun r => (u / tw (c - 5) :: r.1, r.2) := by cases bs <;> simp [rawF, h, h1]

/-- More steps than enough change nothing. -/
theorem rawF_enough : ∀ (k j c : Nat) (u : Int) (bs : List Int), enF c bs ≤ k → enF c bs ≤ j → rawF k c u bs = rawF j c u bs := by
  intro k
  induction k with
  | zero => intro j c u bs h; simp [enF] at h
  | succ k ih =>
    intro j c u bs h h'
    obtain ⟨j, rfl⟩ : ∃ j', j = j' + 1 := ⟨j - 1, by unfold enF at h'; omega⟩
    by_cases hc : c < 5
    · cases bs with
      | nil => rw [rawF_end hc, rawF_end hc]
      | cons b bs =>
        rw [rawF_more hc, rawF_more hc]
        exact ih j _ _ _ (by simp [enF] at *; omega) (by simp [enF] at *; omega)
    · by_cases h1 : 31 ≤ u / tw (c - 5)
      · rw [rawF_ones hc h1, rawF_ones hc h1]
      · rw [rawF_sign hc h1, rawF_sign hc h1, ih j _ _ _ (by simp [enF] at *; omega) (by simp [enF] at *; omega)]

/-- What is left is ones only, less than a byte of them. -/
def okEnd (r : List Int × Nat × Int) : Prop := r.2.1 < 8 ∧ r.2.2 = tw r.2.1 - 1

/-- The bytes that are to come, those of which bits are held among them, the bits ahead of these being v. -/
def ahead (c : Nat) (u : Int) (bs : List Int) (v : Int) : List Int :=
  if c = 0 then bs else if c < 8 then (v * tw c + u) :: bs else if c = 8 then u :: bs else (v * tw (c - 8) + u / 256) :: (u % 256) :: bs
def hidden (c : Nat) : Nat := if c = 0 then 0 else if c < 8 then 8 - c else if c = 8 then 0 else 8 - (c - 8)

set_option maxHeartbeats 2000000 in
theorem raw_pack : ∀ (k c : Nat) (u : Int) (bs : List Int) (r : List Int × Nat × Int), rawF k c u bs = some r → c ≤ 12 → 0 ≤ u → u < tw c → (∀ b ∈ bs, 0 ≤ b ∧ b ≤ 255) →
    ∀ v, 0 ≤ v → v < tw (hidden c) → (okEnd r ↔ packF r.1 (hidden c) v = ahead c u bs v) := by
  intro k
  induction k with
  | zero => intro c u bs r h; simp [rawF] at h
  | succ k ih =>
    intro c u bs r h hc h0 h1 hb v v0 v1
    by_cases h5 : c < 5
    · cases bs with
      | nil =>
        rw [rawF_end h5] at h
        obtain rfl := (Option.some.inj h).symm
        have : c = 0 ∨ c = 1 ∨ c = 2 ∨ c = 3 ∨ c = 4 := by omega
        rcases this with rfl | rfl | rfl | rfl | rfl <;> simp [okEnd, hidden, ahead, packF_nil, tw] at * <;> omega
      | cons b bs =>
        rw [rawF_more h5] at h
        have hb0 := hb b (by simp)
        have hbs : ∀ x ∈ bs, 0 ≤ x ∧ x ≤ 255 := fun x hx => hb x (by simp [hx])
        have K := ih _ _ _ _ h (by omega) (by omega)
        have : c = 0 ∨ c = 1 ∨ c = 2 ∨ c = 3 ∨ c = 4 := by omega
        rcases this with rfl | rfl | rfl | rfl | rfl
        · obtain rfl : u = 0 := by simp [tw] at h1; omega
          have K := K (by simp [tw]; omega) hbs v v0 v1
          rw [K]; simp [hidden, ahead]
        all_goals
          have K := K (by simp [tw] at *; omega) hbs v v0 v1
          rw [K]
          have e1 : (u * 256 + b) / 256 = u := by omega
          have e2 : (u * 256 + b) % 256 = b := by omega
          simp [hidden, ahead, e1, e2]
    · by_cases hs : 31 ≤ u / tw (c - 5)
      · rw [rawF_ones h5 hs] at h
        split at h
        · rename_i hbs
          subst hbs
          obtain rfl := (Option.some.inj h).symm
          have : c = 5 ∨ c = 6 ∨ c = 7 ∨ c = 8 ∨ c = 9 ∨ c = 10 ∨ c = 11 ∨ c = 12 := by omega
          rcases this with rfl | rfl | rfl | rfl | rfl | rfl | rfl | rfl <;> simp [okEnd, hidden, ahead, packF_nil, tw] at * <;> omega
        · cases h
      · rw [rawF_sign h5 hs] at h
        cases hr : rawF k (c - 5) (u % tw (c - 5)) bs with
        | none => rw [hr] at h; cases h
        | some r' =>
          rw [hr] at h
          obtain rfl := (Option.some.inj h).symm
          have hok : okEnd (u / tw (c - 5) :: r'.1, r'.2) ↔ okEnd r' := Iff.rfl
          rw [hok]
          have K := ih _ _ _ _ hr (by omega)
          have : c = 5 ∨ c = 6 ∨ c = 7 ∨ c = 8 ∨ c = 9 ∨ c = 10 ∨ c = 11 ∨ c = 12 := by omega
          rcases this with rfl | rfl | rfl | rfl | rfl | rfl | rfl | rfl
          · have K := K (by simp [tw]) (by simp [tw]) hb 0 (by omega) (by simp [hidden, tw])
            rw [K]; simp [hidden, ahead, packF, tw] at h0 h1 v0 v1 ⊢
          · have K := K (by simp [tw] at *; omega) (by simp [tw] at *; omega) hb (v * 32 + u / 2) (by simp [hidden, tw] at *; omega) (by simp [hidden, tw] at *; omega)
            rw [K]; simp [hidden, ahead, packF, tw] at h0 h1 v0 v1 ⊢
            rw [show (v * 32 + u / 2) * 2 + u % 2 = v * 64 + u from by omega]
          · have K := K (by simp [tw] at *; omega) (by simp [tw] at *; omega) hb (v * 32 + u / 4) (by simp [hidden, tw] at *; omega) (by simp [hidden, tw] at *; omega)
            rw [K]; simp [hidden, ahead, packF, tw] at h0 h1 v0 v1 ⊢
            rw [show (v * 32 + u / 4) * 4 + u % 4 = v * 128 + u from by omega]
          · have K := K (by simp [tw] at *; omega) (by simp [tw] at *; omega) hb (v * 32 + u / 8) (by simp [hidden, tw] at *; omega) (by simp [hidden, tw] at *; omega)
            rw [K]; simp [hidden, ahead, packF, tw] at h0 h1 v0 v1 ⊢
            rw [show (v * 32 + u / 8) * 8 + u % 8 = u from by omega]
          · have K := K (by simp [tw] at *; omega) (by simp [tw] at *; omega) hb ((v * 32 + u / 16) % 16) (by simp [hidden, tw] at *; omega) (by simp [hidden, tw] at *; omega)
            rw [K]; simp [hidden, ahead, packF, tw] at h0 h1 v0 v1 ⊢
            rw [show (v * 32 + u / 16) % 16 * 16 + u % 16 = u % 256 from by omega, show (v * 32 + u / 16) / 16 = v * 2 + u / 256 from by omega]; simp
          · have K := K (by simp [tw] at *; omega) (by simp [tw] at *; omega) hb ((v * 32 + u / 32) % 8) (by simp [hidden, tw] at *; omega) (by simp [hidden, tw] at *; omega)
            rw [K]; simp [hidden, ahead, packF, tw] at h0 h1 v0 v1 ⊢
            rw [show (v * 32 + u / 32) % 8 * 32 + u % 32 = u % 256 from by omega, show (v * 32 + u / 32) / 8 = v * 4 + u / 256 from by omega]; simp
          · have K := K (by simp [tw] at *; omega) (by simp [tw] at *; omega) hb ((v * 32 + u / 64) % 4) (by simp [hidden, tw] at *; omega) (by simp [hidden, tw] at *; omega)
            rw [K]; simp [hidden, ahead, packF, tw] at h0 h1 v0 v1 ⊢
            rw [show (v * 32 + u / 64) % 4 * 64 + u % 64 = u % 256 from by omega, show (v * 32 + u / 64) / 4 = v * 8 + u / 256 from by omega]; simp
          · have K := K (by simp [tw] at *; omega) (by simp [tw] at *; omega) hb ((v * 32 + u / 128) % 2) (by simp [hidden, tw] at *; omega) (by simp [hidden, tw] at *; omega)
            rw [K]; simp [hidden, ahead, packF, tw] at h0 h1 v0 v1 ⊢
            rw [show (v * 32 + u / 128) % 2 * 128 + u % 128 = u % 256 from by omega, show (v * 32 + u / 128) / 2 = v * 16 + u / 256 from by omega]; simp

theorem packF_head : ∀ (ns : List Int) (h : Nat) (v : Int), 0 < h → h < 8 → 0 ≤ v → v < tw h → (∀ n ∈ ns, 0 ≤ n ∧ n ≤ 30) →
    ∃ b bs, packF ns h v = b :: bs ∧ b / tw (8 - h) = v ∧ 0 ≤ b ∧ b ≤ 255 := by
  intro ns
  induction ns with
  | nil =>
    intro h v hp hh h0 h1 _
    have : h = 1 ∨ h = 2 ∨ h = 3 ∨ h = 4 ∨ h = 5 ∨ h = 6 ∨ h = 7 := by omega
    refine ⟨v * tw (8 - h) + (tw (8 - h) - 1), [], by rw [packF_nil, if_pos hp], ?_⟩
    rcases this with rfl | rfl | rfl | rfl | rfl | rfl | rfl <;> simp [tw] at h1 ⊢ <;> omega
  | cons n ns ih =>
    intro h v hp hh h0 h1 hn
    have hn0 := hn n (by simp)
    have hns : ∀ m ∈ ns, 0 ≤ m ∧ m ≤ 30 := fun m hm => hn m (by simp [hm])
    have : h = 1 ∨ h = 2 ∨ h = 3 ∨ h = 4 ∨ h = 5 ∨ h = 6 ∨ h = 7 := by omega
    rcases this with rfl | rfl | rfl | rfl | rfl | rfl | rfl
    · obtain ⟨b, bs, e, hb⟩ := ih 6 (v * 32 + n) (by omega) (by omega) (by omega) (by simp [tw] at h1 ⊢; omega) hns
      refine ⟨b, bs, by rw [packF_part (by omega), e], ?_⟩
      simp [tw] at h1 hb ⊢; omega
    · obtain ⟨b, bs, e, hb⟩ := ih 7 (v * 32 + n) (by omega) (by omega) (by omega) (by simp [tw] at h1 ⊢; omega) hns
      refine ⟨b, bs, by rw [packF_part (by omega), e], ?_⟩
      simp [tw] at h1 hb ⊢; omega
    all_goals
      refine ⟨_, _, packF_full (by omega), ?_⟩
      simp [tw] at h1 ⊢; omega

theorem rawF_app {k c : Nat} {u : Int} {bs : List Int} {n : Int} {r : List Int × Nat × Int} (hc : ¬ c < 5) (hn : u / tw (c - 5) = n) (h30 : n ≤ 30) (h : rawF k (c - 5) (u % tw (c - 5)) bs = some r) :
    rawF (k + 1) c u bs = some (n :: r.1, r.2) := by
  rw [rawF_sign hc (by omega), h, hn]; rfl

set_option maxHeartbeats 2000000 in
/-- What is packed is read. -/
theorem raw_read : ∀ (ns : List Int) (h : Nat) (v : Int), h < 8 → 0 ≤ v → v < tw h → (∀ n ∈ ns, 0 ≤ n ∧ n ≤ 30) →
    (h = 0 → ∃ c u k, rawF k 0 0 (packF ns 0 0) = some (ns, c, u) ∧ okEnd (ns, c, u)) ∧
    (0 < h → ∀ b bs, packF ns h v = b :: bs → ∃ c u k, rawF k (8 - h) (b % tw (8 - h)) bs = some (ns, c, u) ∧ okEnd (ns, c, u)) := by
  intro ns
  induction ns with
  | nil =>
    intro h v hh h0 h1 _
    refine ⟨fun _ => ⟨0, 0, 1, rfl, by simp [okEnd, tw]⟩, fun hp b bs e => ?_⟩
    rw [packF_nil, if_pos hp] at e
    obtain ⟨rfl, rfl⟩ := List.cons.inj e
    have m : (v * tw (8 - h) + (tw (8 - h) - 1)) % tw (8 - h) = tw (8 - h) - 1 := by
      have : h = 1 ∨ h = 2 ∨ h = 3 ∨ h = 4 ∨ h = 5 ∨ h = 6 ∨ h = 7 := by omega
      rcases this with rfl | rfl | rfl | rfl | rfl | rfl | rfl <;> simp [tw] <;> omega
    rw [m]
    refine ⟨8 - h, tw (8 - h) - 1, 1, ?_, by show 8 - h < 8; omega, rfl⟩
    by_cases h5 : 8 - h < 5
    · exact rawF_end h5
    · have : h = 1 ∨ h = 2 ∨ h = 3 := by omega
      rcases this with rfl | rfl | rfl <;> exact (rawF_ones h5 (by simp [tw])).trans (by simp)
  | cons n ns ih =>
    intro h v hh h0 h1 hn
    have hn0 := hn n (by simp)
    have hns : ∀ m ∈ ns, 0 ≤ m ∧ m ≤ 30 := fun m hm => hn m (by simp [hm])
    constructor
    · intro e0
      subst e0
      rw [packF_part (by omega)]
      have r0 : 0 * 32 + n < tw (0 + 5) := by simp [tw]; omega
      obtain ⟨b, bs, e, hb, hb0, hb1⟩ := packF_head ns (0 + 5) (0 * 32 + n) (by omega) (by omega) (by omega) r0 hns
      obtain ⟨c, u, k, hr, ho⟩ := (ih (0 + 5) (0 * 32 + n) (by omega) (by omega) r0 hns).2 (by omega) b bs e
      simp [tw] at hb hr
      refine ⟨c, u, k + 1 + 1, ?_, ho⟩
      rw [e, rawF_more (by omega)]
      refine rawF_app (r := (ns, c, u)) (by omega) ?_ hn0.2 ?_
      · simp [tw]; omega
      · simp [tw]; exact hr
    · intro hp b bs e
      have : h = 1 ∨ h = 2 ∨ h = 3 ∨ h = 4 ∨ h = 5 ∨ h = 6 ∨ h = 7 := by omega
      rcases this with rfl | rfl | rfl | rfl | rfl | rfl | rfl
      · rw [packF_part (by omega)] at e
        have r0 : v * 32 + n < tw 6 := by simp [tw] at h1 ⊢; omega
        obtain ⟨b', bs', e', hb, hb0, hb1⟩ := packF_head ns 6 (v * 32 + n) (by omega) (by omega) (by omega) r0 hns
        obtain ⟨rfl, rfl⟩ := List.cons.inj (e'.symm.trans e)
        obtain ⟨c, u, k, hr, ho⟩ := (ih 6 (v * 32 + n) (by omega) (by omega) r0 hns).2 (by omega) _ _ e'
        simp [tw] at hb hr
        refine ⟨c, u, k + 1, ?_, ho⟩
        refine rawF_app (r := (ns, c, u)) (by omega) ?_ hn0.2 ?_
        · simp [tw]; omega
        · simp [tw]
          exact hr
      · rw [packF_part (by omega)] at e
        have r0 : v * 32 + n < tw 7 := by simp [tw] at h1 ⊢; omega
        obtain ⟨b', bs', e', hb, hb0, hb1⟩ := packF_head ns 7 (v * 32 + n) (by omega) (by omega) (by omega) r0 hns
        obtain ⟨rfl, rfl⟩ := List.cons.inj (e'.symm.trans e)
        obtain ⟨c, u, k, hr, ho⟩ := (ih 7 (v * 32 + n) (by omega) (by omega) r0 hns).2 (by omega) _ _ e'
        simp [tw] at hb hr
        refine ⟨c, u, k + 1, ?_, ho⟩
        refine rawF_app (r := (ns, c, u)) (by omega) ?_ hn0.2 ?_
        · simp [tw]; omega
        · simp [tw]
          exact hr
      · -- three bits are held: the byte is full, and nothing is left
        rw [packF_full (by omega)] at e
        obtain ⟨rfl, rfl⟩ := List.cons.inj e
        obtain ⟨c, u, k, hr, ho⟩ := (ih 0 0 (by omega) (by omega) (by simp [tw]) hns).1 rfl
        refine ⟨c, u, k + 1, ?_, ho⟩
        refine rawF_app (r := (ns, c, u)) (by omega) ?_ hn0.2 ?_
        · simp [tw]; omega
        · simpa [tw] using hr
      · rw [packF_full (by omega)] at e
        obtain ⟨rfl, e2⟩ := List.cons.inj e
        have r0 : (v * 32 + n) % tw 1 < tw 1 := by simp [tw]; omega
        have r1 : 0 ≤ (v * 32 + n) % tw 1 := by simp [tw]; omega
        obtain ⟨b', bs', e', hb, hb0, hb1⟩ := packF_head ns 1 _ (by omega) (by omega) r1 r0 hns
        obtain ⟨c, u, k, hr, ho⟩ := (ih 1 _ (by omega) r1 r0 hns).2 (by omega) _ _ e'
        have e3 : b' :: bs' = bs := e'.symm.trans e2
        subst e3
        simp [tw] at hb hr
        refine ⟨c, u, k + 1 + 1, ?_, ho⟩
        rw [rawF_more (by omega)]
        refine rawF_app (r := (ns, c, u)) (by omega) ?_ hn0.2 ?_
        · simp [tw]; omega
        · simp [tw]
          have em : ((v * 32 + n) / 2 % 16 * 256 + b') % 128 = b' % 128 := by omega
          rw [em]; exact hr
      · rw [packF_full (by omega)] at e
        obtain ⟨rfl, e2⟩ := List.cons.inj e
        have r0 : (v * 32 + n) % tw 2 < tw 2 := by simp [tw]; omega
        have r1 : 0 ≤ (v * 32 + n) % tw 2 := by simp [tw]; omega
        obtain ⟨b', bs', e', hb, hb0, hb1⟩ := packF_head ns 2 _ (by omega) (by omega) r1 r0 hns
        obtain ⟨c, u, k, hr, ho⟩ := (ih 2 _ (by omega) r1 r0 hns).2 (by omega) _ _ e'
        have e3 : b' :: bs' = bs := e'.symm.trans e2
        subst e3
        simp [tw] at hb hr
        refine ⟨c, u, k + 1 + 1, ?_, ho⟩
        rw [rawF_more (by omega)]
        refine rawF_app (r := (ns, c, u)) (by omega) ?_ hn0.2 ?_
        · simp [tw]; omega
        · simp [tw]
          have em : ((v * 32 + n) / 4 % 8 * 256 + b') % 64 = b' % 64 := by omega
          rw [em]; exact hr
      · rw [packF_full (by omega)] at e
        obtain ⟨rfl, e2⟩ := List.cons.inj e
        have r0 : (v * 32 + n) % tw 3 < tw 3 := by simp [tw]; omega
        have r1 : 0 ≤ (v * 32 + n) % tw 3 := by simp [tw]; omega
        obtain ⟨b', bs', e', hb, hb0, hb1⟩ := packF_head ns 3 _ (by omega) (by omega) r1 r0 hns
        obtain ⟨c, u, k, hr, ho⟩ := (ih 3 _ (by omega) r1 r0 hns).2 (by omega) _ _ e'
        have e3 : b' :: bs' = bs := e'.symm.trans e2
        subst e3
        simp [tw] at hb hr
        refine ⟨c, u, k + 1 + 1, ?_, ho⟩
        rw [rawF_more (by omega)]
        refine rawF_app (r := (ns, c, u)) (by omega) ?_ hn0.2 ?_
        · simp [tw]; omega
        · simp [tw]
          have em : ((v * 32 + n) / 8 % 4 * 256 + b') % 32 = b' % 32 := by omega
          rw [em]; exact hr
      · rw [packF_full (by omega)] at e
        obtain ⟨rfl, e2⟩ := List.cons.inj e
        have r0 : (v * 32 + n) % tw 4 < tw 4 := by simp [tw]; omega
        have r1 : 0 ≤ (v * 32 + n) % tw 4 := by simp [tw]; omega
        obtain ⟨b', bs', e', hb, hb0, hb1⟩ := packF_head ns 4 _ (by omega) (by omega) r1 r0 hns
        obtain ⟨c, u, k, hr, ho⟩ := (ih 4 _ (by omega) r1 r0 hns).2 (by omega) _ _ e'
        have e3 : b' :: bs' = bs := e'.symm.trans e2
        subst e3
        simp [tw] at hb hr
        refine ⟨c, u, k + 1 + 1, ?_, ho⟩
        rw [rawF_more (by omega)]
        refine rawF_app (r := (ns, c, u)) (by omega) ?_ hn0.2 ?_
        · simp [tw]; omega
        · simp [tw]
          have em : ((v * 32 + n) / 16 % 2 * 256 + b') % 16 = b' % 16 := by omega
          rw [em]; exact hr
end Go.Proofs.Ytllaeakeaabiaaa
/- The ring's own functions: it is made to fit, and its rows are laid out as a Table. -/
namespace Go.Proofs.Ytllaeakeaabiaaa
open Go.RowKit
set_option maxRecDepth 100000
set_option linter.unusedSimpArgs false
set_option linter.unusedVariables false

theorem box_frozen (u : World) (s : Nat) (h : u.heap.size = s) (x y : Value) (t : TypeId) (j : Nat) : (u.alloc (.cells #[x, y] t)).frozen? ⟨s, j, none⟩ = false := by subst h; exact (rowIs_new u t [x, y]).frozen j
/-- A ring whose rows are L. -/
structure RingAt (w : World) (b first : Nat) (L : List Fd) : Prop where
  fst : first < 112
  len : L.length ≤ 112
  row : RowIs w b 111 (rC (ringS first L) first L.length (sumW L))
theorem RingAt.new {w w' : World} {b first : Nat} {L : List Fd} (h : RingAt w b first L) (hb : Below w.heap.size w w') : RingAt w' b first L := ⟨h.fst, h.len, h.row.new hb⟩
theorem RingAt.turn {w w' : World} {b first : Nat} {L : List Fd} (h : RingAt w b first L) {lo hi : Nat} (ht : Turn lo hi w w') (hk : b < lo ∨ hi ≤ b) : RingAt w' b first L := ⟨h.fst, h.len, h.row.kept (ht.block b h.row.lt hk)⟩
/-- How many rows a ring tells that it has. -/
def cntOf (b : Nat) (w : World) : Nat := match w.cell? ⟨b, 225, none⟩ with | some (.int _ c) => c.toNat | _ => 0
theorem RingAt.cnt {w : World} {b first : Nat} {L : List Fd} (h : RingAt w b first L) : cntOf b w = L.length := by
  have := h.row.cell (rC_num (ringS_len first L) first L.length (sumW L)).2.1
  simp [cntOf, this]
theorem RingAt.wgt {w : World} {b first : Nat} {L : List Fd} (h : RingAt w b first L) : w.cell? ⟨b, 226, none⟩ = some (.int .i64 (sumW L)) := h.row.cell (rC_num (ringS_len first L) first L.length (sumW L)).2.2
theorem RingAt.count {w : World} {b first : Nat} {L : List Fd} (h : RingAt w b first L) : w.cell? ⟨b, 225, none⟩ = some (.int .i64 L.length) := h.row.cell (rC_num (ringS_len first L) first L.length (sumW L)).2.1
theorem sumW_dropLast {L : List Fd} (h : 0 < L.length) : sumW L.dropLast = sumW L - wt (L[L.length - 1]'(by omega)) := by
  have hne : L ≠ [] := fun e => by subst e; simp at h
  have h1 := List.dropLast_concat_getLast hne
  have h2 : sumW L = sumW (L.dropLast ++ [L.getLast hne]) := by rw [h1]
  rw [sumW_app, List.getLast_eq_getElem] at h2
  simp only [sumW] at h2
  omega

theorem drop2 (b first : Nat) (L : List Fd) (w : World) (h : RingAt w b first L) (h0 : 0 < L.length) (hok : ∀ f ∈ L, okF f = true) :
    Calls Try.prog 94 #[.pointer (some ⟨b, 0, none⟩)] w fun x w' => x = .returned (.tuple #[]) ∧ RingAt w' b first L.dropLast ∧ Turn b (b + 1) w w' := by
  obtain ⟨n, hn⟩ : ∃ n, L.length = n + 1 := ⟨L.length - 1, by omega⟩
  have hln := h.len
  have hlt : n < L.length := by omega
  have hr := h.row
  rw [hn] at hr
  have hrg := sumW_range L
  refine (dropLast1 b first n (ringS first L) (sumW L) L[n] w (ringS_len _ _) hr h.fst (by omega) (ringS_at h.fst hln n hlt) (fine_of (hok _ (List.getElem_mem hlt))) hrg.1 (by omega)).mono ?_
  rintro x w' ⟨rfl, hr', ht⟩
  refine ⟨rfl, ⟨h.fst, by rw [List.length_dropLast]; omega, ?_⟩, ht⟩
  have e1 := ringS_drop (first := first) (L := L) h.fst h0 hln
  rw [show L.length - 1 = n by omega] at e1
  have e2 := sumW_dropLast h0
  simp only [show L.length - 1 = n by omega] at e2
  rw [List.length_dropLast, show L.length - 1 = n by omega, e2, ← e1]
  exact hr'

set_option maxHeartbeats 1000000 in
theorem fit1 (b first : Nat) (L : List Fd) (room : Int) (w : World) (h : RingAt w b first L) (hok : ∀ f ∈ L, okF f = true) (hroom : 0 ≤ room) :
    Calls Try.prog 87 #[.pointer (some ⟨b, 0, none⟩), .int .i64 room] w fun x w' => x = .returned (.tuple #[]) ∧ RingAt w' b first (shr room L) ∧ Turn b (b + 1) w w' := by
  obtain ⟨R, hR⟩ : ∃ R, R = shr room L := ⟨_, rfl⟩
  rw [← hR]
  have H0 := hide h; have HOK := hide hok; have HRR := hide hR
  clear h hok hR
  go_enter Try.func87, Try.ntmps87
  go_wp2_with fail
  go_loopw [] (fun wr => ∃ L' : List Fd, RingAt wr b first L' ∧ (∀ f ∈ L', okF f = true) ∧ R = shr room L' ∧ Turn b (b + 1) w wr) (fun wr => cntOf b wr)
  case atStart => exact ⟨L, H0.out, HOK.out, HRR.out, Turn.refl _ _ _⟩
  case round =>
    obtain ⟨L', hra, hok', hR', ht⟩ := hrel
    have c6 := hra.wgt
    by_cases hgt : room < sumW L'
    · have hpos : 0 < L'.length := by
        rcases Nat.eq_zero_or_pos L'.length with h0 | h0
        · have : L' = [] := List.length_eq_zero_iff.1 h0
          subst this
          simp [sumW] at hgt; omega
        · exact h0
      have HD := hide (hR'.trans (shr_go hgt))
      have HA := hide hra; have HO := hide hok'; have HT := hide ht
      clear hR' hra hok' ht
      go_wp2_with fail
      refine (drop2 b first L' _ HA.out hpos HO.out).mono ?_; rintro x w1 ⟨rfl, hra1, ht1⟩
      have hc1 := hra1.cnt
      have hc0 := HA.out.cnt
      rw [List.length_dropLast] at hc1
      have HA1 := hide hra1
      have HC0 := hide hc0; have HC1 := hide hc1
      clear hra1 hc0 hc1
      go_wp2_with fail
      exact ⟨⟨L'.dropLast, HA1.out, fun f hf => HO.out f ((List.dropLast_sublist _).subset hf), HD.out, HT.out.trans ht1⟩, by have := HC0.out; have := HC1.out; omega⟩
    · have HD := hide (hR'.trans (shr_stop hgt))
      have HA := hide hra; have HT := hide ht
      clear hR' hra hok' ht
      go_wp2_with fail
      refine bodyPost_end (v := .tuple #[]) (by simp [results, Try.results87, go_sem]) rfl ?_
      exact ⟨rfl, by rw [HD.out]; exact HA.out, HT.out⟩

end Go.Proofs.Ytllaeakeaabiaaa
/- The model's Noted and Resized. -/
namespace Go.Proofs.Ytllaeakeaabiaaa
open Go.RowKit
set_option maxRecDepth 100000
set_option linter.unusedSimpArgs false
set_option linter.unusedVariables false

/-- A Table's box, filled behind a call that copied its rows. -/
theorem tabAt_new {w : World} {base : Nat} {room : Int} {L : List Fd} {a : Option Addr} {p : Nat} (ho : w.ownsRow base 85 2 (.slice a L.length p) L.length (fv L)) :
    TabAt (w.alloc (.cells #[.int .i64 room, .slice a L.length p] 38)) w.heap.size base room L :=
  ⟨⟨a, p, rowIs_new w 38 [.int .i64 room, .slice a L.length p], ho.alloc _, fun hq => by have := (ho.lt _ hq).2; omega⟩⟩
theorem tabAt_room {w : World} {g base : Nat} {room : Int} {L : List Fd} (h : TabAt w g base room L) (r : Int) : TabAt (w.setCell ⟨g, 0, none⟩ (.int .i64 r)) g base r L := by
  obtain ⟨a, p, h1, h2, h3⟩ := h.ex
  exact ⟨⟨a, p, h1.set 0 _, owns_apart h2 _ _ h3, h3⟩⟩
theorem tabAt_later {w w' : World} {g base : Nat} {room : Int} {L : List Fd} (h : TabAt w g base room L) (hb : Below w.heap.size w w') : TabAt w' g base room L := by
  obtain ⟨a, p, h1, h2, h3⟩ := h.ex
  exact ⟨⟨a, p, h1.new hb, owns_new h2 hb, h3⟩⟩

end Go.Proofs.Ytllaeakeaabiaaa
/- Chapter 10's model, what it makes: a copy, one opened, what happens, what is swept. -/
namespace Go.Proofs.Ytllaeakeaabiaaa
open Go.RowKit
set_option maxRecDepth 100000
set_option linter.unusedSimpArgs false
set_option linter.unusedVariables false
/-- A Registry in block g whose entries are owned, in a block apart from it. -/
structure RegAt (w : World) (g base : Nat) (d : RegistryD) : Prop where
  ex : ∃ ad cap, RowIs w g 35 [.int .i64 d.lim, .int .i64 d.top, .slice ad d.es.length cap] ∧ w.ownsRow base 62 2 (.slice ad d.es.length cap) d.es.length (ev d.es) ∧ (Value.slice ad d.es.length cap).ownBlock ≠ some g
theorem RegAt.new {w w' : World} {g base : Nat} {d : RegistryD} (h : RegAt w g base d) (hb : Below w.heap.size w w') : RegAt w' g base d := by
  obtain ⟨ad, cap, h1, h2, h3⟩ := h.ex
  exact ⟨ad, cap, h1.new hb, owns_new h2 hb, h3⟩
theorem regAt_new {w : World} {base : Nat} {d : RegistryD} {ad : Option Addr} {cap : Nat} (h : w.ownsRow base 62 2 (.slice ad d.es.length cap) d.es.length (ev d.es)) : RegAt (w.alloc (.cells #[.int .i64 d.lim, .int .i64 d.top, .slice ad d.es.length cap] 35)) w.heap.size base d :=
  ⟨ad, cap, rowIs_new w 35 [.int .i64 d.lim, .int .i64 d.top, .slice ad d.es.length cap], h.alloc _, fun hq => by have := (h.lt _ hq).2; omega⟩
theorem ev_set (L : List EntryD) (k : Nat) (hk : k < L.length) (s : Int) : (ev L).set (k * 2 + 1) (.int .i64 s) = ev (L.set k ⟨L[k].id, s⟩) := flat_set EntryD.cs 2 (fun _ => rfl) L k hk 1 (by decide) (.int .i64 s) ⟨L[k].id, s⟩ rfl
end Go.Proofs.Ytllaeakeaabiaaa
