/- Lemmas. -/
import Derived.Test.YtlpbnkideaojeaaGreatDoorQRpG8
import Derived.Test.YtlpbnkideaojeaaGreatDoorQRpRing2
namespace Go.Proofs.YtlpbnkideaojeaaGreatDoor
def tw (h : Nat) : Int := 2 ^ h
def cK : List Int → Nat → Int → List Int
 | [], h, v => if 0 < h then [v * tw (8 - h) + (tw (8 - h) - 1)] else []
 | n :: ns, h, v => if 8 ≤ h + 5 then ((v * 32 + n) / tw (h + 5 - 8)) :: cK ns (h + 5 - 8) ((v * 32 + n) % tw (h + 5 - 8)) else cK ns (h + 5) (v * 32 + n)
theorem uK {h : Nat} {v : Int} : cK [] h v = if 0 < h then [v * tw (8 - h) + (tw (8 - h) - 1)] else [] := rfl
theorem kE {n : Int} {ns : List Int} {h : Nat} {v : Int} (k : 8 ≤ h + 5) : cK (n :: ns) h v = ((v * 32 + n) / tw (h + 5 - 8)) :: cK ns (h + 5 - 8) ((v * 32 + n) % tw (h + 5 - 8)) := by rw [cK, if_pos k]
theorem nK {n : Int} {ns : List Int} {h : Nat} {v : Int} (k : ¬ 8 ≤ h + 5) : cK (n :: ns) h v = cK ns (h + 5) (v * 32 + n) := by rw [cK, if_neg k]
theorem Eb : ∀ (ns : List Int) (h : Nat) (v : Int), h < 8 → (cK ns h v).length = (h + 5 * ns.length + 7) / 8 := by
 intro ns
 induction ns with
 | nil => intro h v hh; rw [uK]; split <;> simp <;> omega
 | cons n ns ih =>
  intro h v hh
  by_cases k : 8 ≤ h + 5
  ·rw [kE k, List.length_cons, ih _ _ (by omega), List.length_cons]; omega
  ·rw [nK k, ih _ _ (by omega), List.length_cons]; omega
theorem Ya : ∀ (ns : List Int) (h : Nat) (v : Int), h < 8 → 0 ≤ v → v < tw h → (∀ n ∈ ns, 0 ≤ n ∧ n ≤ 30) → ∀ x ∈ cK ns h v, 0 ≤ x ∧ x ≤ 255 := by
 intro ns
 induction ns with
 | nil =>
  intro h v hh h0 h1 _ x hx
  rw [uK] at hx
  have : h = 0 ∨ h = 1 ∨ h = 2 ∨ h = 3 ∨ h = 4 ∨ h = 5 ∨ h = 6 ∨ h = 7 := by omega
  rcases this with rfl | rfl | rfl | rfl | rfl | rfl | rfl | rfl <;> simp [tw] at hx h1 <;> omega
 | cons n ns ih =>
  intro h v hh h0 h1 hn x hx
  have hn0 := hn n (by simp)
  have hns : ∀ m ∈ ns, 0 ≤ m ∧ m ≤ 30 := fun m hm => hn m (by simp [hm])
  have : h = 0 ∨ h = 1 ∨ h = 2 ∨ h = 3 ∨ h = 4 ∨ h = 5 ∨ h = 6 ∨ h = 7 := by omega
  rcases this with rfl | rfl | rfl | rfl | rfl | rfl | rfl | rfl
  iterate 3
   ·rw [nK (by omega)] at hx
    exact ih _ _ (by omega) (by omega) (by simp [tw] at h1 ⊢; omega) hns x hx
  all_goals
   rw [kE (by omega), List.mem_cons] at hx
   rcases hx with rfl | hx
   ·simp [tw] at *; omega
   ·exact ih _ _ (by omega) (by simp [tw] at h1 ⊢ <;> omega) (by simp [tw] at h1 ⊢ <;> omega) hns x hx
def gQ : Nat → Nat → Int → List Int → Option (List Int × Nat × Int)
 | 0, _, _, _ => none
 | k + 1, c, u, bs => if c < 5 then (match bs with
   | [] => some ([], c, u)
   | b :: bs => gQ k (c + 8) (u * 256 + b) bs)
  else if 31 ≤ u / tw (c - 5) then (if bs = [] then some ([], c, u) else none)
  else (gQ k (c - 5) (u % tw (c - 5)) bs).map fun r => (u / tw (c - 5) :: r.1, r.2)
def nY (c : Nat) (bs : List Int) : Nat := 9 * bs.length + c + 1
theorem sF {k c : Nat} {u b : Int} {bs : List Int} (h : c < 5) : gQ (k + 1) c u (b :: bs) = gQ k (c + 8) (u * 256 + b) bs := by rw [gQ, if_pos h]
theorem Ay {k c : Nat} {u : Int} (h : c < 5) : gQ (k + 1) c u [] = some ([], c, u) := by rw [gQ, if_pos h]
theorem Az {k c : Nat} {u : Int} {bs : List Int} (h : ¬ c < 5) (h1 : 31 ≤ u / tw (c - 5)) : gQ (k + 1) c u bs = if bs = [] then some ([], c, u) else none := by cases bs <;> simp [gQ, h, h1]
theorem AA {k c : Nat} {u : Int} {bs : List Int} (h : ¬ c < 5) (h1 : ¬ 31 ≤ u / tw (c - 5)) : gQ (k + 1) c u bs = (gQ k (c - 5) (u % tw (c - 5)) bs).map fun r => (u / tw (c - 5) :: r.1, r.2) := by cases bs <;> simp [gQ, h, h1]
theorem Yb : ∀ (k j c : Nat) (u : Int) (bs : List Int), nY c bs ≤ k → nY c bs ≤ j → gQ k c u bs = gQ j c u bs := by
 intro k
 induction k with
 | zero => intro j c u bs h; simp [nY] at h
 | succ k ih =>
  intro j c u bs h h'
  obtain ⟨j, rfl⟩ : ∃ j', j = j' + 1 := ⟨j - 1, by unfold nY at h'; omega⟩
  by_cases hc : c < 5
  ·cases bs with
   | nil => rw [Ay hc, Ay hc]
   | cons b bs =>
    rw [sF hc, sF hc]
    exact ih j _ _ _ (by simp [nY] at *; omega) (by simp [nY] at *; omega)
  ·by_cases h1 : 31 ≤ u / tw (c - 5)
   ·rw [Az hc h1, Az hc h1]
   ·rw [AA hc h1, AA hc h1, ih j _ _ _ (by simp [nY] at *; omega) (by simp [nY] at *; omega)]
def qI (r : List Int × Nat × Int) : Prop := r.2.1 < 8 ∧ r.2.2 = tw r.2.1 - 1
def ahead (c : Nat) (u : Int) (bs : List Int) (v : Int) : List Int :=
 if c = 0 then bs else if c < 8 then (v * tw c + u) :: bs else if c = 8 then u :: bs else (v * tw (c - 8) + u / 256) :: (u % 256) :: bs
def hidden (c : Nat) : Nat := if c = 0 then 0 else if c < 8 then 8 - c else if c = 8 then 0 else 8 - (c - 8)
set_option maxHeartbeats 2000000 in
theorem X7 : ∀ (k c : Nat) (u : Int) (bs : List Int) (r : List Int × Nat × Int), gQ k c u bs = some r → c ≤ 12 → 0 ≤ u → u < tw c → (∀ b ∈ bs, 0 ≤ b ∧ b ≤ 255) →
  ∀ v, 0 ≤ v → v < tw (hidden c) → (qI r ↔ cK r.1 (hidden c) v = ahead c u bs v) := by
 intro k
 induction k with
 | zero => intro c u bs r h; simp [gQ] at h
 | succ k ih =>
  intro c u bs r h hc h0 h1 hb v v0 v1
  by_cases h5 : c < 5
  ·cases bs with
   | nil =>
    rw [Ay h5] at h
    obtain rfl := (Option.some.inj h).symm
    have : c = 0 ∨ c = 1 ∨ c = 2 ∨ c = 3 ∨ c = 4 := by omega
    rcases this with rfl | rfl | rfl | rfl | rfl <;> simp [qI, hidden, ahead, uK, tw] at * <;> omega
   | cons b bs =>
    rw [sF h5] at h
    have hb0 := hb b (by simp)
    have hbs : ∀ x ∈ bs, 0 ≤ x ∧ x ≤ 255 := fun x hx => hb x (by simp [hx])
    have K := ih _ _ _ _ h (by omega) (by omega)
    have : c = 0 ∨ c = 1 ∨ c = 2 ∨ c = 3 ∨ c = 4 := by omega
    rcases this with rfl | rfl | rfl | rfl | rfl
    ·obtain rfl : u = 0 := by simp [tw] at h1; omega
     have K := K (by simp [tw]; omega) hbs v v0 v1
     rw [K]; simp [hidden, ahead]
    all_goals
     have K := K (by simp [tw] at *; omega) hbs v v0 v1
     rw [K]
     have e1 : (u * 256 + b) / 256 = u := by omega
     have e2 : (u * 256 + b) % 256 = b := by omega
     simp [hidden, ahead, e1, e2]
  ·by_cases hs : 31 ≤ u / tw (c - 5)
   ·rw [Az h5 hs] at h
    split at h
    ·rename_i hbs
     subst hbs
     obtain rfl := (Option.some.inj h).symm
     have : c = 5 ∨ c = 6 ∨ c = 7 ∨ c = 8 ∨ c = 9 ∨ c = 10 ∨ c = 11 ∨ c = 12 := by omega
     rcases this with rfl | rfl | rfl | rfl | rfl | rfl | rfl | rfl <;> simp [qI, hidden, ahead, uK, tw] at * <;> omega
    ·cases h
   ·rw [AA h5 hs] at h
    cases hr : gQ k (c - 5) (u % tw (c - 5)) bs with
    | none => rw [hr] at h; cases h
    | some r' =>
     rw [hr] at h
     obtain rfl := (Option.some.inj h).symm
     have hok : qI (u / tw (c - 5) :: r'.1, r'.2) ↔ qI r' := Iff.rfl
     rw [hok]
     have K := ih _ _ _ _ hr (by omega)
     have : c = 5 ∨ c = 6 ∨ c = 7 ∨ c = 8 ∨ c = 9 ∨ c = 10 ∨ c = 11 ∨ c = 12 := by omega
     rcases this with rfl | rfl | rfl | rfl | rfl | rfl | rfl | rfl
     ·have K := K (by simp [tw]) (by simp [tw]) hb 0 (by omega) (by simp [hidden, tw])
      rw [K]; simp [hidden, ahead, cK, tw] at h0 h1 v0 v1 ⊢
     ·have K := K (by simp [tw] at *; omega) (by simp [tw] at *; omega) hb (v * 32 + u / 2) (by simp [hidden, tw] at *; omega) (by simp [hidden, tw] at *; omega)
      rw [K]; simp [hidden, ahead, cK, tw] at h0 h1 v0 v1 ⊢
      rw [show (v * 32 + u / 2) * 2 + u % 2 = v * 64 + u from by omega]
     ·have K := K (by simp [tw] at *; omega) (by simp [tw] at *; omega) hb (v * 32 + u / 4) (by simp [hidden, tw] at *; omega) (by simp [hidden, tw] at *; omega)
      rw [K]; simp [hidden, ahead, cK, tw] at h0 h1 v0 v1 ⊢
      rw [show (v * 32 + u / 4) * 4 + u % 4 = v * 128 + u from by omega]
     ·have K := K (by simp [tw] at *; omega) (by simp [tw] at *; omega) hb (v * 32 + u / 8) (by simp [hidden, tw] at *; omega) (by simp [hidden, tw] at *; omega)
      rw [K]; simp [hidden, ahead, cK, tw] at h0 h1 v0 v1 ⊢
      rw [show (v * 32 + u / 8) * 8 + u % 8 = u from by omega]
     ·have K := K (by simp [tw] at *; omega) (by simp [tw] at *; omega) hb ((v * 32 + u / 16) % 16) (by simp [hidden, tw] at *; omega) (by simp [hidden, tw] at *; omega)
      rw [K]; simp [hidden, ahead, cK, tw] at h0 h1 v0 v1 ⊢
      rw [show (v * 32 + u / 16) % 16 * 16 + u % 16 = u % 256 from by omega, show (v * 32 + u / 16) / 16 = v * 2 + u / 256 from by omega]; simp
     ·have K := K (by simp [tw] at *; omega) (by simp [tw] at *; omega) hb ((v * 32 + u / 32) % 8) (by simp [hidden, tw] at *; omega) (by simp [hidden, tw] at *; omega)
      rw [K]; simp [hidden, ahead, cK, tw] at h0 h1 v0 v1 ⊢
      rw [show (v * 32 + u / 32) % 8 * 32 + u % 32 = u % 256 from by omega, show (v * 32 + u / 32) / 8 = v * 4 + u / 256 from by omega]; simp
     ·have K := K (by simp [tw] at *; omega) (by simp [tw] at *; omega) hb ((v * 32 + u / 64) % 4) (by simp [hidden, tw] at *; omega) (by simp [hidden, tw] at *; omega)
      rw [K]; simp [hidden, ahead, cK, tw] at h0 h1 v0 v1 ⊢
      rw [show (v * 32 + u / 64) % 4 * 64 + u % 64 = u % 256 from by omega, show (v * 32 + u / 64) / 4 = v * 8 + u / 256 from by omega]; simp
     ·have K := K (by simp [tw] at *; omega) (by simp [tw] at *; omega) hb ((v * 32 + u / 128) % 2) (by simp [hidden, tw] at *; omega) (by simp [hidden, tw] at *; omega)
      rw [K]; simp [hidden, ahead, cK, tw] at h0 h1 v0 v1 ⊢
      rw [show (v * 32 + u / 128) % 2 * 128 + u % 128 = u % 256 from by omega, show (v * 32 + u / 128) / 2 = v * 16 + u / 256 from by omega]; simp
theorem wU : ∀ (ns : List Int) (h : Nat) (v : Int), 0 < h → h < 8 → 0 ≤ v → v < tw h → (∀ n ∈ ns, 0 ≤ n ∧ n ≤ 30) →
  ∃ b bs, cK ns h v = b :: bs ∧ b / tw (8 - h) = v ∧ 0 ≤ b ∧ b ≤ 255 := by
 intro ns
 induction ns with
 | nil =>
  intro h v hp hh h0 h1 _
  have : h = 1 ∨ h = 2 ∨ h = 3 ∨ h = 4 ∨ h = 5 ∨ h = 6 ∨ h = 7 := by omega
  refine ⟨v * tw (8 - h) + (tw (8 - h) - 1), [], by rw [uK, if_pos hp], ?_⟩
  rcases this with rfl | rfl | rfl | rfl | rfl | rfl | rfl <;> simp [tw] at h1 ⊢ <;> omega
 | cons n ns ih =>
  intro h v hp hh h0 h1 hn
  have hn0 := hn n (by simp)
  have hns : ∀ m ∈ ns, 0 ≤ m ∧ m ≤ 30 := fun m hm => hn m (by simp [hm])
  have : h = 1 ∨ h = 2 ∨ h = 3 ∨ h = 4 ∨ h = 5 ∨ h = 6 ∨ h = 7 := by omega
  rcases this with rfl | rfl | rfl | rfl | rfl | rfl | rfl
  ·obtain ⟨b, bs, e, hb⟩ := ih 6 (v * 32 + n) (by omega) (by omega) (by omega) (by simp [tw] at h1 ⊢; omega) hns
   refine ⟨b, bs, by rw [nK (by omega), e], ?_⟩
   simp [tw] at h1 hb ⊢; omega
  ·obtain ⟨b, bs, e, hb⟩ := ih 7 (v * 32 + n) (by omega) (by omega) (by omega) (by simp [tw] at h1 ⊢; omega) hns
   refine ⟨b, bs, by rw [nK (by omega), e], ?_⟩
   simp [tw] at h1 hb ⊢; omega
  all_goals
   refine ⟨_, _, kE (by omega), ?_⟩
   simp [tw] at h1 ⊢; omega
theorem uN {k c : Nat} {u : Int} {bs : List Int} {n : Int} {r : List Int × Nat × Int} (hc : ¬ c < 5) (hn : u / tw (c - 5) = n) (h30 : n ≤ 30) (h : gQ k (c - 5) (u % tw (c - 5)) bs = some r) :
  gQ (k + 1) c u bs = some (n :: r.1, r.2) := by
 rw [AA hc (by omega), h, hn]; rfl
set_option maxHeartbeats 2000000 in
theorem X9 : ∀ (ns : List Int) (h : Nat) (v : Int), h < 8 → 0 ≤ v → v < tw h → (∀ n ∈ ns, 0 ≤ n ∧ n ≤ 30) →
  (h = 0 → ∃ c u k, gQ k 0 0 (cK ns 0 0) = some (ns, c, u) ∧ qI (ns, c, u)) ∧
  (0 < h → ∀ b bs, cK ns h v = b :: bs → ∃ c u k, gQ k (8 - h) (b % tw (8 - h)) bs = some (ns, c, u) ∧ qI (ns, c, u)) := by
 intro ns
 induction ns with
 | nil =>
  intro h v hh h0 h1 _
  refine ⟨fun _ => ⟨0, 0, 1, rfl, by simp [qI, tw]⟩, fun hp b bs e => ?_⟩
  rw [uK, if_pos hp] at e
  obtain ⟨rfl, rfl⟩ := List.cons.inj e
  have m : (v * tw (8 - h) + (tw (8 - h) - 1)) % tw (8 - h) = tw (8 - h) - 1 := by
   have : h = 1 ∨ h = 2 ∨ h = 3 ∨ h = 4 ∨ h = 5 ∨ h = 6 ∨ h = 7 := by omega
   rcases this with rfl | rfl | rfl | rfl | rfl | rfl | rfl <;> simp [tw] <;> omega
  rw [m]
  refine ⟨8 - h, tw (8 - h) - 1, 1, ?_, by show 8 - h < 8; omega, rfl⟩
  by_cases h5 : 8 - h < 5
  ·exact Ay h5
  ·have : h = 1 ∨ h = 2 ∨ h = 3 := by omega
   rcases this with rfl | rfl | rfl <;> exact (Az h5 (by simp [tw])).trans (by simp)
 | cons n ns ih =>
  intro h v hh h0 h1 hn
  have hn0 := hn n (by simp)
  have hns : ∀ m ∈ ns, 0 ≤ m ∧ m ≤ 30 := fun m hm => hn m (by simp [hm])
  constructor
  ·intro e0
   subst e0
   rw [nK (by omega)]
   have r0 : 0 * 32 + n < tw (0 + 5) := by simp [tw]; omega
   obtain ⟨b, bs, e, hb, hb0, hb1⟩ := wU ns (0 + 5) (0 * 32 + n) (by omega) (by omega) (by omega) r0 hns
   obtain ⟨c, u, k, hr, ho⟩ := (ih (0 + 5) (0 * 32 + n) (by omega) (by omega) r0 hns).2 (by omega) b bs e
   simp [tw] at hb hr
   refine ⟨c, u, k + 1 + 1, ?_, ho⟩
   rw [e, sF (by omega)]
   refine uN (r := (ns, c, u)) (by omega) ?_ hn0.2 ?_
   ·simp [tw]; omega
   ·simp [tw]; exact hr
  ·intro hp b bs e
   have : h = 1 ∨ h = 2 ∨ h = 3 ∨ h = 4 ∨ h = 5 ∨ h = 6 ∨ h = 7 := by omega
   rcases this with rfl | rfl | rfl | rfl | rfl | rfl | rfl
   ·rw [nK (by omega)] at e
    have r0 : v * 32 + n < tw 6 := by simp [tw] at h1 ⊢; omega
    obtain ⟨b', bs', e', hb, hb0, hb1⟩ := wU ns 6 (v * 32 + n) (by omega) (by omega) (by omega) r0 hns
    obtain ⟨rfl, rfl⟩ := List.cons.inj (e'.symm.trans e)
    obtain ⟨c, u, k, hr, ho⟩ := (ih 6 (v * 32 + n) (by omega) (by omega) r0 hns).2 (by omega) _ _ e'
    simp [tw] at hb hr
    refine ⟨c, u, k + 1, ?_, ho⟩
    refine uN (r := (ns, c, u)) (by omega) ?_ hn0.2 ?_
    ·simp [tw]; omega
    ·simp [tw]
     exact hr
   ·rw [nK (by omega)] at e
    have r0 : v * 32 + n < tw 7 := by simp [tw] at h1 ⊢; omega
    obtain ⟨b', bs', e', hb, hb0, hb1⟩ := wU ns 7 (v * 32 + n) (by omega) (by omega) (by omega) r0 hns
    obtain ⟨rfl, rfl⟩ := List.cons.inj (e'.symm.trans e)
    obtain ⟨c, u, k, hr, ho⟩ := (ih 7 (v * 32 + n) (by omega) (by omega) r0 hns).2 (by omega) _ _ e'
    simp [tw] at hb hr
    refine ⟨c, u, k + 1, ?_, ho⟩
    refine uN (r := (ns, c, u)) (by omega) ?_ hn0.2 ?_
    ·simp [tw]; omega
    ·simp [tw]
     exact hr
   ·-- three bits are held: the byte is full, and nothing is left
    rw [kE (by omega)] at e
    obtain ⟨rfl, rfl⟩ := List.cons.inj e
    obtain ⟨c, u, k, hr, ho⟩ := (ih 0 0 (by omega) (by omega) (by simp [tw]) hns).1 rfl
    refine ⟨c, u, k + 1, ?_, ho⟩
    refine uN (r := (ns, c, u)) (by omega) ?_ hn0.2 ?_
    ·simp [tw]; omega
    ·simpa [tw] using hr
   ·rw [kE (by omega)] at e
    obtain ⟨rfl, e2⟩ := List.cons.inj e
    have r0 : (v * 32 + n) % tw 1 < tw 1 := by simp [tw]; omega
    have r1 : 0 ≤ (v * 32 + n) % tw 1 := by simp [tw]; omega
    obtain ⟨b', bs', e', hb, hb0, hb1⟩ := wU ns 1 _ (by omega) (by omega) r1 r0 hns
    obtain ⟨c, u, k, hr, ho⟩ := (ih 1 _ (by omega) r1 r0 hns).2 (by omega) _ _ e'
    have e3 : b' :: bs' = bs := e'.symm.trans e2
    subst e3
    simp [tw] at hb hr
    refine ⟨c, u, k + 1 + 1, ?_, ho⟩
    rw [sF (by omega)]
    refine uN (r := (ns, c, u)) (by omega) ?_ hn0.2 ?_
    ·simp [tw]; omega
    ·simp [tw]
     have em : ((v * 32 + n) / 2 % 16 * 256 + b') % 128 = b' % 128 := by omega
     rw [em]; exact hr
   ·rw [kE (by omega)] at e
    obtain ⟨rfl, e2⟩ := List.cons.inj e
    have r0 : (v * 32 + n) % tw 2 < tw 2 := by simp [tw]; omega
    have r1 : 0 ≤ (v * 32 + n) % tw 2 := by simp [tw]; omega
    obtain ⟨b', bs', e', hb, hb0, hb1⟩ := wU ns 2 _ (by omega) (by omega) r1 r0 hns
    obtain ⟨c, u, k, hr, ho⟩ := (ih 2 _ (by omega) r1 r0 hns).2 (by omega) _ _ e'
    have e3 : b' :: bs' = bs := e'.symm.trans e2
    subst e3
    simp [tw] at hb hr
    refine ⟨c, u, k + 1 + 1, ?_, ho⟩
    rw [sF (by omega)]
    refine uN (r := (ns, c, u)) (by omega) ?_ hn0.2 ?_
    ·simp [tw]; omega
    ·simp [tw]
     have em : ((v * 32 + n) / 4 % 8 * 256 + b') % 64 = b' % 64 := by omega
     rw [em]; exact hr
   ·rw [kE (by omega)] at e
    obtain ⟨rfl, e2⟩ := List.cons.inj e
    have r0 : (v * 32 + n) % tw 3 < tw 3 := by simp [tw]; omega
    have r1 : 0 ≤ (v * 32 + n) % tw 3 := by simp [tw]; omega
    obtain ⟨b', bs', e', hb, hb0, hb1⟩ := wU ns 3 _ (by omega) (by omega) r1 r0 hns
    obtain ⟨c, u, k, hr, ho⟩ := (ih 3 _ (by omega) r1 r0 hns).2 (by omega) _ _ e'
    have e3 : b' :: bs' = bs := e'.symm.trans e2
    subst e3
    simp [tw] at hb hr
    refine ⟨c, u, k + 1 + 1, ?_, ho⟩
    rw [sF (by omega)]
    refine uN (r := (ns, c, u)) (by omega) ?_ hn0.2 ?_
    ·simp [tw]; omega
    ·simp [tw]
     have em : ((v * 32 + n) / 8 % 4 * 256 + b') % 32 = b' % 32 := by omega
     rw [em]; exact hr
   ·rw [kE (by omega)] at e
    obtain ⟨rfl, e2⟩ := List.cons.inj e
    have r0 : (v * 32 + n) % tw 4 < tw 4 := by simp [tw]; omega
    have r1 : 0 ≤ (v * 32 + n) % tw 4 := by simp [tw]; omega
    obtain ⟨b', bs', e', hb, hb0, hb1⟩ := wU ns 4 _ (by omega) (by omega) r1 r0 hns
    obtain ⟨c, u, k, hr, ho⟩ := (ih 4 _ (by omega) r1 r0 hns).2 (by omega) _ _ e'
    have e3 : b' :: bs' = bs := e'.symm.trans e2
    subst e3
    simp [tw] at hb hr
    refine ⟨c, u, k + 1 + 1, ?_, ho⟩
    rw [sF (by omega)]
    refine uN (r := (ns, c, u)) (by omega) ?_ hn0.2 ?_
    ·simp [tw]; omega
    ·simp [tw]
     have em : ((v * 32 + n) / 16 % 2 * 256 + b') % 16 = b' % 16 := by omega
     rw [em]; exact hr
end Go.Proofs.YtlpbnkideaojeaaGreatDoor
namespace Go.Proofs.YtlpbnkideaojeaaGreatDoor
open Go.RowKit
set_option maxRecDepth 100000
set_option linter.unusedSimpArgs false
set_option linter.unusedVariables false
theorem Ol (u : World) (s : Nat) (h : u.heap.size = s) (x y : Value) (t : TypeId) (j : Nat) : (u.alloc (.cells #[x, y] t)).frozen? ⟨s, j, none⟩ = false := by subst h; exact (aB u t [x, y]).frozen j
structure RingAt (w : World) (b first : Nat) (L : List Fd) : Prop where
 fst : first < 112
 len : L.length ≤ 112
 row : aj w b 172 (rC (cu first L) first L.length (aS L))
theorem RingAt.new {w w' : World} {b first : Nat} {L : List Fd} (h : RingAt w b first L) (hb : Below w.heap.size w w') : RingAt w' b first L := ⟨h.fst, h.len, h.row.new hb⟩
theorem RingAt.turn {w w' : World} {b first : Nat} {L : List Fd} (h : RingAt w b first L) {lo hi : Nat} (ht : Turn lo hi w w') (hk : b < lo ∨ hi ≤ b) : RingAt w' b first L := ⟨h.fst, h.len, h.row.kept (ht.block b h.row.lt hk)⟩
def Iu (b : Nat) (w : World) : Nat := match w.cell? ⟨b, 225, none⟩ with | some (.int _ c) => c.toNat | _ => 0
theorem RingAt.cnt {w : World} {b first : Nat} {L : List Fd} (h : RingAt w b first L) : Iu b w = L.length := by
 have := h.row.cell (ku (gX first L) first L.length (aS L)).2.1
 simp [Iu, this]
theorem RingAt.Yv {w : World} {b first : Nat} {L : List Fd} (h : RingAt w b first L) : w.cell? ⟨b, 226, none⟩ = some (.int .i64 (aS L)) := h.row.cell (ku (gX first L) first L.length (aS L)).2.2
theorem RingAt.count {w : World} {b first : Nat} {L : List Fd} (h : RingAt w b first L) : w.cell? ⟨b, 225, none⟩ = some (.int .i64 L.length) := h.row.cell (ku (gX first L) first L.length (aS L)).2.1
theorem Yw {L : List Fd} (h : 0 < L.length) : aS L.dropLast = aS L - wt (L[L.length - 1]'(by omega)) := by
 have hne : L ≠ [] := fun e => by subst e; simp at h
 have h1 := List.dropLast_concat_getLast hne
 have h2 : aS L = aS (L.dropLast ++ [L.getLast hne]) := by rw [h1]
 rw [Hl, List.getLast_eq_getElem] at h2
 simp only [aS] at h2
 omega
theorem drop2 (b first : Nat) (L : List Fd) (w : World) (h : RingAt w b first L) (h0 : 0 < L.length) (hok : ∀ f ∈ L, okF f = true) :
  Calls Tryz.prog 164 #[.pointer (some ⟨b, 0, none⟩)] w fun x w' => x = .returned (.tuple #[]) ∧ RingAt w' b first L.dropLast ∧ Turn b (b + 1) w w' := by
 obtain ⟨n, hn⟩ : ∃ n, L.length = n + 1 := ⟨L.length - 1, by omega⟩
 have hln := h.len
 have hlt : n < L.length := by omega
 have hr := h.row
 rw [hn] at hr
 have hrg := Au L
 refine (Yx b first n (cu first L) (aS L) L[n] w (gX _ _) hr h.fst (by omega) (Gw h.fst hln n hlt) (qj (hok _ (List.getElem_mem hlt))) hrg.1 (by omega)).mono ?_
 rintro x w' ⟨rfl, hr', ht⟩
 refine ⟨rfl, ⟨h.fst, by rw [List.length_dropLast]; omega, ?_⟩, ht⟩
 have e1 := UY (first := first) (L := L) h.fst h0 hln
 rw [show L.length - 1 = n by omega] at e1
 have e2 := Yw h0
 simp only [show L.length - 1 = n by omega] at e2
 rw [List.length_dropLast, show L.length - 1 = n by omega, e2, ← e1]
 exact hr'
set_option maxHeartbeats 1000000 in
theorem Iw (b first : Nat) (L : List Fd) (room : Int) (w : World) (h : RingAt w b first L) (hok : ∀ f ∈ L, okF f = true) (hroom : 0 ≤ room) :
  Calls Tryz.prog 145 #[.pointer (some ⟨b, 0, none⟩), .int .i64 room] w fun x w' => x = .returned (.tuple #[]) ∧ RingAt w' b first (shr room L) ∧ Turn b (b + 1) w w' := by
 obtain ⟨R, hR⟩ : ∃ R, R = shr room L := ⟨_, rfl⟩
 rw [← hR]
 have H0 := hide h; have gL := hide hok; have HRR := hide hR
 clear h hok hR
 go_enter Tryz.func145, Tryz.ntmps145
 go_wp2_with fail
 go_loopw [] (fun wr => ∃ L' : List Fd, RingAt wr b first L' ∧ (∀ f ∈ L', okF f = true) ∧ R = shr room L' ∧ Turn b (b + 1) w wr) (fun wr => Iu b wr)
 case atStart => exact ⟨L, H0.out, gL.out, HRR.out, Turn.refl _ _ _⟩
 case round =>
  obtain ⟨L', hra, hok', hR', ht⟩ := hrel
  have c6 := hra.Yv
  by_cases hgt : room < aS L'
  ·have hpos : 0 < L'.length := by
    rcases Nat.eq_zero_or_pos L'.length with h0 | h0
    ·have : L' = [] := List.length_eq_zero_iff.1 h0
     subst this
     simp [aS] at hgt; omega
    ·exact h0
   have HD := hide (hR'.trans (Nl hgt))
   have HA := hide hra; have HO := hide hok'; have HT := hide ht
   clear hR' hra hok' ht
   go_wp2_with fail
   refine (drop2 b first L' _ HA.out hpos HO.out).mono ?_; rintro x w1 ⟨rfl, Iy, ht1⟩
   have hc1 := Iy.cnt
   have hc0 := HA.out.cnt
   rw [List.length_dropLast] at hc1
   have HA1 := hide Iy
   have oW := hide hc0; have Yy := hide hc1
   clear Iy hc0 hc1
   go_wp2_with fail
   exact ⟨⟨L'.dropLast, HA1.out, fun f hf => HO.out f ((List.dropLast_sublist _).subset hf), HD.out, HT.out.trans ht1⟩, by have := oW.out; have := Yy.out; omega⟩
  ·have HD := hide (hR'.trans (zq hgt))
   have HA := hide hra; have HT := hide ht
   clear hR' hra hok' ht
   go_wp2_with fail
   refine bodyPost_end (v := .tuple #[]) (by simp [results, Tryz.results145, go_sem]) rfl ?_
   exact ⟨rfl, by rw [HD.out]; exact HA.out, HT.out⟩
set_option maxHeartbeats 1000000 in
theorem AU (f : Fd) (w : World) (hf : okF f = true) :
  Calls Tryz.prog 165 #[.agg #[.string f.n, .string f.v]] w fun x w' => x = .returned (.agg #[.string f.n, .string f.v]) ∧ Below w.heap.size w w' := by
 obtain ⟨p1, p2, p3⟩ := qF hf
 go_enter Tryz.func165, Tryz.ntmps165
 go_wp2_with fail
 generalize hV : (w.alloc (.cells #[.string f.n, .string f.v] 104)).alloc (.cells #[.string ⟨#[]⟩, .string ⟨#[]⟩] 104) = V
 have aO : Below w.heap.size w V := by rw [← hV]; exact aA ((Below.refl _ _).alloc (Nat.le_refl _) _) _
 have x0 : V.cell? ⟨w.heap.size, 0, none⟩ = some (.string f.n) := by rw [← hV]; simp
 have x1 : V.cell? ⟨w.heap.size, 1, none⟩ = some (.string f.v) := by rw [← hV]; simp
 have r0 : V.cell? ⟨w.heap.size + 1, 0, none⟩ = some (.string ⟨#[]⟩) := by rw [← hV]; exact Iz _ _ (by simp) _ _ _
 have r1 : V.cell? ⟨w.heap.size + 1, 1, none⟩ = some (.string ⟨#[]⟩) := by rw [← hV]; exact IB _ _ (by simp) _ _ _
 have f0 : V.frozen? ⟨w.heap.size + 1, 0, none⟩ = false := by rw [← hV]; exact Ol _ _ (by simp) _ _ _ _
 have f1 : V.frozen? ⟨w.heap.size + 1, 1, none⟩ = false := by rw [← hV]; exact Ol _ _ (by simp) _ _ _ _
 have jy : w.heap.size + 1 < V.heap.size := by rw [← hV]; simp
 have yK : w.heap.size < V.heap.size := by omega
 clear hV
 have hS0 := And.intro x0 x1
 refine wp_region_held_drew (S := (fun u => u.cell? ⟨w.heap.size, 0, none⟩ = some (.string f.n) ∧ u.cell? ⟨w.heap.size, 1, none⟩ = some (.string f.v))) (by kernel_rfl) hS0 (fun hS => ?_)
 refine wpAnyH_take (i := 0) (v := ?_) rfl (by kernel_rfl) (by kernel_rfl) (by kernel_rfl) (fun _ _ _ h => h) (Or.inl ⟨by rfl, ?_⟩) hS ?_; rotate_left; focus (intro w hw; clear hw; go_simp; try with_reducible rfl)
 refine wpAnyH_take (i := 3) (v := ?_) rfl (by kernel_rfl) (by kernel_rfl) (by kernel_rfl) (fun _ _ _ h => h) (Or.inl ⟨by rfl, ?_⟩) hS ?_; rotate_left; focus (intro w hw; clear hw; go_simp; try with_reducible rfl)
 refine wpAnyH_take (i := 1) (v := ?_) rfl (by kernel_rfl) (by kernel_rfl) (by kernel_rfl) (fun _ _ _ h => h) (Or.inl ⟨by rfl, ?_⟩) hS ?_; rotate_left; focus (intro w hw; obtain ⟨l0, l1⟩ := hw; go_simp; try with_reducible rfl)
 refine wpAnyH_take (i := 4) (v := ?_) rfl (by kernel_rfl) (by kernel_rfl) (by kernel_rfl) (fun _ _ _ h => h) (Or.inl ⟨by rfl, ?_⟩) hS ?_; rotate_left; focus (intro w hw; obtain ⟨l0, l1⟩ := hw; go_simp; try with_reducible rfl)
 refine wpAnyH_ready (rs := [2]) (by kernel_rfl) (by simp) ?_; refine AllReadyH.cons rfl (fun K hK => ?_) AllReadyH.nil; go_simp
 refine (clone f.n _ (by omega)).mono ?_; rintro x w2 ⟨rfl, hb2⟩
 have hb2' : Below V.heap.size V w2 := ah (ay 1 (Below.refl _ _)) hb2
 refine hK.out _ _ ⟨(hb2'.cell (p := ⟨w.heap.size, 0, none⟩) yK).trans x0, (hb2'.cell (p := ⟨w.heap.size, 1, none⟩) yK).trans x1⟩ (fun hS => ?_)
 clear hK K
 refine wpAnyH_ready (rs := [5]) (by kernel_rfl) (by simp) ?_; refine AllReadyH.cons rfl (fun K hK => ?_) AllReadyH.nil; go_simp
 refine (clone f.v _ (by omega)).mono ?_; rintro x w3 ⟨rfl, hb3⟩
 have sM : Below V.heap.size V w3 := ah hb2' hb3
 refine hK.out _ _ ⟨(sM.cell (p := ⟨w.heap.size, 0, none⟩) yK).trans x0, (sM.cell (p := ⟨w.heap.size, 1, none⟩) yK).trans x1⟩ (fun hS => ?_)
 clear hK K
 have g0 := (sM.cell (p := ⟨w.heap.size + 1, 0, none⟩) jy).trans r0
 have g1 := (sM.cell (p := ⟨w.heap.size + 1, 1, none⟩) jy).trans r1
 have g2 := (sM.frozen (p := ⟨w.heap.size + 1, 0, none⟩) jy).trans f0
 have g3 := (sM.frozen (p := ⟨w.heap.size + 1, 1, none⟩) jy).trans f1
 refine wpAnyH_take (i := 6) (v := ?_) rfl (by kernel_rfl) (by kernel_rfl) (by kernel_rfl) (fun _ _ _ h => h) (Or.inl ⟨by rfl, ?_⟩) hS ?_; rotate_left; focus (intro w hw; clear hw; go_simp; try with_reducible rfl)
 refine wpAnyH_ready (rs := [7]) (by kernel_rfl) (by simp) ?_; refine AllReadyH.cons rfl (fun K hK => ?_) AllReadyH.nil; go_simp
 have hw := aO.trans (sM.mono aO.size)
 refine hK.out _ _ ⟨(World.cell?_setCell_other _ _ _ _ (by simp)).trans ((World.cell?_setCell_other _ _ _ _ (by simp)).trans ((sM.cell (p := ⟨w.heap.size, 0, none⟩) yK).trans x0)), (World.cell?_setCell_other _ _ _ _ (by simp)).trans ((World.cell?_setCell_other _ _ _ _ (by simp)).trans ((sM.cell (p := ⟨w.heap.size, 1, none⟩) yK).trans x1))⟩ (fun _ => ?_)
 clear hK K
 refine wpAnyH_done (by kernel_rfl) ?_ _
 go_wp2_with fail
 refine bodyPost_ret (v := .agg #[.string f.n, .string f.v]) (by simp [results, Tryz.results165, go_sem, *]) rfl ?_
 exact ⟨rfl, (hw.setCell (by simp) _).setCell (by simp) _⟩
set_option maxHeartbeats 1000000 in
theorem Yz (d : bZ) (v : Value) (w : World) (hr0 : aT bE w v d.es) (hL : d.es.length ≤ 1000) :
  Calls Tryz.prog 47 #[.agg #[.int .i64 d.lim, .int .i64 d.top, v]] w fun x w' => ∃ v', x = .returned (.agg #[.int .i64 d.lim, .int .i64 d.top, v']) ∧ w'.ownsRow w.heap.size 94 2 v' d.es.length (ev d.es) ∧ Below w.heap.size w w' := by
 obtain ⟨ad, cap, rfl, h1, h2⟩ := hr0.form
 have HR := hide (YA hr0)
 clear hr0
 go_enter Tryz.func47, Tryz.ntmps47
 go_wp2_with fail
 generalize hV : (w.alloc (.cells #[.int .i64 d.lim, .int .i64 d.top, .slice ad d.es.length cap] 34)).alloc (.cells #[.int .i64 0, .int .i64 0, .slice none 0 0] 34) = V
 have aO : Below w.heap.size w V := by rw [← hV]; exact aA ((Below.refl _ _).alloc (Nat.le_refl _) _) _
 have hX : aj V w.heap.size 34 [.int .i64 d.lim, .int .i64 d.top, .slice ad d.es.length cap] := by rw [← hV]; exact (aB w 34 [.int .i64 d.lim, .int .i64 d.top, .slice ad d.es.length cap]).alloc _
 have hRR : aj V (w.heap.size + 1) 34 [.int .i64 0, .int .i64 0, .slice none 0 0] := by rw [← hV]; simpa using aB (w.alloc (.cells #[.int .i64 d.lim, .int .i64 d.top, .slice ad d.es.length cap] 34)) 34 [.int .i64 0, .int .i64 0, .slice none 0 0]
 clear hV
 have HX := hide hX; have HRR := hide hRR
 have jy := hRR.lt
 have x0 := hX.cell (j := 0) rfl
 have x1 := hX.cell (j := 1) rfl
 have x2 := hX.cell (j := 2) rfl
 clear hX hRR
 have hS0 := And.intro x0 (And.intro x1 x2)
 refine wp_region_held_drew (S := (fun u => u.cell? ⟨w.heap.size, 0, none⟩ = some (.int .i64 d.lim) ∧ u.cell? ⟨w.heap.size, 1, none⟩ = some (.int .i64 d.top) ∧ u.cell? ⟨w.heap.size, 2, none⟩ = some (.slice ad d.es.length cap))) (by kernel_rfl) hS0 (fun hS => ?_)
 refine wpAnyH_take (i := 0) (v := ?_) rfl (by kernel_rfl) (by kernel_rfl) (by kernel_rfl) (fun _ _ _ h => h) (Or.inl ⟨by rfl, ?_⟩) hS ?_; rotate_left; focus (intro w hw; clear hw; go_simp; try with_reducible rfl)
 refine wpAnyH_take (i := 2) (v := ?_) rfl (by kernel_rfl) (by kernel_rfl) (by kernel_rfl) (fun _ _ _ h => h) (Or.inl ⟨by rfl, ?_⟩) hS ?_; rotate_left; focus (intro w hw; clear hw; go_simp; try with_reducible rfl)
 refine wpAnyH_take (i := 5) (v := ?_) rfl (by kernel_rfl) (by kernel_rfl) (by kernel_rfl) (fun _ _ _ h => h) (Or.inl ⟨by rfl, ?_⟩) hS ?_; rotate_left; focus (intro w hw; clear hw; go_simp; try with_reducible rfl)
 refine wpAnyH_take (i := 1) (v := ?_) rfl (by kernel_rfl) (by kernel_rfl) (by kernel_rfl) (fun _ _ _ h => h) (Or.inl ⟨by rfl, ?_⟩) hS ?_; rotate_left; focus (intro w hw; obtain ⟨l0, l1, l2⟩ := hw; go_simp; try with_reducible rfl)
 refine wpAnyH_take (i := 3) (v := ?_) rfl (by kernel_rfl) (by kernel_rfl) (by kernel_rfl) (fun _ _ _ h => h) (Or.inl ⟨by rfl, ?_⟩) hS ?_; rotate_left; focus (intro w hw; obtain ⟨l0, l1, l2⟩ := hw; go_simp; try with_reducible rfl)
 refine wpAnyH_take (i := 6) (v := ?_) rfl (by kernel_rfl) (by kernel_rfl) (by kernel_rfl) (fun _ _ _ h => h) (Or.inl ⟨by rfl, ?_⟩) hS ?_; rotate_left; focus (intro w hw; obtain ⟨l0, l1, l2⟩ := hw; go_simp; try with_reducible rfl)
 refine wpAnyH_ready (rs := [4]) (by kernel_rfl) (by simp) ?_; refine AllReadyH.cons rfl (fun K hK => ?_) AllReadyH.nil; go_simp
 have aP : Below V.heap.size V ((World.drew V).alloc (.cells #[] 94)) := aA (ay 1 (Below.refl _ _)) _
 have mP : ((World.drew V).alloc (.cells #[] 94)).ownsRow V.heap.size 94 2 (.slice (some ⟨V.heap.size, 0, none⟩) 0 0) 0 [] := kW (World.drew V) 94 2 0 #[] rfl (by omega)
 have sN := (HR.out.new aO).new aP
 refine hK.out _ _ ⟨(HX.out.new aP).cell (j := 0) rfl, (HX.out.new aP).cell (j := 1) rfl, (HX.out.new aP).cell (j := 2) rfl⟩ (fun hS => ?_)
 clear hK K
 refine wpAnyH_ready (rs := [7]) (by kernel_rfl) (by simp) ?_
 refine AllReadyH.cons rfl (fun K hK => ?_) AllReadyH.nil
 refine kL _ (by rfl) _ _ 32 (by rfl) 94 (.agg #[.int .i64 0, .int .i64 0]) 2 16 Tryz.underlying32 (by kernel_rfl) rfl (by decide) V.heap.size _ 0 [] (by rfl) mP _ d.es.length (ev d.es) (by rfl) sN (Oj _) (by omega) (by decide) aP.size ?_
 intro gH cap5 w5 hown5 eY lC
 have hb5 : Below V.heap.size V w5 := ⟨eY.os.trans aP.os, eY.tape.trans aP.tape, eY.output.trans aP.output, Nat.le_trans aP.size eY.size, fun k hk => (eY.block k (Nat.lt_of_lt_of_le hk aP.size) (fun e => absurd (show V.heap.size ≤ k from (mP.lt k e.symm).1) (Nat.not_le_of_lt hk))).trans (aP.block k hk)⟩
 refine hK.out _ _ ⟨(HX.out.new hb5).cell (j := 0) rfl, (HX.out.new hb5).cell (j := 1) rfl, (HX.out.new hb5).cell (j := 2) rfl⟩ (fun hS => ?_)
 clear hK K lC eY mP sN aP
 rw [Nat.zero_add] at hown5 ⊢
 rw [List.nil_append] at hown5
 have nL := HRR.out.new hb5
 have r0 := nL.cell (j := 0) rfl
 have r1 := nL.cell (j := 1) rfl
 have r2 := nL.cell (j := 2) rfl
 have r3 := nL.frozen 0
 have r4 := nL.frozen 1
 have r5 := nL.frozen 2
 have HO := hide hown5
 clear hown5 nL
 refine wpAnyH_take (i := 8) (v := ?_) rfl (by kernel_rfl) (by kernel_rfl) (by kernel_rfl) (fun _ _ _ h => h) (Or.inl ⟨by rfl, ?_⟩) hS ?_; rotate_left; focus (intro w hw; clear hw; go_simp; try with_reducible rfl)
 refine wpAnyH_ready (rs := [9]) (by kernel_rfl) (by simp) ?_; refine AllReadyH.cons rfl (fun K hK => ?_) AllReadyH.nil; go_simp
 have hcx : ∀ j u, ([.int .i64 d.lim, .int .i64 d.top, .slice ad d.es.length cap] : List Value)[j]? = some u → (((w5.setCell ⟨w.heap.size + 1, 0, none⟩ (.int .i64 d.lim)).setCell ⟨w.heap.size + 1, 1, none⟩ (.int .i64 d.top)).setCell ⟨w.heap.size + 1, 2, none⟩ (.slice gH d.es.length cap5)).cell? ⟨w.heap.size, j, none⟩ = some u := fun j u hu => ((((HX.out.new hb5).far ⟨w.heap.size + 1, 0, none⟩ (.int .i64 d.lim) (by simp)).far ⟨w.heap.size + 1, 1, none⟩ (.int .i64 d.top) (by simp)).far ⟨w.heap.size + 1, 2, none⟩ (.slice gH d.es.length cap5) (by simp)).cell hu
 refine hK.out _ _ ⟨hcx 0 _ rfl, hcx 1 _ rfl, hcx 2 _ rfl⟩ (fun _ => ?_)
 clear hK K
 refine wpAnyH_done (by kernel_rfl) ?_ _
 go_wp2_with fail
 refine bodyPost_ret (v := (.agg #[.int .i64 d.lim, .int .i64 d.top, .slice gH d.es.length cap5])) (by simp [results, Tryz.results47, go_sem, *]) rfl ?_
 have hov : ∀ q, (Value.slice gH d.es.length cap5).ownBlock = some q → w.heap.size + 2 ≤ q := fun q hq => by have := (HO.out.lt q hq).1; omega
 have hlt1 : w.heap.size + 1 < w.heap.size + 2 := by omega
 exact ⟨_, rfl, eG (iq (w.heap.size + 2) (iq (w.heap.size + 2) (iq (w.heap.size + 2) HO.out hov _ _ hlt1) hov _ _ hlt1) hov _ _ hlt1) (fun q hq => by have := hov q hq; omega), (((aO.trans (hb5.mono aO.size)).setCell (show w.heap.size ≤ w.heap.size + 1 by omega) _).setCell (show w.heap.size ≤ w.heap.size + 1 by omega) _).setCell (show w.heap.size ≤ w.heap.size + 1 by omega) _⟩
structure IC (w : World) (g base : Nat) (d : bZ) : Prop where
 ex : ∃ ad cap, aj w g 34 [.int .i64 d.lim, .int .i64 d.top, .slice ad d.es.length cap] ∧ w.ownsRow base 94 2 (.slice ad d.es.length cap) d.es.length (ev d.es) ∧ (Value.slice ad d.es.length cap).ownBlock ≠ some g
theorem IC.new {w w' : World} {g base : Nat} {d : bZ} (h : IC w g base d) (hb : Below w.heap.size w w') : IC w' g base d := by
 obtain ⟨ad, cap, h1, h2, h3⟩ := h.ex
 exact ⟨ad, cap, h1.new hb, aX h2 hb, h3⟩
theorem Od (L : List aF) (k : Nat) (hk : k < L.length) (s : Int) : (ev L).set (k * 2 + 1) (.int .i64 s) = ev (L.set k ⟨L[k].id, s⟩) := Gx aF.cs 2 (fun _ => rfl) L k hk 1 (by decide) (.int .i64 s) ⟨L[k].id, s⟩ rfl
structure jL (w : World) (g : Nat) (ty : TypeId) (A C : List Value) (og : Nat) (fK : Nat → Prop) (room : Int) (L : List Fd) : Prop where
 ex : ∃ ad cap, bL w g ty A C og [.int .i64 room, .slice ad L.length cap] ∧ w.ownsRow 0 104 2 (.slice ad L.length cap) L.length (fv L) ∧ (Value.slice ad L.length cap).ownBlock ≠ some g ∧ ∀ k, (Value.slice ad L.length cap).ownBlock = some k → fK k
theorem wV {w w' : World} {g og : Nat} {ty : TypeId} {A C : List Value} {fK : Nat → Prop} {room : Int} {L : List Fd} (h : jL w g ty A C og fK room L) (hb : Below w.heap.size w w') : jL w' g ty A C og fK room L := by
 obtain ⟨a, p, h1, h2, h3, h4⟩ := h.ex
 exact ⟨⟨a, p, h1.new hb, aX h2 hb, h3, h4⟩⟩
theorem YB {w : World} {g og : Nat} {ty : TypeId} {A C : List Value} {fK : Nat → Prop} {room : Int} {L : List Fd} (h : jL w g ty A C og fK room L) : g < w.heap.size := by obtain ⟨a, p, h1, _⟩ := h.ex; exact h1.lt
def sO (g og : Nat) (w : World) : Nat := match w.cell? ⟨g, og + 1, none⟩ with | some (.slice _ n _) => n | _ => 0
set_option maxHeartbeats 2000000 in
theorem IE (g og : Nat) (ty : TypeId) (A C : List Value) (fK : Nat → Prop) (room : Int) (L : List Fd) (w : World) (h : jL w g ty A C og fK room L) (hok : ∀ f ∈ L, okF f = true) (hroom : 0 ≤ room) (hL : L.length ≤ 200) :
  Calls Tryz.prog 112 #[.pointer (some ⟨g, og, none⟩)] w fun x w' => x = .returned (.tuple #[]) ∧ jL w' g ty A C og fK room (shr room L) ∧ Turn g (g + 1) w w' := by
 obtain ⟨R, hR⟩ : ∃ R, R = shr room L := ⟨_, rfl⟩
 rw [← hR]
 have H0 := hide h; have gL := hide hok; have HRR := hide hR
 clear h hok hR
 go_enter Tryz.func112, Tryz.ntmps112
 go_wp2_with fail
 go_loopw [] (fun wr => ∃ L' : List Fd, jL wr g ty A C og fK room L' ∧ (∀ f ∈ L', okF f = true) ∧ R = shr room L' ∧ L'.length ≤ 200 ∧ Turn g (g + 1) w wr) (fun wr => sO g og wr)
 case atStart => exact ⟨L, H0.out, gL.out, HRR.out, hL, Turn.refl _ _ _⟩
 case round =>
  obtain ⟨L', oZ, hok', hR', hL', ht⟩ := hrel
  obtain ⟨ad, cap, hrow, hown, hap, hbk⟩ := oZ.ex
  have IG := hide hap
  have iG := hide hbk
  clear hap hbk
  have hlen : sO g og wr = L'.length := by have := hrow.cell (j := 1) rfl; simp [sO, this]
  have x0 := hrow.cell0 rfl
  have x1 := hrow.cell (j := 1) rfl
  have x2 := hrow.frozen (og + 1)
  have hgl := hrow.lt
  have hcc : L'.length ≤ cap ∧ cap ≤ maxLen := by
   obtain ⟨_, _, e, h1, h2⟩ := bW hown
   simp only [Value.slice.injEq] at e
   obtain ⟨_, _, rfl⟩ := e
   exact ⟨h1, h2⟩
  obtain ⟨hc1, hc2⟩ := hcc
  unfold maxLen at hc2
  have fC := hide hrow; have HOWN := hide hown; have HO := hide hok'; have HT := hide ht; have HR' := hide hR'; have HLEN := hide hlen
  clear hrow hown hok' ht hR' oZ hlen
  go_wp2_with fail
  have q0 : ∀ y : Later wr, y.w.cell? ⟨g, og, none⟩ = some (.int .i64 room) := fun y => (y.b.cell (p := ⟨g, og, none⟩) hgl).trans x0
  have q1 : ∀ y : Later wr, y.w.cell? ⟨g, og + 1, none⟩ = some (.slice ad L'.length cap) := fun y => (y.b.cell (p := ⟨g, og + 1, none⟩) hgl).trans x1
  have hcall : ∀ y : Later wr, Calls Tryz.prog 78 #[.slice ad L'.length cap] y.w (fun e w' => e = .returned (.int .i64 (aS L')) ∧ Below y.w.heap.size y.w w') := fun y => Mt L' _ y.w ((eP HOWN.out).new y.b) (fun f hf => qj (HO.out f hf)) (by omega)
  obtain ⟨sm, hsm⟩ : ∃ sm, aS L' = sm := ⟨_, rfl⟩
  rw [hsm] at hcall
  have Om := hide hsm
  have Oq := hide hcall
  clear hsm hcall
  have hne : Nonempty (Later wr) := ⟨⟨wr, Below.refl _ _⟩⟩; refine eH (by kernel_rfl) (by kernel_rfl) ?_
  repeat (go_big_quiet_step (fail))
  go_big_quiet_want; go_big_quiet_op; refine ⟨.int .i64 sm, fun y => gW (x := y) ((fun _ => Oq.out y) y.w), ?_⟩; go_big_quiet_on
  repeat (go_big_quiet_step (fail))
  refine wpQuiet_nil ?_; intro _ hw'; obtain ⟨y, hw''⟩ := hw'; subst hw''; have hby := y.b
  clear q0 q1 hne Oq
  obtain ⟨wy, Ai⟩ : ∃ wy, wy = y.w := ⟨_, rfl⟩
  rw [← Ai] at hby ⊢
  clear Ai y
  replace fC := hide (fC.out.new hby)
  replace HOWN := hide (aX HOWN.out hby)
  replace HT := hide (HT.out.trans (iL hby g (g + 1)))
  clear x0 x1 x2
  have x1 := fC.out.cell (j := 1) rfl
  have x0 := fC.out.cell0 rfl
  have x2 := fC.out.frozen (og + 1)
  by_cases Ot : room < sm
  ·have hgt : room < aS L' := by rw [Om.out]; exact Ot
   have hpos : 0 < L'.length := by
    rcases Nat.eq_zero_or_pos L'.length with h0 | h0
    ·have : L' = [] := List.length_eq_zero_iff.1 h0
     subst this
     simp [aS] at hgt; omega
    ·exact h0
   obtain ⟨n, hn⟩ : ∃ n, L'.length = n + 1 := ⟨L'.length - 1, by omega⟩
   have HD := hide (HR'.out.trans (Nl hgt))
   have hdn : L'.dropLast.length = n := by rw [List.length_dropLast]; omega
   have Ou : (fv L').take (n * 2) = fv L'.dropLast := by
    rw [List.dropLast_eq_take, show L'.length - 1 = n by omega]
    conv => lhs; rw [← List.take_append_drop n L', yA, List.take_append_of_le_length (by rw [gY, List.length_take]; omega), List.take_of_length_le (by rw [gY, List.length_take]; omega)]
   have FIN : Hid (jL ((World.drew wy).setCell ⟨g, og + 1, none⟩ (.slice ad n cap)) g ty A C og fK room L'.dropLast ∧ Turn g (g + 1) w ((World.drew wy).setCell ⟨g, og + 1, none⟩ (.slice ad n cap)) ∧ sO g og ((World.drew wy).setCell ⟨g, og + 1, none⟩ (.slice ad n cap)) = n) := by
    have h1 := (fC.out.drewN 1).set 1 (.slice ad n cap) (by simp)
    have h2 := YC HOWN.out (show n ≤ L'.length by omega) hpos
    rw [Ou] at h2
    have h2' : (World.drew wy).ownsRow 0 104 2 (.slice ad n cap) n (fv L'.dropLast) := h2
    refine ⟨⟨⟨ad, cap, by rw [hdn]; exact h1, by rw [hdn]; exact fD h2' ⟨g, og + 1, none⟩ _ (by have := IG.out; cases ad <;> exact this), by have := IG.out; cases ad <;> exact this, by have := iG.out; cases ad <;> exact this⟩⟩, (HT.out.drewN 1).setCell (p := ⟨g, og + 1, none⟩) _ (.inl ⟨Nat.le_refl _, Nat.lt_succ_self _⟩), ?_⟩
    have := h1.cell (j := 1) rfl
    have h3 : ((World.drew wy).setCell ⟨g, og + 1, none⟩ (.slice ad n cap)).cell? ⟨g, og + 1, none⟩ = some (.slice ad n cap) := this
    simp [sO, h3]
   clear Ou
   go_wp2_with fail
   refine wp_region_any (by kernel_rfl) ?_; change wpAny _ _ _ _ _ _ _ (World.drew _)
   refine wpAny_take (i := 0) (v := ?_) rfl (by kernel_rfl) (by kernel_rfl) (by kernel_rfl) (fun _ _ _ h => h) (Or.inl ⟨by rfl, ?_⟩) ?_; rotate_left; focus (intro w; go_simp; try with_reducible rfl)
   refine wpAny_take (i := 1) (v := ?_) rfl (by kernel_rfl) (by kernel_rfl) (by kernel_rfl) (fun _ _ _ h => h) (Or.inl ⟨by rfl, ?_⟩) ?_; rotate_left; focus (intro w; go_simp; try with_reducible rfl)
   refine wpAny_take (i := 2) (v := ?_) rfl (by kernel_rfl) (by kernel_rfl) (by kernel_rfl) (fun _ _ _ h => h) (Or.inl ⟨by rfl, ?_⟩) ?_; rotate_left; focus (intro w; go_simp; try with_reducible rfl)
   refine wpAny_take (i := 3) (v := ?_) rfl (by kernel_rfl) (by kernel_rfl) (by kernel_rfl) (fun _ _ _ h => h) (Or.inl ⟨by rfl, ?_⟩) ?_; rotate_left; focus (intro w; go_simp; try with_reducible rfl)
   refine wpAny_take (i := 5) (v := ?_) rfl (by kernel_rfl) (by kernel_rfl) (by kernel_rfl) (fun _ _ _ h => h) (Or.inl ⟨by rfl, ?_⟩) ?_; rotate_left; focus (intro w; go_simp; try with_reducible rfl)
   refine wpAny_take (i := 6) (v := ?_) rfl (by kernel_rfl) (by kernel_rfl) (by kernel_rfl) (fun _ _ _ h => h) (Or.inl ⟨by rfl, ?_⟩) ?_; rotate_left; focus (intro w; go_simp; try with_reducible rfl)
   refine wpAny_take (i := 7) (v := ?_) rfl (by kernel_rfl) (by kernel_rfl) (by kernel_rfl) (fun _ _ _ h => h) (Or.inl ⟨by rfl, ?_⟩) ?_; rotate_left; focus (intro w; go_simp; try with_reducible rfl)
   have hwn : IntKind.i64.wrap (n : Int) = n := by rw [IntKind.wrap_i64]; omega
   have hn0 : (0 : Int) ≤ (n : Int) := by omega
   have hn1 : (n : Int) ≤ (cap : Int) := by omega
   refine wpAny_ready (rs := [4, 8]) (by kernel_rfl) (by simp) ?_; refine AllReady.cons rfl (fun K hK => ?_) (AllReady.cons rfl (fun K hK => ?_) AllReady.nil)
   ·go_simp; refine hK _ _ ?_; clear hK K
    refine wpAny_ready (rs := [8]) (by kernel_rfl) (by simp) ?_; refine AllReady.cons rfl (fun K hK => ?_) AllReady.nil
    go_simp; refine hK _ _ ?_; clear hK K
    refine wpAny_take (i := 9) (v := ?_) rfl (by kernel_rfl) (by kernel_rfl) (by kernel_rfl) (fun _ _ _ h => h) (Or.inl ⟨by rfl, ?_⟩) ?_; rotate_left; focus (intro w; go_simp; try with_reducible rfl)
    refine wpAny_take (i := 10) (v := ?_) rfl (by kernel_rfl) (by kernel_rfl) (by kernel_rfl) (fun _ _ _ h => h) (Or.inl ⟨by rfl, ?_⟩) ?_; rotate_left; focus (intro w; go_simp; try with_reducible rfl)
    refine wpAny_take (i := 11) (v := ?_) rfl (by kernel_rfl) (by kernel_rfl) (by kernel_rfl) (fun _ _ _ h => h) (Or.inl ⟨by rfl, ?_⟩) ?_; rotate_left; focus (intro w; go_simp; try with_reducible rfl)
    refine wpAny_take (i := 12) (v := ?_) rfl (by kernel_rfl) (by kernel_rfl) (by kernel_rfl) (fun _ _ _ h => h) (Or.inl ⟨by rfl, ?_⟩) ?_; rotate_left; focus (intro w; go_simp; try with_reducible rfl)
    refine wpAny_take (i := 13) (v := ?_) rfl (by kernel_rfl) (by kernel_rfl) (by kernel_rfl) (fun _ _ _ h => h) (Or.inl ⟨by rfl, ?_⟩) ?_; rotate_left; focus (intro w; go_simp; try with_reducible rfl)
    refine wpAny_ready (rs := [14]) (by kernel_rfl) (by simp) ?_; refine AllReady.cons rfl (fun K hK => ?_) AllReady.nil
    go_simp; refine hK _ _ ?_; clear hK K
    refine wpAny_done (by kernel_rfl) ?_ _
    go_wp2_with fail
    exact ⟨⟨L'.dropLast, FIN.out.1, fun f hf => HO.out f ((List.dropLast_sublist _).subset hf), HD.out, by rw [List.length_dropLast]; omega, FIN.out.2.1⟩, by show sO g og ((World.drew wy).setCell ⟨g, og + 1, none⟩ (.slice ad n cap)) < sO g og wr; rw [FIN.out.2.2, HLEN.out]; omega⟩
   ·go_simp; refine hK _ _ ?_; clear hK K
    refine wpAny_take (i := 9) (v := ?_) rfl (by kernel_rfl) (by kernel_rfl) (by kernel_rfl) (fun _ _ _ h => h) (Or.inl ⟨by rfl, ?_⟩) ?_; rotate_left; focus (intro w; go_simp; try with_reducible rfl)
    refine wpAny_take (i := 10) (v := ?_) rfl (by kernel_rfl) (by kernel_rfl) (by kernel_rfl) (fun _ _ _ h => h) (Or.inl ⟨by rfl, ?_⟩) ?_; rotate_left; focus (intro w; go_simp; try with_reducible rfl)
    refine wpAny_ready (rs := [4]) (by kernel_rfl) (by simp) ?_; refine AllReady.cons rfl (fun K hK => ?_) AllReady.nil
    go_simp; refine hK _ _ ?_; clear hK K
    refine wpAny_take (i := 11) (v := ?_) rfl (by kernel_rfl) (by kernel_rfl) (by kernel_rfl) (fun _ _ _ h => h) (Or.inl ⟨by rfl, ?_⟩) ?_; rotate_left; focus (intro w; go_simp; try with_reducible rfl)
    refine wpAny_take (i := 12) (v := ?_) rfl (by kernel_rfl) (by kernel_rfl) (by kernel_rfl) (fun _ _ _ h => h) (Or.inl ⟨by rfl, ?_⟩) ?_; rotate_left; focus (intro w; go_simp; try with_reducible rfl)
    refine wpAny_take (i := 13) (v := ?_) rfl (by kernel_rfl) (by kernel_rfl) (by kernel_rfl) (fun _ _ _ h => h) (Or.inl ⟨by rfl, ?_⟩) ?_; rotate_left; focus (intro w; go_simp; try with_reducible rfl)
    refine wpAny_ready (rs := [14]) (by kernel_rfl) (by simp) ?_; refine AllReady.cons rfl (fun K hK => ?_) AllReady.nil
    go_simp; refine hK _ _ ?_; clear hK K
    refine wpAny_done (by kernel_rfl) ?_ _
    go_wp2_with fail
    exact ⟨⟨L'.dropLast, FIN.out.1, fun f hf => HO.out f ((List.dropLast_sublist _).subset hf), HD.out, by rw [List.length_dropLast]; omega, FIN.out.2.1⟩, by show sO g og ((World.drew wy).setCell ⟨g, og + 1, none⟩ (.slice ad n cap)) < sO g og wr; rw [FIN.out.2.2, HLEN.out]; omega⟩
  ·have HD := hide (HR'.out.trans (zq (by rw [Om.out]; exact Ot)))
   go_wp2_with fail
   refine bodyPost_end (v := .tuple #[]) (by simp [results, Tryz.results112, go_sem]) rfl ?_
   exact ⟨rfl, by rw [HD.out]; exact ⟨⟨ad, cap, fC.out, HOWN.out, IG.out, iG.out⟩⟩, HT.out⟩
set_option maxHeartbeats 4000000 in
theorem Ov (g og : Nat) (ty : TypeId) (A C : List Value) (fK : Nat → Prop) (room : Int) (L : List Fd) (f : Fd) (w : World) (h : jL w g ty A C og fK room L) (hok : ∀ f ∈ L, okF f = true) (hf : okF f = true) (hroom : 0 ≤ room) (hL : L.length ≤ 190) (yL : ∀ k, w.heap.size ≤ k → fK k) :
  Calls Tryz.prog 84 #[.pointer (some ⟨g, og, none⟩), .agg #[.string f.n, .string f.v]] w fun x w' => x = .returned (.tuple #[]) ∧ jL w' g ty A C og fK room (shr room (f :: L)) ∧ Turn g (g + 1) w w' := by
 obtain ⟨ad, cap, hrow, hown, _, _⟩ := h.ex
 have kF : Hid (∀ u ∈ f :: L, okF u = true) := fun u hu => by rcases List.mem_cons.1 hu with rfl | hu; exact hf; exact hok u hu
 obtain ⟨R, hR⟩ : ∃ R, R = shr room (f :: L) := ⟨_, rfl⟩
 have hgl := hrow.lt
 have YD := hide hrow; have YE := hide hown
 clear h hrow hown hok
 go_enter Tryz.func84, Tryz.ntmps84
 go_wp2_with fail
 generalize hV : w.alloc (.cells #[.string f.n, .string f.v] 104) = V
 have aO : Below w.heap.size w V := by rw [← hV]; exact (Below.refl _ _).alloc (Nat.le_refl _) _
 have x0 : V.cell? ⟨w.heap.size, 0, none⟩ = some (.string f.n) := by rw [← hV]; simp
 have x1 : V.cell? ⟨w.heap.size, 1, none⟩ = some (.string f.v) := by rw [← hV]; simp
 have jy : w.heap.size < V.heap.size := by rw [← hV]; simp
 clear hV
 have fC := hide (YD.out.new aO)
 have HOWN := hide (aX YE.out aO)
 have y1 := fC.out.cell (j := 1) rfl
 have hglV : g < V.heap.size := Nat.lt_of_lt_of_le hgl aO.size
 have aP : Below V.heap.size V ((World.drew V).alloc (.cells #[.string f.n, .string f.v] 104)) := aA (ay 1 (Below.refl _ _)) _
 have mP := YF (World.drew V) 104 f
 have sN := (eP HOWN.out).new aP
 refine wp_region_any (by kernel_rfl) ?_; change wpAny _ _ _ _ _ _ _ (World.drew _)
 refine wpAny_take (i := 0) (v := ?_) rfl (by kernel_rfl) (by kernel_rfl) (by kernel_rfl) (fun _ _ _ h => h) (Or.inl ⟨by rfl, ?_⟩) ?_; rotate_left; focus (intro w; go_simp; try with_reducible rfl)
 refine wpAny_take (i := 3) (v := ?_) rfl (by kernel_rfl) (by kernel_rfl) (by kernel_rfl) (fun _ _ _ h => h) (Or.inl ⟨by rfl, ?_⟩) ?_; rotate_left; focus (intro w; go_simp; try with_reducible rfl)
 refine wpAny_take (i := 4) (v := ?_) rfl (by kernel_rfl) (by kernel_rfl) (by kernel_rfl) (fun _ _ _ h => h) (Or.inl ⟨by rfl, ?_⟩) ?_; rotate_left; focus (intro w; go_simp; try with_reducible rfl)
 refine wpAny_take (i := 5) (v := ?_) rfl (by kernel_rfl) (by kernel_rfl) (by kernel_rfl) (fun _ _ _ h => h) (Or.inl ⟨by rfl, ?_⟩) ?_; rotate_left; focus (intro w; go_simp; try with_reducible rfl)
 refine wpAny_ready (rs := [1, 6]) (by kernel_rfl) (by simp) ?_; refine AllReady.cons rfl (fun K hK => ?_) (AllReady.cons rfl (fun K hK => ?_) AllReady.nil)
 ·go_simp; refine hK _ _ ?_; clear hK K
  refine wpAny_ready (rs := [2, 6]) (by kernel_rfl) (by simp) ?_; refine AllReady.cons rfl (fun K hK => ?_) (AllReady.cons rfl (fun K hK => ?_) AllReady.nil)
  ·go_simp; refine hK _ _ ?_; clear hK K
   refine wpAny_ready (rs := [6]) (by kernel_rfl) (by simp) ?_; refine AllReady.cons rfl (fun K hK => ?_) AllReady.nil
   go_simp; refine hK _ _ ?_; clear hK K
   refine wpAny_ready (rs := [7]) (by kernel_rfl) (by simp) ?_; refine AllReady.cons rfl (fun K hK => ?_) AllReady.nil
   refine kL _ (by rfl) _ _ 35 (by rfl) 104 (.agg #[.string ⟨#[]⟩, .string ⟨#[]⟩]) 2 32 Tryz.underlying35 (by kernel_rfl) rfl (by decide) V.heap.size _ 1 (fv [f]) (by rfl) mP _ L.length (fv L) (by rfl) sN (nV _) (by omega) (by decide) aP.size ?_
   intro gH cap5 w5 hown5 eY lC
   have hb5 : Below V.heap.size V w5 := ⟨eY.os.trans aP.os, eY.tape.trans aP.tape, eY.output.trans aP.output, Nat.le_trans aP.size eY.size, fun k hk => (eY.block k (Nat.lt_of_lt_of_le hk aP.size) (fun e => absurd (show V.heap.size ≤ k from (mP.lt k e.symm).1) (Nat.not_le_of_lt hk))).trans (aP.block k hk)⟩
   refine hK _ _ ?_
   clear hK K lC eY
   have mQ := fC.out.new hb5
   have g0 := mQ.cell (j := 1) rfl
   have g1 := mQ.frozen (og + 1)
   have AV := hide mQ; have mR := hide hown5
   clear mQ hown5 x0 x1 y1
   refine wpAny_take (i := 8) (v := ?_) rfl (by kernel_rfl) (by kernel_rfl) (by kernel_rfl) (fun _ _ _ h => h) (Or.inl ⟨by rfl, ?_⟩) ?_; rotate_left; focus (intro w; go_simp; try with_reducible rfl)
   refine wpAny_take (i := 9) (v := ?_) rfl (by kernel_rfl) (by kernel_rfl) (by kernel_rfl) (fun _ _ _ h => h) (Or.inl ⟨by rfl, ?_⟩) ?_; rotate_left; focus (intro w; go_simp; try with_reducible rfl)
   refine wpAny_ready (rs := [10]) (by kernel_rfl) (by simp) ?_; refine AllReady.cons rfl (fun K hK => ?_) AllReady.nil
   go_simp; refine hK _ _ ?_; clear hK K
   refine wpAny_done (by kernel_rfl) ?_ _
   have oZ : jL (w5.setCell ⟨g, og + 1, none⟩ (.slice gH (1 + L.length) cap5)) g ty A C og fK room (f :: L) := by
    have e1 : (f :: L).length = 1 + L.length := by simp; omega
    refine ⟨⟨gH, cap5, by rw [e1]; exact AV.out.set 1 _ (by simp), ?_, ?_, ?_⟩⟩
    ·rw [e1, show fv (f :: L) = fv [f] ++ fv L from yA [f] L]
     exact eG (fD mR.out ⟨g, og + 1, none⟩ _ (fun hq => by have := (mR.out.lt g hq).1; have := aO.size; omega)) (fun q hq => Nat.zero_le _)
    ·rw [e1]; exact fun hq => by have := (mR.out.lt g hq).1; have := aO.size; omega
    ·rw [e1]; exact fun q hq => yL q (by have := (mR.out.lt q hq).1; have := aO.size; omega)
   have fM : Turn g (g + 1) w (w5.setCell ⟨g, og + 1, none⟩ (.slice gH (1 + L.length) cap5)) := ((iL aO g (g + 1)).trans (iL hb5 g (g + 1))).setCell (p := ⟨g, og + 1, none⟩) _ (.inl ⟨Nat.le_refl _, Nat.lt_succ_self _⟩)
   have AX := hide oZ; have jU := hide fM
   clear oZ fM
   generalize w5.setCell ⟨g, og + 1, none⟩ (.slice gH (1 + L.length) cap5) = w6 at *
   go_wp2_with fail
   refine (IE g og ty A C fK room (f :: L) _ AX.out kF.out hroom (by simp only [List.length_cons]; omega)).mono ?_; rintro x w7 ⟨rfl, uO, jC⟩
   have AY := hide uO
   clear uO
   go_wp2_with fail
   refine bodyPost_end (v := .tuple #[]) (by simp [results, Tryz.results84, go_sem]) rfl ?_
   exact ⟨rfl, AY.out, jU.out.trans jC⟩
  ·go_simp; refine hK _ _ ?_; clear hK K
   refine wpAny_ready (rs := [2]) (by kernel_rfl) (by simp) ?_; refine AllReady.cons rfl (fun K hK => ?_) AllReady.nil
   go_simp; refine hK _ _ ?_; clear hK K
   refine wpAny_ready (rs := [7]) (by kernel_rfl) (by simp) ?_; refine AllReady.cons rfl (fun K hK => ?_) AllReady.nil
   refine kL _ (by rfl) _ _ 35 (by rfl) 104 (.agg #[.string ⟨#[]⟩, .string ⟨#[]⟩]) 2 32 Tryz.underlying35 (by kernel_rfl) rfl (by decide) V.heap.size _ 1 (fv [f]) (by rfl) mP _ L.length (fv L) (by rfl) sN (nV _) (by omega) (by decide) aP.size ?_
   intro gH cap5 w5 hown5 eY lC
   have hb5 : Below V.heap.size V w5 := ⟨eY.os.trans aP.os, eY.tape.trans aP.tape, eY.output.trans aP.output, Nat.le_trans aP.size eY.size, fun k hk => (eY.block k (Nat.lt_of_lt_of_le hk aP.size) (fun e => absurd (show V.heap.size ≤ k from (mP.lt k e.symm).1) (Nat.not_le_of_lt hk))).trans (aP.block k hk)⟩
   refine hK _ _ ?_
   clear hK K lC eY
   have mQ := fC.out.new hb5
   have g0 := mQ.cell (j := 1) rfl
   have g1 := mQ.frozen (og + 1)
   have AV := hide mQ; have mR := hide hown5
   clear mQ hown5 x0 x1 y1
   refine wpAny_take (i := 8) (v := ?_) rfl (by kernel_rfl) (by kernel_rfl) (by kernel_rfl) (fun _ _ _ h => h) (Or.inl ⟨by rfl, ?_⟩) ?_; rotate_left; focus (intro w; go_simp; try with_reducible rfl)
   refine wpAny_take (i := 9) (v := ?_) rfl (by kernel_rfl) (by kernel_rfl) (by kernel_rfl) (fun _ _ _ h => h) (Or.inl ⟨by rfl, ?_⟩) ?_; rotate_left; focus (intro w; go_simp; try with_reducible rfl)
   refine wpAny_ready (rs := [10]) (by kernel_rfl) (by simp) ?_; refine AllReady.cons rfl (fun K hK => ?_) AllReady.nil
   go_simp; refine hK _ _ ?_; clear hK K
   refine wpAny_done (by kernel_rfl) ?_ _
   have oZ : jL (w5.setCell ⟨g, og + 1, none⟩ (.slice gH (1 + L.length) cap5)) g ty A C og fK room (f :: L) := by
    have e1 : (f :: L).length = 1 + L.length := by simp; omega
    refine ⟨⟨gH, cap5, by rw [e1]; exact AV.out.set 1 _ (by simp), ?_, ?_, ?_⟩⟩
    ·rw [e1, show fv (f :: L) = fv [f] ++ fv L from yA [f] L]
     exact eG (fD mR.out ⟨g, og + 1, none⟩ _ (fun hq => by have := (mR.out.lt g hq).1; have := aO.size; omega)) (fun q hq => Nat.zero_le _)
    ·rw [e1]; exact fun hq => by have := (mR.out.lt g hq).1; have := aO.size; omega
    ·rw [e1]; exact fun q hq => yL q (by have := (mR.out.lt q hq).1; have := aO.size; omega)
   have fM : Turn g (g + 1) w (w5.setCell ⟨g, og + 1, none⟩ (.slice gH (1 + L.length) cap5)) := ((iL aO g (g + 1)).trans (iL hb5 g (g + 1))).setCell (p := ⟨g, og + 1, none⟩) _ (.inl ⟨Nat.le_refl _, Nat.lt_succ_self _⟩)
   have AX := hide oZ; have jU := hide fM
   clear oZ fM
   generalize w5.setCell ⟨g, og + 1, none⟩ (.slice gH (1 + L.length) cap5) = w6 at *
   go_wp2_with fail
   refine (IE g og ty A C fK room (f :: L) _ AX.out kF.out hroom (by simp only [List.length_cons]; omega)).mono ?_; rintro x w7 ⟨rfl, uO, jC⟩
   have AY := hide uO
   clear uO
   go_wp2_with fail
   refine bodyPost_end (v := .tuple #[]) (by simp [results, Tryz.results84, go_sem]) rfl ?_
   exact ⟨rfl, AY.out, jU.out.trans jC⟩
 ·go_simp; refine hK _ _ ?_; clear hK K
  refine wpAny_ready (rs := [1]) (by kernel_rfl) (by simp) ?_; refine AllReady.cons rfl (fun K hK => ?_) AllReady.nil
  go_simp; refine hK _ _ ?_; clear hK K
  refine wpAny_ready (rs := [2]) (by kernel_rfl) (by simp) ?_; refine AllReady.cons rfl (fun K hK => ?_) AllReady.nil
  go_simp; refine hK _ _ ?_; clear hK K
  refine wpAny_ready (rs := [7]) (by kernel_rfl) (by simp) ?_; refine AllReady.cons rfl (fun K hK => ?_) AllReady.nil
  refine kL _ (by rfl) _ _ 35 (by rfl) 104 (.agg #[.string ⟨#[]⟩, .string ⟨#[]⟩]) 2 32 Tryz.underlying35 (by kernel_rfl) rfl (by decide) V.heap.size _ 1 (fv [f]) (by rfl) mP _ L.length (fv L) (by rfl) sN (nV _) (by omega) (by decide) aP.size ?_
  intro gH cap5 w5 hown5 eY lC
  have hb5 : Below V.heap.size V w5 := ⟨eY.os.trans aP.os, eY.tape.trans aP.tape, eY.output.trans aP.output, Nat.le_trans aP.size eY.size, fun k hk => (eY.block k (Nat.lt_of_lt_of_le hk aP.size) (fun e => absurd (show V.heap.size ≤ k from (mP.lt k e.symm).1) (Nat.not_le_of_lt hk))).trans (aP.block k hk)⟩
  refine hK _ _ ?_
  clear hK K lC eY
  have mQ := fC.out.new hb5
  have g0 := mQ.cell (j := 1) rfl
  have g1 := mQ.frozen (og + 1)
  have AV := hide mQ; have mR := hide hown5
  clear mQ hown5 x0 x1 y1
  refine wpAny_take (i := 8) (v := ?_) rfl (by kernel_rfl) (by kernel_rfl) (by kernel_rfl) (fun _ _ _ h => h) (Or.inl ⟨by rfl, ?_⟩) ?_; rotate_left; focus (intro w; go_simp; try with_reducible rfl)
  refine wpAny_take (i := 9) (v := ?_) rfl (by kernel_rfl) (by kernel_rfl) (by kernel_rfl) (fun _ _ _ h => h) (Or.inl ⟨by rfl, ?_⟩) ?_; rotate_left; focus (intro w; go_simp; try with_reducible rfl)
  refine wpAny_ready (rs := [10]) (by kernel_rfl) (by simp) ?_; refine AllReady.cons rfl (fun K hK => ?_) AllReady.nil
  go_simp; refine hK _ _ ?_; clear hK K
  refine wpAny_done (by kernel_rfl) ?_ _
  have oZ : jL (w5.setCell ⟨g, og + 1, none⟩ (.slice gH (1 + L.length) cap5)) g ty A C og fK room (f :: L) := by
   have e1 : (f :: L).length = 1 + L.length := by simp; omega
   refine ⟨⟨gH, cap5, by rw [e1]; exact AV.out.set 1 _ (by simp), ?_, ?_, ?_⟩⟩
   ·rw [e1, show fv (f :: L) = fv [f] ++ fv L from yA [f] L]
    exact eG (fD mR.out ⟨g, og + 1, none⟩ _ (fun hq => by have := (mR.out.lt g hq).1; have := aO.size; omega)) (fun q hq => Nat.zero_le _)
   ·rw [e1]; exact fun hq => by have := (mR.out.lt g hq).1; have := aO.size; omega
   ·rw [e1]; exact fun q hq => yL q (by have := (mR.out.lt q hq).1; have := aO.size; omega)
  have fM : Turn g (g + 1) w (w5.setCell ⟨g, og + 1, none⟩ (.slice gH (1 + L.length) cap5)) := ((iL aO g (g + 1)).trans (iL hb5 g (g + 1))).setCell (p := ⟨g, og + 1, none⟩) _ (.inl ⟨Nat.le_refl _, Nat.lt_succ_self _⟩)
  have AX := hide oZ; have jU := hide fM
  clear oZ fM
  generalize w5.setCell ⟨g, og + 1, none⟩ (.slice gH (1 + L.length) cap5) = w6 at *
  go_wp2_with fail
  refine (IE g og ty A C fK room (f :: L) _ AX.out kF.out hroom (by simp only [List.length_cons]; omega)).mono ?_; rintro x w7 ⟨rfl, uO, jC⟩
  have AY := hide uO
  clear uO
  go_wp2_with fail
  refine bodyPost_end (v := .tuple #[]) (by simp [results, Tryz.results84, go_sem]) rfl ?_
  exact ⟨rfl, AY.out, jU.out.trans jC⟩
end Go.Proofs.YtlpbnkideaojeaaGreatDoor
