/- Frames in plain words: numbers as bytes, heads, frames that are shown and told, in whatever pieces. -/
import Derived.Test.YtelcnojmfkoboaaDoorByteMath
import Derived.Test.YtelcnojmfkoboaaDoorInB
namespace Go.Proofs.YtelcnojmfkoboaaDoor
open Go.RowKit
set_option maxRecDepth 100000
set_option linter.unusedSimpArgs false
set_option linter.unusedVariables false

/-- A number as bytes, the highest first: so many of them. -/
def bytL : Nat → Int → List Int
  | 0, _ => []
  | c + 1, n => bytL c (n / 256) ++ [n % 256]
theorem bytL_len (c : Nat) : ∀ n, (bytL c n).length = c := by
  induction c with
  | zero => intro n; rfl
  | succ c ih => intro n; simp [bytL, ih]
theorem bytL_range (c : Nat) : ∀ n, ∀ x ∈ bytL c n, 0 ≤ x ∧ x ≤ 255 := by
  induction c with
  | zero => intro n x hx; cases hx
  | succ c ih =>
    intro n x hx
    rcases List.mem_append.1 hx with h | h
    · exact ih _ x h
    · simp at h; omega
def bytV (c : Nat) (n : Int) : ByteArray := strOf (bytL c n)
theorem bytV_size (c : Nat) (n : Int) : (bytV c n).size = c := by unfold bytV; rw [strOf_size, bytL_len]
theorem bytV_bys (c : Nat) (n : Int) : bys (bytV c n) = bytL c n := bys_strOf (bytL_range c n)
theorem snoc_ind {P : List Int → Prop} (h0 : P []) (h1 : ∀ l x, P l → P (l ++ [x])) (l : List Int) : P l := by
  have key : ∀ (n : Nat) (l : List Int), l.length = n → P l := by
    intro n
    induction n with
    | zero => intro l hl; rw [List.length_eq_zero_iff.1 hl]; exact h0
    | succ n ih =>
      intro l hl
      have hne : l ≠ [] := fun e => by rw [e] at hl; simp at hl
      rw [← List.dropLast_concat_getLast hne]
      exact h1 _ _ (ih _ (by simp [hl]))
  exact key _ l rfl
/-- Bytes as a number, the highest first. -/
def numL (l : List Int) : Int := l.foldl (fun a x => a * 256 + x) 0
theorem numL_snoc (l : List Int) (x : Int) : numL (l ++ [x]) = numL l * 256 + x := by simp [numL]
theorem numL_range {l : List Int} : (∀ x ∈ l, 0 ≤ x ∧ x ≤ 255) → 0 ≤ numL l ∧ numL l < 256 ^ l.length := by
  refine snoc_ind (P := fun l => (∀ x ∈ l, 0 ≤ x ∧ x ≤ 255) → 0 ≤ numL l ∧ numL l < 256 ^ l.length) ?_ ?_ l
  · intro h; simp [numL]
  · intro l x ih h
    have i := ih fun y hy => h y (by simp [hy])
    have hx := h x (by simp)
    rw [numL_snoc, List.length_append, List.length_singleton, Int.pow_succ]
    omega
def numV (s : ByteArray) : Int := if 4 < s.size then -1 else numL (bys s)
theorem num_byt (c : Nat) : ∀ n : Int, 0 ≤ n → n < 256 ^ c → numL (bytL c n) = n := by
  induction c with
  | zero => intro n h0 h1; simp at h1; simp [bytL, numL]; omega
  | succ c ih =>
    intro n h0 h1
    rw [Int.pow_succ] at h1
    rw [bytL, numL_snoc, ih (n / 256) (by omega) (by omega)]
    omega
theorem byt_num {l : List Int} : (∀ x ∈ l, 0 ≤ x ∧ x ≤ 255) → bytL l.length (numL l) = l := by
  refine snoc_ind (P := fun l => (∀ x ∈ l, 0 ≤ x ∧ x ≤ 255) → bytL l.length (numL l) = l) ?_ ?_ l
  · intro h; rfl
  · intro l x ih h
    have i := ih fun y hy => h y (by simp [hy])
    have hx := h x (by simp)
    rw [List.length_append, List.length_singleton, numL_snoc, bytL, show (numL l * 256 + x) / 256 = numL l by omega, show (numL l * 256 + x) % 256 = x by omega, i]
/-- NUMBER OF BYTES IS THE NUMBER, BYTES OF A NUMBER ARE THE BYTES. -/
theorem law_num {c : Nat} {n : Int} (hc : c ≤ 4) (h0 : 0 ≤ n) (h1 : n < 256 ^ c) : numV (bytV c n) = n := by
  unfold numV
  rw [bytV_size, if_neg (by omega), bytV_bys, num_byt c n h0 h1]
theorem law_byt {s : ByteArray} (h : s.size ≤ 4) : bytV s.size (numV s) = s := by
  unfold numV
  rw [if_neg (by omega)]
  refine bys_inj ?_
  rw [bytV_bys, ← bys_len, byt_num (bys_range s)]
theorem numV_range {s : ByteArray} (h : s.size ≤ 4) : 0 ≤ numV s ∧ numV s < 256 ^ s.size := by
  unfold numV
  rw [if_neg (by omega), ← bys_len]
  exact numL_range (bys_range s)
theorem numV_long {s : ByteArray} (h : 4 < s.size) : numV s = -1 := by unfold numV; rw [if_pos h]

/-- A Frame. -/
structure Fr where
  k : Int
  fl : Int
  st : Int
  b : ByteArray
/-- May a frame with this head be right? -/
def hdOk (k fl st n : Int) : Bool :=
  if inB fl 0 3 = false ∨ inB st 0 100000 = false ∨ inB n 0 1000 = false then false
  else if k = 1 then decide (0 < st) && (decide (fl < 2) || decide (0 < n))
  else if k = 2 then decide (0 < st) && decide (fl ≤ 1)
  else if k = 3 then decide (0 < st) && (decide (n = 1) && decide (fl = 0))
  else if k = 4 then decide (st = 0) && ((decide (n = 0) || decide (n = 3)) && decide (fl = 0))
  else if k = 5 then decide (st = 0) && (decide (n = 4) && decide (fl ≤ 1))
  else if k = 6 then decide (st = 0) && (decide (n = 4) && decide (fl = 0))
  else if k = 7 then decide (n = 3) && decide (fl = 0)
  else false
/-- The first byte, as a number; -1: there is none. -/
def fst0 (s : ByteArray) : Int := match bys s with | [] => -1 | x :: _ => x
def okFr (f : Fr) : Bool :=
  hdOk f.k f.fl f.st f.b.size &&
    (if f.k = 1 ∧ 2 ≤ f.fl then decide (fst0 f.b ≤ (f.b.size : Int) - 1) else if f.k = 7 then !(f.b.toList == (⟨#[0, 0, 0]⟩ : ByteArray).toList) else true)
theorem hd_parts {k fl st n : Int} (h : hdOk k fl st n = true) : 0 ≤ fl ∧ fl ≤ 3 ∧ 0 ≤ st ∧ st ≤ 100000 ∧ 0 ≤ n ∧ n ≤ 1000 ∧ 1 ≤ k ∧ k ≤ 7 := by
  unfold hdOk at h
  split at h
  · cases h
  · rename_i hc
    have h1 : inB fl 0 3 = true := by cases e : inB fl 0 3 <;> simp_all
    have h2 : inB st 0 100000 = true := by cases e : inB st 0 100000 <;> simp_all
    have h3 : inB n 0 1000 = true := by cases e : inB n 0 1000 <;> simp_all
    have i1 := inB_true h1
    have i2 := inB_true h2
    have i3 := inB_true h3
    have hk : 1 ≤ k ∧ k ≤ 7 := by
      repeat' split at h
      all_goals first | omega | cases h
    omega
theorem ok_head {f : Fr} (h : okFr f = true) : hdOk f.k f.fl f.st f.b.size = true := by unfold okFr at h; simp only [Bool.and_eq_true] at h; exact h.1

/-- The head of a frame: seven bytes. -/
def hdV (f : Fr) : ByteArray := bytV 2 f.b.size ++ (strOf [f.k, f.fl] ++ bytV 3 f.st)
def shwV (f : Fr) : ByteArray := if okFr f then hdV f ++ f.b else ⟨#[]⟩
theorem hdV_size (f : Fr) : (hdV f).size = 7 := by
  unfold hdV
  rw [ba_size_append, ba_size_append, bytV_size, bytV_size, strOf_size]; rfl
/-- What seven bytes tell: how many bytes come behind them, and the frame but for these. -/
def hdN (s : ByteArray) : Int := numV (s.extract 0 2)
def hdF (s b : ByteArray) : Fr := ⟨fst0 (s.extract 2 3), fst0 (s.extract 3 4), numV (s.extract 4 7), b⟩
def noFr : Fr := ⟨0, 0, 0, ⟨#[]⟩⟩
/-- One step: 0: more bytes are wanted; 1: no frame begins so; 2: a frame, and how many bytes it takes. -/
def stp (s : ByteArray) : Nat × Fr × Nat :=
  if s.size < 7 then (0, noFr, 0)
  else if hdOk (hdF s ⟨#[]⟩).k (hdF s ⟨#[]⟩).fl (hdF s ⟨#[]⟩).st (hdN s) = false then (1, noFr, 0)
  else if (s.size : Int) < 7 + hdN s then (0, noFr, 0)
  else if okFr (hdF s (s.extract 7 (7 + (hdN s).toNat))) = false then (1, noFr, 0)
  else (2, hdF s (s.extract 7 (7 + (hdN s).toNat)), 7 + (hdN s).toNat)
/-- The frames with which a text begins, what is left, and whether it may go on so. -/
def frmF : Nat → List Fr → ByteArray → List Fr × ByteArray × Bool
  | 0, out, s => (out, s, true)
  | n + 1, out, s =>
    if (stp s).1 = 0 then (out, s, true)
    else if (stp s).1 = 1 then (out, s, false)
    else frmF n (out ++ [(stp s).2.1]) (s.extract (stp s).2.2 s.size)
def frmV (s : ByteArray) : List Fr × ByteArray × Bool := frmF (s.size + 1) [] s

theorem fst0_one {x : Int} {s : ByteArray} (h : bys s = [x]) : fst0 s = x := by unfold fst0; rw [h]
/-- Seven bytes at least: the first of them by name. -/
theorem seven {s : ByteArray} (h : 7 ≤ s.size) : ∃ a0 a1 k f c0 c1 c2 r, bys s = a0 :: a1 :: k :: f :: c0 :: c1 :: c2 :: r := by
  have hl := bys_len s
  match e : bys s with
  | [] => rw [e] at hl; simp at hl; omega
  | [_] => rw [e] at hl; simp at hl; omega
  | [_, _] => rw [e] at hl; simp at hl; omega
  | [_, _, _] => rw [e] at hl; simp at hl; omega
  | [_, _, _, _] => rw [e] at hl; simp at hl; omega
  | [_, _, _, _, _] => rw [e] at hl; simp at hl; omega
  | [_, _, _, _, _, _] => rw [e] at hl; simp at hl; omega
  | a0 :: a1 :: k :: f :: c0 :: c1 :: c2 :: r => exact ⟨a0, a1, k, f, c0, c1, c2, r, rfl⟩
theorem head7 {s : ByteArray} {a0 a1 k f c0 c1 c2 : Int} {r : List Int} (h : bys s = a0 :: a1 :: k :: f :: c0 :: c1 :: c2 :: r) (b : ByteArray) :
    hdN s = a0 * 256 + a1 ∧ hdF s b = ⟨k, f, (c0 * 256 + c1) * 256 + c2, b⟩ := by
  have hz : 7 ≤ s.size := by have := bys_len s; rw [h] at this; simp at this; omega
  have e1 : bys (s.extract 0 2) = [a0, a1] := by rw [bys_extract, h]; rfl
  have e2 : bys (s.extract 2 3) = [k] := by rw [bys_extract, h]; rfl
  have e3 : bys (s.extract 3 4) = [f] := by rw [bys_extract, h]; rfl
  have e4 : bys (s.extract 4 7) = [c0, c1, c2] := by rw [bys_extract, h]; rfl
  have z1 : (s.extract 0 2).size = 2 := by rw [← bys_len, e1]; rfl
  have z4 : (s.extract 4 7).size = 3 := by rw [← bys_len, e4]; rfl
  refine ⟨?_, ?_⟩
  · unfold hdN numV
    rw [z1, if_neg (by omega), e1]
    simp [numL]
  · unfold hdF
    rw [fst0_one e2, fst0_one e3]
    unfold numV
    rw [z4, if_neg (by omega), e4]
    simp [numL]
theorem bytL2 (n : Int) : bytL 2 n = [n / 256 % 256, n % 256] := rfl
theorem bytL3 (n : Int) : bytL 3 n = [n / 256 / 256 % 256, n / 256 % 256, n % 256] := rfl
theorem hdV_bys {f : Fr} (h1 : 0 ≤ f.k ∧ f.k ≤ 255) (h2 : 0 ≤ f.fl ∧ f.fl ≤ 255) (t : ByteArray) :
    bys (hdV f ++ t) = ((f.b.size : Int) / 256 % 256) :: ((f.b.size : Int) % 256) :: f.k :: f.fl :: (f.st / 256 / 256 % 256) :: (f.st / 256 % 256) :: (f.st % 256) :: bys t := by
  unfold hdV
  rw [bys_append, bys_append, bys_append, bytV_bys, bytV_bys, bytL2, bytL3, bys_strOf (l := [f.k, f.fl]) (by intro x hx; simp at hx; rcases hx with rfl | rfl; exact h1; exact h2)]
  rfl
/-- A frame is told of what it is shown as, whatever comes behind. -/
theorem stp_shown {f : Fr} (h : okFr f = true) (t : ByteArray) : stp (hdV f ++ (f.b ++ t)) = (2, f, 7 + f.b.size) := by
  have hh := ok_head h
  obtain ⟨p1, p2, p3, p4, p5, p6, p7, p8⟩ := hd_parts hh
  have hb := hdV_bys (f := f) (by omega) (by omega) (f.b ++ t)
  obtain ⟨e1, _⟩ := head7 hb ⟨#[]⟩
  have eN : hdN (hdV f ++ (f.b ++ t)) = f.b.size := by rw [e1]; omega
  have eF : ∀ b, hdF (hdV f ++ (f.b ++ t)) b = ⟨f.k, f.fl, f.st, b⟩ := fun b => by
    rw [(head7 hb b).2]
    have : (f.st / 256 / 256 % 256 * 256 + f.st / 256 % 256) * 256 + f.st % 256 = f.st := by omega
    rw [this]
  have hz : (hdV f ++ (f.b ++ t)).size = 7 + f.b.size + t.size := by rw [ba_size_append, ba_size_append, hdV_size]; omega
  have hx : (hdV f ++ (f.b ++ t)).extract 7 (7 + f.b.size) = f.b := by
    have := ba_mid (hdV f) f.b t
    rw [hdV_size, ba_append_assoc] at this
    exact this
  unfold stp
  rw [eN, if_neg (by omega), eF]
  simp only
  rw [if_neg (by rw [hh]; simp), if_neg (by omega), Int.toNat_natCast, hx, eF, if_neg (by rw [h]; simp)]
/-- What is told begins the text, and is right. -/
theorem stp_is {s : ByteArray} (h : (stp s).1 ≠ 0) (h' : (stp s).1 ≠ 1) : okFr (stp s).2.1 = true ∧ (stp s).2.2 = 7 + (stp s).2.1.b.size ∧ (stp s).2.2 ≤ s.size ∧ s = (hdV (stp s).2.1 ++ (stp s).2.1.b) ++ s.extract (stp s).2.2 s.size ∧ (stp s).1 = 2 := by
  unfold stp at h h' ⊢
  split at h
  · simp at h
  rename_i c1
  rw [if_neg c1] at h' ⊢
  split at h'
  · simp at h'
  rename_i c2
  rw [if_neg c2] at h ⊢
  split at h
  · simp at h
  rename_i c3
  rw [if_neg c3] at h' ⊢
  split at h'
  · simp at h'
  rename_i c4
  rw [if_neg c4]
  simp only
  obtain ⟨a0, a1, k, f, c0, c1', c2', r, hb⟩ := seven (s := s) (by omega)
  have hr := bys_range s
  rw [hb] at hr
  have ra0 := hr a0 (by simp)
  have ra1 := hr a1 (by simp)
  have rk := hr k (by simp)
  have rf := hr f (by simp)
  have rc0 := hr c0 (by simp)
  have rc1 := hr c1' (by simp)
  have rc2 := hr c2' (by simp)
  have e1 := (head7 hb ⟨#[]⟩).1
  have eF := fun b => (head7 hb b).2
  have hN : (hdN s).toNat = (a0 * 256 + a1).toNat := by rw [e1]
  have hle : 7 + (hdN s).toNat ≤ s.size := by omega
  have hbz : (s.extract 7 (7 + (hdN s).toNat)).size = (hdN s).toNat := by rw [ba_extract_size hle (by omega)]; omega
  have hok : okFr (hdF s (s.extract 7 (7 + (hdN s).toNat))) = true := by simpa using c4
  refine ⟨hok, by rw [eF]; simp only; rw [hbz], hle, ?_, trivial⟩
  have hsz : ((hdV (hdF s (s.extract 7 (7 + (hdN s).toNat)))) ++ s.extract 7 (7 + (hdN s).toNat)) = s.extract 0 (7 + (hdN s).toNat) := by
    refine bys_inj ?_
    have hk2 : (hdF s (s.extract 7 (7 + (hdN s).toNat))).k = k := by rw [eF]
    have hf2 : (hdF s (s.extract 7 (7 + (hdN s).toNat))).fl = f := by rw [eF]
    have hs2 : (hdF s (s.extract 7 (7 + (hdN s).toNat))).st = (c0 * 256 + c1') * 256 + c2' := by rw [eF]
    have hb2 : (hdF s (s.extract 7 (7 + (hdN s).toNat))).b = s.extract 7 (7 + (hdN s).toNat) := by rw [eF]
    rw [hdV_bys (by rw [hk2]; omega) (by rw [hf2]; omega), hk2, hf2, hs2, hb2, hbz, bys_extract, bys_extract, hb]
    have hn : ((hdN s).toNat : Int) = a0 * 256 + a1 := by omega
    rw [hn, Nat.add_comm 7]
    simp only [List.take_succ_cons, List.drop_succ_cons, List.drop_zero]
    have q1 : (a0 * 256 + a1) / 256 % 256 = a0 := by omega
    have q2 : (a0 * 256 + a1) % 256 = a1 := by omega
    have q3 : ((c0 * 256 + c1') * 256 + c2') / 256 / 256 % 256 = c0 := by omega
    have q4 : ((c0 * 256 + c1') * 256 + c2') / 256 % 256 = c1' := by omega
    have q5 : ((c0 * 256 + c1') * 256 + c2') % 256 = c2' := by omega
    rw [q1, q2, q3, q4, q5]
  have hb3 : (hdF s (s.extract 7 (7 + (hdN s).toNat))).b = s.extract 7 (7 + (hdN s).toNat) := by rw [eF]
  rw [hb3, hsz]
  exact (ba_split s _ hle).symm

theorem stp_three (s : ByteArray) : (stp s).1 = 0 ∨ (stp s).1 = 1 ∨ (stp s).1 = 2 := by
  by_cases h0 : (stp s).1 = 0
  · exact .inl h0
  · by_cases h1 : (stp s).1 = 1
    · exact .inr (.inl h1)
    · exact .inr (.inr (stp_is h0 h1).2.2.2.2)
theorem stp_two {s : ByteArray} (h : (stp s).1 = 2) : okFr (stp s).2.1 = true ∧ (stp s).2.2 = 7 + (stp s).2.1.b.size ∧ (stp s).2.2 ≤ s.size ∧ s = (hdV (stp s).2.1 ++ (stp s).2.1.b) ++ s.extract (stp s).2.2 s.size := by
  obtain ⟨a, b, c, d, _⟩ := stp_is (s := s) (by omega) (by omega)
  exact ⟨a, b, c, d⟩
theorem rest_size {s : ByteArray} (h : (stp s).1 = 2) : (s.extract (stp s).2.2 s.size).size < s.size := by
  obtain ⟨_, h2, h3, _⟩ := stp_two h
  rw [ba_extract_size (Nat.le_refl _) h3]; omega
theorem frm_out (n : Nat) : ∀ (out : List Fr) (s : ByteArray), frmF n out s = (out ++ (frmF n [] s).1, (frmF n [] s).2) := by
  induction n with
  | zero => intro out s; simp [frmF]
  | succ n ih =>
    intro out s
    rw [frmF, frmF]
    split
    · simp
    · split
      · simp
      · rw [ih, ih ([] ++ [_])]; simp
theorem frm_fuel (n : Nat) : ∀ (m : Nat) (out : List Fr) (s : ByteArray), s.size < n → s.size < m → frmF n out s = frmF m out s := by
  induction n with
  | zero => intro m out s h; omega
  | succ n ih =>
    intro m out s h1 h2
    cases m with
    | zero => omega
    | succ m =>
      rw [frmF, frmF]
      split
      · rfl
      · split
        · rfl
        · rename_i c0 c1
          have h := (stp_is c0 c1).2.2.2.2
          have hr := rest_size h
          exact ih m _ _ (by omega) (by omega)
/-- The frames of a text, one step at a time. -/
theorem frm_step (s : ByteArray) : frmV s = if (stp s).1 = 0 then ([], s, true) else if (stp s).1 = 1 then ([], s, false) else ((stp s).2.1 :: (frmV (s.extract (stp s).2.2 s.size)).1, (frmV (s.extract (stp s).2.2 s.size)).2) := by
  conv => lhs; unfold frmV
  rw [frmF]
  split
  · rfl
  · split
    · rfl
    · rename_i c0 c1
      have h := (stp_is c0 c1).2.2.2.2
      have hr := rest_size h
      rw [frm_out, frm_fuel s.size ((s.extract (stp s).2.2 s.size).size + 1) _ _ hr (by omega)]
      rfl
/-- What the frames of a list are shown as, one behind the other. -/
def catV : List Fr → ByteArray
  | [] => ⟨#[]⟩
  | f :: l => shwV f ++ catV l
theorem catV_cons (f : Fr) (l : List Fr) : catV (f :: l) = shwV f ++ catV l := rfl
theorem shw_ok {f : Fr} (h : okFr f = true) : shwV f = hdV f ++ f.b := by unfold shwV; rw [if_pos h]
/-- WHAT IS TOLD IS RIGHT, AND SHOWN IT IS THE TEXT, with what is left behind it. -/
theorem law_told (n : Nat) : ∀ s : ByteArray, s.size ≤ n → (∀ f ∈ (frmV s).1, okFr f = true) ∧ catV (frmV s).1 ++ (frmV s).2.1 = s := by
  induction n with
  | zero =>
    intro s h
    have h0 : (stp s).1 = 0 := by unfold stp; rw [if_pos (by omega)]
    rw [frm_step, if_pos h0]
    exact ⟨fun f hf => (by cases hf), by show (⟨#[]⟩ : ByteArray) ++ s = s; exact ba_nil_append s⟩
  | succ n ih =>
    intro s h
    rw [frm_step]
    split
    · exact ⟨fun f hf => (by cases hf), by show (⟨#[]⟩ : ByteArray) ++ s = s; exact ba_nil_append s⟩
    · split
      · exact ⟨fun f hf => (by cases hf), by show (⟨#[]⟩ : ByteArray) ++ s = s; exact ba_nil_append s⟩
      · rename_i c0 c1
        have h2 := (stp_is c0 c1).2.2.2.2
        obtain ⟨hok, _, _, hs⟩ := stp_two h2
        have hr := rest_size h2
        obtain ⟨i1, i2⟩ := ih (s.extract (stp s).2.2 s.size) (by omega)
        refine ⟨fun f hf => ?_, ?_⟩
        · rcases List.mem_cons.1 hf with rfl | hf
          · exact hok
          · exact i1 f hf
        · dsimp only
          rw [catV_cons]
          have hw := shw_ok hok
          generalize stp s = S at hs i2 hw ⊢
          rw [ba_append_assoc, i2, hw]
          exact hs.symm
/-- A frame ahead of whatever else. -/
theorem frm_cons {f : Fr} (h : okFr f = true) (u : ByteArray) : frmV (shwV f ++ u) = (f :: (frmV u).1, (frmV u).2) := by
  have e : shwV f ++ u = hdV f ++ (f.b ++ u) := by rw [shw_ok h, ba_append_assoc]
  have hs := stp_shown h u
  rw [frm_step, e, hs]
  simp only
  have hx : (hdV f ++ (f.b ++ u)).extract (7 + f.b.size) (hdV f ++ (f.b ++ u)).size = u := by
    have h2 : (hdV f ++ f.b).size = 7 + f.b.size := by rw [ba_size_append, hdV_size]
    rw [← ba_append_assoc, ← h2]
    exact ba_right _ _
  rw [hx]
  simp
theorem ext_left {p q : ByteArray} {i j : Nat} (h : j ≤ p.size) : (p ++ q).extract i j = p.extract i j := by
  refine bys_inj ?_
  rw [bys_extract, bys_extract, bys_append, List.take_append_of_le_length (by rw [bys_len]; exact h)]
theorem ext_rest {p q : ByteArray} {m : Nat} (h : m ≤ p.size) : (p ++ q).extract m (p ++ q).size = p.extract m p.size ++ q := by
  refine bys_inj ?_
  have t1 : (bys (p ++ q)).take (p ++ q).size = bys (p ++ q) := List.take_of_length_le (by rw [bys_len]; omega)
  have t2 : (bys p).take p.size = bys p := List.take_of_length_le (by rw [bys_len]; omega)
  rw [bys_extract, t1, bys_append, bys_append, bys_extract, t2, List.drop_append_of_le_length (by rw [bys_len]; exact h)]
theorem head_same {p : ByteArray} (h : 7 ≤ p.size) (q : ByteArray) : hdN (p ++ q) = hdN p ∧ ∀ b, hdF (p ++ q) b = hdF p b := by
  refine ⟨?_, fun b => ?_⟩
  · unfold hdN; rw [ext_left (by omega)]
  · unfold hdF; rw [ext_left (by omega), ext_left (by omega), ext_left (by omega)]
theorem stp_more {p : ByteArray} (h : (stp p).1 = 2) (q : ByteArray) : stp (p ++ q) = stp p := by
  obtain ⟨hok, h2, h3, hs⟩ := stp_two h
  have e : p ++ q = hdV (stp p).2.1 ++ ((stp p).2.1.b ++ (p.extract (stp p).2.2 p.size ++ q)) := by
    conv => lhs; rw [hs]
    rw [ba_append_assoc, ba_append_assoc]
  have := stp_shown hok (p.extract (stp p).2.2 p.size ++ q)
  rw [← e] at this
  rw [this, ← h2, ← h]
theorem stp_bad {p : ByteArray} (h : (stp p).1 = 1) (q : ByteArray) : (stp (p ++ q)).1 = 1 := by
  have hz := ba_size_append p q
  unfold stp at h
  split at h
  · simp at h
  rename_i c1
  obtain ⟨hN, hF⟩ := head_same (p := p) (by omega) q
  split at h
  · rename_i c2
    unfold stp
    rw [if_neg (by omega), hN, hF, if_pos c2]
  · rename_i c2
    split at h
    · simp at h
    rename_i c3
    split at h
    · rename_i c4
      unfold stp
      rw [if_neg (by omega), hN, hF, if_neg c2, if_neg (by omega), ext_left (by omega), hF, if_pos c4]
    · simp at h
/-- IN WHATEVER PIECES. -/
theorem law_pieces (n : Nat) : ∀ p : ByteArray, p.size ≤ n → ∀ q, ((frmV p).2.2 = true → frmV (p ++ q) = ((frmV p).1 ++ (frmV ((frmV p).2.1 ++ q)).1, (frmV ((frmV p).2.1 ++ q)).2)) ∧ ((frmV p).2.2 = false → frmV (p ++ q) = ((frmV p).1, (frmV p).2.1 ++ q, false)) := by
  induction n with
  | zero =>
    intro p h q
    have h0 : (stp p).1 = 0 := by unfold stp; rw [if_pos (by omega)]
    have e : frmV p = ([], p, true) := by rw [frm_step, if_pos h0]
    rw [e]
    exact ⟨fun _ => rfl, fun h => (by cases h)⟩
  | succ n ih =>
    intro p h q
    rcases stp_three p with h0 | h1 | h2
    · have e : frmV p = ([], p, true) := by rw [frm_step, if_pos h0]
      rw [e]
      exact ⟨fun _ => rfl, fun h => (by cases h)⟩
    · have e : frmV p = ([], p, false) := by rw [frm_step, if_neg (by omega), if_pos h1]
      rw [e]
      refine ⟨fun h => (by cases h), fun _ => ?_⟩
      have hb := stp_bad h1 q
      rw [frm_step, if_neg (by omega), if_pos hb]
    · have e : frmV p = ((stp p).2.1 :: (frmV (p.extract (stp p).2.2 p.size)).1, (frmV (p.extract (stp p).2.2 p.size)).2) := by rw [frm_step, if_neg (by omega), if_neg (by omega)]
      have hr := rest_size h2
      obtain ⟨i1, i2⟩ := ih (p.extract (stp p).2.2 p.size) (by omega) q
      have hm := stp_more h2 q
      have e2 : frmV (p ++ q) = ((stp p).2.1 :: (frmV (p.extract (stp p).2.2 p.size ++ q)).1, (frmV (p.extract (stp p).2.2 p.size ++ q)).2) := by
        rw [frm_step, hm, if_neg (by omega), if_neg (by omega), ext_rest (stp_two h2).2.2.1]
      rw [e2, e]
      simp only
      refine ⟨fun h => ?_, fun h => ?_⟩
      · rw [i1 h]; simp
      · rw [i2 h]
/-- All but the last byte of a frame: more is wanted. -/
theorem stp_short {f : Fr} (h : okFr f = true) : (stp ((shwV f).extract 0 ((shwV f).size - 1))).1 = 0 := by
  have hh := ok_head h
  obtain ⟨p1, p2, p3, p4, p5, p6, p7, p8⟩ := hd_parts hh
  rw [shw_ok h]
  have hz : (hdV f ++ f.b).size = 7 + f.b.size := by rw [ba_size_append, hdV_size]
  have hy : ((hdV f ++ f.b).extract 0 ((hdV f ++ f.b).size - 1)).size = 6 + f.b.size := by rw [ba_extract_size (by omega) (by omega)]; omega
  by_cases h0 : f.b.size = 0
  · unfold stp; rw [if_pos (by omega)]
  · obtain ⟨t, ht⟩ : ∃ t, (hdV f ++ f.b).extract 0 ((hdV f ++ f.b).size - 1) = t := ⟨_, rfl⟩
    rw [ht] at hy ⊢
    have hs : t ++ (hdV f ++ f.b).extract ((hdV f ++ f.b).size - 1) (hdV f ++ f.b).size = hdV f ++ f.b := by rw [← ht]; exact ba_split _ _ (by omega)
    obtain ⟨hN, hF⟩ := head_same (p := t) (by omega) ((hdV f ++ f.b).extract ((hdV f ++ f.b).size - 1) (hdV f ++ f.b).size)
    rw [hs] at hN hF
    have hb := hdV_bys (f := f) (by omega) (by omega) f.b
    have e1 := (head7 hb ⟨#[]⟩).1
    have eN : hdN t = f.b.size := by rw [← hN, e1]; omega
    have eF : hdF t ⟨#[]⟩ = ⟨f.k, f.fl, f.st, ⟨#[]⟩⟩ := by
      rw [← hF, (head7 hb ⟨#[]⟩).2]
      have : (f.st / 256 / 256 % 256 * 256 + f.st / 256 % 256) * 256 + f.st % 256 = f.st := by omega
      rw [this]
    unfold stp
    rw [if_neg (by omega), eN, eF]
    dsimp only
    rw [if_neg (by rw [hh]; simp), if_pos (by omega)]
/-- A FRAME TWICE AND ALL BUT ITS LAST BYTE. -/
theorem law_twice {f : Fr} (h : okFr f = true) : frmV (shwV f ++ (shwV f ++ (shwV f).extract 0 ((shwV f).size - 1))) = ([f, f], (shwV f).extract 0 ((shwV f).size - 1), true) := by
  rw [frm_cons h, frm_cons h, frm_step, if_pos (stp_short h)]
/-- What a frame carries: behind the first byte, without as many last bytes as it tells. -/
def payV (f : Fr) : ByteArray := if okFr f then (if f.k = 1 ∧ 2 ≤ f.fl then f.b.extract 1 ((f.b.size : Int) - fst0 f.b).toNat else f.b) else ⟨#[]⟩
theorem pay_le (f : Fr) : (payV f).size ≤ f.b.size := by
  unfold payV
  split
  · split
    · rw [← bys_len, bys_extract, List.length_drop, List.length_take, bys_len]; omega
    · exact Nat.le_refl _
  · exact Nat.zero_le _
end Go.Proofs.YtelcnojmfkoboaaDoor
