/- Several small texts of one level, one behind the other. -/
import Derived.Test.YtejmnkabmajebaaQG9
import Derived.Test.YtejmnkabmajebaaQG2
import Derived.Handy
import Derived.Test.YtejmnkabmajebaaQG5
/- The signs of chapter 4 and their numbers: l4Sign, l4Byte and the place in the row of signs. -/
namespace Go.Proofs.Ytejmnkabmajebaa
open Go.RowKit
set_option maxRecDepth 100000
set_option linter.unusedSimpArgs false
set_option linter.unusedVariables false

/-- The number of a sign; -1: it is none. -/
def sgn (b : Int) : Int := if 97 ≤ b ∧ b ≤ 122 then b - 97 else if b = 45 then 26 else if b = 46 then 27 else if b = 47 then 28 else if b = 58 then 29 else if b = 61 then 30 else -1
/-- The sign of a number. -/
def sch (n : Int) : Int := if n < 26 then 97 + n else if n = 26 then 45 else if n = 27 then 46 else if n = 28 then 47 else if n = 29 then 58 else 61
theorem sgn_range (b : Int) : -1 ≤ sgn b ∧ sgn b ≤ 30 := by unfold sgn; repeat' split <;> omega
theorem sch_range {n : Int} (h0 : 0 ≤ n) (h1 : n ≤ 30) : 0 ≤ sch n ∧ sch n ≤ 255 := by unfold sch; repeat' split <;> omega
theorem sgn_sch {n : Int} (h0 : 0 ≤ n) (h1 : n ≤ 30) : sgn (sch n) = n := by unfold sgn sch; repeat' split <;> omega
theorem sch_sgn {b : Int} (h : 0 ≤ sgn b) : sch (sgn b) = b := by
  unfold sgn at h ⊢
  unfold sch
  repeat' split at h
  all_goals (repeat' split) <;> omega
theorem sgn_letter {b : Int} (h : 97 ≤ b) (h2 : b ≤ 122) : sgn b = b - 97 := by simp [sgn, h, h2]

theorem specByte (n : Int) (w : World) (h0 : 0 ≤ n) (h1 : n ≤ 30) : Calls Try.prog 111 #[.int .i64 n] w fun e w' => e = .returned (.int .u8 (sch n)) ∧ w' = w := by
  by_cases h : n < 26
  · have e : sch n = 97 + n := by simp [sch, h]
    rw [e]
    go_enter Try.func111, Try.ntmps111
    go_wp2_with fail
    go_ret
    exact ⟨by go_num, rfl⟩
  · have : n = 26 ∨ n = 27 ∨ n = 28 ∨ n = 29 ∨ n = 30 := by omega
    rcases this with rfl | rfl | rfl | rfl | rfl
    all_goals
      go_enter Try.func111, Try.ntmps111
      go_wp2_with fail
      go_ret
      exact ⟨rfl, rfl⟩

theorem implLow (b : Nat) (w : World) (h : b ≤ 12) : Calls Try.prog 96 #[.int .i64 b] w fun e w' => e = .returned (.int .i64 (tw b - 1)) ∧ w' = w := by
  have : b = 0 ∨ b = 1 ∨ b = 2 ∨ b = 3 ∨ b = 4 ∨ b = 5 ∨ b = 6 ∨ b = 7 ∨ b = 8 ∨ b = 9 ∨ b = 10 ∨ b = 11 ∨ b = 12 := by omega
  rcases this with rfl | rfl | rfl | rfl | rfl | rfl | rfl | rfl | rfl | rfl | rfl | rfl | rfl
  all_goals
    go_enter Try.func96, Try.ntmps96
    go_wp2_with fail
    go_ret
    exact ⟨rfl, rfl⟩

set_option maxHeartbeats 1000000 in
theorem specSign (b : Int) (w : World) (h0 : 0 ≤ b) (h1 : b ≤ 255) : Calls Try.prog 110 #[.int .u8 b] w fun e w' => e = .returned (.int .i64 (sgn b)) ∧ w' = w := by
  by_cases h : 97 ≤ b ∧ b ≤ 122
  · rw [sgn_letter h.1 h.2]
    obtain ⟨ha, hb⟩ := h
    go_enter Try.func110, Try.ntmps110
    go_wp2_with fail
    go_ret
    exact ⟨by go_num, rfl⟩
  have hab : ¬ 97 ≤ b ∨ (97 ≤ b ∧ ¬ b ≤ 122) := by omega
  clear h
  rcases hab with ha | ⟨ha, hb⟩
  all_goals
    go_enter Try.func110, Try.ntmps110
    go_wp2_with fail
    go_loop [4] (fun v => ∃ k : Nat, v = .int .i64 k ∧ k ≤ 5 ∧ Hid ((1 ≤ k → b ≠ 45) ∧ (2 ≤ k → b ≠ 46) ∧ (3 ≤ k → b ≠ 47) ∧ (4 ≤ k → b ≠ 58) ∧ (5 ≤ k → b ≠ 61))) (fun v => 5 - (intOf v).toNat)
    case atStart => exact ⟨0, rfl, by omega, ⟨by omega, by omega, by omega, by omega, by omega⟩⟩
    case round =>
      obtain ⟨k, rfl, hk, hm⟩ := hrel
      by_cases k5 : k = 5
      · subst k5
        have HS : Hid (sgn b = -1) := by
          have hm := hm.out
          show _ = _
          unfold sgn
          repeat' split <;> omega
        clear hm
        go_wp2_with fail
        go_ret
        rw [HS.out]
        exact ⟨rfl, rfl⟩
      have : k = 0 ∨ k = 1 ∨ k = 2 ∨ k = 3 ∨ k = 4 := by omega
      clear k5
      rcases this with rfl | rfl | rfl | rfl | rfl
      · go_wp2_with fail
        · rename_i he _
          have e : b = 45 := (eq_of_beq he).symm.trans rfl
          subst e
          go_ret
          exact ⟨rfl, rfl⟩
        · rename_i he
          have e : b ≠ 45 := by intro q; subst q; revert he; decide
          go_round
          case rel => exact ⟨1, by go_num, by omega, by have hm := hm.out; exact ⟨by omega, by omega, by omega, by omega, by omega⟩⟩
          case measure => simp [intOf]
      · go_wp2_with fail
        · rename_i he _
          have e : b = 46 := (eq_of_beq he).symm.trans rfl
          subst e
          go_ret
          exact ⟨rfl, rfl⟩
        · rename_i he
          have e : b ≠ 46 := by intro q; subst q; revert he; decide
          go_round
          case rel => exact ⟨2, by go_num, by omega, by have hm := hm.out; exact ⟨by omega, by omega, by omega, by omega, by omega⟩⟩
          case measure => simp [intOf]
      · go_wp2_with fail
        · rename_i he _
          have e : b = 47 := (eq_of_beq he).symm.trans rfl
          subst e
          go_ret
          exact ⟨rfl, rfl⟩
        · rename_i he
          have e : b ≠ 47 := by intro q; subst q; revert he; decide
          go_round
          case rel => exact ⟨3, by go_num, by omega, by have hm := hm.out; exact ⟨by omega, by omega, by omega, by omega, by omega⟩⟩
          case measure => simp [intOf]
      · go_wp2_with fail
        · rename_i he _
          have e : b = 58 := (eq_of_beq he).symm.trans rfl
          subst e
          go_ret
          exact ⟨rfl, rfl⟩
        · rename_i he
          have e : b ≠ 58 := by intro q; subst q; revert he; decide
          go_round
          case rel => exact ⟨4, by go_num, by omega, by have hm := hm.out; exact ⟨by omega, by omega, by omega, by omega, by omega⟩⟩
          case measure => simp [intOf]
      · go_wp2_with fail
        · rename_i he _
          have e : b = 61 := (eq_of_beq he).symm.trans rfl
          subst e
          go_ret
          exact ⟨rfl, rfl⟩
        · rename_i he
          have e : b ≠ 61 := by intro q; subst q; revert he; decide
          go_round
          case rel => exact ⟨5, by go_num, by omega, by have hm := hm.out; exact ⟨by omega, by omega, by omega, by omega, by omega⟩⟩
          case measure => simp [intOf]

/-- The row of signs, as the program keeps it. -/
def signs : ByteArray := ⟨#[97, 98, 99, 100, 101, 102, 103, 104, 105, 106, 107, 108, 109, 110, 111, 112, 113, 114, 115, 116, 117, 118, 119, 120, 121, 122, 45, 46, 47, 58, 61]⟩
theorem ix_all : ∀ k : Fin 256, Lib.indexByte signs.data.toList (UInt8.ofNat k.val) = sgn (k.val : Int) := by decide +kernel
theorem ix_sgn {b : Int} (h0 : 0 ≤ b) (h1 : b ≤ 255) : Lib.indexByte signs.data.toList b.toNat.toUInt8 = sgn b := by
  obtain ⟨k, rfl⟩ := Int.eq_ofNat_of_zero_le h0
  exact ix_all ⟨k, by omega⟩
theorem signs_at : ∀ k : Fin 31, ((signs[k.val]'(by have := k.isLt; exact this)).toNat : Int) = sch (k.val : Int) := by decide +kernel
theorem implIx (b : Int) (w : World) (h0 : 0 ≤ b) (h1 : b ≤ 255) : Calls Try.prog 114 #[.string signs, .int .u8 b] w fun e w' => e = .returned (.int .i64 (sgn b)) ∧ w' = w := by
  rw [← ix_sgn h0 h1]; exact indexByte signs b w
end Go.Proofs.Ytejmnkabmajebaa
/- A Table that is drawn: its rows are owned and right; of what was there the cursor alone has moved. -/
namespace Go.Proofs.Ytejmnkabmajebaa
open Go.RowKit
set_option maxRecDepth 100000
set_option linter.unusedSimpArgs false
set_option linter.unusedVariables false

theorem TabAt.moves {w w' : World} {g b base : Nat} {room : Int} {L : List Fd} (h : TabAt w b base room L) (hm : Moves g w w') (hb : b ≠ g) (hg : g < base) : TabAt w' b base room L := by
  obtain ⟨a, p, h1, h2, h3⟩ := h.ex
  exact ⟨a, p, h1.moves hm hb, ownsRow_moves h2 hm hg, h3⟩
theorem small_fine {f : Fd} (h0 : f.n.size ≤ 100) (h1 : f.v.size ≤ 100) : f.fine := ⟨by omega, by omega⟩

set_option maxHeartbeats 2000000 in
theorem drawTab (g B : Nat) (w : World) (hc : Cur w g B) :
    Calls Try.prog 61 #[.pointer (some ⟨g, 0, none⟩)] w fun e w' => ∃ (room : Int) (v : Value) (L : List Fd), e = .returned (.agg #[.int .i64 room, v]) ∧ 0 ≤ room ∧ room ≤ 90 ∧ w'.ownsRow (w.heap.size + 1) 46 2 v L.length (fv L) ∧ (∀ f ∈ L, okF f = true) ∧ L.length ≤ 6 ∧ Cur w' g B ∧ Moves g w w' := by
  have hgw := hc.lt
  go_enter Try.func61, Try.ntmps61
  go_wp2_with fail
  generalize hw1 : w.alloc _ = w1
  have hc1 : Cur w1 g B := by rw [← hw1]; exact hc.alloc _
  have hm1 : Moves g w w1 := by rw [← hw1]; exact (Moves.refl g w).alloc _
  have hr1 : RowIs w1 w.heap.size 26 [.int .i64 0, .slice none 0 0] := by rw [← hw1]; exact rowIs_new w 26 [.int .i64 0, .slice none 0 0]
  have hs1 : w1.heap.size = w.heap.size + 1 := by rw [← hw1]; simp
  clear hw1 hc
  refine (below1 g B 90 _ hc1 (by omega)).mono ?_; rintro e w2 ⟨room, x0, x1, _, rfl, hc2, hm2⟩
  have x90 := x1 (by omega)
  have hs2 := hm2.size
  clear x1
  go_upto_region 2 with fail
  have hA : TabAt (w2.alloc (.cells #[.int .i64 room, .slice none 0 0] 26)) w2.heap.size (w.heap.size + 1) room [] := tabAt_new (L := []) ⟨rfl, .inl ⟨rfl, rfl⟩⟩
  have hcA := hc2.alloc (.cells #[.int .i64 room, .slice none 0 0] 26)
  have hmA := (hm1.trans hm2).alloc (.cells #[.int .i64 room, .slice none 0 0] 26)
  have hrA := (hr1.moves hm2 (by omega)).alloc (.cells #[.int .i64 room, .slice none 0 0] 26)
  obtain ⟨b, hb⟩ : ∃ b, b = w2.heap.size := ⟨_, rfl⟩
  rw [← hb] at hA
  have hb1 : w.heap.size < b := by omega
  clear hc1 hm1 hr1 hc2 hm2
  rw [← hb]
  generalize (w2.alloc (.cells #[.int .i64 room, .slice none 0 0] 26)) = w3 at *
  clear hb hs1 hs2
  go_wp2_with fail
  refine (below1 g B 7 _ hcA (by omega)).mono ?_; rintro e w4 ⟨n, n0, n1, _, rfl, hc4, hm4⟩
  have n7 := n1 (by omega)
  replace hA := hA.moves hm4 (by omega) (by omega)
  replace hrA := hrA.moves hm4 (by omega)
  replace hmA := hmA.trans hm4
  clear hm4 hcA n1
  go_wp2_with fail
  go_loopw [4] (fun n wr => ∃ (m : Nat) (L : List Fd), n = .int .i64 m ∧ m + L.length ≤ 6 ∧ TabAt wr b (w.heap.size + 1) room L ∧ (∀ f ∈ L, okF f = true) ∧ RowIs wr w.heap.size 26 [.int .i64 0, .slice none 0 0] ∧ Cur wr g B ∧ Moves g w wr) (fun n _ => (intOf n).toNat)
  case atStart =>
    obtain ⟨m, rfl⟩ : ∃ m : Nat, n = m := ⟨n.toNat, by omega⟩
    exact ⟨m, [], rfl, by simp; omega, hA, fun f hf => by simp at hf, hrA, hc4, hmA⟩
  case round =>
    obtain ⟨m, L, rfl, hmL, hT, hok, hR, hcr, hmr⟩ := hrel
    have hsr := hmr.size
    have HOK := hide hok
    clear hok
    by_cases hm : 0 < m
    · obtain ⟨m', rfl⟩ : ∃ m', m = m' + 1 := ⟨m - 1, by omega⟩
      go_wp2_with fail
      refine (drawField g B _ hcr).mono ?_; rintro e w5 ⟨f, hn, hv, rfl, hc5, hm5⟩
      replace hT := hT.moves hm5 (by omega) (by omega)
      replace hR := hR.moves hm5 (by omega)
      replace hmr := hmr.trans hm5
      clear hm5 hcr
      go_wp2_with fail
      have hA5 : Below w5.heap.size w5 (w5.alloc (.cells #[.string f.n, .string f.v] 46)) := (Below.refl _ _).alloc (Nat.le_refl _) _
      have hF5 := rowIs_new w5 46 [.string f.n, .string f.v]
      refine (specField f _ (small_fine hn hv)).mono ?_; rintro e w6 ⟨rfl, hb6⟩
      have hF6 := hF5.new hb6
      have hB6 := bchain hA5 hb6
      have hT6 := tabAt_later hT hB6
      have hR6 := hR.new hB6
      have hc6 := hc5.below hB6
      have hm6 := hmr.trans (Moves.of_below (g := g) hB6)
      have x0 := hF6.cell (j := 0) rfl
      have x1 := hF6.cell (j := 1) rfl
      have hl6 := hm6.size
      have hbl6 : b < w6.heap.size := by obtain ⟨_, _, h, _⟩ := hT6.ex; exact h.lt
      clear hb6 hB6 hA5 hF5 hF6 hT hR hc5 hmr
      cases hok : okF f
      · go_wp2_with fail
        go_roundw
        case rel => exact ⟨m', L, by go_num, by omega, hT6, HOK.out, hR6, hc6, hm6⟩
        case measure => simp [intOf]
      · go_wp2_with fail
        refine (note1 b (w.heap.size + 1) room L f _ hT6 HOK.out hok (by omega) (by omega) (by omega)).mono ?_; rintro e w7 ⟨rfl, hT7, ht7⟩
        have HT7 := hide hT7
        have hlen : m' + (shr room (f :: L)).length ≤ 6 := by have := shr_len (room := room) (f :: L); simp only [List.length_cons] at this; omega
        have HAL : Hid (∀ u ∈ shr room (f :: L), okF u = true) := shr_all (fun u hu => by rcases List.mem_cons.1 hu with rfl | hu; exact hok; exact HOK.out u hu)
        have hR7 := hR6.turn ht7 (by omega)
        have hc7 := hc6.turn ht7 (by omega)
        have hm7 := hm6.turned ht7 (by omega)
        clear hT7 ht7 hT6 hR6 hc6 hm6 x0 x1
        go_wp2_with fail
        go_roundw
        case rel => exact ⟨m', shr room (f :: L), by go_num, hlen, HT7.out, HAL.out, hR7, hc7, hm7⟩
        case measure => simp [intOf]
    · obtain rfl : m = 0 := by omega
      obtain ⟨a, p, hrow, hown, hap⟩ := hT.ex
      have HOWN := hide hown
      have c0 := hrow.cell (j := 0) rfl
      have c1 := hrow.cell (j := 1) rfl
      have r0 := hR.cell (j := 0) rfl
      have r1 := hR.cell (j := 1) rfl
      have p0 := hR.frozen 0
      have p1 := hR.frozen 1
      have hbw : w.heap.size ≠ b := by omega
      have hbw2 : b ≠ w.heap.size := by omega
      clear hown hap hT hrow
      go_wp2_with fail
      refine bodyPost_ret (v := (.agg #[.int .i64 room, .slice a L.length p])) (by simp [results, Try.results61, go_sem, *]) rfl ?_
      exact ⟨room, _, L, rfl, by omega, by omega, owns_far (w.heap.size + 1) (owns_far (w.heap.size + 1) HOWN.out (fun k hk => (HOWN.out.lt k hk).1) _ _ (by show w.heap.size < w.heap.size + 1; omega)) (fun k hk => (HOWN.out.lt k hk).1) _ _ (by show w.heap.size < w.heap.size + 1; omega), HOK.out, by omega, (hcr.set ⟨w.heap.size, 0, none⟩ (.int .i64 room) (by show g < w.heap.size; omega)).set ⟨w.heap.size, 1, none⟩ (.slice a L.length p) (by show g < w.heap.size; omega), (hmr.setNew ⟨w.heap.size, 0, none⟩ (Nat.le_refl w.heap.size) _).setNew ⟨w.heap.size, 1, none⟩ (Nat.le_refl w.heap.size) _⟩
end Go.Proofs.Ytejmnkabmajebaa
/- A Table in a box, its rows owned, all in one interval of blocks: what an exact law carries on. -/
namespace Go.Proofs.Ytejmnkabmajebaa
open Go.RowKit
set_option maxRecDepth 100000

/-- A Table in block g, its rows owned: all of it in blocks lo .. hi - 1. -/
structure TabX (w : World) (lo hi g : Nat) (a : Option Addr) (p : Nat) (room : Int) (L : List Fd) : Prop where
  row : RowIs w g 26 [.int .i64 room, .slice a L.length p]
  own : w.ownsRow lo 46 2 (.slice a L.length p) L.length (fv L)
  up : ∀ q, (Value.slice a L.length p).ownBlock = some q → q < hi
  glo : lo ≤ g
  ghi : g < hi
  ap : (Value.slice a L.length p).ownBlock ≠ some g
theorem TabX.new {w w' : World} {lo hi g : Nat} {a : Option Addr} {p : Nat} {room : Int} {L : List Fd} (h : TabX w lo hi g a p room L) (hb : Below w.heap.size w w') : TabX w' lo hi g a p room L :=
  ⟨h.row.new hb, owns_new h.own hb, h.up, h.glo, h.ghi, h.ap⟩
theorem TabX.turn {w w' : World} {lo hi lo' hi' g : Nat} {a : Option Addr} {p : Nat} {room : Int} {L : List Fd} (h : TabX w lo hi g a p room L) (ht : Turn lo' hi' w w') (hd : hi ≤ lo' ∨ hi' ≤ lo) : TabX w' lo hi g a p room L :=
  ⟨h.row.kept (ht.block g h.row.lt (by have := h.glo; have := h.ghi; omega)), owns_turn h.own ht (fun q hq => by have := (h.own.lt q hq).1; have := h.up q hq; omega), h.up, h.glo, h.ghi, h.ap⟩
theorem TabX.read {w : World} {lo hi g : Nat} {a : Option Addr} {p : Nat} {room : Int} {L : List Fd} (h : TabX w lo hi g a p room L) : Reads w (.slice a L.length p) L.length 2 (fv L) := reads_of_owns h.own
/-- A box that is filled as it is made. -/
theorem tabX_new {w : World} {lo : Nat} {room : Int} {L : List Fd} {a : Option Addr} {p : Nat} (ho : w.ownsRow lo 46 2 (.slice a L.length p) L.length (fv L)) (hl : lo ≤ w.heap.size) :
    TabX (w.alloc (.cells #[.int .i64 room, .slice a L.length p] 26)) lo (w.alloc (.cells #[.int .i64 room, .slice a L.length p] 26)).heap.size w.heap.size a p room L :=
  ⟨rowIs_new w 26 [.int .i64 room, .slice a L.length p], ho.alloc _, fun q hq => by have := (ho.lt q hq).2; simp; omega, hl, by simp, fun hq => by have := (ho.lt _ hq).2; omega⟩
/-- A box that was made empty and is filled now. -/
theorem tabX_set {w : World} {lo g : Nat} {x y : Value} {room : Int} {L : List Fd} {a : Option Addr} {p : Nat} (hr : RowIs w g 26 [x, y]) (ho : w.ownsRow lo 46 2 (.slice a L.length p) L.length (fv L)) (hap : (Value.slice a L.length p).ownBlock ≠ some g) (hl : lo ≤ g) :
    TabX ((w.setCell ⟨g, 0, none⟩ (.int .i64 room)).setCell ⟨g, 1, none⟩ (.slice a L.length p)) lo ((w.setCell ⟨g, 0, none⟩ (.int .i64 room)).setCell ⟨g, 1, none⟩ (.slice a L.length p)).heap.size g a p room L := by
  have hg := hr.lt
  exact ⟨(hr.set 0 _).set 1 _, owns_apart (owns_apart ho _ _ hap) _ _ hap, fun q hq => by have := (ho.lt q hq).2; simpa using this, hl, by simpa using hg, hap⟩
theorem TabX.base {w : World} {lo lo' hi g : Nat} {a : Option Addr} {p : Nat} {room : Int} {L : List Fd} (h : TabX w lo hi g a p room L) (hl : lo' ≤ lo) : TabX w lo' hi g a p room L :=
  ⟨h.row, owns_base h.own (fun q hq => Nat.le_trans hl (h.own.lt q hq).1), h.up, Nat.le_trans hl h.glo, h.ghi, h.ap⟩
theorem notedD_len (room : Int) (L : List Fd) (f : Fd) : (notedD room L f).1.2.length ≤ L.length + 1 := by
  unfold notedD
  split
  · split
    · have := shr_len (room := room) (f :: L); simpa using this
    · simp
  · simp
theorem resizedD_len (room : Int) (L : List Fd) (r : Int) : (resizedD room L r).1.2.length ≤ L.length + 1 := by
  unfold resizedD
  split
  · split
    · have := shr_len (room := r) L; simp only; omega
    · simp
  · simp
end Go.Proofs.Ytejmnkabmajebaa
