/- A Tunnel in its box; two of them held against each other; what the law of tunnels wants of the plain words. -/
import Derived.Test.YthkjjnnmnacgcaaTunMath
import Derived.Test.YthkjjnnmnacgcaaRowIs
import Derived.Laws.StructEq
namespace Go.Proofs.Ythkjjnnmnacgcaa
open Go.RowKit
set_option maxRecDepth 100000
set_option linter.unusedSimpArgs false
set_option linter.unusedVariables false
structure BxU (w : World) (g : Nat) (t : TuD) : Prop where
  row : RowIs w g 27 (tucs t)
theorem BxU.new {w w' : World} {b : Nat} {t : TuD} (h : BxU w b t) (hb : Below w.heap.size w w') : BxU w' b t := ⟨h.row.new hb⟩
theorem pp_fields : (Try.prog.fieldsOf 25).toList = [⟨ "Room", 2, 0, false, "", "", 0⟩, ⟨ "Bytes", 9, 1, false, "", "", 8⟩, ⟨ "Ended", 4, 2, false, "", "", 24⟩, ⟨ "Broken", 4, 3, false, "", "", 25⟩] := by kernel_rfl
theorem tu_fields : (Try.prog.fieldsOf 27).toList = [⟨ "Up", 25, 0, false, "", "", 0⟩, ⟨ "Down", 25, 4, false, "", "", 32⟩, ⟨ "Went", 2, 8, false, "", "", 64⟩, ⟨ "Came", 2, 9, false, "", "", 72⟩] := by kernel_rfl
theorem pp_equal (d : Nat) (r : Int) (b : ByteArray) (e k : Bool) (w : World) : (Op.equalIn (d + 2) 25 (.agg #[.int .i64 r, .string b, .bool e, .bool k]) (.agg #[.int .i64 r, .string b, .bool e, .bool k])).run Try.prog w = .ok true w := by
  rw [run_equalIn_agg (P := Try.prog) w (d + 1) 25 _ _ (by kernel_rfl) (by kernel_rfl), pp_fields]
  have p0 : (part 2 #[.int .i64 r, .string b, .bool e, .bool k] 0).run Try.prog w = .ok (.int .i64 r) w := by kernel_rfl
  have p1 : (part 9 #[.int .i64 r, .string b, .bool e, .bool k] 1).run Try.prog w = .ok (.string b) w := by kernel_rfl
  have p2 : (part 4 #[.int .i64 r, .string b, .bool e, .bool k] 2).run Try.prog w = .ok (.bool e) w := by kernel_rfl
  have p3 : (part 4 #[.int .i64 r, .string b, .bool e, .bool k] 3).run Try.prog w = .ok (.bool k) w := by kernel_rfl
  simp [Op.eqFields, p0, p1, p2, p3, run_equalIn_int (P := Try.prog) w d 2 .i64 .i64 _ _ (by kernel_rfl), run_equalIn_string (P := Try.prog) w d 9 _ _ (by kernel_rfl), run_equalIn_bool' (P := Try.prog) w d 4 _ _ (by kernel_rfl)]
theorem pp_neq (r : Int) (b : ByteArray) (e k : Bool) (w : World) : (binOp .neq 25 (.agg #[.int .i64 r, .string b, .bool e, .bool k]) (.agg #[.int .i64 r, .string b, .bool e, .bool k])).run Try.prog w = .ok (.bool false) w := by
  rw [run_neq_struct, pp_equal 9998]; rfl
theorem pp_eql (r : Int) (b : ByteArray) (e k : Bool) (w : World) : (binOp .eql 25 (.agg #[.int .i64 r, .string b, .bool e, .bool k]) (.agg #[.int .i64 r, .string b, .bool e, .bool k])).run Try.prog w = .ok (.bool true) w := by
  rw [run_eql_struct, pp_equal 9998]; rfl
theorem pp_guard : Try.prog.eqGuardType Try.prog.depth 25 = false := by kernel_rfl
theorem tu_equal (r : Int) (b : ByteArray) (e k : Bool) (r2 : Int) (b2 : ByteArray) (e2 k2 : Bool) (wt cm : Int) (w : World) : (Op.equalIn 10000 27 (.agg #[.int .i64 r, .string b, .bool e, .bool k, .int .i64 r2, .string b2, .bool e2, .bool k2, .int .i64 wt, .int .i64 cm]) (.agg #[.int .i64 r, .string b, .bool e, .bool k, .int .i64 r2, .string b2, .bool e2, .bool k2, .int .i64 wt, .int .i64 cm])).run Try.prog w = .ok true w := by
  rw [run_equalIn_agg (P := Try.prog) w 9999 27 _ _ (by kernel_rfl) (by kernel_rfl), tu_fields]
  have p0 : (part 25 #[.int .i64 r, .string b, .bool e, .bool k, .int .i64 r2, .string b2, .bool e2, .bool k2, .int .i64 wt, .int .i64 cm] 0).run Try.prog w = .ok (.agg #[.int .i64 r, .string b, .bool e, .bool k]) w := by kernel_rfl
  have p1 : (part 25 #[.int .i64 r, .string b, .bool e, .bool k, .int .i64 r2, .string b2, .bool e2, .bool k2, .int .i64 wt, .int .i64 cm] 4).run Try.prog w = .ok (.agg #[.int .i64 r2, .string b2, .bool e2, .bool k2]) w := by kernel_rfl
  have p2 : (part 2 #[.int .i64 r, .string b, .bool e, .bool k, .int .i64 r2, .string b2, .bool e2, .bool k2, .int .i64 wt, .int .i64 cm] 8).run Try.prog w = .ok (.int .i64 wt) w := by kernel_rfl
  have p3 : (part 2 #[.int .i64 r, .string b, .bool e, .bool k, .int .i64 r2, .string b2, .bool e2, .bool k2, .int .i64 wt, .int .i64 cm] 9).run Try.prog w = .ok (.int .i64 cm) w := by kernel_rfl
  have e1 := pp_equal 9997 r b e k w
  have e2' := pp_equal 9997 r2 b2 e2 k2 w
  simp [Op.eqFields, p0, p1, p2, p3, e1, e2', run_equalIn_int (P := Try.prog) w 9998 2 .i64 .i64 _ _ (by kernel_rfl)]
theorem tu_neq (r : Int) (b : ByteArray) (e k : Bool) (r2 : Int) (b2 : ByteArray) (e2 k2 : Bool) (wt cm : Int) (w : World) : (binOp .neq 27 (.agg #[.int .i64 r, .string b, .bool e, .bool k, .int .i64 r2, .string b2, .bool e2, .bool k2, .int .i64 wt, .int .i64 cm]) (.agg #[.int .i64 r, .string b, .bool e, .bool k, .int .i64 r2, .string b2, .bool e2, .bool k2, .int .i64 wt, .int .i64 cm])).run Try.prog w = .ok (.bool false) w := by
  rw [run_neq_struct, tu_equal]; rfl
theorem tu_eql (r : Int) (b : ByteArray) (e k : Bool) (r2 : Int) (b2 : ByteArray) (e2 k2 : Bool) (wt cm : Int) (w : World) : (binOp .eql 27 (.agg #[.int .i64 r, .string b, .bool e, .bool k, .int .i64 r2, .string b2, .bool e2, .bool k2, .int .i64 wt, .int .i64 cm]) (.agg #[.int .i64 r, .string b, .bool e, .bool k, .int .i64 r2, .string b2, .bool e2, .bool k2, .int .i64 wt, .int .i64 cm])).run Try.prog w = .ok (.bool true) w := by
  rw [run_eql_struct, tu_equal]; rfl
theorem tu_guard : Try.prog.eqGuardType Try.prog.depth 27 = false := by kernel_rfl
/-- How long texts are behind each. -/
def smTu (t : TuD) : Prop := t.up.b.size ≤ 2000 ∧ t.dn.b.size ≤ 2000
theorem z_sm : smTu zTu := ⟨by decide, by decide⟩
theorem in_sm {t : TuD} {s : ByteArray} (fin : Bool) (h1 : t.up.b.size ≤ 100) (h2 : t.dn.b.size ≤ 100) (h3 : s.size ≤ 6) : smTu (inTu t s fin).1 := by
  unfold inTu
  split
  · exact z_sm
  split
  · exact ⟨by show t.up.b.size ≤ 2000; omega, by show t.dn.b.size ≤ 2000; omega⟩
  · exact ⟨by show (t.up.b ++ s).size ≤ 2000; rw [ByteArray.size_append]; omega, by show t.dn.b.size ≤ 2000; omega⟩
theorem out_sm {t : TuD} (n : Int) (h1 : t.up.b.size ≤ 100) (h2 : t.dn.b.size ≤ 100) : smTu (outTu t n).1 := by
  unfold outTu
  split
  · exact z_sm
  · exact ⟨by show (t.up.b.extract (outN t n) t.up.b.size).size ≤ 2000; rw [ByteArray.size_extract]; omega, by show t.dn.b.size ≤ 2000; omega⟩
theorem bck_sm {t : TuD} {s : ByteArray} (fin : Bool) (h1 : t.up.b.size ≤ 100) (h2 : t.dn.b.size ≤ 100) (h3 : s.size ≤ 6) : smTu (bckTu t s fin).1 := by
  unfold bckTu
  split
  · exact z_sm
  · exact ⟨by show t.up.b.size ≤ 2000; omega, by show (t.dn.b ++ s.extract 0 (bckN t s)).size ≤ 2000; rw [ByteArray.size_append, ByteArray.size_extract]; omega⟩
theorem trn_sm {t : TuD} : smTu (trnTu t) := by
  unfold trnTu
  split
  · exact z_sm
  · exact ⟨by show (⟨#[]⟩ : ByteArray).size ≤ 2000; decide, by show (⟨#[]⟩ : ByteArray).size ≤ 2000; decide⟩
/-- What goes out is what was there first. -/
theorem out_law {t : TuD} {n : Int} {y : TuD} {u : ByteArray} (hy : outTu t n = (y, u)) (h : okTu t = true) : u ++ y.up.b = t.up.b ∧ y.went - t.went = (u.size : Int) ∧ okTu y = true ∧ y.dn = t.dn ∧ 0 ≤ t.went ∧ t.went ≤ 1000000 ∧ 0 ≤ y.went ∧ y.went ≤ 1000000 := by
  obtain ⟨h1, h2, ⟨h3, h4⟩, h5⟩ := okTu_true h
  obtain ⟨q1, q2, q3, q4⟩ := okPp_true h1
  unfold outTu at hy
  rw [if_neg (by rw [h]; decide)] at hy
  obtain ⟨rfl, rfl⟩ := Prod.mk.inj hy
  have hm : outN t n ≤ t.up.b.size := by unfold outN; omega
  have hm2 : (outN t n : Int) ≤ 1000000 - t.went := by unfold outN; omega
  have hsz : (t.up.b.extract 0 (outN t n)).size = outN t n := by rw [ByteArray.size_extract]; omega
  refine ⟨?_, ?_, ?_, rfl, h3, h4, ?_, ?_⟩
  · show t.up.b.extract 0 (outN t n) ++ t.up.b.extract (outN t n) t.up.b.size = t.up.b
    rw [ByteArray.extract_append_extract]
    simp [Nat.max_eq_right hm]
  · rw [hsz]; show t.went + (outN t n : Int) - t.went = _; omega
  · refine okTu_of (okPp_of q1 q2 ?_ ?_) h2 ⟨by show 0 ≤ t.went + (outN t n : Int); omega, by show t.went + (outN t n : Int) ≤ 1000000; omega⟩ h5
    · show ((t.up.b.extract (outN t n) t.up.b.size).size : Int) ≤ t.up.r
      rw [ByteArray.size_extract]; omega
    · intro hk
      have := q4 hk
      show (t.up.b.extract (outN t n) t.up.b.size).size = 0
      rw [ByteArray.size_extract]; omega
  · show 0 ≤ t.went + (outN t n : Int); omega
  · show t.went + (outN t n : Int) ≤ 1000000; omega
theorem bck_law {t : TuD} {s : ByteArray} {fin : Bool} {z : TuD} {k : Int} (hz : bckTu t s fin = (z, k)) (h : okTu t = true) : ∃ n : Nat, k = n ∧ n ≤ s.size ∧ z.dn.b = t.dn.b ++ s.extract 0 n ∧ okTu z = true ∧ z.up = t.up := by
  obtain ⟨h1, h2, h3, h5⟩ := okTu_true h
  obtain ⟨q1, q2, q3, q4⟩ := okPp_true h2
  unfold bckTu at hz
  rw [if_neg (by rw [h]; decide)] at hz
  obtain ⟨rfl, rfl⟩ := Prod.mk.inj hz
  have hn : bckN t s ≤ s.size ∧ (bckN t s : Int) ≤ t.dn.r - t.dn.b.size := by
    unfold bckN
    split
    · exact ⟨Nat.zero_le _, by omega⟩
    · unfold comes; omega
  refine ⟨bckN t s, rfl, hn.1, rfl, ?_, rfl⟩
  refine okTu_of h1 (okPp_of q1 q2 ?_ ?_) h3 h5
  · show ((t.dn.b ++ s.extract 0 (bckN t s)).size : Int) ≤ t.dn.r
    rw [ByteArray.size_append, ByteArray.size_extract]; omega
  · intro hk
    have hk' : t.dn.k = true := hk
    have h0 := q4 hk'
    have hb : bckN t s = 0 := by unfold bckN; rw [if_pos (.inr hk')]
    show (t.dn.b ++ s.extract 0 (bckN t s)).size = 0
    rw [hb, ByteArray.size_append, ByteArray.size_extract]; omega
theorem trn_law {t : TuD} (h : okTu t = true) : ovrTu (trnTu t) = true := by
  obtain ⟨h1, h2, h3, h5⟩ := okTu_true h
  obtain ⟨q1, q2, q3, q4⟩ := okPp_true h1
  obtain ⟨p1, p2, p3, p4⟩ := okPp_true h2
  have hv : trnTu t = ⟨⟨t.up.r, ⟨#[]⟩, t.up.e, true⟩, ⟨t.dn.r, ⟨#[]⟩, t.dn.e, true⟩, t.went, t.came⟩ := by unfold trnTu; rw [if_neg (by rw [h]; decide)]
  rw [hv]
  have e0 : (⟨#[]⟩ : ByteArray).size = 0 := rfl
  have e1 : (⟨#[]⟩ : ByteArray).toList.isEmpty = true := by rw [ByteArray.toList_eq]; rfl
  have o1 : okPp ⟨t.up.r, ⟨#[]⟩, t.up.e, true⟩ = true := okPp_of q1 q2 (by show ((⟨#[]⟩ : ByteArray).size : Int) ≤ t.up.r; rw [e0]; omega) (fun _ => e0)
  have o2 : okPp ⟨t.dn.r, ⟨#[]⟩, t.dn.e, true⟩ = true := okPp_of p1 p2 (by show ((⟨#[]⟩ : ByteArray).size : Int) ≤ t.dn.r; rw [e0]; omega) (fun _ => e0)
  unfold ovrTu dryPp
  rw [okTu_of (t := ⟨⟨t.up.r, ⟨#[]⟩, t.up.e, true⟩, ⟨t.dn.r, ⟨#[]⟩, t.dn.e, true⟩, t.went, t.came⟩) o1 o2 h3 h5]
  dsimp only
  rw [o1, o2, e1]
  simp
theorem in_no {t : TuD} {s : ByteArray} {fin : Bool} {x : TuD} {is : Bool} (hx : inTu t s fin = (x, is)) (h : okTu t = false) : is = false ∧ x = zTu := by
  unfold inTu at hx
  rw [if_pos h] at hx
  obtain ⟨rfl, rfl⟩ := Prod.mk.inj hx
  exact ⟨rfl, rfl⟩
theorem in_law {t : TuD} {s : ByteArray} {fin : Bool} {x : TuD} {is : Bool} (hx : inTu t s fin = (x, is)) (h : okTu t = true) : (is = false ∧ x = t) ∨ (is = true ∧ okTu x = true ∧ x.up.b = t.up.b ++ s ∧ x.up.e = fin ∧ x.dn = t.dn) := by
  obtain ⟨h1, h2, h3, h5⟩ := okTu_true h
  obtain ⟨q1, q2, q3, q4⟩ := okPp_true h1
  unfold inTu at hx
  rw [if_neg (by rw [h]; decide)] at hx
  split at hx
  · obtain ⟨rfl, rfl⟩ := Prod.mk.inj hx
    exact .inl ⟨rfl, rfl⟩
  · rename_i hn
    obtain ⟨rfl, rfl⟩ := Prod.mk.inj hx
    refine .inr ⟨rfl, ?_, rfl, rfl, rfl⟩
    refine okTu_of (okPp_of q1 q2 ?_ ?_) h2 h3 h5
    · show ((t.up.b ++ s).size : Int) ≤ t.up.r
      rw [ByteArray.size_append]
      have : ¬ t.up.r - (t.up.b.size : Int) < s.size := fun c => hn (.inr (.inr c))
      omega
    · intro hk
      have hk' : t.up.k = true := hk
      exact absurd (.inr (.inl hk')) hn
end Go.Proofs.Ythkjjnnmnacgcaa
