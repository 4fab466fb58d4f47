/- A Flow in memory: its make; counted, copied, held against each other, marked, read again (by gen_flow.py). -/
import Derived.Test.YtkhclhnejnpkeaaGreatQWtG15
import Derived.Test.YtkhclhnejnpkeaaGreatQWtG5
import Derived.Test.YtkhclhnejnpkeaaGreatQWtG4
namespace Go.Proofs.YtkhclhnejnpkeaaGreat
open Go.RowKit
set_option maxRecDepth 100000
set_option linter.unusedSimpArgs false
set_option linter.unusedVariables false
theorem OwX.keep1 {D : Type} {E : Shp D} {w w' : World} {lo hi : Nat} {v : Value} {L : List D} (h : OwX E w lo hi v L) (hs : w'.heap.size = w.heap.size) (hk : ∀ k, lo ≤ k → w'.heap[k]? = w.heap[k]?) : OwX E w' lo hi v L := by
  obtain ⟨bs, h1, h2, h3⟩ := h
  exact ⟨bs, h1.keep (Nat.le_of_eq hs.symm) (fun b hb => hk b (h3 b hb).1), h2, h3⟩
def szTunnel (t : TuD) : Int := (t.up.b.size : Int) + t.dn.b.size
theorem szTunnel_nn (t : TuD) : 0 ≤ szTunnel t := by unfold szTunnel; omega
def flowS : Shp FlD where
  size := 15
  ty := 125
  rd := fun w cs d => ∃ vfds : Value, cs = [.int .i64 d.id, .int .i64 d.get, .int .i64 d.give, vfds, .int .i64 d.tun.up.r, .string d.tun.up.b, .bool d.tun.up.e, .bool d.tun.up.k, .int .i64 d.tun.dn.r, .string d.tun.dn.b, .bool d.tun.dn.e, .bool d.tun.dn.k, .int .i64 d.tun.went, .int .i64 d.tun.came, .bool d.ended] ∧ d.tun.up.b.size ≤ 9223372036854775807 ∧ d.tun.dn.b.size ≤ 9223372036854775807 ∧ RdR fieldS w vfds d.fds
  own := fun w cs d bs => ∃ (vfds : Value) (b0 : List Nat), cs = [.int .i64 d.id, .int .i64 d.get, .int .i64 d.give, vfds, .int .i64 d.tun.up.r, .string d.tun.up.b, .bool d.tun.up.e, .bool d.tun.up.k, .int .i64 d.tun.dn.r, .string d.tun.dn.b, .bool d.tun.dn.e, .bool d.tun.dn.k, .int .i64 d.tun.went, .int .i64 d.tun.came, .bool d.ended] ∧ d.tun.up.b.size ≤ 9223372036854775807 ∧ d.tun.dn.b.size ≤ 9223372036854775807 ∧ OwR fieldS w vfds d.fds b0 ∧ bs = b0
  pos := by decide
  rd_len := fun h => by obtain ⟨vfds, rfl, _⟩ := h; rfl
  rd_one := fun h u hu => by
    obtain ⟨vfds, rfl, f0, f1, h0⟩ := h
    obtain ⟨_, _, rfl, _⟩ := h0.form
    simp only [List.mem_cons, List.not_mem_nil, or_false] at hu
    rcases hu with rfl | rfl | rfl | rfl | rfl | rfl | rfl | rfl | rfl | rfl | rfl | rfl | rfl | rfl | rfl <;> rfl
  rd_new := fun h hb => by obtain ⟨vfds, rfl, f0, f1, h0⟩ := h; exact ⟨vfds, rfl, f0, f1, h0.new hb⟩
  own_rd := fun h => by obtain ⟨vfds, b0, rfl, f0, f1, h0, rfl⟩ := h; exact ⟨vfds, rfl, f0, f1, h0.rd⟩
  own_keep := fun h hs hk => by obtain ⟨vfds, b0, rfl, f0, f1, h0, rfl⟩ := h; exact ⟨vfds, _, rfl, f0, f1, h0.keep hs (fun b hb => hk b (by simp [hb])), rfl⟩
  own_lt := fun h b hb => by obtain ⟨vfds, b0, rfl, f0, f1, h0, rfl⟩ := h; exact h0.lt b hb
/-- How much it holds, as the laws count. -/
def szFlow (d : FlD) : Int := szFieldS d.fds + szTunnel d.tun
theorem szFlow_nn (d : FlD) : 0 ≤ szFlow d := by unfold szFlow; have := szFieldS_nn d.fds; have := szTunnel_nn d.tun; omega
def szFlowS (L : List FlD) : Int := L.length + sumLs szFlow L
theorem szFlowS_nn (L : List FlD) : 0 ≤ szFlowS L := by unfold szFlowS; have := sum_nn szFlow szFlow_nn L; omega
theorem szFlowS_mem {L : List FlD} {d : FlD} (h : d ∈ L) : szFlow d ≤ szFlowS L := by unfold szFlowS; have := sum_mem szFlow szFlow_nn L d h; omega
theorem szFlowS_len (L : List FlD) : (L.length : Int) ≤ szFlowS L := by unfold szFlowS; have := sum_nn szFlow szFlow_nn L; omega
set_option maxHeartbeats 2000000 in
theorem toFlow1 (d : FlD) (v : Value) (w : World) (hv : RdR fieldS w v d.fds) (hf0 : d.tun.up.b.size ≤ 9223372036854775807) (hf1 : d.tun.dn.b.size ≤ 9223372036854775807) (hs : szFlow d ≤ 1048576) :
    Calls Tryz.prog 136 #[.agg #[.int .i64 d.id, .int .i64 d.get, .int .i64 d.give, v, .int .i64 d.tun.up.r, .string d.tun.up.b, .bool d.tun.up.e, .bool d.tun.up.k, .int .i64 d.tun.dn.r, .string d.tun.dn.b, .bool d.tun.dn.e, .bool d.tun.dn.k, .int .i64 d.tun.went, .int .i64 d.tun.came, .bool d.ended]] w fun x w' => ∃ v' : Value, x = .returned (.agg #[.int .i64 d.id, .int .i64 d.get, .int .i64 d.give, v', .int .i64 d.tun.up.r, .string d.tun.up.b, .bool d.tun.up.e, .bool d.tun.up.k, .int .i64 d.tun.dn.r, .string d.tun.dn.b, .bool d.tun.dn.e, .bool d.tun.dn.k, .int .i64 d.tun.went, .int .i64 d.tun.came, .bool d.ended]) ∧ OwX fieldS w' w.heap.size w'.heap.size v' d.fds ∧ Below w.heap.size w w' := by
  have HV := hide hv
  obtain ⟨a0, p0, rfl, _⟩ := hv.form
  clear hv
  have hz : szFieldS d.fds ≤ 1048576 := by unfold szFlow at hs; have := szTunnel_nn d.tun; omega
  obtain ⟨W, hW⟩ : ∃ W, ((w.alloc (.cells #[.int .i64 d.id, .int .i64 d.get, .int .i64 d.give, .slice a0 d.fds.length p0, .int .i64 d.tun.up.r, .string d.tun.up.b, .bool d.tun.up.e, .bool d.tun.up.k, .int .i64 d.tun.dn.r, .string d.tun.dn.b, .bool d.tun.dn.e, .bool d.tun.dn.k, .int .i64 d.tun.went, .int .i64 d.tun.came, .bool d.ended] 203)).alloc (.cells #[.int .i64 0, .int .i64 0, .int .i64 0, .slice none 0 0, .int .i64 0, .string ⟨#[]⟩, .bool false, .bool false, .int .i64 0, .string ⟨#[]⟩, .bool false, .bool false, .int .i64 0, .int .i64 0, .bool false] 125)).alloc (.cells #[.int .i64 0, .int .i64 0, .int .i64 0, .slice none 0 0, .int .i64 0, .string ⟨#[]⟩, .bool false, .bool false, .int .i64 0, .string ⟨#[]⟩, .bool false, .bool false, .int .i64 0, .int .i64 0, .bool false] 125) = W := ⟨_, rfl⟩
  have RX : RowIs W w.heap.size 203 [.int .i64 d.id, .int .i64 d.get, .int .i64 d.give, .slice a0 d.fds.length p0, .int .i64 d.tun.up.r, .string d.tun.up.b, .bool d.tun.up.e, .bool d.tun.up.k, .int .i64 d.tun.dn.r, .string d.tun.dn.b, .bool d.tun.dn.e, .bool d.tun.dn.k, .int .i64 d.tun.went, .int .i64 d.tun.came, .bool d.ended] := by rw [← hW]; exact ((rowIs_new w 203 [.int .i64 d.id, .int .i64 d.get, .int .i64 d.give, .slice a0 d.fds.length p0, .int .i64 d.tun.up.r, .string d.tun.up.b, .bool d.tun.up.e, .bool d.tun.up.k, .int .i64 d.tun.dn.r, .string d.tun.dn.b, .bool d.tun.dn.e, .bool d.tun.dn.k, .int .i64 d.tun.went, .int .i64 d.tun.came, .bool d.ended]).alloc _).alloc _
  have RY : RowIs W (w.heap.size + 1) 125 [.int .i64 0, .int .i64 0, .int .i64 0, .slice none 0 0, .int .i64 0, .string ⟨#[]⟩, .bool false, .bool false, .int .i64 0, .string ⟨#[]⟩, .bool false, .bool false, .int .i64 0, .int .i64 0, .bool false] := by have := (rowIs_new (w.alloc (.cells #[.int .i64 d.id, .int .i64 d.get, .int .i64 d.give, .slice a0 d.fds.length p0, .int .i64 d.tun.up.r, .string d.tun.up.b, .bool d.tun.up.e, .bool d.tun.up.k, .int .i64 d.tun.dn.r, .string d.tun.dn.b, .bool d.tun.dn.e, .bool d.tun.dn.k, .int .i64 d.tun.went, .int .i64 d.tun.came, .bool d.ended] 203)) 125 [.int .i64 0, .int .i64 0, .int .i64 0, .slice none 0 0, .int .i64 0, .string ⟨#[]⟩, .bool false, .bool false, .int .i64 0, .string ⟨#[]⟩, .bool false, .bool false, .int .i64 0, .int .i64 0, .bool false]).alloc (.cells #[.int .i64 0, .int .i64 0, .int .i64 0, .slice none 0 0, .int .i64 0, .string ⟨#[]⟩, .bool false, .bool false, .int .i64 0, .string ⟨#[]⟩, .bool false, .bool false, .int .i64 0, .int .i64 0, .bool false] 125); rw [hW] at this; simpa using this
  have RZ : RowIs W (w.heap.size + 1 + 1) 125 [.int .i64 0, .int .i64 0, .int .i64 0, .slice none 0 0, .int .i64 0, .string ⟨#[]⟩, .bool false, .bool false, .int .i64 0, .string ⟨#[]⟩, .bool false, .bool false, .int .i64 0, .int .i64 0, .bool false] := by have := rowIs_new ((w.alloc (.cells #[.int .i64 d.id, .int .i64 d.get, .int .i64 d.give, .slice a0 d.fds.length p0, .int .i64 d.tun.up.r, .string d.tun.up.b, .bool d.tun.up.e, .bool d.tun.up.k, .int .i64 d.tun.dn.r, .string d.tun.dn.b, .bool d.tun.dn.e, .bool d.tun.dn.k, .int .i64 d.tun.went, .int .i64 d.tun.came, .bool d.ended] 203)).alloc (.cells #[.int .i64 0, .int .i64 0, .int .i64 0, .slice none 0 0, .int .i64 0, .string ⟨#[]⟩, .bool false, .bool false, .int .i64 0, .string ⟨#[]⟩, .bool false, .bool false, .int .i64 0, .int .i64 0, .bool false] 125)) 125 [.int .i64 0, .int .i64 0, .int .i64 0, .slice none 0 0, .int .i64 0, .string ⟨#[]⟩, .bool false, .bool false, .int .i64 0, .string ⟨#[]⟩, .bool false, .bool false, .int .i64 0, .int .i64 0, .bool false]; rw [hW] at this; simpa using this
  have HB : Below w.heap.size w W := by rw [← hW]; exact ((((Below.refl _ _).alloc (Nat.le_refl _) _).alloc (by simp) _).alloc (by simp; omega) _)
  have hWs : w.heap.size + 3 ≤ W.heap.size := by rw [← hW]; first | (simp; done) | (simp; omega)
  go_enter Tryz.func136, Tryz.ntmps136
  have x0 := RowIs.cell (j := 0) RX rfl
  have x1 := RowIs.cell (j := 1) RX rfl
  have x2 := RowIs.cell (j := 2) RX rfl
  have x3 := RowIs.cell (j := 3) RX rfl
  have xf := fun j => RowIs.frozen RX j
  have xl := RX.lt
  have z0 := RowIs.cell (j := 0) RZ rfl
  have z1 := RowIs.cell (j := 1) RZ rfl
  have z2 := RowIs.cell (j := 2) RZ rfl
  have zf := fun j => RowIs.frozen RZ j
  have zl := RZ.lt
  go_upto_region 5 with fail
  clear x0 x1 x2 x3 xf xl
  clear z0 z1 z2 zf zl
  have NRX : RowIs (((W.setCell ⟨(w.heap.size + 1 + 1), 0, none⟩ (.int .i64 d.id)).setCell ⟨(w.heap.size + 1 + 1), 1, none⟩ (.int .i64 d.get)).setCell ⟨(w.heap.size + 1 + 1), 2, none⟩ (.int .i64 d.give)) w.heap.size 203 [.int .i64 d.id, .int .i64 d.get, .int .i64 d.give, .slice a0 d.fds.length p0, .int .i64 d.tun.up.r, .string d.tun.up.b, .bool d.tun.up.e, .bool d.tun.up.k, .int .i64 d.tun.dn.r, .string d.tun.dn.b, .bool d.tun.dn.e, .bool d.tun.dn.k, .int .i64 d.tun.went, .int .i64 d.tun.came, .bool d.ended] := (((RX.far ⟨(w.heap.size + 1 + 1), 0, none⟩ (.int .i64 d.id) (show (w.heap.size + 1 + 1) ≠ w.heap.size by omega)).far ⟨(w.heap.size + 1 + 1), 1, none⟩ (.int .i64 d.get) (show (w.heap.size + 1 + 1) ≠ w.heap.size by omega)).far ⟨(w.heap.size + 1 + 1), 2, none⟩ (.int .i64 d.give) (show (w.heap.size + 1 + 1) ≠ w.heap.size by omega))
  have NRY : RowIs (((W.setCell ⟨(w.heap.size + 1 + 1), 0, none⟩ (.int .i64 d.id)).setCell ⟨(w.heap.size + 1 + 1), 1, none⟩ (.int .i64 d.get)).setCell ⟨(w.heap.size + 1 + 1), 2, none⟩ (.int .i64 d.give)) (w.heap.size + 1) 125 [.int .i64 0, .int .i64 0, .int .i64 0, .slice none 0 0, .int .i64 0, .string ⟨#[]⟩, .bool false, .bool false, .int .i64 0, .string ⟨#[]⟩, .bool false, .bool false, .int .i64 0, .int .i64 0, .bool false] := (((RY.far ⟨(w.heap.size + 1 + 1), 0, none⟩ (.int .i64 d.id) (show (w.heap.size + 1 + 1) ≠ (w.heap.size + 1) by omega)).far ⟨(w.heap.size + 1 + 1), 1, none⟩ (.int .i64 d.get) (show (w.heap.size + 1 + 1) ≠ (w.heap.size + 1) by omega)).far ⟨(w.heap.size + 1 + 1), 2, none⟩ (.int .i64 d.give) (show (w.heap.size + 1 + 1) ≠ (w.heap.size + 1) by omega))
  have NRZ : RowIs (((W.setCell ⟨(w.heap.size + 1 + 1), 0, none⟩ (.int .i64 d.id)).setCell ⟨(w.heap.size + 1 + 1), 1, none⟩ (.int .i64 d.get)).setCell ⟨(w.heap.size + 1 + 1), 2, none⟩ (.int .i64 d.give)) (w.heap.size + 1 + 1) 125 [.int .i64 d.id, .int .i64 d.get, .int .i64 d.give, .slice none 0 0, .int .i64 0, .string ⟨#[]⟩, .bool false, .bool false, .int .i64 0, .string ⟨#[]⟩, .bool false, .bool false, .int .i64 0, .int .i64 0, .bool false] := (((RZ.set 0 (.int .i64 d.id)).set 1 (.int .i64 d.get)).set 2 (.int .i64 d.give))
  have NHB := (((HB.setCell (p := ⟨(w.heap.size + 1 + 1), 0, none⟩) (show w.heap.size ≤ (w.heap.size + 1 + 1) by omega) (.int .i64 d.id)).setCell (p := ⟨(w.heap.size + 1 + 1), 1, none⟩) (show w.heap.size ≤ (w.heap.size + 1 + 1) by omega) (.int .i64 d.get)).setCell (p := ⟨(w.heap.size + 1 + 1), 2, none⟩) (show w.heap.size ≤ (w.heap.size + 1 + 1) by omega) (.int .i64 d.give))
  generalize hV : (((W.setCell ⟨(w.heap.size + 1 + 1), 0, none⟩ (.int .i64 d.id)).setCell ⟨(w.heap.size + 1 + 1), 1, none⟩ (.int .i64 d.get)).setCell ⟨(w.heap.size + 1 + 1), 2, none⟩ (.int .i64 d.give)) = V1 at *
  clear hV
  clear RX
  have RX := NRX
  clear NRX
  clear RY
  have RY := NRY
  clear NRY
  clear RZ
  have RZ := NRZ
  clear NRZ
  clear HB
  have HB := NHB
  clear NHB
  clear hW
  have hVs : w.heap.size + 3 ≤ V1.heap.size := by have := HB.size; have := RZ.lt; omega
  have x3 := RowIs.cell (j := 3) RX rfl
  have xf := fun j => RowIs.frozen RX j
  have xl := RX.lt
  go_wp2_with fail
  clear x3 xf xl
  refine (toFieldS d.fds _ _ (HV.out.new HB) hz).mono ?_; rintro x w1 ⟨v1, rfl, ho, hb⟩
  obtain ⟨ad1, cap1, rfl, _⟩ := ho.form
  replace ho : OwX fieldS w1 (w.heap.size + 3) w1.heap.size (.slice ad1 d.fds.length cap1) d.fds := ho.wide hVs (Nat.le_refl _)
  have HO := hide ho
  clear ho
  replace RX := RX.new hb
  replace RY := RY.new hb
  replace RZ := RZ.new hb
  replace HB := bchain HB hb
  clear hb
  have z3 := RowIs.cell (j := 3) RZ rfl
  have zf := fun j => RowIs.frozen RZ j
  have zl := RZ.lt
  go_upto_region 6 with fail
  clear z3 zf zl
  have NO := hide (OwX.far HO.out ⟨w.heap.size + 1 + 1, 3, none⟩ (.slice ad1 d.fds.length cap1) (.inl (show w.heap.size + 1 + 1 < w.heap.size + 3 by omega)))
  have NRX : RowIs (w1.setCell ⟨(w.heap.size + 1 + 1), 3, none⟩ (.slice ad1 d.fds.length cap1)) w.heap.size 203 [.int .i64 d.id, .int .i64 d.get, .int .i64 d.give, .slice a0 d.fds.length p0, .int .i64 d.tun.up.r, .string d.tun.up.b, .bool d.tun.up.e, .bool d.tun.up.k, .int .i64 d.tun.dn.r, .string d.tun.dn.b, .bool d.tun.dn.e, .bool d.tun.dn.k, .int .i64 d.tun.went, .int .i64 d.tun.came, .bool d.ended] := (RX.far ⟨(w.heap.size + 1 + 1), 3, none⟩ (.slice ad1 d.fds.length cap1) (show (w.heap.size + 1 + 1) ≠ w.heap.size by omega))
  have NRY : RowIs (w1.setCell ⟨(w.heap.size + 1 + 1), 3, none⟩ (.slice ad1 d.fds.length cap1)) (w.heap.size + 1) 125 [.int .i64 0, .int .i64 0, .int .i64 0, .slice none 0 0, .int .i64 0, .string ⟨#[]⟩, .bool false, .bool false, .int .i64 0, .string ⟨#[]⟩, .bool false, .bool false, .int .i64 0, .int .i64 0, .bool false] := (RY.far ⟨(w.heap.size + 1 + 1), 3, none⟩ (.slice ad1 d.fds.length cap1) (show (w.heap.size + 1 + 1) ≠ (w.heap.size + 1) by omega))
  have NRZ : RowIs (w1.setCell ⟨(w.heap.size + 1 + 1), 3, none⟩ (.slice ad1 d.fds.length cap1)) (w.heap.size + 1 + 1) 125 [.int .i64 d.id, .int .i64 d.get, .int .i64 d.give, .slice ad1 d.fds.length cap1, .int .i64 0, .string ⟨#[]⟩, .bool false, .bool false, .int .i64 0, .string ⟨#[]⟩, .bool false, .bool false, .int .i64 0, .int .i64 0, .bool false] := (RZ.set 3 (.slice ad1 d.fds.length cap1))
  have NHB := (HB.setCell (p := ⟨(w.heap.size + 1 + 1), 3, none⟩) (show w.heap.size ≤ (w.heap.size + 1 + 1) by omega) (.slice ad1 d.fds.length cap1))
  generalize hV : (w1.setCell ⟨(w.heap.size + 1 + 1), 3, none⟩ (.slice ad1 d.fds.length cap1)) = V2 at *
  clear hV
  clear RX
  have RX := NRX
  clear NRX
  clear RY
  have RY := NRY
  clear NRY
  clear RZ
  have RZ := NRZ
  clear NRZ
  clear HB
  have HB := NHB
  clear NHB
  clear HO
  have HO := NO
  clear NO
  have x4 := RowIs.cell (j := 4) RX rfl
  have x5 := RowIs.cell (j := 5) RX rfl
  have x6 := RowIs.cell (j := 6) RX rfl
  have x7 := RowIs.cell (j := 7) RX rfl
  have x8 := RowIs.cell (j := 8) RX rfl
  have x9 := RowIs.cell (j := 9) RX rfl
  have x10 := RowIs.cell (j := 10) RX rfl
  have x11 := RowIs.cell (j := 11) RX rfl
  have x12 := RowIs.cell (j := 12) RX rfl
  have x13 := RowIs.cell (j := 13) RX rfl
  have xf := fun j => RowIs.frozen RX j
  have xl := RX.lt
  go_wp2_with fail
  clear x4 x5 x6 x7 x8 x9 x10 x11 x12 x13 xf xl
  refine (toTunnel1 d.tun _).mono ?_; rintro x w2 ⟨rfl, hb⟩
  replace HO := hide (HO.out.new hb)
  replace RX := RX.new hb
  replace RY := RY.new hb
  replace RZ := RZ.new hb
  replace HB := bchain HB hb
  clear hb
  have z4 := RowIs.cell (j := 4) RZ rfl
  have z5 := RowIs.cell (j := 5) RZ rfl
  have z6 := RowIs.cell (j := 6) RZ rfl
  have z7 := RowIs.cell (j := 7) RZ rfl
  have z8 := RowIs.cell (j := 8) RZ rfl
  have z9 := RowIs.cell (j := 9) RZ rfl
  have z10 := RowIs.cell (j := 10) RZ rfl
  have z11 := RowIs.cell (j := 11) RZ rfl
  have z12 := RowIs.cell (j := 12) RZ rfl
  have z13 := RowIs.cell (j := 13) RZ rfl
  have zf := fun j => RowIs.frozen RZ j
  have zl := RZ.lt
  dsimp only [tuv]
  go_upto_region 7 with fail
  clear z4 z5 z6 z7 z8 z9 z10 z11 z12 z13 zf zl
  have NO := hide (OwX.far (OwX.far (OwX.far (OwX.far (OwX.far (OwX.far (OwX.far (OwX.far (OwX.far (OwX.far HO.out ⟨w.heap.size + 1 + 1, 4, none⟩ (.int .i64 d.tun.up.r) (.inl (show w.heap.size + 1 + 1 < w.heap.size + 3 by omega))) ⟨w.heap.size + 1 + 1, 5, none⟩ (.string d.tun.up.b) (.inl (show w.heap.size + 1 + 1 < w.heap.size + 3 by omega))) ⟨w.heap.size + 1 + 1, 6, none⟩ (.bool d.tun.up.e) (.inl (show w.heap.size + 1 + 1 < w.heap.size + 3 by omega))) ⟨w.heap.size + 1 + 1, 7, none⟩ (.bool d.tun.up.k) (.inl (show w.heap.size + 1 + 1 < w.heap.size + 3 by omega))) ⟨w.heap.size + 1 + 1, 8, none⟩ (.int .i64 d.tun.dn.r) (.inl (show w.heap.size + 1 + 1 < w.heap.size + 3 by omega))) ⟨w.heap.size + 1 + 1, 9, none⟩ (.string d.tun.dn.b) (.inl (show w.heap.size + 1 + 1 < w.heap.size + 3 by omega))) ⟨w.heap.size + 1 + 1, 10, none⟩ (.bool d.tun.dn.e) (.inl (show w.heap.size + 1 + 1 < w.heap.size + 3 by omega))) ⟨w.heap.size + 1 + 1, 11, none⟩ (.bool d.tun.dn.k) (.inl (show w.heap.size + 1 + 1 < w.heap.size + 3 by omega))) ⟨w.heap.size + 1 + 1, 12, none⟩ (.int .i64 d.tun.went) (.inl (show w.heap.size + 1 + 1 < w.heap.size + 3 by omega))) ⟨w.heap.size + 1 + 1, 13, none⟩ (.int .i64 d.tun.came) (.inl (show w.heap.size + 1 + 1 < w.heap.size + 3 by omega)))
  have NRX : RowIs ((((((((((w2.setCell ⟨(w.heap.size + 1 + 1), 4, none⟩ (.int .i64 d.tun.up.r)).setCell ⟨(w.heap.size + 1 + 1), 5, none⟩ (.string d.tun.up.b)).setCell ⟨(w.heap.size + 1 + 1), 6, none⟩ (.bool d.tun.up.e)).setCell ⟨(w.heap.size + 1 + 1), 7, none⟩ (.bool d.tun.up.k)).setCell ⟨(w.heap.size + 1 + 1), 8, none⟩ (.int .i64 d.tun.dn.r)).setCell ⟨(w.heap.size + 1 + 1), 9, none⟩ (.string d.tun.dn.b)).setCell ⟨(w.heap.size + 1 + 1), 10, none⟩ (.bool d.tun.dn.e)).setCell ⟨(w.heap.size + 1 + 1), 11, none⟩ (.bool d.tun.dn.k)).setCell ⟨(w.heap.size + 1 + 1), 12, none⟩ (.int .i64 d.tun.went)).setCell ⟨(w.heap.size + 1 + 1), 13, none⟩ (.int .i64 d.tun.came)) w.heap.size 203 [.int .i64 d.id, .int .i64 d.get, .int .i64 d.give, .slice a0 d.fds.length p0, .int .i64 d.tun.up.r, .string d.tun.up.b, .bool d.tun.up.e, .bool d.tun.up.k, .int .i64 d.tun.dn.r, .string d.tun.dn.b, .bool d.tun.dn.e, .bool d.tun.dn.k, .int .i64 d.tun.went, .int .i64 d.tun.came, .bool d.ended] := ((((((((((RX.far ⟨(w.heap.size + 1 + 1), 4, none⟩ (.int .i64 d.tun.up.r) (show (w.heap.size + 1 + 1) ≠ w.heap.size by omega)).far ⟨(w.heap.size + 1 + 1), 5, none⟩ (.string d.tun.up.b) (show (w.heap.size + 1 + 1) ≠ w.heap.size by omega)).far ⟨(w.heap.size + 1 + 1), 6, none⟩ (.bool d.tun.up.e) (show (w.heap.size + 1 + 1) ≠ w.heap.size by omega)).far ⟨(w.heap.size + 1 + 1), 7, none⟩ (.bool d.tun.up.k) (show (w.heap.size + 1 + 1) ≠ w.heap.size by omega)).far ⟨(w.heap.size + 1 + 1), 8, none⟩ (.int .i64 d.tun.dn.r) (show (w.heap.size + 1 + 1) ≠ w.heap.size by omega)).far ⟨(w.heap.size + 1 + 1), 9, none⟩ (.string d.tun.dn.b) (show (w.heap.size + 1 + 1) ≠ w.heap.size by omega)).far ⟨(w.heap.size + 1 + 1), 10, none⟩ (.bool d.tun.dn.e) (show (w.heap.size + 1 + 1) ≠ w.heap.size by omega)).far ⟨(w.heap.size + 1 + 1), 11, none⟩ (.bool d.tun.dn.k) (show (w.heap.size + 1 + 1) ≠ w.heap.size by omega)).far ⟨(w.heap.size + 1 + 1), 12, none⟩ (.int .i64 d.tun.went) (show (w.heap.size + 1 + 1) ≠ w.heap.size by omega)).far ⟨(w.heap.size + 1 + 1), 13, none⟩ (.int .i64 d.tun.came) (show (w.heap.size + 1 + 1) ≠ w.heap.size by omega))
  have NRY : RowIs ((((((((((w2.setCell ⟨(w.heap.size + 1 + 1), 4, none⟩ (.int .i64 d.tun.up.r)).setCell ⟨(w.heap.size + 1 + 1), 5, none⟩ (.string d.tun.up.b)).setCell ⟨(w.heap.size + 1 + 1), 6, none⟩ (.bool d.tun.up.e)).setCell ⟨(w.heap.size + 1 + 1), 7, none⟩ (.bool d.tun.up.k)).setCell ⟨(w.heap.size + 1 + 1), 8, none⟩ (.int .i64 d.tun.dn.r)).setCell ⟨(w.heap.size + 1 + 1), 9, none⟩ (.string d.tun.dn.b)).setCell ⟨(w.heap.size + 1 + 1), 10, none⟩ (.bool d.tun.dn.e)).setCell ⟨(w.heap.size + 1 + 1), 11, none⟩ (.bool d.tun.dn.k)).setCell ⟨(w.heap.size + 1 + 1), 12, none⟩ (.int .i64 d.tun.went)).setCell ⟨(w.heap.size + 1 + 1), 13, none⟩ (.int .i64 d.tun.came)) (w.heap.size + 1) 125 [.int .i64 0, .int .i64 0, .int .i64 0, .slice none 0 0, .int .i64 0, .string ⟨#[]⟩, .bool false, .bool false, .int .i64 0, .string ⟨#[]⟩, .bool false, .bool false, .int .i64 0, .int .i64 0, .bool false] := ((((((((((RY.far ⟨(w.heap.size + 1 + 1), 4, none⟩ (.int .i64 d.tun.up.r) (show (w.heap.size + 1 + 1) ≠ (w.heap.size + 1) by omega)).far ⟨(w.heap.size + 1 + 1), 5, none⟩ (.string d.tun.up.b) (show (w.heap.size + 1 + 1) ≠ (w.heap.size + 1) by omega)).far ⟨(w.heap.size + 1 + 1), 6, none⟩ (.bool d.tun.up.e) (show (w.heap.size + 1 + 1) ≠ (w.heap.size + 1) by omega)).far ⟨(w.heap.size + 1 + 1), 7, none⟩ (.bool d.tun.up.k) (show (w.heap.size + 1 + 1) ≠ (w.heap.size + 1) by omega)).far ⟨(w.heap.size + 1 + 1), 8, none⟩ (.int .i64 d.tun.dn.r) (show (w.heap.size + 1 + 1) ≠ (w.heap.size + 1) by omega)).far ⟨(w.heap.size + 1 + 1), 9, none⟩ (.string d.tun.dn.b) (show (w.heap.size + 1 + 1) ≠ (w.heap.size + 1) by omega)).far ⟨(w.heap.size + 1 + 1), 10, none⟩ (.bool d.tun.dn.e) (show (w.heap.size + 1 + 1) ≠ (w.heap.size + 1) by omega)).far ⟨(w.heap.size + 1 + 1), 11, none⟩ (.bool d.tun.dn.k) (show (w.heap.size + 1 + 1) ≠ (w.heap.size + 1) by omega)).far ⟨(w.heap.size + 1 + 1), 12, none⟩ (.int .i64 d.tun.went) (show (w.heap.size + 1 + 1) ≠ (w.heap.size + 1) by omega)).far ⟨(w.heap.size + 1 + 1), 13, none⟩ (.int .i64 d.tun.came) (show (w.heap.size + 1 + 1) ≠ (w.heap.size + 1) by omega))
  have NRZ : RowIs ((((((((((w2.setCell ⟨(w.heap.size + 1 + 1), 4, none⟩ (.int .i64 d.tun.up.r)).setCell ⟨(w.heap.size + 1 + 1), 5, none⟩ (.string d.tun.up.b)).setCell ⟨(w.heap.size + 1 + 1), 6, none⟩ (.bool d.tun.up.e)).setCell ⟨(w.heap.size + 1 + 1), 7, none⟩ (.bool d.tun.up.k)).setCell ⟨(w.heap.size + 1 + 1), 8, none⟩ (.int .i64 d.tun.dn.r)).setCell ⟨(w.heap.size + 1 + 1), 9, none⟩ (.string d.tun.dn.b)).setCell ⟨(w.heap.size + 1 + 1), 10, none⟩ (.bool d.tun.dn.e)).setCell ⟨(w.heap.size + 1 + 1), 11, none⟩ (.bool d.tun.dn.k)).setCell ⟨(w.heap.size + 1 + 1), 12, none⟩ (.int .i64 d.tun.went)).setCell ⟨(w.heap.size + 1 + 1), 13, none⟩ (.int .i64 d.tun.came)) (w.heap.size + 1 + 1) 125 [.int .i64 d.id, .int .i64 d.get, .int .i64 d.give, .slice ad1 d.fds.length cap1, .int .i64 d.tun.up.r, .string d.tun.up.b, .bool d.tun.up.e, .bool d.tun.up.k, .int .i64 d.tun.dn.r, .string d.tun.dn.b, .bool d.tun.dn.e, .bool d.tun.dn.k, .int .i64 d.tun.went, .int .i64 d.tun.came, .bool false] := ((((((((((RZ.set 4 (.int .i64 d.tun.up.r)).set 5 (.string d.tun.up.b)).set 6 (.bool d.tun.up.e)).set 7 (.bool d.tun.up.k)).set 8 (.int .i64 d.tun.dn.r)).set 9 (.string d.tun.dn.b)).set 10 (.bool d.tun.dn.e)).set 11 (.bool d.tun.dn.k)).set 12 (.int .i64 d.tun.went)).set 13 (.int .i64 d.tun.came))
  have NHB := ((((((((((HB.setCell (p := ⟨(w.heap.size + 1 + 1), 4, none⟩) (show w.heap.size ≤ (w.heap.size + 1 + 1) by omega) (.int .i64 d.tun.up.r)).setCell (p := ⟨(w.heap.size + 1 + 1), 5, none⟩) (show w.heap.size ≤ (w.heap.size + 1 + 1) by omega) (.string d.tun.up.b)).setCell (p := ⟨(w.heap.size + 1 + 1), 6, none⟩) (show w.heap.size ≤ (w.heap.size + 1 + 1) by omega) (.bool d.tun.up.e)).setCell (p := ⟨(w.heap.size + 1 + 1), 7, none⟩) (show w.heap.size ≤ (w.heap.size + 1 + 1) by omega) (.bool d.tun.up.k)).setCell (p := ⟨(w.heap.size + 1 + 1), 8, none⟩) (show w.heap.size ≤ (w.heap.size + 1 + 1) by omega) (.int .i64 d.tun.dn.r)).setCell (p := ⟨(w.heap.size + 1 + 1), 9, none⟩) (show w.heap.size ≤ (w.heap.size + 1 + 1) by omega) (.string d.tun.dn.b)).setCell (p := ⟨(w.heap.size + 1 + 1), 10, none⟩) (show w.heap.size ≤ (w.heap.size + 1 + 1) by omega) (.bool d.tun.dn.e)).setCell (p := ⟨(w.heap.size + 1 + 1), 11, none⟩) (show w.heap.size ≤ (w.heap.size + 1 + 1) by omega) (.bool d.tun.dn.k)).setCell (p := ⟨(w.heap.size + 1 + 1), 12, none⟩) (show w.heap.size ≤ (w.heap.size + 1 + 1) by omega) (.int .i64 d.tun.went)).setCell (p := ⟨(w.heap.size + 1 + 1), 13, none⟩) (show w.heap.size ≤ (w.heap.size + 1 + 1) by omega) (.int .i64 d.tun.came))
  generalize hV : ((((((((((w2.setCell ⟨(w.heap.size + 1 + 1), 4, none⟩ (.int .i64 d.tun.up.r)).setCell ⟨(w.heap.size + 1 + 1), 5, none⟩ (.string d.tun.up.b)).setCell ⟨(w.heap.size + 1 + 1), 6, none⟩ (.bool d.tun.up.e)).setCell ⟨(w.heap.size + 1 + 1), 7, none⟩ (.bool d.tun.up.k)).setCell ⟨(w.heap.size + 1 + 1), 8, none⟩ (.int .i64 d.tun.dn.r)).setCell ⟨(w.heap.size + 1 + 1), 9, none⟩ (.string d.tun.dn.b)).setCell ⟨(w.heap.size + 1 + 1), 10, none⟩ (.bool d.tun.dn.e)).setCell ⟨(w.heap.size + 1 + 1), 11, none⟩ (.bool d.tun.dn.k)).setCell ⟨(w.heap.size + 1 + 1), 12, none⟩ (.int .i64 d.tun.went)).setCell ⟨(w.heap.size + 1 + 1), 13, none⟩ (.int .i64 d.tun.came)) = V3 at *
  clear hV
  clear RX
  have RX := NRX
  clear NRX
  clear RY
  have RY := NRY
  clear NRY
  clear RZ
  have RZ := NRZ
  clear NRZ
  clear HB
  have HB := NHB
  clear NHB
  clear HO
  have HO := NO
  clear NO
  have x14 := RowIs.cell (j := 14) RX rfl
  have xf := fun j => RowIs.frozen RX j
  have xl := RX.lt
  have z14 := RowIs.cell (j := 14) RZ rfl
  have zf := fun j => RowIs.frozen RZ j
  have zl := RZ.lt
  go_upto_region 8 with fail
  clear x14 xf xl
  clear z14 zf zl
  have NO := hide (OwX.far HO.out ⟨w.heap.size + 1 + 1, 14, none⟩ (.bool d.ended) (.inl (show w.heap.size + 1 + 1 < w.heap.size + 3 by omega)))
  have NRX : RowIs (V3.setCell ⟨(w.heap.size + 1 + 1), 14, none⟩ (.bool d.ended)) w.heap.size 203 [.int .i64 d.id, .int .i64 d.get, .int .i64 d.give, .slice a0 d.fds.length p0, .int .i64 d.tun.up.r, .string d.tun.up.b, .bool d.tun.up.e, .bool d.tun.up.k, .int .i64 d.tun.dn.r, .string d.tun.dn.b, .bool d.tun.dn.e, .bool d.tun.dn.k, .int .i64 d.tun.went, .int .i64 d.tun.came, .bool d.ended] := (RX.far ⟨(w.heap.size + 1 + 1), 14, none⟩ (.bool d.ended) (show (w.heap.size + 1 + 1) ≠ w.heap.size by omega))
  have NRY : RowIs (V3.setCell ⟨(w.heap.size + 1 + 1), 14, none⟩ (.bool d.ended)) (w.heap.size + 1) 125 [.int .i64 0, .int .i64 0, .int .i64 0, .slice none 0 0, .int .i64 0, .string ⟨#[]⟩, .bool false, .bool false, .int .i64 0, .string ⟨#[]⟩, .bool false, .bool false, .int .i64 0, .int .i64 0, .bool false] := (RY.far ⟨(w.heap.size + 1 + 1), 14, none⟩ (.bool d.ended) (show (w.heap.size + 1 + 1) ≠ (w.heap.size + 1) by omega))
  have NRZ : RowIs (V3.setCell ⟨(w.heap.size + 1 + 1), 14, none⟩ (.bool d.ended)) (w.heap.size + 1 + 1) 125 [.int .i64 d.id, .int .i64 d.get, .int .i64 d.give, .slice ad1 d.fds.length cap1, .int .i64 d.tun.up.r, .string d.tun.up.b, .bool d.tun.up.e, .bool d.tun.up.k, .int .i64 d.tun.dn.r, .string d.tun.dn.b, .bool d.tun.dn.e, .bool d.tun.dn.k, .int .i64 d.tun.went, .int .i64 d.tun.came, .bool d.ended] := (RZ.set 14 (.bool d.ended))
  have NHB := (HB.setCell (p := ⟨(w.heap.size + 1 + 1), 14, none⟩) (show w.heap.size ≤ (w.heap.size + 1 + 1) by omega) (.bool d.ended))
  generalize hV : (V3.setCell ⟨(w.heap.size + 1 + 1), 14, none⟩ (.bool d.ended)) = V4 at *
  clear hV
  clear RX
  have RX := NRX
  clear NRX
  clear RY
  have RY := NRY
  clear NRY
  clear RZ
  have RZ := NRZ
  clear NRZ
  clear HB
  have HB := NHB
  clear NHB
  clear HO
  have HO := NO
  clear NO
  go_wp2_with (first | (refine wpList_load_row (by rfl) 125 _ (by rfl) (w.heap.size + 1 + 1) (by rfl) [.int .i64 d.id, .int .i64 d.get, .int .i64 d.give, .slice ad1 d.fds.length cap1, .int .i64 d.tun.up.r, .string d.tun.up.b, .bool d.tun.up.e, .bool d.tun.up.k, .int .i64 d.tun.dn.r, .string d.tun.dn.b, .bool d.tun.dn.e, .bool d.tun.dn.k, .int .i64 d.tun.went, .int .i64 d.tun.came, .bool d.ended] _ 125 RZ Tryz.underlying125 rfl (by kernel_rfl) ?_) | (refine wpList_store_row (by rfl) 125 _ _ (by rfl) (w.heap.size + 1) [.int .i64 d.id, .int .i64 d.get, .int .i64 d.give, .slice ad1 d.fds.length cap1, .int .i64 d.tun.up.r, .string d.tun.up.b, .bool d.tun.up.e, .bool d.tun.up.k, .int .i64 d.tun.dn.r, .string d.tun.dn.b, .bool d.tun.dn.e, .bool d.tun.dn.k, .int .i64 d.tun.went, .int .i64 d.tun.came, .bool d.ended] (by rfl) (by rfl) 125 [.int .i64 0, .int .i64 0, .int .i64 0, .slice none 0 0, .int .i64 0, .string ⟨#[]⟩, .bool false, .bool false, .int .i64 0, .string ⟨#[]⟩, .bool false, .bool false, .int .i64 0, .int .i64 0, .bool false] RY (by kernel_rfl) rfl (by intro u hu; simp at hu; rcases hu with rfl | rfl | rfl | rfl | rfl | rfl | rfl | rfl | rfl | rfl | rfl | rfl | rfl | rfl | rfl <;> rfl) ?_))
  have NO := hide (OwX.keep1 HO.out (setRow_size V4 _ #[.int .i64 d.id, .int .i64 d.get, .int .i64 d.give, .slice ad1 d.fds.length cap1, .int .i64 d.tun.up.r, .string d.tun.up.b, .bool d.tun.up.e, .bool d.tun.up.k, .int .i64 d.tun.dn.r, .string d.tun.dn.b, .bool d.tun.dn.e, .bool d.tun.dn.k, .int .i64 d.tun.went, .int .i64 d.tun.came, .bool d.ended]) (fun k hk => setRow_other V4 (w.heap.size + 1) #[.int .i64 d.id, .int .i64 d.get, .int .i64 d.give, .slice ad1 d.fds.length cap1, .int .i64 d.tun.up.r, .string d.tun.up.b, .bool d.tun.up.e, .bool d.tun.up.k, .int .i64 d.tun.dn.r, .string d.tun.dn.b, .bool d.tun.dn.e, .bool d.tun.dn.k, .int .i64 d.tun.went, .int .i64 d.tun.came, .bool d.ended] k (by omega)))
  have NRX := RX.kept (setRow_other V4 (w.heap.size + 1) #[.int .i64 d.id, .int .i64 d.get, .int .i64 d.give, .slice ad1 d.fds.length cap1, .int .i64 d.tun.up.r, .string d.tun.up.b, .bool d.tun.up.e, .bool d.tun.up.k, .int .i64 d.tun.dn.r, .string d.tun.dn.b, .bool d.tun.dn.e, .bool d.tun.dn.k, .int .i64 d.tun.went, .int .i64 d.tun.came, .bool d.ended] w.heap.size (by omega))
  have NRY : RowIs (V4.setRow (w.heap.size + 1) #[.int .i64 d.id, .int .i64 d.get, .int .i64 d.give, .slice ad1 d.fds.length cap1, .int .i64 d.tun.up.r, .string d.tun.up.b, .bool d.tun.up.e, .bool d.tun.up.k, .int .i64 d.tun.dn.r, .string d.tun.dn.b, .bool d.tun.dn.e, .bool d.tun.dn.k, .int .i64 d.tun.went, .int .i64 d.tun.came, .bool d.ended]) (w.heap.size + 1) 125 [.int .i64 d.id, .int .i64 d.get, .int .i64 d.give, .slice ad1 d.fds.length cap1, .int .i64 d.tun.up.r, .string d.tun.up.b, .bool d.tun.up.e, .bool d.tun.up.k, .int .i64 d.tun.dn.r, .string d.tun.dn.b, .bool d.tun.dn.e, .bool d.tun.dn.k, .int .i64 d.tun.went, .int .i64 d.tun.came, .bool d.ended] := rowIs_setRow (cs' := [.int .i64 d.id, .int .i64 d.get, .int .i64 d.give, .slice ad1 d.fds.length cap1, .int .i64 d.tun.up.r, .string d.tun.up.b, .bool d.tun.up.e, .bool d.tun.up.k, .int .i64 d.tun.dn.r, .string d.tun.dn.b, .bool d.tun.dn.e, .bool d.tun.dn.k, .int .i64 d.tun.went, .int .i64 d.tun.came, .bool d.ended]) RY
  have NRZ := RZ.kept (setRow_other V4 (w.heap.size + 1) #[.int .i64 d.id, .int .i64 d.get, .int .i64 d.give, .slice ad1 d.fds.length cap1, .int .i64 d.tun.up.r, .string d.tun.up.b, .bool d.tun.up.e, .bool d.tun.up.k, .int .i64 d.tun.dn.r, .string d.tun.dn.b, .bool d.tun.dn.e, .bool d.tun.dn.k, .int .i64 d.tun.went, .int .i64 d.tun.came, .bool d.ended] (w.heap.size + 1 + 1) (by omega))
  have NHB := below_setRow HB (show w.heap.size ≤ (w.heap.size + 1) by omega) #[.int .i64 d.id, .int .i64 d.get, .int .i64 d.give, .slice ad1 d.fds.length cap1, .int .i64 d.tun.up.r, .string d.tun.up.b, .bool d.tun.up.e, .bool d.tun.up.k, .int .i64 d.tun.dn.r, .string d.tun.dn.b, .bool d.tun.dn.e, .bool d.tun.dn.k, .int .i64 d.tun.went, .int .i64 d.tun.came, .bool d.ended]
  generalize hV : V4.setRow (w.heap.size + 1) #[.int .i64 d.id, .int .i64 d.get, .int .i64 d.give, .slice ad1 d.fds.length cap1, .int .i64 d.tun.up.r, .string d.tun.up.b, .bool d.tun.up.e, .bool d.tun.up.k, .int .i64 d.tun.dn.r, .string d.tun.dn.b, .bool d.tun.dn.e, .bool d.tun.dn.k, .int .i64 d.tun.went, .int .i64 d.tun.came, .bool d.ended] = V5 at *
  clear hV
  clear RX
  have RX := NRX
  clear NRX
  clear RY
  have RY := NRY
  clear NRY
  clear RZ
  have RZ := NRZ
  clear NRZ
  clear HB
  have HB := NHB
  clear NHB
  clear HO
  have HO := NO
  clear NO
  have y0 := RowIs.cell (j := 0) RY rfl
  have y1 := RowIs.cell (j := 1) RY rfl
  have y2 := RowIs.cell (j := 2) RY rfl
  have y3 := RowIs.cell (j := 3) RY rfl
  have y4 := RowIs.cell (j := 4) RY rfl
  have y5 := RowIs.cell (j := 5) RY rfl
  have y6 := RowIs.cell (j := 6) RY rfl
  have y7 := RowIs.cell (j := 7) RY rfl
  have y8 := RowIs.cell (j := 8) RY rfl
  have y9 := RowIs.cell (j := 9) RY rfl
  have y10 := RowIs.cell (j := 10) RY rfl
  have y11 := RowIs.cell (j := 11) RY rfl
  have y12 := RowIs.cell (j := 12) RY rfl
  have y13 := RowIs.cell (j := 13) RY rfl
  have y14 := RowIs.cell (j := 14) RY rfl
  have yf := fun j => RowIs.frozen RY j
  have yl := RY.lt
  refine bodyPost_ret (v := .agg #[.int .i64 d.id, .int .i64 d.get, .int .i64 d.give, .slice ad1 d.fds.length cap1, .int .i64 d.tun.up.r, .string d.tun.up.b, .bool d.tun.up.e, .bool d.tun.up.k, .int .i64 d.tun.dn.r, .string d.tun.dn.b, .bool d.tun.dn.e, .bool d.tun.dn.k, .int .i64 d.tun.went, .int .i64 d.tun.came, .bool d.ended]) (by simp [results, Tryz.results136, go_sem, *]) rfl ?_
  exact ⟨_, rfl, HO.out.top.wide (by omega) (Nat.le_refl _), HB⟩
set_option maxHeartbeats 2000000 in
theorem eqFlow1 (d : FlD) (v u : Value) (w : World) (hv : RdR fieldS w v d.fds) (hf0 : d.tun.up.b.size ≤ 9223372036854775807) (hf1 : d.tun.dn.b.size ≤ 9223372036854775807) (hu : RdR fieldS w u d.fds) :
    Calls Tryz.prog 139 #[.agg #[.int .i64 d.id, .int .i64 d.get, .int .i64 d.give, v, .int .i64 d.tun.up.r, .string d.tun.up.b, .bool d.tun.up.e, .bool d.tun.up.k, .int .i64 d.tun.dn.r, .string d.tun.dn.b, .bool d.tun.dn.e, .bool d.tun.dn.k, .int .i64 d.tun.went, .int .i64 d.tun.came, .bool d.ended], .agg #[.int .i64 d.id, .int .i64 d.get, .int .i64 d.give, u, .int .i64 d.tun.up.r, .string d.tun.up.b, .bool d.tun.up.e, .bool d.tun.up.k, .int .i64 d.tun.dn.r, .string d.tun.dn.b, .bool d.tun.dn.e, .bool d.tun.dn.k, .int .i64 d.tun.went, .int .i64 d.tun.came, .bool d.ended]] w fun x w' => x = .returned (.bool true) ∧ Below w.heap.size w w' := by
  have HV := hide hv
  obtain ⟨a0, p0, rfl, _⟩ := hv.form
  have HU := hide hu
  obtain ⟨a1, p1, rfl, _⟩ := hu.form
  clear hv hu
  obtain ⟨W, hW⟩ : ∃ W, (w.alloc (.cells #[.int .i64 d.id, .int .i64 d.get, .int .i64 d.give, .slice a0 d.fds.length p0, .int .i64 d.tun.up.r, .string d.tun.up.b, .bool d.tun.up.e, .bool d.tun.up.k, .int .i64 d.tun.dn.r, .string d.tun.dn.b, .bool d.tun.dn.e, .bool d.tun.dn.k, .int .i64 d.tun.went, .int .i64 d.tun.came, .bool d.ended] 125)).alloc (.cells #[.int .i64 d.id, .int .i64 d.get, .int .i64 d.give, .slice a1 d.fds.length p1, .int .i64 d.tun.up.r, .string d.tun.up.b, .bool d.tun.up.e, .bool d.tun.up.k, .int .i64 d.tun.dn.r, .string d.tun.dn.b, .bool d.tun.dn.e, .bool d.tun.dn.k, .int .i64 d.tun.went, .int .i64 d.tun.came, .bool d.ended] 125) = W := ⟨_, rfl⟩
  have RX : RowIs W w.heap.size 125 [.int .i64 d.id, .int .i64 d.get, .int .i64 d.give, .slice a0 d.fds.length p0, .int .i64 d.tun.up.r, .string d.tun.up.b, .bool d.tun.up.e, .bool d.tun.up.k, .int .i64 d.tun.dn.r, .string d.tun.dn.b, .bool d.tun.dn.e, .bool d.tun.dn.k, .int .i64 d.tun.went, .int .i64 d.tun.came, .bool d.ended] := by rw [← hW]; exact (rowIs_new w 125 [.int .i64 d.id, .int .i64 d.get, .int .i64 d.give, .slice a0 d.fds.length p0, .int .i64 d.tun.up.r, .string d.tun.up.b, .bool d.tun.up.e, .bool d.tun.up.k, .int .i64 d.tun.dn.r, .string d.tun.dn.b, .bool d.tun.dn.e, .bool d.tun.dn.k, .int .i64 d.tun.went, .int .i64 d.tun.came, .bool d.ended]).alloc _
  have RY : RowIs W (w.heap.size + 1) 125 [.int .i64 d.id, .int .i64 d.get, .int .i64 d.give, .slice a1 d.fds.length p1, .int .i64 d.tun.up.r, .string d.tun.up.b, .bool d.tun.up.e, .bool d.tun.up.k, .int .i64 d.tun.dn.r, .string d.tun.dn.b, .bool d.tun.dn.e, .bool d.tun.dn.k, .int .i64 d.tun.went, .int .i64 d.tun.came, .bool d.ended] := by have := rowIs_new (w.alloc (.cells #[.int .i64 d.id, .int .i64 d.get, .int .i64 d.give, .slice a0 d.fds.length p0, .int .i64 d.tun.up.r, .string d.tun.up.b, .bool d.tun.up.e, .bool d.tun.up.k, .int .i64 d.tun.dn.r, .string d.tun.dn.b, .bool d.tun.dn.e, .bool d.tun.dn.k, .int .i64 d.tun.went, .int .i64 d.tun.came, .bool d.ended] 125)) 125 [.int .i64 d.id, .int .i64 d.get, .int .i64 d.give, .slice a1 d.fds.length p1, .int .i64 d.tun.up.r, .string d.tun.up.b, .bool d.tun.up.e, .bool d.tun.up.k, .int .i64 d.tun.dn.r, .string d.tun.dn.b, .bool d.tun.dn.e, .bool d.tun.dn.k, .int .i64 d.tun.went, .int .i64 d.tun.came, .bool d.ended]; rw [hW] at this; simpa using this
  have HB : Below w.heap.size w W := by rw [← hW]; exact (((Below.refl _ _).alloc (Nat.le_refl _) _).alloc (by simp) _)
  have e0 : (d.id != d.id) = false := by simp
  have e1 : (d.get != d.get) = false := by simp
  have e2 : (d.give != d.give) = false := by simp
  go_enter Tryz.func139, Tryz.ntmps139
  have x0 := RowIs.cell (j := 0) RX rfl
  have x1 := RowIs.cell (j := 1) RX rfl
  have x2 := RowIs.cell (j := 2) RX rfl
  have x3 := RowIs.cell (j := 3) RX rfl
  have xf := fun j => RowIs.frozen RX j
  have xl := RX.lt
  have y0 := RowIs.cell (j := 0) RY rfl
  have y1 := RowIs.cell (j := 1) RY rfl
  have y2 := RowIs.cell (j := 2) RY rfl
  have y3 := RowIs.cell (j := 3) RY rfl
  have yf := fun j => RowIs.frozen RY j
  have yl := RY.lt
  go_wp2_with fail
  clear x0 x1 x2 x3 xf xl
  clear y0 y1 y2 y3 yf yl
  clear hW
  refine (eqFieldS d.fds _ _ _ (HV.out.new HB) (HU.out.new HB)).mono ?_; rintro x w1 ⟨rfl, hb⟩
  replace RX := RX.new hb
  replace RY := RY.new hb
  replace HB := bchain HB hb
  clear hb
  have x4 := RowIs.cell (j := 4) RX rfl
  have x5 := RowIs.cell (j := 5) RX rfl
  have x6 := RowIs.cell (j := 6) RX rfl
  have x7 := RowIs.cell (j := 7) RX rfl
  have x8 := RowIs.cell (j := 8) RX rfl
  have x9 := RowIs.cell (j := 9) RX rfl
  have x10 := RowIs.cell (j := 10) RX rfl
  have x11 := RowIs.cell (j := 11) RX rfl
  have x12 := RowIs.cell (j := 12) RX rfl
  have x13 := RowIs.cell (j := 13) RX rfl
  have xf := fun j => RowIs.frozen RX j
  have xl := RX.lt
  have y4 := RowIs.cell (j := 4) RY rfl
  have y5 := RowIs.cell (j := 5) RY rfl
  have y6 := RowIs.cell (j := 6) RY rfl
  have y7 := RowIs.cell (j := 7) RY rfl
  have y8 := RowIs.cell (j := 8) RY rfl
  have y9 := RowIs.cell (j := 9) RY rfl
  have y10 := RowIs.cell (j := 10) RY rfl
  have y11 := RowIs.cell (j := 11) RY rfl
  have y12 := RowIs.cell (j := 12) RY rfl
  have y13 := RowIs.cell (j := 13) RY rfl
  have yf := fun j => RowIs.frozen RY j
  have yl := RY.lt
  go_wp2_with fail
  clear x4 x5 x6 x7 x8 x9 x10 x11 x12 x13 xf xl
  clear y4 y5 y6 y7 y8 y9 y10 y11 y12 y13 yf yl
  refine (eqTunnel1 d.tun _).mono ?_; rintro x w2 ⟨rfl, hb⟩
  replace RX := RX.new hb
  replace RY := RY.new hb
  replace HB := bchain HB hb
  clear hb
  have x14 := RowIs.cell (j := 14) RX rfl
  have xf := fun j => RowIs.frozen RX j
  have xl := RX.lt
  have y14 := RowIs.cell (j := 14) RY rfl
  have yf := fun j => RowIs.frozen RY j
  have yl := RY.lt
  cases he : d.ended
  · rw [he] at x14 y14
    go_wp2_with fail
    go_ret
    exact ⟨rfl, HB⟩
  · rw [he] at x14 y14
    go_wp2_with fail
    go_ret
    exact ⟨rfl, HB⟩
set_option maxHeartbeats 1000000 in
theorem szTunnel2 (t : TuD) (left : Int) (w : World) (h1 : t.up.b.size ≤ 9223372036854775807) (h2 : t.dn.b.size ≤ 9223372036854775807) (h3 : 0 ≤ left) (h4 : left ≤ 1048576) : Calls Tryz.prog 155 #[tuv t, .int .i64 left] w fun x w' => (x = .returned (.int .i64 (-1)) ∨ (x = .returned (.int .i64 (left - szTunnel t)) ∧ 0 ≤ left - szTunnel t)) ∧ Below w.heap.size w w' := by
  obtain ⟨⟨r, b, e, k⟩, ⟨r2, b2, e2, k2⟩, wt, cm⟩ := t
  unfold szTunnel
  dsimp only [tuv] at *
  replace h1 : b.size ≤ maxLen := by unfold maxLen; omega
  replace h2 : b2.size ≤ maxLen := by unfold maxLen; omega
  have RX := rowIs_new w 201 [.int .i64 r, .string b, .bool e, .bool k, .int .i64 r2, .string b2, .bool e2, .bool k2, .int .i64 wt, .int .i64 cm]
  have HB : Below w.heap.size w (w.alloc (.cells #[.int .i64 r, .string b, .bool e, .bool k, .int .i64 r2, .string b2, .bool e2, .bool k2, .int .i64 wt, .int .i64 cm] 201)) := (Below.refl _ _).alloc (Nat.le_refl _) _
  by_cases c1 : left - b.size < 0
  · go_enter Tryz.func155, Tryz.ntmps155
    go_wp2_with fail
    refine (sz r b e k left _ h1 (by omega) (by omega)).mono ?_; rw [if_pos (by omega)]; rintro x w1 ⟨rfl, hb1⟩
    replace HB := bchain HB hb1
    go_wp2_with fail
    go_ret
    exact ⟨.inl rfl, HB⟩
  obtain ⟨q, hq⟩ : ∃ q, left - b.size = q := ⟨_, rfl⟩
  have hq0 : ¬ q < 0 := by omega
  by_cases c2 : q - b2.size < 0
  · go_enter Tryz.func155, Tryz.ntmps155
    go_wp2_with fail
    refine (sz r b e k left _ h1 (by omega) (by omega)).mono ?_; rw [if_neg (by omega), hq]; rintro x w1 ⟨rfl, hb1⟩
    replace HB := bchain HB hb1
    replace RX := RX.new hb1
    have x0 := RowIs.cell (j := 0) RX rfl; have x1 := RowIs.cell (j := 1) RX rfl; have x2 := RowIs.cell (j := 2) RX rfl; have x3 := RowIs.cell (j := 3) RX rfl; have x4 := RowIs.cell (j := 4) RX rfl; have x5 := RowIs.cell (j := 5) RX rfl; have x6 := RowIs.cell (j := 6) RX rfl; have x7 := RowIs.cell (j := 7) RX rfl; have x10 := RowIs.cell (j := 8) RX rfl; have x11 := RowIs.cell (j := 9) RX rfl; have x9 := fun j => RowIs.frozen RX j; have x8 := RX.lt
    go_wp2_with fail
    refine (sz r2 b2 e2 k2 q _ h2 (by omega) (by omega)).mono ?_; rw [if_pos (by omega)]; rintro x w2 ⟨rfl, hb2⟩
    replace HB := bchain HB hb2
    go_wp2_with fail
    go_ret
    exact ⟨.inl rfl, HB⟩
  obtain ⟨q2, hq2⟩ : ∃ q2, q - b2.size = q2 := ⟨_, rfl⟩
  have hq20 : ¬ q2 < 0 := by omega
  have hq3 : left - ((b.size : Int) + b2.size) = q2 := by omega
  rw [hq3]
  go_enter Tryz.func155, Tryz.ntmps155
  go_wp2_with fail
  refine (sz r b e k left _ h1 (by omega) (by omega)).mono ?_; rw [if_neg (by omega), hq]; rintro x w1 ⟨rfl, hb1⟩
  replace HB := bchain HB hb1
  replace RX := RX.new hb1
  have x0 := RowIs.cell (j := 0) RX rfl; have x1 := RowIs.cell (j := 1) RX rfl; have x2 := RowIs.cell (j := 2) RX rfl; have x3 := RowIs.cell (j := 3) RX rfl; have x4 := RowIs.cell (j := 4) RX rfl; have x5 := RowIs.cell (j := 5) RX rfl; have x6 := RowIs.cell (j := 6) RX rfl; have x7 := RowIs.cell (j := 7) RX rfl; have x10 := RowIs.cell (j := 8) RX rfl; have x11 := RowIs.cell (j := 9) RX rfl; have x9 := fun j => RowIs.frozen RX j; have x8 := RX.lt
  go_wp2_with fail
  refine (sz r2 b2 e2 k2 q _ h2 (by omega) (by omega)).mono ?_; rw [if_neg (by omega), hq2]; rintro x w2 ⟨rfl, hb2⟩
  replace HB := bchain HB hb2
  go_wp2_with fail
  go_ret
  exact ⟨.inr ⟨rfl, by omega⟩, HB⟩
set_option maxHeartbeats 2000000 in
theorem szFlow1 (d : FlD) (v : Value) (left : Int) (w : World) (hv : RdR fieldS w v d.fds) (hf0 : d.tun.up.b.size ≤ 9223372036854775807) (hf1 : d.tun.dn.b.size ≤ 9223372036854775807) (h0 : 0 ≤ left) (h1 : left ≤ 1048576) :
    Calls Tryz.prog 133 #[.agg #[.int .i64 d.id, .int .i64 d.get, .int .i64 d.give, v, .int .i64 d.tun.up.r, .string d.tun.up.b, .bool d.tun.up.e, .bool d.tun.up.k, .int .i64 d.tun.dn.r, .string d.tun.dn.b, .bool d.tun.dn.e, .bool d.tun.dn.k, .int .i64 d.tun.went, .int .i64 d.tun.came, .bool d.ended], .int .i64 left] w fun x w' => (x = .returned (.int .i64 (-1)) ∨ (x = .returned (.int .i64 (left - szFlow d)) ∧ 0 ≤ left - szFlow d)) ∧ Below w.heap.size w w' := by
  have HV := hide hv
  obtain ⟨a0, p0, rfl, _⟩ := hv.form
  clear hv
  unfold szFlow
  have RX := rowIs_new w 203 [.int .i64 d.id, .int .i64 d.get, .int .i64 d.give, .slice a0 d.fds.length p0, .int .i64 d.tun.up.r, .string d.tun.up.b, .bool d.tun.up.e, .bool d.tun.up.k, .int .i64 d.tun.dn.r, .string d.tun.dn.b, .bool d.tun.dn.e, .bool d.tun.dn.k, .int .i64 d.tun.went, .int .i64 d.tun.came, .bool d.ended]
  have HB : Below w.heap.size w (w.alloc (.cells #[.int .i64 d.id, .int .i64 d.get, .int .i64 d.give, .slice a0 d.fds.length p0, .int .i64 d.tun.up.r, .string d.tun.up.b, .bool d.tun.up.e, .bool d.tun.up.k, .int .i64 d.tun.dn.r, .string d.tun.dn.b, .bool d.tun.dn.e, .bool d.tun.dn.k, .int .i64 d.tun.went, .int .i64 d.tun.came, .bool d.ended] 203)) := (Below.refl _ _).alloc (Nat.le_refl _) _
  have hnt := szTunnel_nn d.tun
  have hnf := szFieldS_nn d.fds
  obtain ⟨R, hR⟩ : ∃ R, left - (szFieldS d.fds + szTunnel d.tun) = R := ⟨_, rfl⟩
  rw [hR]
  go_enter Tryz.func133, Tryz.ntmps133
  go_wp2_with fail
  refine (szFieldS1 d.fds _ left _ (HV.out.new HB) h0 h1).mono ?_; rintro x w1 ⟨rfl | ⟨rfl, hp⟩, hb⟩
  · replace HB := bchain HB hb
    go_wp2_with fail
    go_ret
    exact ⟨.inl rfl, HB⟩
  obtain ⟨q, hq⟩ : ∃ q, left - szFieldS d.fds = q := ⟨_, rfl⟩
  rw [hq] at hp ⊢
  have hq0 : ¬ q < 0 := by omega
  replace RX := RX.new hb
  replace HB := bchain HB hb
  clear hb
  have x4 := RowIs.cell (j := 4) RX rfl
  have x5 := RowIs.cell (j := 5) RX rfl
  have x6 := RowIs.cell (j := 6) RX rfl
  have x7 := RowIs.cell (j := 7) RX rfl
  have x8 := RowIs.cell (j := 8) RX rfl
  have x9 := RowIs.cell (j := 9) RX rfl
  have x10 := RowIs.cell (j := 10) RX rfl
  have x11 := RowIs.cell (j := 11) RX rfl
  have x12 := RowIs.cell (j := 12) RX rfl
  have x13 := RowIs.cell (j := 13) RX rfl
  have xf := fun j => RowIs.frozen RX j
  have xl := RX.lt
  go_wp2_with fail
  clear x4 x5 x6 x7 x8 x9 x10 x11 x12 x13 xf xl
  refine (szTunnel2 d.tun q _ hf0 hf1 hp (by omega)).mono ?_; rintro x w2 ⟨rfl | ⟨rfl, hp2⟩, hb⟩
  · replace HB := bchain HB hb
    go_wp2_with fail
    go_ret
    exact ⟨.inl rfl, HB⟩
  have hq3 : q - szTunnel d.tun = R := by omega
  rw [hq3] at hp2 ⊢
  have hq20 : ¬ R < 0 := by omega
  clear hR hq hq3
  replace HB := bchain HB hb
  go_wp2_with fail
  go_ret
  exact ⟨.inr ⟨rfl, hp2⟩, HB⟩
set_option maxHeartbeats 2000000 in
theorem toFlowS (L : List FlD) (v : Value) (w : World) (hr : RdR flowS w v L) (hz : szFlowS L ≤ 1048576) :
    Calls Tryz.prog 121 #[v] w fun x w' => ∃ v', x = .returned v' ∧ OwX flowS w' w.heap.size w'.heap.size v' L ∧ Below w.heap.size w w' := by
  have hL : L.length ≤ 1048576 := by have := szFlowS_len L; omega
  obtain ⟨M, hM, hmk⟩ := make_row 61 125 (.agg #[.int .i64 0, .int .i64 0, .int .i64 0, .slice none 0 0, .int .i64 0, .string ⟨#[]⟩, .bool false, .bool false, .int .i64 0, .string ⟨#[]⟩, .bool false, .bool false, .int .i64 0, .int .i64 0, .bool false]) 15 136 Tryz.underlying61 (by kernel_rfl) rfl (by decide) (by decide) L.length hL
  have hst := filling_start (E := flowS) (owns_made w M 125 15 L.length hM hL)
  obtain ⟨ad, cap, rfl, h1, h2⟩ := hr.form
  have HR := hide hr
  clear hr
  have HZ := hide hz
  clear hz
  go_enter Tryz.func121, Tryz.ntmps121
  go_wp2_with fail
  go_loopw [4] (fun i wr => ∃ (k : Nat), i = .int .i64 k ∧ k ≤ L.length ∧ Hid (Filling flowS w wr L k)) (fun i _ => L.length - (intOf i).toNat)
  case atStart => exact ⟨0, rfl, Nat.zero_le _, hst⟩
  case round =>
    clear hst hmk
    obtain ⟨k, rfl, hk, HFI⟩ := hrel
    by_cases hlt : k < L.length
    · have hb : Below w.heap.size w wr := HFI.out.2.1
      have hrk := (HR.out.new hb).at k hlt
      have hmem : L[k] ∈ L := List.getElem_mem hlt
      obtain ⟨d, hd⟩ : ∃ d, d = L[k] := ⟨_, rfl⟩
      rw [← hd] at hrk hmem
      obtain ⟨b, o, cs, rfl, hbw, hrd, hc⟩ := hrk
      obtain ⟨vfds, rfl, hf0, hf1, hvfds⟩ := hrd
      have Hvfds := hide hvfds
      obtain ⟨avfds, pvfds, rfl, _⟩ := hvfds.form
      clear hvfds
      have hzd : szFlow d ≤ 1048576 := by have := szFlowS_mem hmem; have := HZ.out; omega
      have c0 : wr.cell? ⟨b, o + k * 15, none⟩ = some (.int .i64 d.id) := hc 0 _ rfl
      have c1 : wr.cell? ⟨b, o + k * 15 + 1, none⟩ = some (.int .i64 d.get) := hc 1 _ rfl
      have c2 : wr.cell? ⟨b, o + k * 15 + 2, none⟩ = some (.int .i64 d.give) := hc 2 _ rfl
      have c3 : wr.cell? ⟨b, o + k * 15 + 3, none⟩ = some ((.slice avfds d.fds.length pvfds)) := hc 3 _ rfl
      have c4 : wr.cell? ⟨b, o + k * 15 + 4, none⟩ = some (.int .i64 d.tun.up.r) := hc 4 _ rfl
      have c5 : wr.cell? ⟨b, o + k * 15 + 5, none⟩ = some (.string d.tun.up.b) := hc 5 _ rfl
      have c6 : wr.cell? ⟨b, o + k * 15 + 6, none⟩ = some (.bool d.tun.up.e) := hc 6 _ rfl
      have c7 : wr.cell? ⟨b, o + k * 15 + 7, none⟩ = some (.bool d.tun.up.k) := hc 7 _ rfl
      have c8 : wr.cell? ⟨b, o + k * 15 + 8, none⟩ = some (.int .i64 d.tun.dn.r) := hc 8 _ rfl
      have c9 : wr.cell? ⟨b, o + k * 15 + 9, none⟩ = some (.string d.tun.dn.b) := hc 9 _ rfl
      have c10 : wr.cell? ⟨b, o + k * 15 + 10, none⟩ = some (.bool d.tun.dn.e) := hc 10 _ rfl
      have c11 : wr.cell? ⟨b, o + k * 15 + 11, none⟩ = some (.bool d.tun.dn.k) := hc 11 _ rfl
      have c12 : wr.cell? ⟨b, o + k * 15 + 12, none⟩ = some (.int .i64 d.tun.went) := hc 12 _ rfl
      have c13 : wr.cell? ⟨b, o + k * 15 + 13, none⟩ = some (.int .i64 d.tun.came) := hc 13 _ rfl
      have c14 : wr.cell? ⟨b, o + k * 15 + 14, none⟩ = some (.bool d.ended) := hc 14 _ rfl
      clear hc
      have HD := hide hd
      clear hd hmem
      go_wp2_with fail
      refine (toFlow1 d _ _ Hvfds.out hf0 hf1 hzd).mono ?_
      rintro x w1 ⟨zvfds, rfl, qvfds, hb1⟩
      obtain ⟨ad1, cap1, rfl, _⟩ := qvfds.form
      have hoe : OwE flowS w1 wr.heap.size w1.heap.size [.int .i64 d.id, .int .i64 d.get, .int .i64 d.give, .slice ad1 d.fds.length cap1, .int .i64 d.tun.up.r, .string d.tun.up.b, .bool d.tun.up.e, .bool d.tun.up.k, .int .i64 d.tun.dn.r, .string d.tun.dn.b, .bool d.tun.dn.e, .bool d.tun.dn.k, .int .i64 d.tun.went, .int .i64 d.tun.came, .bool d.ended] d := by
        obtain ⟨bs, g1, g2, g3⟩ := qvfds
        exact ⟨bs, ⟨_, _, rfl, hf0, hf1, g1, rfl⟩, g2, g3⟩
      clear qvfds
      rw [HD.out] at hoe
      obtain ⟨hcell, hfr, hlw, hfi⟩ := filling_step HFI.out hlt hb1 hoe
      rw [← HD.out] at hfi
      obtain ⟨x0, hx0⟩ : ∃ u, w1.cell? ⟨w.heap.size, k * 15, none⟩ = some u := hcell 0 (by decide)
      obtain ⟨x1, hx1⟩ : ∃ u, w1.cell? ⟨w.heap.size, k * 15 + 1, none⟩ = some u := hcell 1 (by decide)
      obtain ⟨x2, hx2⟩ : ∃ u, w1.cell? ⟨w.heap.size, k * 15 + 2, none⟩ = some u := hcell 2 (by decide)
      obtain ⟨x3, hx3⟩ : ∃ u, w1.cell? ⟨w.heap.size, k * 15 + 3, none⟩ = some u := hcell 3 (by decide)
      obtain ⟨x4, hx4⟩ : ∃ u, w1.cell? ⟨w.heap.size, k * 15 + 4, none⟩ = some u := hcell 4 (by decide)
      obtain ⟨x5, hx5⟩ : ∃ u, w1.cell? ⟨w.heap.size, k * 15 + 5, none⟩ = some u := hcell 5 (by decide)
      obtain ⟨x6, hx6⟩ : ∃ u, w1.cell? ⟨w.heap.size, k * 15 + 6, none⟩ = some u := hcell 6 (by decide)
      obtain ⟨x7, hx7⟩ : ∃ u, w1.cell? ⟨w.heap.size, k * 15 + 7, none⟩ = some u := hcell 7 (by decide)
      obtain ⟨x8, hx8⟩ : ∃ u, w1.cell? ⟨w.heap.size, k * 15 + 8, none⟩ = some u := hcell 8 (by decide)
      obtain ⟨x9, hx9⟩ : ∃ u, w1.cell? ⟨w.heap.size, k * 15 + 9, none⟩ = some u := hcell 9 (by decide)
      obtain ⟨x10, hx10⟩ : ∃ u, w1.cell? ⟨w.heap.size, k * 15 + 10, none⟩ = some u := hcell 10 (by decide)
      obtain ⟨x11, hx11⟩ : ∃ u, w1.cell? ⟨w.heap.size, k * 15 + 11, none⟩ = some u := hcell 11 (by decide)
      obtain ⟨x12, hx12⟩ : ∃ u, w1.cell? ⟨w.heap.size, k * 15 + 12, none⟩ = some u := hcell 12 (by decide)
      obtain ⟨x13, hx13⟩ : ∃ u, w1.cell? ⟨w.heap.size, k * 15 + 13, none⟩ = some u := hcell 13 (by decide)
      obtain ⟨x14, hx14⟩ : ∃ u, w1.cell? ⟨w.heap.size, k * 15 + 14, none⟩ = some u := hcell 14 (by decide)
      have e6 := hfr
      have HF2 := hide hfi
      clear hcell hfr hfi hoe
      go_wp2_with fail
      go_roundw
      case rel => exact ⟨k + 1, by go_num, by omega, HF2.out⟩
      case measure => simp [intOf]; omega
    · obtain rfl : k = L.length := by omega
      obtain ⟨hox, hbx⟩ := filling_end HFI.out
      have HX := hide hox
      clear hox
      go_wp2_with fail
      go_ret
      exact ⟨_, rfl, HX.out, hbx⟩
set_option maxHeartbeats 1000000 in
theorem eqFlowS (L : List FlD) (v v' : Value) (w : World) (hr0 : RdR flowS w v L) (hr1 : RdR flowS w v' L) :
    Calls Tryz.prog 126 #[v, v'] w fun x w' => x = .returned (.bool true) ∧ Below w.heap.size w w' := by
  obtain ⟨ad, cap, rfl, h1, h2⟩ := hr0.form
  obtain ⟨ad', cap', rfl, h1', h2'⟩ := hr1.form
  have HR := hide hr0; have HR' := hide hr1
  clear hr0 hr1
  go_enter Tryz.func126, Tryz.ntmps126
  go_wp2_with fail
  go_loopw [5] (fun i wr => ∃ (k : Nat), i = .int .i64 k ∧ k ≤ L.length ∧ Below w.heap.size w wr) (fun i _ => L.length - (intOf i).toNat)
  case atStart => exact ⟨0, rfl, Nat.zero_le _, Below.refl _ _⟩
  case round =>
    obtain ⟨k, rfl, hk, hb⟩ := hrel
    by_cases hlt : k < L.length
    · have hrk := (HR.out.new hb).at k hlt
      have hrk' := (HR'.out.new hb).at k hlt
      obtain ⟨d, hd⟩ : ∃ d, d = L[k] := ⟨_, rfl⟩
      rw [← hd] at hrk hrk'
      clear hd
      obtain ⟨b, o, cs, rfl, hb1, hrd, hc⟩ := hrk
      obtain ⟨b', o', cs', rfl, hb2, hrd', hc'⟩ := hrk'
      obtain ⟨vfds, rfl, hf0, hf1, hvfds⟩ := hrd
      have Hvfds := hide hvfds
      obtain ⟨avfds, pvfds, rfl, _⟩ := hvfds.form
      clear hvfds
      obtain ⟨uvfds, rfl, hfu0, hfu1, huvfds⟩ := hrd'
      have Huvfds := hide huvfds
      obtain ⟨auvfds, puvfds, rfl, _⟩ := huvfds.form
      clear huvfds
      have c0 : wr.cell? ⟨b, o + k * 15, none⟩ = some (.int .i64 d.id) := hc 0 _ rfl
      have c1 : wr.cell? ⟨b, o + k * 15 + 1, none⟩ = some (.int .i64 d.get) := hc 1 _ rfl
      have c2 : wr.cell? ⟨b, o + k * 15 + 2, none⟩ = some (.int .i64 d.give) := hc 2 _ rfl
      have c3 : wr.cell? ⟨b, o + k * 15 + 3, none⟩ = some ((.slice avfds d.fds.length pvfds)) := hc 3 _ rfl
      have c4 : wr.cell? ⟨b, o + k * 15 + 4, none⟩ = some (.int .i64 d.tun.up.r) := hc 4 _ rfl
      have c5 : wr.cell? ⟨b, o + k * 15 + 5, none⟩ = some (.string d.tun.up.b) := hc 5 _ rfl
      have c6 : wr.cell? ⟨b, o + k * 15 + 6, none⟩ = some (.bool d.tun.up.e) := hc 6 _ rfl
      have c7 : wr.cell? ⟨b, o + k * 15 + 7, none⟩ = some (.bool d.tun.up.k) := hc 7 _ rfl
      have c8 : wr.cell? ⟨b, o + k * 15 + 8, none⟩ = some (.int .i64 d.tun.dn.r) := hc 8 _ rfl
      have c9 : wr.cell? ⟨b, o + k * 15 + 9, none⟩ = some (.string d.tun.dn.b) := hc 9 _ rfl
      have c10 : wr.cell? ⟨b, o + k * 15 + 10, none⟩ = some (.bool d.tun.dn.e) := hc 10 _ rfl
      have c11 : wr.cell? ⟨b, o + k * 15 + 11, none⟩ = some (.bool d.tun.dn.k) := hc 11 _ rfl
      have c12 : wr.cell? ⟨b, o + k * 15 + 12, none⟩ = some (.int .i64 d.tun.went) := hc 12 _ rfl
      have c13 : wr.cell? ⟨b, o + k * 15 + 13, none⟩ = some (.int .i64 d.tun.came) := hc 13 _ rfl
      have c14 : wr.cell? ⟨b, o + k * 15 + 14, none⟩ = some (.bool d.ended) := hc 14 _ rfl
      have d0 : wr.cell? ⟨b', o' + k * 15, none⟩ = some (.int .i64 d.id) := hc' 0 _ rfl
      have d1 : wr.cell? ⟨b', o' + k * 15 + 1, none⟩ = some (.int .i64 d.get) := hc' 1 _ rfl
      have d2 : wr.cell? ⟨b', o' + k * 15 + 2, none⟩ = some (.int .i64 d.give) := hc' 2 _ rfl
      have d3 : wr.cell? ⟨b', o' + k * 15 + 3, none⟩ = some ((.slice auvfds d.fds.length puvfds)) := hc' 3 _ rfl
      have d4 : wr.cell? ⟨b', o' + k * 15 + 4, none⟩ = some (.int .i64 d.tun.up.r) := hc' 4 _ rfl
      have d5 : wr.cell? ⟨b', o' + k * 15 + 5, none⟩ = some (.string d.tun.up.b) := hc' 5 _ rfl
      have d6 : wr.cell? ⟨b', o' + k * 15 + 6, none⟩ = some (.bool d.tun.up.e) := hc' 6 _ rfl
      have d7 : wr.cell? ⟨b', o' + k * 15 + 7, none⟩ = some (.bool d.tun.up.k) := hc' 7 _ rfl
      have d8 : wr.cell? ⟨b', o' + k * 15 + 8, none⟩ = some (.int .i64 d.tun.dn.r) := hc' 8 _ rfl
      have d9 : wr.cell? ⟨b', o' + k * 15 + 9, none⟩ = some (.string d.tun.dn.b) := hc' 9 _ rfl
      have d10 : wr.cell? ⟨b', o' + k * 15 + 10, none⟩ = some (.bool d.tun.dn.e) := hc' 10 _ rfl
      have d11 : wr.cell? ⟨b', o' + k * 15 + 11, none⟩ = some (.bool d.tun.dn.k) := hc' 11 _ rfl
      have d12 : wr.cell? ⟨b', o' + k * 15 + 12, none⟩ = some (.int .i64 d.tun.went) := hc' 12 _ rfl
      have d13 : wr.cell? ⟨b', o' + k * 15 + 13, none⟩ = some (.int .i64 d.tun.came) := hc' 13 _ rfl
      have d14 : wr.cell? ⟨b', o' + k * 15 + 14, none⟩ = some (.bool d.ended) := hc' 14 _ rfl
      clear hc hc'
      go_wp2_with fail
      have qa0 : ∀ y : Later wr, y.w.cell? ⟨b, o + k * 15, none⟩ = some (.int .i64 d.id) := fun y => (y.b.cell (p := ⟨b, o + k * 15, none⟩) hb1).trans c0
      have qa1 : ∀ y : Later wr, y.w.cell? ⟨b, o + k * 15 + 1, none⟩ = some (.int .i64 d.get) := fun y => (y.b.cell (p := ⟨b, o + k * 15 + 1, none⟩) hb1).trans c1
      have qa2 : ∀ y : Later wr, y.w.cell? ⟨b, o + k * 15 + 2, none⟩ = some (.int .i64 d.give) := fun y => (y.b.cell (p := ⟨b, o + k * 15 + 2, none⟩) hb1).trans c2
      have qa3 : ∀ y : Later wr, y.w.cell? ⟨b, o + k * 15 + 3, none⟩ = some ((.slice avfds d.fds.length pvfds)) := fun y => (y.b.cell (p := ⟨b, o + k * 15 + 3, none⟩) hb1).trans c3
      have qa4 : ∀ y : Later wr, y.w.cell? ⟨b, o + k * 15 + 4, none⟩ = some (.int .i64 d.tun.up.r) := fun y => (y.b.cell (p := ⟨b, o + k * 15 + 4, none⟩) hb1).trans c4
      have qa5 : ∀ y : Later wr, y.w.cell? ⟨b, o + k * 15 + 5, none⟩ = some (.string d.tun.up.b) := fun y => (y.b.cell (p := ⟨b, o + k * 15 + 5, none⟩) hb1).trans c5
      have qa6 : ∀ y : Later wr, y.w.cell? ⟨b, o + k * 15 + 6, none⟩ = some (.bool d.tun.up.e) := fun y => (y.b.cell (p := ⟨b, o + k * 15 + 6, none⟩) hb1).trans c6
      have qa7 : ∀ y : Later wr, y.w.cell? ⟨b, o + k * 15 + 7, none⟩ = some (.bool d.tun.up.k) := fun y => (y.b.cell (p := ⟨b, o + k * 15 + 7, none⟩) hb1).trans c7
      have qa8 : ∀ y : Later wr, y.w.cell? ⟨b, o + k * 15 + 8, none⟩ = some (.int .i64 d.tun.dn.r) := fun y => (y.b.cell (p := ⟨b, o + k * 15 + 8, none⟩) hb1).trans c8
      have qa9 : ∀ y : Later wr, y.w.cell? ⟨b, o + k * 15 + 9, none⟩ = some (.string d.tun.dn.b) := fun y => (y.b.cell (p := ⟨b, o + k * 15 + 9, none⟩) hb1).trans c9
      have qa10 : ∀ y : Later wr, y.w.cell? ⟨b, o + k * 15 + 10, none⟩ = some (.bool d.tun.dn.e) := fun y => (y.b.cell (p := ⟨b, o + k * 15 + 10, none⟩) hb1).trans c10
      have qa11 : ∀ y : Later wr, y.w.cell? ⟨b, o + k * 15 + 11, none⟩ = some (.bool d.tun.dn.k) := fun y => (y.b.cell (p := ⟨b, o + k * 15 + 11, none⟩) hb1).trans c11
      have qa12 : ∀ y : Later wr, y.w.cell? ⟨b, o + k * 15 + 12, none⟩ = some (.int .i64 d.tun.went) := fun y => (y.b.cell (p := ⟨b, o + k * 15 + 12, none⟩) hb1).trans c12
      have qa13 : ∀ y : Later wr, y.w.cell? ⟨b, o + k * 15 + 13, none⟩ = some (.int .i64 d.tun.came) := fun y => (y.b.cell (p := ⟨b, o + k * 15 + 13, none⟩) hb1).trans c13
      have qa14 : ∀ y : Later wr, y.w.cell? ⟨b, o + k * 15 + 14, none⟩ = some (.bool d.ended) := fun y => (y.b.cell (p := ⟨b, o + k * 15 + 14, none⟩) hb1).trans c14
      have qb0 : ∀ y : Later wr, y.w.cell? ⟨b', o' + k * 15, none⟩ = some (.int .i64 d.id) := fun y => (y.b.cell (p := ⟨b', o' + k * 15, none⟩) hb2).trans d0
      have qb1 : ∀ y : Later wr, y.w.cell? ⟨b', o' + k * 15 + 1, none⟩ = some (.int .i64 d.get) := fun y => (y.b.cell (p := ⟨b', o' + k * 15 + 1, none⟩) hb2).trans d1
      have qb2 : ∀ y : Later wr, y.w.cell? ⟨b', o' + k * 15 + 2, none⟩ = some (.int .i64 d.give) := fun y => (y.b.cell (p := ⟨b', o' + k * 15 + 2, none⟩) hb2).trans d2
      have qb3 : ∀ y : Later wr, y.w.cell? ⟨b', o' + k * 15 + 3, none⟩ = some ((.slice auvfds d.fds.length puvfds)) := fun y => (y.b.cell (p := ⟨b', o' + k * 15 + 3, none⟩) hb2).trans d3
      have qb4 : ∀ y : Later wr, y.w.cell? ⟨b', o' + k * 15 + 4, none⟩ = some (.int .i64 d.tun.up.r) := fun y => (y.b.cell (p := ⟨b', o' + k * 15 + 4, none⟩) hb2).trans d4
      have qb5 : ∀ y : Later wr, y.w.cell? ⟨b', o' + k * 15 + 5, none⟩ = some (.string d.tun.up.b) := fun y => (y.b.cell (p := ⟨b', o' + k * 15 + 5, none⟩) hb2).trans d5
      have qb6 : ∀ y : Later wr, y.w.cell? ⟨b', o' + k * 15 + 6, none⟩ = some (.bool d.tun.up.e) := fun y => (y.b.cell (p := ⟨b', o' + k * 15 + 6, none⟩) hb2).trans d6
      have qb7 : ∀ y : Later wr, y.w.cell? ⟨b', o' + k * 15 + 7, none⟩ = some (.bool d.tun.up.k) := fun y => (y.b.cell (p := ⟨b', o' + k * 15 + 7, none⟩) hb2).trans d7
      have qb8 : ∀ y : Later wr, y.w.cell? ⟨b', o' + k * 15 + 8, none⟩ = some (.int .i64 d.tun.dn.r) := fun y => (y.b.cell (p := ⟨b', o' + k * 15 + 8, none⟩) hb2).trans d8
      have qb9 : ∀ y : Later wr, y.w.cell? ⟨b', o' + k * 15 + 9, none⟩ = some (.string d.tun.dn.b) := fun y => (y.b.cell (p := ⟨b', o' + k * 15 + 9, none⟩) hb2).trans d9
      have qb10 : ∀ y : Later wr, y.w.cell? ⟨b', o' + k * 15 + 10, none⟩ = some (.bool d.tun.dn.e) := fun y => (y.b.cell (p := ⟨b', o' + k * 15 + 10, none⟩) hb2).trans d10
      have qb11 : ∀ y : Later wr, y.w.cell? ⟨b', o' + k * 15 + 11, none⟩ = some (.bool d.tun.dn.k) := fun y => (y.b.cell (p := ⟨b', o' + k * 15 + 11, none⟩) hb2).trans d11
      have qb12 : ∀ y : Later wr, y.w.cell? ⟨b', o' + k * 15 + 12, none⟩ = some (.int .i64 d.tun.went) := fun y => (y.b.cell (p := ⟨b', o' + k * 15 + 12, none⟩) hb2).trans d12
      have qb13 : ∀ y : Later wr, y.w.cell? ⟨b', o' + k * 15 + 13, none⟩ = some (.int .i64 d.tun.came) := fun y => (y.b.cell (p := ⟨b', o' + k * 15 + 13, none⟩) hb2).trans d13
      have qb14 : ∀ y : Later wr, y.w.cell? ⟨b', o' + k * 15 + 14, none⟩ = some (.bool d.ended) := fun y => (y.b.cell (p := ⟨b', o' + k * 15 + 14, none⟩) hb2).trans d14
      clear c0 c1 c2 c3 c4 c5 c6 c7 c8 c9 c10 c11 c12 c13 c14 d0 d1 d2 d3 d4 d5 d6 d7 d8 d9 d10 d11 d12 d13 d14
      have hne : Nonempty (Later wr) := ⟨⟨wr, Below.refl _ _⟩⟩; refine region_later (by kernel_rfl) (by kernel_rfl) ?_
      repeat (go_big_quiet_step (fail))
      go_big_quiet_want; go_big_quiet_op
      refine ⟨.bool true, fun y => later_calls (x := y) (eqFlow1 d _ _ y.w (Hvfds.out.new y.b) hf0 hf1 (Huvfds.out.new y.b)), ?_⟩
      go_big_quiet_on
      repeat (go_big_quiet_step (fail))
      refine wpQuiet_nil ?_; intro _ hw'; obtain ⟨y, hw''⟩ := hw'; subst hw''; have hby := y.b
      go_wp2_with fail
      go_roundw
      case rel => exact ⟨k + 1, by go_num, by omega, bchain hb hby⟩
      case measure => simp [intOf]; omega
    · go_wp2_with fail
      go_ret
      exact ⟨rfl, hb⟩
set_option maxHeartbeats 1000000 in
theorem szFlowS1 (L : List FlD) (v : Value) (left : Int) (w : World) (hr : RdR flowS w v L) (h0 : 0 ≤ left) (h1 : left ≤ 1048576) :
    Calls Tryz.prog 117 #[v, .int .i64 left] w fun x w' => (x = .returned (.int .i64 (-1)) ∨ (x = .returned (.int .i64 (left - szFlowS L)) ∧ 0 ≤ left - szFlowS L)) ∧ Below w.heap.size w w' := by
  obtain ⟨ad, cap, rfl, h2, h3⟩ := hr.form
  have HR := hide hr
  clear hr
  unfold szFlowS
  by_cases h : left - L.length < 0
  · go_enter Tryz.func117, Tryz.ntmps117
    go_wp2
    go_ret
    exact ⟨.inl rfl, Below.refl _ _⟩
  · go_enter Tryz.func117, Tryz.ntmps117
    go_wp2_with fail
    go_loopw [1, 5] (fun l i wr => ∃ (k : Nat), i = .int .i64 k ∧ k ≤ L.length ∧ l = .int .i64 (left - L.length - sumLs szFlow (L.take k)) ∧ 0 ≤ left - L.length - sumLs szFlow (L.take k) ∧ Below w.heap.size w wr) (fun _ i _ => L.length - (intOf i).toNat)
    case atStart => exact ⟨0, rfl, Nat.zero_le _, by simp [sumLs], by simp [sumLs]; omega, Below.refl _ _⟩
    case round =>
      obtain ⟨k, rfl, hk, rfl, hk0, hb⟩ := hrel
      by_cases hlt : k < L.length
      · have hrk := (HR.out.new hb).at k hlt
        have hsn := sum_take szFlow L k hlt
        have hnn := sum_nn szFlow szFlow_nn (L.take k)
        obtain ⟨d, hd⟩ : ∃ d, d = L[k] := ⟨_, rfl⟩
        rw [← hd] at hrk hsn
        clear hd
        obtain ⟨b, o, cs, rfl, hb1, hrd, hc⟩ := hrk
        obtain ⟨vfds, rfl, hf0, hf1, hvfds⟩ := hrd
        have Hvfds := hide hvfds
        obtain ⟨avfds, pvfds, rfl, _⟩ := hvfds.form
        clear hvfds
        have c0 : wr.cell? ⟨b, o + k * 15, none⟩ = some (.int .i64 d.id) := hc 0 _ rfl
        have c1 : wr.cell? ⟨b, o + k * 15 + 1, none⟩ = some (.int .i64 d.get) := hc 1 _ rfl
        have c2 : wr.cell? ⟨b, o + k * 15 + 2, none⟩ = some (.int .i64 d.give) := hc 2 _ rfl
        have c3 : wr.cell? ⟨b, o + k * 15 + 3, none⟩ = some ((.slice avfds d.fds.length pvfds)) := hc 3 _ rfl
        have c4 : wr.cell? ⟨b, o + k * 15 + 4, none⟩ = some (.int .i64 d.tun.up.r) := hc 4 _ rfl
        have c5 : wr.cell? ⟨b, o + k * 15 + 5, none⟩ = some (.string d.tun.up.b) := hc 5 _ rfl
        have c6 : wr.cell? ⟨b, o + k * 15 + 6, none⟩ = some (.bool d.tun.up.e) := hc 6 _ rfl
        have c7 : wr.cell? ⟨b, o + k * 15 + 7, none⟩ = some (.bool d.tun.up.k) := hc 7 _ rfl
        have c8 : wr.cell? ⟨b, o + k * 15 + 8, none⟩ = some (.int .i64 d.tun.dn.r) := hc 8 _ rfl
        have c9 : wr.cell? ⟨b, o + k * 15 + 9, none⟩ = some (.string d.tun.dn.b) := hc 9 _ rfl
        have c10 : wr.cell? ⟨b, o + k * 15 + 10, none⟩ = some (.bool d.tun.dn.e) := hc 10 _ rfl
        have c11 : wr.cell? ⟨b, o + k * 15 + 11, none⟩ = some (.bool d.tun.dn.k) := hc 11 _ rfl
        have c12 : wr.cell? ⟨b, o + k * 15 + 12, none⟩ = some (.int .i64 d.tun.went) := hc 12 _ rfl
        have c13 : wr.cell? ⟨b, o + k * 15 + 13, none⟩ = some (.int .i64 d.tun.came) := hc 13 _ rfl
        have c14 : wr.cell? ⟨b, o + k * 15 + 14, none⟩ = some (.bool d.ended) := hc 14 _ rfl
        clear hc
        generalize hq : sumLs szFlow (List.take k L) = q at *
        generalize hq' : sumLs szFlow (List.take (k + 1) L) = q' at *
        have HQ := hide hq'
        have HSN := hide hsn
        clear hq hq' hsn
        go_wp2_with fail
        refine (szFlow1 d _ _ _ Hvfds.out hf0 hf1 (by omega) (by omega)).mono ?_
        rintro x w1 ⟨rfl | ⟨rfl, hp⟩, hb1⟩
        · go_wp2_with fail
          go_ret
          exact ⟨.inl rfl, bchain hb hb1⟩
        · have hp' : ¬ left - L.length - q - szFlow d < 0 := by omega
          generalize hX : left - L.length - q - szFlow d = X at *
          have HX := hide hX
          clear hX
          go_wp2_with fail
          go_roundw
          case rel => exact ⟨k + 1, by go_num, by omega, int_eq (by have := HX.out; have := HQ.out; have := HSN.out; omega), by have := HX.out; have := HQ.out; have := HSN.out; omega, bchain hb hb1⟩
          case measure => simp [intOf]; omega
      · obtain rfl : k = L.length := by omega
        rw [List.take_length] at *
        obtain ⟨X, hX⟩ : ∃ X, left - L.length - sumLs szFlow L = X := ⟨_, rfl⟩
        rw [hX] at hk0 ⊢
        have HX := hide hX
        clear hX
        go_wp2_with fail
        go_ret
        have e : left - (L.length + sumLs szFlow L) = X := by have := HX.out; omega
        rw [e]
        have := szFlow_nn
        exact ⟨.inr ⟨rfl, hk0⟩, hb⟩
end Go.Proofs.YtkhclhnejnpkeaaGreat
