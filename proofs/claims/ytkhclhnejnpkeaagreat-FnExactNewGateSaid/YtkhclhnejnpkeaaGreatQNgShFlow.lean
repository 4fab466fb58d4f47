/- A Flow in memory: its make; counted, copied, held against each other, marked, read again (by gen_flow.py). -/
import Derived.Test.YtkhclhnejnpkeaaGreatQNgG15
import Derived.Test.YtkhclhnejnpkeaaGreatQNgG5
import Derived.Test.YtkhclhnejnpkeaaGreatQNgG4
namespace Go.Proofs.YtkhclhnejnpkeaaGreat
open Go.RowKit
set_option maxRecDepth 100000
set_option linter.unusedSimpArgs false
set_option linter.unusedVariables false
theorem boolmark (x : Int) (k : Nat) (h : x = k) : (x % 3 == 0) = decide (k % 3 = 0) := by
  subst h
  rw [Bool.eq_iff_iff]
  simp
  omega
def flowS : Shp FlD where
  size := 15
  ty := 125
  rd := fun w cs d => ∃ vfds : Value, cs = [.int .i64 d.id, .int .i64 d.get, .int .i64 d.give, vfds, .int .i64 d.tun.up.r, .string d.tun.up.b, .bool d.tun.up.e, .bool d.tun.up.k, .int .i64 d.tun.dn.r, .string d.tun.dn.b, .bool d.tun.dn.e, .bool d.tun.dn.k, .int .i64 d.tun.went, .int .i64 d.tun.came, .bool d.ended] ∧ d.tun.up.b.size ≤ 9223372036854775807 ∧ d.tun.dn.b.size ≤ 9223372036854775807 ∧ RdR fieldS w vfds d.fds
  own := fun w cs d bs => ∃ (vfds : Value) (b0 : List Nat), cs = [.int .i64 d.id, .int .i64 d.get, .int .i64 d.give, vfds, .int .i64 d.tun.up.r, .string d.tun.up.b, .bool d.tun.up.e, .bool d.tun.up.k, .int .i64 d.tun.dn.r, .string d.tun.dn.b, .bool d.tun.dn.e, .bool d.tun.dn.k, .int .i64 d.tun.went, .int .i64 d.tun.came, .bool d.ended] ∧ d.tun.up.b.size ≤ 9223372036854775807 ∧ d.tun.dn.b.size ≤ 9223372036854775807 ∧ OwR fieldS w vfds d.fds b0 ∧ bs = b0
  pos := by decide
  rd_len := fun h => by obtain ⟨vfds, rfl, _⟩ := h; rfl
  rd_one := fun h u hu => by
    obtain ⟨vfds, rfl, f0, f1, h0⟩ := h
    obtain ⟨_, _, rfl, _⟩ := h0.form
    simp only [List.mem_cons, List.not_mem_nil, or_false] at hu
    rcases hu with rfl | rfl | rfl | rfl | rfl | rfl | rfl | rfl | rfl | rfl | rfl | rfl | rfl | rfl | rfl <;> rfl
  rd_new := fun h hb => by obtain ⟨vfds, rfl, f0, f1, h0⟩ := h; exact ⟨vfds, rfl, f0, f1, h0.new hb⟩
  own_rd := fun h => by obtain ⟨vfds, b0, rfl, f0, f1, h0, rfl⟩ := h; exact ⟨vfds, rfl, f0, f1, h0.rd⟩
  own_keep := fun h hs hk => by obtain ⟨vfds, b0, rfl, f0, f1, h0, rfl⟩ := h; exact ⟨vfds, _, rfl, f0, f1, h0.keep hs (fun b hb => hk b (by simp [hb])), rfl⟩
  own_lt := fun h b hb => by obtain ⟨vfds, b0, rfl, f0, f1, h0, rfl⟩ := h; exact h0.lt b hb
/-- The marks of one in a row, from k on; how many; and of a row. -/
def mkFlow (d : FlD) (k : Nat) : FlD := ⟨((k : Nat) : Int), ((k + 1 : Nat) : Int), ((k + 1 + 1 : Nat) : Int), mkFieldS d.fds (k + 1 + 1 + 1), ⟨⟨((k + 1 + 1 + 1 + cntFieldS d.fds : Nat) : Int), mtx (k + 1 + 1 + 1 + cntFieldS d.fds + 1), decide ((k + 1 + 1 + 1 + cntFieldS d.fds + 1 + 1) % 3 = 0), decide ((k + 1 + 1 + 1 + cntFieldS d.fds + 1 + 1 + 1) % 3 = 0)⟩, ⟨((k + 1 + 1 + 1 + cntFieldS d.fds + 1 + 1 + 1 + 1 : Nat) : Int), mtx (k + 1 + 1 + 1 + cntFieldS d.fds + 1 + 1 + 1 + 1 + 1), decide ((k + 1 + 1 + 1 + cntFieldS d.fds + 1 + 1 + 1 + 1 + 1 + 1) % 3 = 0), decide ((k + 1 + 1 + 1 + cntFieldS d.fds + 1 + 1 + 1 + 1 + 1 + 1 + 1) % 3 = 0)⟩, ((k + 1 + 1 + 1 + cntFieldS d.fds + 1 + 1 + 1 + 1 + 1 + 1 + 1 + 1 : Nat) : Int), ((k + 1 + 1 + 1 + cntFieldS d.fds + 1 + 1 + 1 + 1 + 1 + 1 + 1 + 1 + 1 : Nat) : Int)⟩, decide ((k + 1 + 1 + 1 + cntFieldS d.fds + 1 + 1 + 1 + 1 + 1 + 1 + 1 + 1 + 1 + 1) % 3 = 0)⟩
def cntFlow (d : FlD) : Nat := 1 + 1 + 1 + cntFieldS d.fds + 1 + 1 + 1 + 1 + 1 + 1 + 1 + 1 + 1 + 1 + 1
def mkFlowS (L : List FlD) (k : Nat) : List FlD := mkLs mkFlow cntFlow L k
def cntFlowS (L : List FlD) : Nat := cntLs cntFlow L
set_option maxHeartbeats 2000000 in
theorem eqFlow1 (d : FlD) (v u : Value) (w : World) (hv : RdR fieldS w v d.fds) (hf0 : d.tun.up.b.size ≤ 9223372036854775807) (hf1 : d.tun.dn.b.size ≤ 9223372036854775807) (hu : RdR fieldS w u d.fds) :
    Calls Tryz.prog 139 #[.agg #[.int .i64 d.id, .int .i64 d.get, .int .i64 d.give, v, .int .i64 d.tun.up.r, .string d.tun.up.b, .bool d.tun.up.e, .bool d.tun.up.k, .int .i64 d.tun.dn.r, .string d.tun.dn.b, .bool d.tun.dn.e, .bool d.tun.dn.k, .int .i64 d.tun.went, .int .i64 d.tun.came, .bool d.ended], .agg #[.int .i64 d.id, .int .i64 d.get, .int .i64 d.give, u, .int .i64 d.tun.up.r, .string d.tun.up.b, .bool d.tun.up.e, .bool d.tun.up.k, .int .i64 d.tun.dn.r, .string d.tun.dn.b, .bool d.tun.dn.e, .bool d.tun.dn.k, .int .i64 d.tun.went, .int .i64 d.tun.came, .bool d.ended]] w fun x w' => x = .returned (.bool true) ∧ Below w.heap.size w w' := by
  have HV := hide hv
  obtain ⟨a0, p0, rfl, _⟩ := hv.form
  have HU := hide hu
  obtain ⟨a1, p1, rfl, _⟩ := hu.form
  clear hv hu
  obtain ⟨W, hW⟩ : ∃ W, (w.alloc (.cells #[.int .i64 d.id, .int .i64 d.get, .int .i64 d.give, .slice a0 d.fds.length p0, .int .i64 d.tun.up.r, .string d.tun.up.b, .bool d.tun.up.e, .bool d.tun.up.k, .int .i64 d.tun.dn.r, .string d.tun.dn.b, .bool d.tun.dn.e, .bool d.tun.dn.k, .int .i64 d.tun.went, .int .i64 d.tun.came, .bool d.ended] 125)).alloc (.cells #[.int .i64 d.id, .int .i64 d.get, .int .i64 d.give, .slice a1 d.fds.length p1, .int .i64 d.tun.up.r, .string d.tun.up.b, .bool d.tun.up.e, .bool d.tun.up.k, .int .i64 d.tun.dn.r, .string d.tun.dn.b, .bool d.tun.dn.e, .bool d.tun.dn.k, .int .i64 d.tun.went, .int .i64 d.tun.came, .bool d.ended] 125) = W := ⟨_, rfl⟩
  have RX : RowIs W w.heap.size 125 [.int .i64 d.id, .int .i64 d.get, .int .i64 d.give, .slice a0 d.fds.length p0, .int .i64 d.tun.up.r, .string d.tun.up.b, .bool d.tun.up.e, .bool d.tun.up.k, .int .i64 d.tun.dn.r, .string d.tun.dn.b, .bool d.tun.dn.e, .bool d.tun.dn.k, .int .i64 d.tun.went, .int .i64 d.tun.came, .bool d.ended] := by rw [← hW]; exact (rowIs_new w 125 [.int .i64 d.id, .int .i64 d.get, .int .i64 d.give, .slice a0 d.fds.length p0, .int .i64 d.tun.up.r, .string d.tun.up.b, .bool d.tun.up.e, .bool d.tun.up.k, .int .i64 d.tun.dn.r, .string d.tun.dn.b, .bool d.tun.dn.e, .bool d.tun.dn.k, .int .i64 d.tun.went, .int .i64 d.tun.came, .bool d.ended]).alloc _
  have RY : RowIs W (w.heap.size + 1) 125 [.int .i64 d.id, .int .i64 d.get, .int .i64 d.give, .slice a1 d.fds.length p1, .int .i64 d.tun.up.r, .string d.tun.up.b, .bool d.tun.up.e, .bool d.tun.up.k, .int .i64 d.tun.dn.r, .string d.tun.dn.b, .bool d.tun.dn.e, .bool d.tun.dn.k, .int .i64 d.tun.went, .int .i64 d.tun.came, .bool d.ended] := by have := rowIs_new (w.alloc (.cells #[.int .i64 d.id, .int .i64 d.get, .int .i64 d.give, .slice a0 d.fds.length p0, .int .i64 d.tun.up.r, .string d.tun.up.b, .bool d.tun.up.e, .bool d.tun.up.k, .int .i64 d.tun.dn.r, .string d.tun.dn.b, .bool d.tun.dn.e, .bool d.tun.dn.k, .int .i64 d.tun.went, .int .i64 d.tun.came, .bool d.ended] 125)) 125 [.int .i64 d.id, .int .i64 d.get, .int .i64 d.give, .slice a1 d.fds.length p1, .int .i64 d.tun.up.r, .string d.tun.up.b, .bool d.tun.up.e, .bool d.tun.up.k, .int .i64 d.tun.dn.r, .string d.tun.dn.b, .bool d.tun.dn.e, .bool d.tun.dn.k, .int .i64 d.tun.went, .int .i64 d.tun.came, .bool d.ended]; rw [hW] at this; simpa using this
  have HB : Below w.heap.size w W := by rw [← hW]; exact (((Below.refl _ _).alloc (Nat.le_refl _) _).alloc (by simp) _)
  have e0 : (d.id != d.id) = false := by simp
  have e1 : (d.get != d.get) = false := by simp
  have e2 : (d.give != d.give) = false := by simp
  go_enter Tryz.func139, Tryz.ntmps139
  have x0 := RowIs.cell (j := 0) RX rfl
  have x1 := RowIs.cell (j := 1) RX rfl
  have x2 := RowIs.cell (j := 2) RX rfl
  have x3 := RowIs.cell (j := 3) RX rfl
  have xf := fun j => RowIs.frozen RX j
  have xl := RX.lt
  have y0 := RowIs.cell (j := 0) RY rfl
  have y1 := RowIs.cell (j := 1) RY rfl
  have y2 := RowIs.cell (j := 2) RY rfl
  have y3 := RowIs.cell (j := 3) RY rfl
  have yf := fun j => RowIs.frozen RY j
  have yl := RY.lt
  go_wp2_with fail
  clear x0 x1 x2 x3 xf xl
  clear y0 y1 y2 y3 yf yl
  clear hW
  refine (eqFieldS d.fds _ _ _ (HV.out.new HB) (HU.out.new HB)).mono ?_; rintro x w1 ⟨rfl, hb⟩
  replace RX := RX.new hb
  replace RY := RY.new hb
  replace HB := bchain HB hb
  clear hb
  have x4 := RowIs.cell (j := 4) RX rfl
  have x5 := RowIs.cell (j := 5) RX rfl
  have x6 := RowIs.cell (j := 6) RX rfl
  have x7 := RowIs.cell (j := 7) RX rfl
  have x8 := RowIs.cell (j := 8) RX rfl
  have x9 := RowIs.cell (j := 9) RX rfl
  have x10 := RowIs.cell (j := 10) RX rfl
  have x11 := RowIs.cell (j := 11) RX rfl
  have x12 := RowIs.cell (j := 12) RX rfl
  have x13 := RowIs.cell (j := 13) RX rfl
  have xf := fun j => RowIs.frozen RX j
  have xl := RX.lt
  have y4 := RowIs.cell (j := 4) RY rfl
  have y5 := RowIs.cell (j := 5) RY rfl
  have y6 := RowIs.cell (j := 6) RY rfl
  have y7 := RowIs.cell (j := 7) RY rfl
  have y8 := RowIs.cell (j := 8) RY rfl
  have y9 := RowIs.cell (j := 9) RY rfl
  have y10 := RowIs.cell (j := 10) RY rfl
  have y11 := RowIs.cell (j := 11) RY rfl
  have y12 := RowIs.cell (j := 12) RY rfl
  have y13 := RowIs.cell (j := 13) RY rfl
  have yf := fun j => RowIs.frozen RY j
  have yl := RY.lt
  go_wp2_with fail
  clear x4 x5 x6 x7 x8 x9 x10 x11 x12 x13 xf xl
  clear y4 y5 y6 y7 y8 y9 y10 y11 y12 y13 yf yl
  refine (eqTunnel1 d.tun _).mono ?_; rintro x w2 ⟨rfl, hb⟩
  replace RX := RX.new hb
  replace RY := RY.new hb
  replace HB := bchain HB hb
  clear hb
  have x14 := RowIs.cell (j := 14) RX rfl
  have xf := fun j => RowIs.frozen RX j
  have xl := RX.lt
  have y14 := RowIs.cell (j := 14) RY rfl
  have yf := fun j => RowIs.frozen RY j
  have yl := RY.lt
  cases he : d.ended
  · rw [he] at x14 y14
    go_wp2_with fail
    go_ret
    exact ⟨rfl, HB⟩
  · rw [he] at x14 y14
    go_wp2_with fail
    go_ret
    exact ⟨rfl, HB⟩
set_option maxHeartbeats 1000000 in
theorem eqFlowS (L : List FlD) (v v' : Value) (w : World) (hr0 : RdR flowS w v L) (hr1 : RdR flowS w v' L) :
    Calls Tryz.prog 126 #[v, v'] w fun x w' => x = .returned (.bool true) ∧ Below w.heap.size w w' := by
  obtain ⟨ad, cap, rfl, h1, h2⟩ := hr0.form
  obtain ⟨ad', cap', rfl, h1', h2'⟩ := hr1.form
  have HR := hide hr0; have HR' := hide hr1
  clear hr0 hr1
  go_enter Tryz.func126, Tryz.ntmps126
  go_wp2_with fail
  go_loopw [5] (fun i wr => ∃ (k : Nat), i = .int .i64 k ∧ k ≤ L.length ∧ Below w.heap.size w wr) (fun i _ => L.length - (intOf i).toNat)
  case atStart => exact ⟨0, rfl, Nat.zero_le _, Below.refl _ _⟩
  case round =>
    obtain ⟨k, rfl, hk, hb⟩ := hrel
    by_cases hlt : k < L.length
    · have hrk := (HR.out.new hb).at k hlt
      have hrk' := (HR'.out.new hb).at k hlt
      obtain ⟨d, hd⟩ : ∃ d, d = L[k] := ⟨_, rfl⟩
      rw [← hd] at hrk hrk'
      clear hd
      obtain ⟨b, o, cs, rfl, hb1, hrd, hc⟩ := hrk
      obtain ⟨b', o', cs', rfl, hb2, hrd', hc'⟩ := hrk'
      obtain ⟨vfds, rfl, hf0, hf1, hvfds⟩ := hrd
      have Hvfds := hide hvfds
      obtain ⟨avfds, pvfds, rfl, _⟩ := hvfds.form
      clear hvfds
      obtain ⟨uvfds, rfl, hfu0, hfu1, huvfds⟩ := hrd'
      have Huvfds := hide huvfds
      obtain ⟨auvfds, puvfds, rfl, _⟩ := huvfds.form
      clear huvfds
      have c0 : wr.cell? ⟨b, o + k * 15, none⟩ = some (.int .i64 d.id) := hc 0 _ rfl
      have c1 : wr.cell? ⟨b, o + k * 15 + 1, none⟩ = some (.int .i64 d.get) := hc 1 _ rfl
      have c2 : wr.cell? ⟨b, o + k * 15 + 2, none⟩ = some (.int .i64 d.give) := hc 2 _ rfl
      have c3 : wr.cell? ⟨b, o + k * 15 + 3, none⟩ = some ((.slice avfds d.fds.length pvfds)) := hc 3 _ rfl
      have c4 : wr.cell? ⟨b, o + k * 15 + 4, none⟩ = some (.int .i64 d.tun.up.r) := hc 4 _ rfl
      have c5 : wr.cell? ⟨b, o + k * 15 + 5, none⟩ = some (.string d.tun.up.b) := hc 5 _ rfl
      have c6 : wr.cell? ⟨b, o + k * 15 + 6, none⟩ = some (.bool d.tun.up.e) := hc 6 _ rfl
      have c7 : wr.cell? ⟨b, o + k * 15 + 7, none⟩ = some (.bool d.tun.up.k) := hc 7 _ rfl
      have c8 : wr.cell? ⟨b, o + k * 15 + 8, none⟩ = some (.int .i64 d.tun.dn.r) := hc 8 _ rfl
      have c9 : wr.cell? ⟨b, o + k * 15 + 9, none⟩ = some (.string d.tun.dn.b) := hc 9 _ rfl
      have c10 : wr.cell? ⟨b, o + k * 15 + 10, none⟩ = some (.bool d.tun.dn.e) := hc 10 _ rfl
      have c11 : wr.cell? ⟨b, o + k * 15 + 11, none⟩ = some (.bool d.tun.dn.k) := hc 11 _ rfl
      have c12 : wr.cell? ⟨b, o + k * 15 + 12, none⟩ = some (.int .i64 d.tun.went) := hc 12 _ rfl
      have c13 : wr.cell? ⟨b, o + k * 15 + 13, none⟩ = some (.int .i64 d.tun.came) := hc 13 _ rfl
      have c14 : wr.cell? ⟨b, o + k * 15 + 14, none⟩ = some (.bool d.ended) := hc 14 _ rfl
      have d0 : wr.cell? ⟨b', o' + k * 15, none⟩ = some (.int .i64 d.id) := hc' 0 _ rfl
      have d1 : wr.cell? ⟨b', o' + k * 15 + 1, none⟩ = some (.int .i64 d.get) := hc' 1 _ rfl
      have d2 : wr.cell? ⟨b', o' + k * 15 + 2, none⟩ = some (.int .i64 d.give) := hc' 2 _ rfl
      have d3 : wr.cell? ⟨b', o' + k * 15 + 3, none⟩ = some ((.slice auvfds d.fds.length puvfds)) := hc' 3 _ rfl
      have d4 : wr.cell? ⟨b', o' + k * 15 + 4, none⟩ = some (.int .i64 d.tun.up.r) := hc' 4 _ rfl
      have d5 : wr.cell? ⟨b', o' + k * 15 + 5, none⟩ = some (.string d.tun.up.b) := hc' 5 _ rfl
      have d6 : wr.cell? ⟨b', o' + k * 15 + 6, none⟩ = some (.bool d.tun.up.e) := hc' 6 _ rfl
      have d7 : wr.cell? ⟨b', o' + k * 15 + 7, none⟩ = some (.bool d.tun.up.k) := hc' 7 _ rfl
      have d8 : wr.cell? ⟨b', o' + k * 15 + 8, none⟩ = some (.int .i64 d.tun.dn.r) := hc' 8 _ rfl
      have d9 : wr.cell? ⟨b', o' + k * 15 + 9, none⟩ = some (.string d.tun.dn.b) := hc' 9 _ rfl
      have d10 : wr.cell? ⟨b', o' + k * 15 + 10, none⟩ = some (.bool d.tun.dn.e) := hc' 10 _ rfl
      have d11 : wr.cell? ⟨b', o' + k * 15 + 11, none⟩ = some (.bool d.tun.dn.k) := hc' 11 _ rfl
      have d12 : wr.cell? ⟨b', o' + k * 15 + 12, none⟩ = some (.int .i64 d.tun.went) := hc' 12 _ rfl
      have d13 : wr.cell? ⟨b', o' + k * 15 + 13, none⟩ = some (.int .i64 d.tun.came) := hc' 13 _ rfl
      have d14 : wr.cell? ⟨b', o' + k * 15 + 14, none⟩ = some (.bool d.ended) := hc' 14 _ rfl
      clear hc hc'
      go_wp2_with fail
      have qa0 : ∀ y : Later wr, y.w.cell? ⟨b, o + k * 15, none⟩ = some (.int .i64 d.id) := fun y => (y.b.cell (p := ⟨b, o + k * 15, none⟩) hb1).trans c0
      have qa1 : ∀ y : Later wr, y.w.cell? ⟨b, o + k * 15 + 1, none⟩ = some (.int .i64 d.get) := fun y => (y.b.cell (p := ⟨b, o + k * 15 + 1, none⟩) hb1).trans c1
      have qa2 : ∀ y : Later wr, y.w.cell? ⟨b, o + k * 15 + 2, none⟩ = some (.int .i64 d.give) := fun y => (y.b.cell (p := ⟨b, o + k * 15 + 2, none⟩) hb1).trans c2
      have qa3 : ∀ y : Later wr, y.w.cell? ⟨b, o + k * 15 + 3, none⟩ = some ((.slice avfds d.fds.length pvfds)) := fun y => (y.b.cell (p := ⟨b, o + k * 15 + 3, none⟩) hb1).trans c3
      have qa4 : ∀ y : Later wr, y.w.cell? ⟨b, o + k * 15 + 4, none⟩ = some (.int .i64 d.tun.up.r) := fun y => (y.b.cell (p := ⟨b, o + k * 15 + 4, none⟩) hb1).trans c4
      have qa5 : ∀ y : Later wr, y.w.cell? ⟨b, o + k * 15 + 5, none⟩ = some (.string d.tun.up.b) := fun y => (y.b.cell (p := ⟨b, o + k * 15 + 5, none⟩) hb1).trans c5
      have qa6 : ∀ y : Later wr, y.w.cell? ⟨b, o + k * 15 + 6, none⟩ = some (.bool d.tun.up.e) := fun y => (y.b.cell (p := ⟨b, o + k * 15 + 6, none⟩) hb1).trans c6
      have qa7 : ∀ y : Later wr, y.w.cell? ⟨b, o + k * 15 + 7, none⟩ = some (.bool d.tun.up.k) := fun y => (y.b.cell (p := ⟨b, o + k * 15 + 7, none⟩) hb1).trans c7
      have qa8 : ∀ y : Later wr, y.w.cell? ⟨b, o + k * 15 + 8, none⟩ = some (.int .i64 d.tun.dn.r) := fun y => (y.b.cell (p := ⟨b, o + k * 15 + 8, none⟩) hb1).trans c8
      have qa9 : ∀ y : Later wr, y.w.cell? ⟨b, o + k * 15 + 9, none⟩ = some (.string d.tun.dn.b) := fun y => (y.b.cell (p := ⟨b, o + k * 15 + 9, none⟩) hb1).trans c9
      have qa10 : ∀ y : Later wr, y.w.cell? ⟨b, o + k * 15 + 10, none⟩ = some (.bool d.tun.dn.e) := fun y => (y.b.cell (p := ⟨b, o + k * 15 + 10, none⟩) hb1).trans c10
      have qa11 : ∀ y : Later wr, y.w.cell? ⟨b, o + k * 15 + 11, none⟩ = some (.bool d.tun.dn.k) := fun y => (y.b.cell (p := ⟨b, o + k * 15 + 11, none⟩) hb1).trans c11
      have qa12 : ∀ y : Later wr, y.w.cell? ⟨b, o + k * 15 + 12, none⟩ = some (.int .i64 d.tun.went) := fun y => (y.b.cell (p := ⟨b, o + k * 15 + 12, none⟩) hb1).trans c12
      have qa13 : ∀ y : Later wr, y.w.cell? ⟨b, o + k * 15 + 13, none⟩ = some (.int .i64 d.tun.came) := fun y => (y.b.cell (p := ⟨b, o + k * 15 + 13, none⟩) hb1).trans c13
      have qa14 : ∀ y : Later wr, y.w.cell? ⟨b, o + k * 15 + 14, none⟩ = some (.bool d.ended) := fun y => (y.b.cell (p := ⟨b, o + k * 15 + 14, none⟩) hb1).trans c14
      have qb0 : ∀ y : Later wr, y.w.cell? ⟨b', o' + k * 15, none⟩ = some (.int .i64 d.id) := fun y => (y.b.cell (p := ⟨b', o' + k * 15, none⟩) hb2).trans d0
      have qb1 : ∀ y : Later wr, y.w.cell? ⟨b', o' + k * 15 + 1, none⟩ = some (.int .i64 d.get) := fun y => (y.b.cell (p := ⟨b', o' + k * 15 + 1, none⟩) hb2).trans d1
      have qb2 : ∀ y : Later wr, y.w.cell? ⟨b', o' + k * 15 + 2, none⟩ = some (.int .i64 d.give) := fun y => (y.b.cell (p := ⟨b', o' + k * 15 + 2, none⟩) hb2).trans d2
      have qb3 : ∀ y : Later wr, y.w.cell? ⟨b', o' + k * 15 + 3, none⟩ = some ((.slice auvfds d.fds.length puvfds)) := fun y => (y.b.cell (p := ⟨b', o' + k * 15 + 3, none⟩) hb2).trans d3
      have qb4 : ∀ y : Later wr, y.w.cell? ⟨b', o' + k * 15 + 4, none⟩ = some (.int .i64 d.tun.up.r) := fun y => (y.b.cell (p := ⟨b', o' + k * 15 + 4, none⟩) hb2).trans d4
      have qb5 : ∀ y : Later wr, y.w.cell? ⟨b', o' + k * 15 + 5, none⟩ = some (.string d.tun.up.b) := fun y => (y.b.cell (p := ⟨b', o' + k * 15 + 5, none⟩) hb2).trans d5
      have qb6 : ∀ y : Later wr, y.w.cell? ⟨b', o' + k * 15 + 6, none⟩ = some (.bool d.tun.up.e) := fun y => (y.b.cell (p := ⟨b', o' + k * 15 + 6, none⟩) hb2).trans d6
      have qb7 : ∀ y : Later wr, y.w.cell? ⟨b', o' + k * 15 + 7, none⟩ = some (.bool d.tun.up.k) := fun y => (y.b.cell (p := ⟨b', o' + k * 15 + 7, none⟩) hb2).trans d7
      have qb8 : ∀ y : Later wr, y.w.cell? ⟨b', o' + k * 15 + 8, none⟩ = some (.int .i64 d.tun.dn.r) := fun y => (y.b.cell (p := ⟨b', o' + k * 15 + 8, none⟩) hb2).trans d8
      have qb9 : ∀ y : Later wr, y.w.cell? ⟨b', o' + k * 15 + 9, none⟩ = some (.string d.tun.dn.b) := fun y => (y.b.cell (p := ⟨b', o' + k * 15 + 9, none⟩) hb2).trans d9
      have qb10 : ∀ y : Later wr, y.w.cell? ⟨b', o' + k * 15 + 10, none⟩ = some (.bool d.tun.dn.e) := fun y => (y.b.cell (p := ⟨b', o' + k * 15 + 10, none⟩) hb2).trans d10
      have qb11 : ∀ y : Later wr, y.w.cell? ⟨b', o' + k * 15 + 11, none⟩ = some (.bool d.tun.dn.k) := fun y => (y.b.cell (p := ⟨b', o' + k * 15 + 11, none⟩) hb2).trans d11
      have qb12 : ∀ y : Later wr, y.w.cell? ⟨b', o' + k * 15 + 12, none⟩ = some (.int .i64 d.tun.went) := fun y => (y.b.cell (p := ⟨b', o' + k * 15 + 12, none⟩) hb2).trans d12
      have qb13 : ∀ y : Later wr, y.w.cell? ⟨b', o' + k * 15 + 13, none⟩ = some (.int .i64 d.tun.came) := fun y => (y.b.cell (p := ⟨b', o' + k * 15 + 13, none⟩) hb2).trans d13
      have qb14 : ∀ y : Later wr, y.w.cell? ⟨b', o' + k * 15 + 14, none⟩ = some (.bool d.ended) := fun y => (y.b.cell (p := ⟨b', o' + k * 15 + 14, none⟩) hb2).trans d14
      clear c0 c1 c2 c3 c4 c5 c6 c7 c8 c9 c10 c11 c12 c13 c14 d0 d1 d2 d3 d4 d5 d6 d7 d8 d9 d10 d11 d12 d13 d14
      have hne : Nonempty (Later wr) := ⟨⟨wr, Below.refl _ _⟩⟩; refine region_later (by kernel_rfl) (by kernel_rfl) ?_
      repeat (go_big_quiet_step (fail))
      go_big_quiet_want; go_big_quiet_op
      refine ⟨.bool true, fun y => later_calls (x := y) (eqFlow1 d _ _ y.w (Hvfds.out.new y.b) hf0 hf1 (Huvfds.out.new y.b)), ?_⟩
      go_big_quiet_on
      repeat (go_big_quiet_step (fail))
      refine wpQuiet_nil ?_; intro _ hw'; obtain ⟨y, hw''⟩ := hw'; subst hw''; have hby := y.b
      go_wp2_with fail
      go_roundw
      case rel => exact ⟨k + 1, by go_num, by omega, bchain hb hby⟩
      case measure => simp [intOf]; omega
    · go_wp2_with fail
      go_ret
      exact ⟨rfl, hb⟩
end Go.Proofs.YtkhclhnejnpkeaaGreat
