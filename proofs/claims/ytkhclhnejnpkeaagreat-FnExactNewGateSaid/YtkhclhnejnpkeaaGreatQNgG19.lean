/- Several small texts of one level, one behind the other. -/
import Derived.Test.YtkhclhnejnpkeaaGreatQNgG18
import Derived.Test.YtkhclhnejnpkeaaGreatQNgG5
import Derived.Test.YtkhclhnejnpkeaaGreatQNgG7
import Derived.Test.YtkhclhnejnpkeaaGreatQNgG2
import Derived.Test.YtkhclhnejnpkeaaGreatQNgG17
import Derived.Test.YtkhclhnejnpkeaaGreatQNgG3
import Derived.Test.YtkhclhnejnpkeaaGreatQNgG4
import Derived.Test.YtkhclhnejnpkeaaGreatQNgG12
/- The gate in plain words: which is right; a new one; what went out of a flight. -/
namespace Go.Proofs.YtkhclhnejnpkeaaGreat
open Go.RowKit
set_option maxRecDepth 100000
set_option linter.unusedSimpArgs false
set_option linter.unusedVariables false
/-- What a Gate holds. -/
structure GtD where
  now : Int
  tens : List TenantD
  seats : List StD
  dials : List DlD
  flights : List FgD
  drained : Bool
def zDl : DlD := ⟨0, 0, ⟨#[]⟩⟩
abbrev dl (L : List DlD) (i : Nat) : DlD := L.getD i zDl
end Go.Proofs.YtkhclhnejnpkeaaGreat
/- A Seat whose Conn has no list at all, in memory: its make; marked and read again, rows of them (by gen_shseatn.py). -/
namespace Go.Proofs.YtkhclhnejnpkeaaGreat
open Go.RowKit
set_option maxRecDepth 100000
set_option linter.unusedSimpArgs false
set_option linter.unusedVariables false
structure RgN where
  lim : Int
  top : Int
structure TbN where
  room : Int
structure CnN where
  reg : RgN
  inT : TbN
  outT : TbN
  get : Int
  give : Int
  first : Int
  away : Bool
  dead : Bool
structure StN where
  cn : CnN
  rest : ByteArray
  out : ByteArray
  bad : Bool
def StN.cs (d : StN) : List Value := [.int .i64 d.cn.reg.lim, .int .i64 d.cn.reg.top, .slice none 0 0, .int .i64 d.cn.inT.room, .slice none 0 0, .int .i64 d.cn.outT.room, .slice none 0 0, .int .i64 d.cn.get, .int .i64 d.cn.give, .int .i64 d.cn.first, .slice none 0 0, .bool d.cn.away, .bool d.cn.dead, .string d.rest, .string d.out, .bool d.bad]
def seatNS : Shp StN where
  size := 16
  ty := 65
  rd := fun _ cs d => cs = d.cs ∧ d.rest.size ≤ 9223372036854775807 ∧ d.out.size ≤ 9223372036854775807
  own := fun _ cs d bs => cs = d.cs ∧ d.rest.size ≤ 9223372036854775807 ∧ d.out.size ≤ 9223372036854775807 ∧ bs = []
  pos := by decide
  rd_len := fun h => by replace h := h.1; subst h; rfl
  rd_one := fun h u hu => by replace h := h.1; subst h; simp only [StN.cs, List.mem_cons, List.not_mem_nil, or_false] at hu; rcases hu with rfl | rfl | rfl | rfl | rfl | rfl | rfl | rfl | rfl | rfl | rfl | rfl | rfl | rfl | rfl | rfl <;> rfl
  rd_new := fun h _ => h
  own_rd := fun h => ⟨h.1, h.2.1, h.2.2.1⟩
  own_keep := fun h _ _ => h
  own_lt := fun h b hb => by rw [h.2.2.2] at hb; cases hb
/-- The same, as a Seat. -/
def toStD (d : StN) : StD := ⟨⟨⟨d.cn.reg.lim, d.cn.reg.top, []⟩, d.cn.inT.room, [], d.cn.outT.room, [], d.cn.get, d.cn.give, d.cn.first, [], d.cn.away, d.cn.dead⟩, d.rest, d.out, d.bad⟩
theorem rdR_nil {D : Type} {E : Shp D} (w : World) : RdR E w (.slice none 0 0) [] := (owX_nil (E := E) w 0 0).rd
theorem rd_seatN {w : World} {v : Value} {L : List StN} (h : RdR seatNS w v L) : RdR seatS w v (L.map toStD) := by
  obtain ⟨ts, rfl, hr, hE⟩ := h
  refine ⟨ts.map fun t => (t.1, toStD t.2), by simp [Function.comp_def], ?_, fun t ht => ?_⟩
  · have hr2 : Reads w v ts.length 16 (ts.flatMap (·.1)) := hr
    show Reads w v _ 16 _
    simpa [List.flatMap_map] using hr2
  · obtain ⟨t', ht', rfl⟩ := List.mem_map.1 ht
    obtain ⟨e, f0, f1⟩ := hE t' ht'
    refine ⟨.slice none 0 0, .slice none 0 0, .slice none 0 0, .slice none 0 0, ?_, f0, f1, ⟨rdR_nil w, rdR_nil w, rdR_nil w, rdR_nil w⟩⟩
    rw [e]
    rfl
/-- The marks of one in a row, from k on; how many; and of a row. -/
def mkSeatN (d : StN) (k : Nat) : StN := ⟨⟨⟨((k : Nat) : Int), ((k + 1 : Nat) : Int)⟩, ⟨((k + 1 + 1 : Nat) : Int)⟩, ⟨((k + 1 + 1 + 1 : Nat) : Int)⟩, ((k + 1 + 1 + 1 + 1 : Nat) : Int), ((k + 1 + 1 + 1 + 1 + 1 : Nat) : Int), ((k + 1 + 1 + 1 + 1 + 1 + 1 : Nat) : Int), decide ((k + 1 + 1 + 1 + 1 + 1 + 1 + 1) % 3 = 0), decide ((k + 1 + 1 + 1 + 1 + 1 + 1 + 1 + 1) % 3 = 0)⟩, mtx (k + 1 + 1 + 1 + 1 + 1 + 1 + 1 + 1 + 1), mtx (k + 1 + 1 + 1 + 1 + 1 + 1 + 1 + 1 + 1 + 1), decide ((k + 1 + 1 + 1 + 1 + 1 + 1 + 1 + 1 + 1 + 1 + 1) % 3 = 0)⟩
def cntSeatN (d : StN) : Nat := 1 + 1 + 1 + 1 + 1 + 1 + 1 + 1 + 1 + 1 + 1 + 1
def mkSeatNS (L : List StN) (k : Nat) : List StN := mkLs mkSeatN cntSeatN L k
def cntSeatNS (L : List StN) : Nat := cntLs cntSeatN L
theorem owR_nil {D : Type} {E : Shp D} (w : World) : OwR E w (.slice none 0 0) [] [] := ⟨[], rfl, World.ownsRow_nil w 0 E.ty E.size, fun t ht => by simp at ht, by simp [Value.ownBlock]⟩
theorem below_turn0 {w w' : World} (h : TurnB [] w w') : Below w.heap.size w w' := ⟨h.os, h.tape, h.output, h.size, fun k hk => h.block k hk (by simp)⟩
theorem nilMarkEntry (k : Nat) (w : World) (hk : k ≤ 1000000000) : Calls Tryz.prog 87 #[.slice none 0 0, .int .i64 k] w fun x w' => x = .returned (.int .i64 (k : Int)) ∧ Below w.heap.size w w' := by
  have h0 : cntEntryS [] = 0 := rfl
  have h := markEntryS [] k (.slice none 0 0) [] w (owR_nil w) (by simp) (by rw [h0]; omega)
  refine h.mono ?_
  rintro x w' ⟨rfl, _, ht⟩
  exact ⟨by rw [h0]; rfl, below_turn0 ht⟩
theorem nilHeldEntry (k : Nat) (w : World) (hk : k ≤ 1000000000) : Calls Tryz.prog 91 #[.slice none 0 0, .int .i64 k] w fun x w' => x = .returned (.int .i64 (k : Int)) ∧ Below w.heap.size w w' := by
  have h0 : cntEntryS [] = 0 := rfl
  have h := heldEntryS [] k (.slice none 0 0) w (rdR_nil w) (by rw [h0]; omega)
  refine h.mono ?_
  rintro x w' ⟨rfl, hb⟩
  exact ⟨by rw [h0]; rfl, hb⟩
theorem nilMarkField (k : Nat) (w : World) (hk : k ≤ 1000000000) : Calls Tryz.prog 88 #[.slice none 0 0, .int .i64 k] w fun x w' => x = .returned (.int .i64 (k : Int)) ∧ Below w.heap.size w w' := by
  have h0 : cntFieldS [] = 0 := rfl
  have h := markFieldS [] k (.slice none 0 0) [] w (owR_nil w) (by simp) (by rw [h0]; omega)
  refine h.mono ?_
  rintro x w' ⟨rfl, _, ht⟩
  exact ⟨by rw [h0]; rfl, below_turn0 ht⟩
theorem nilHeldField (k : Nat) (w : World) (hk : k ≤ 1000000000) : Calls Tryz.prog 92 #[.slice none 0 0, .int .i64 k] w fun x w' => x = .returned (.int .i64 (k : Int)) ∧ Below w.heap.size w w' := by
  have h0 : cntFieldS [] = 0 := rfl
  have h := heldFieldS [] k (.slice none 0 0) w (rdR_nil w) (by rw [h0]; omega)
  refine h.mono ?_
  rintro x w' ⟨rfl, hb⟩
  exact ⟨by rw [h0]; rfl, hb⟩
theorem nilMarkFlow (k : Nat) (w : World) (hk : k ≤ 1000000000) : Calls Tryz.prog 89 #[.slice none 0 0, .int .i64 k] w fun x w' => x = .returned (.int .i64 (k : Int)) ∧ Below w.heap.size w w' := by
  have h0 : cntFlowS [] = 0 := rfl
  have h := markFlowS [] k (.slice none 0 0) [] w (owR_nil w) (by simp) (by rw [h0]; omega)
  refine h.mono ?_
  rintro x w' ⟨rfl, _, ht⟩
  exact ⟨by rw [h0]; rfl, below_turn0 ht⟩
theorem nilHeldFlow (k : Nat) (w : World) (hk : k ≤ 1000000000) : Calls Tryz.prog 93 #[.slice none 0 0, .int .i64 k] w fun x w' => x = .returned (.int .i64 (k : Int)) ∧ Below w.heap.size w w' := by
  have h0 : cntFlowS [] = 0 := rfl
  have h := heldFlowS [] k (.slice none 0 0) w (rdR_nil w) (by rw [h0]; omega)
  refine h.mono ?_
  rintro x w' ⟨rfl, hb⟩
  exact ⟨by rw [h0]; rfl, hb⟩
end Go.Proofs.YtkhclhnejnpkeaaGreat
/- The program's Conn: which is right; a new one. -/
namespace Go.Proofs.YtkhclhnejnpkeaaGreat
open Go.RowKit
set_option maxRecDepth 100000
set_option linter.unusedSimpArgs false
set_option linter.unusedVariables false
theorem okFs_def (l : List Fd) : okFs l = (l.all okF && decide (l.length ≤ 20)) := by unfold okFs; first | rfl | simp [Bool.and_comm]
set_option maxHeartbeats 4000000 in
theorem implRightOf (f : FlD) (e : EntryD) (v : Value) (w : World) (hr : RdR fieldS w v f.fds) (h1 : f.tun.up.b.size ≤ maxLen) (h2 : f.tun.dn.b.size ≤ maxLen) :
    Calls Tryz.prog 114 #[.agg #[.int .i64 f.id, .int .i64 f.get, .int .i64 f.give, v, .int .i64 f.tun.up.r, .string f.tun.up.b, .bool f.tun.up.e, .bool f.tun.up.k, .int .i64 f.tun.dn.r, .string f.tun.dn.b, .bool f.tun.dn.e, .bool f.tun.dn.k, .int .i64 f.tun.went, .int .i64 f.tun.came, .bool f.ended], .agg #[.int .i64 e.id, .int .i64 e.state]] w fun x w' => x = .returned (.bool (okFl f e)) ∧ Below w.heap.size w w' := by
  obtain ⟨ad, cap, rfl, q1, q2⟩ := hr.form
  have HR := hide hr
  clear hr
  by_cases c0 : f.id = e.id
  rotate_left
  · have c0' : (f.id != e.id) = true := by simpa using c0
    have HN := hide (okFl_no (f := f) (e := e) (fun h => c0 h.1))
    clear c0
    go_enter Tryz.func114, Tryz.ntmps114
    go_wp2_with fail
    go_ret
    exact ⟨by rw [HN.out]; rfl, (by repeat' (first | (with_reducible exact Below.refl _ _) | (with_reducible refine Below.drew ?_) | (with_reducible refine bo_drewN _ ?_) | (with_reducible refine bo_alloc ?_ _) | (refine bchain ?_ (by with_reducible assumption)) | (with_reducible refine Below.setCell ?_ ?_ _) | go_size))⟩
  have c0' : (f.id != e.id) = false := by simpa using c0
  have HC0 := hide c0
  clear c0
  cases m0 : winB f.get
  · have HN := hide (okFl_no (f := f) (e := e) (fun h => by rw [m0] at h; simp at h))
    go_enter Tryz.func114, Tryz.ntmps114
    go_wp2_with fail
    refine (implWin f.get _).mono ?_; rw [m0]; rintro e v0 ⟨rfl, hsame⟩; obtain rfl := hsame.symm; clear hsame
    go_wp2_with fail
    go_ret
    exact ⟨by rw [HN.out]; rfl, (by repeat' (first | (with_reducible exact Below.refl _ _) | (with_reducible refine Below.drew ?_) | (with_reducible refine bo_drewN _ ?_) | (with_reducible refine bo_alloc ?_ _) | (refine bchain ?_ (by with_reducible assumption)) | (with_reducible refine Below.setCell ?_ ?_ _) | go_size))⟩
  cases m1 : winB f.give
  · have HN := hide (okFl_no (f := f) (e := e) (fun h => by rw [m1] at h; simp at h))
    go_enter Tryz.func114, Tryz.ntmps114
    go_wp2_with fail
    refine (implWin f.get _).mono ?_; rw [m0]; rintro e v0 ⟨rfl, hsame⟩; obtain rfl := hsame.symm; clear hsame
    go_wp2_with fail
    refine (implWin f.give _).mono ?_; rw [m1]; rintro e v1 ⟨rfl, hsame⟩; obtain rfl := hsame.symm; clear hsame
    go_wp2_with fail
    go_ret
    exact ⟨by rw [HN.out]; rfl, (by repeat' (first | (with_reducible exact Below.refl _ _) | (with_reducible refine Below.drew ?_) | (with_reducible refine bo_drewN _ ?_) | (with_reducible refine bo_alloc ?_ _) | (refine bchain ?_ (by with_reducible assumption)) | (with_reducible refine Below.setCell ?_ ?_ _) | go_size))⟩
  by_cases m2 : f.fds.length ≤ 20
  rotate_left
  · have HN := hide (okFl_no (f := f) (e := e) (fun h => m2 (by have := h.2.2.2.1; rw [okFs_def] at this; simp only [Bool.and_eq_true, decide_eq_true_eq] at this; exact this.2)))
    have m2' : ¬ (f.fds.length : Int) ≤ 20 := by omega
    clear m2
    go_enter Tryz.func114, Tryz.ntmps114
    go_wp2_with fail
    refine (implWin f.get _).mono ?_; rw [m0]; rintro e v0 ⟨rfl, hsame⟩; obtain rfl := hsame.symm; clear hsame
    go_wp2_with fail
    refine (implWin f.give _).mono ?_; rw [m1]; rintro e v1 ⟨rfl, hsame⟩; obtain rfl := hsame.symm; clear hsame
    go_wp2_with fail
    go_ret
    exact ⟨by rw [HN.out]; rfl, (by repeat' (first | (with_reducible exact Below.refl _ _) | (with_reducible refine Below.drew ?_) | (with_reducible refine bo_drewN _ ?_) | (with_reducible refine bo_alloc ?_ _) | (refine bchain ?_ (by with_reducible assumption)) | (with_reducible refine Below.setCell ?_ ?_ _) | go_size))⟩
  have m2' : (f.fds.length : Int) ≤ 20 := by omega
  cases m3 : f.fds.all okF
  · have HN := hide (okFl_no (f := f) (e := e) (fun h => by have := h.2.2.2.1; rw [okFs_def, m3] at this; simp at this))
    clear m2
    go_enter Tryz.func114, Tryz.ntmps114
    go_wp2_with fail
    refine (implWin f.get _).mono ?_; rw [m0]; rintro e v0 ⟨rfl, hsame⟩; obtain rfl := hsame.symm; clear hsame
    go_wp2_with fail
    refine (implWin f.give _).mono ?_; rw [m1]; rintro e v1 ⟨rfl, hsame⟩; obtain rfl := hsame.symm; clear hsame
    go_wp2_with fail
    refine (implRights f.fds _ _ (rd_fv (HR.out.new (by repeat' (first | (with_reducible exact Below.refl _ _) | (with_reducible refine Below.drew ?_) | (with_reducible refine bo_drewN _ ?_) | (with_reducible refine bo_alloc ?_ _) | (refine bchain ?_ (by with_reducible assumption)) | (with_reducible refine Below.setCell ?_ ?_ _) | go_size)))) (rd_fine (HR.out.new (by repeat' (first | (with_reducible exact Below.refl _ _) | (with_reducible refine Below.drew ?_) | (with_reducible refine bo_drewN _ ?_) | (with_reducible refine bo_alloc ?_ _) | (refine bchain ?_ (by with_reducible assumption)) | (with_reducible refine Below.setCell ?_ ?_ _) | go_size))))).mono ?_; rw [m3]; rintro x w3 ⟨rfl, hb3⟩
    have R3 := ((rowIs_new w 125 [.int .i64 f.id, .int .i64 f.get, .int .i64 f.give, .slice ad f.fds.length cap, .int .i64 f.tun.up.r, .string f.tun.up.b, .bool f.tun.up.e, .bool f.tun.up.k, .int .i64 f.tun.dn.r, .string f.tun.dn.b, .bool f.tun.dn.e, .bool f.tun.dn.k, .int .i64 f.tun.went, .int .i64 f.tun.came, .bool f.ended]).alloc (.cells #[.int .i64 e.id, .int .i64 e.state] 127)).new hb3
    have c4 := RowIs.cell (j := 4) R3 rfl
    have c5 := RowIs.cell (j := 5) R3 rfl
    have c6 := RowIs.cell (j := 6) R3 rfl
    have c7 := RowIs.cell (j := 7) R3 rfl
    have c8 := RowIs.cell (j := 8) R3 rfl
    have c9 := RowIs.cell (j := 9) R3 rfl
    have c10 := RowIs.cell (j := 10) R3 rfl
    have c11 := RowIs.cell (j := 11) R3 rfl
    have c12 := RowIs.cell (j := 12) R3 rfl
    have c13 := RowIs.cell (j := 13) R3 rfl
    clear R3
    go_wp2_with fail
    go_ret
    exact ⟨by rw [HN.out]; rfl, bchain (by repeat' (first | (with_reducible exact Below.refl _ _) | (with_reducible refine Below.drew ?_) | (with_reducible refine bo_drewN _ ?_) | (with_reducible refine bo_alloc ?_ _) | (refine bchain ?_ (by with_reducible assumption)) | (with_reducible refine Below.setCell ?_ ?_ _) | go_size)) hb3⟩
  have HS := hide (show okFs f.fds = true by rw [okFs_def, m3, decide_eq_true m2]; rfl)
  clear m2
  cases m4 : okTu f.tun
  · have HN := hide (okFl_no (f := f) (e := e) (fun h => by rw [m4] at h; simp at h))
    go_enter Tryz.func114, Tryz.ntmps114
    go_wp2_with fail
    refine (implWin f.get _).mono ?_; rw [m0]; rintro e v0 ⟨rfl, hsame⟩; obtain rfl := hsame.symm; clear hsame
    go_wp2_with fail
    refine (implWin f.give _).mono ?_; rw [m1]; rintro e v1 ⟨rfl, hsame⟩; obtain rfl := hsame.symm; clear hsame
    go_wp2_with fail
    refine (implRights f.fds _ _ (rd_fv (HR.out.new (by repeat' (first | (with_reducible exact Below.refl _ _) | (with_reducible refine Below.drew ?_) | (with_reducible refine bo_drewN _ ?_) | (with_reducible refine bo_alloc ?_ _) | (refine bchain ?_ (by with_reducible assumption)) | (with_reducible refine Below.setCell ?_ ?_ _) | go_size)))) (rd_fine (HR.out.new (by repeat' (first | (with_reducible exact Below.refl _ _) | (with_reducible refine Below.drew ?_) | (with_reducible refine bo_drewN _ ?_) | (with_reducible refine bo_alloc ?_ _) | (refine bchain ?_ (by with_reducible assumption)) | (with_reducible refine Below.setCell ?_ ?_ _) | go_size))))).mono ?_; rw [m3]; rintro x w3 ⟨rfl, hb3⟩
    have R3 := ((rowIs_new w 125 [.int .i64 f.id, .int .i64 f.get, .int .i64 f.give, .slice ad f.fds.length cap, .int .i64 f.tun.up.r, .string f.tun.up.b, .bool f.tun.up.e, .bool f.tun.up.k, .int .i64 f.tun.dn.r, .string f.tun.dn.b, .bool f.tun.dn.e, .bool f.tun.dn.k, .int .i64 f.tun.went, .int .i64 f.tun.came, .bool f.ended]).alloc (.cells #[.int .i64 e.id, .int .i64 e.state] 127)).new hb3
    have c4 := RowIs.cell (j := 4) R3 rfl
    have c5 := RowIs.cell (j := 5) R3 rfl
    have c6 := RowIs.cell (j := 6) R3 rfl
    have c7 := RowIs.cell (j := 7) R3 rfl
    have c8 := RowIs.cell (j := 8) R3 rfl
    have c9 := RowIs.cell (j := 9) R3 rfl
    have c10 := RowIs.cell (j := 10) R3 rfl
    have c11 := RowIs.cell (j := 11) R3 rfl
    have c12 := RowIs.cell (j := 12) R3 rfl
    have c13 := RowIs.cell (j := 13) R3 rfl
    clear R3
    go_wp2_with fail
    refine (implTunnelOk f.tun _ h1 h2).mono ?_; rw [m4]; rintro x w4 ⟨rfl, hb4⟩
    go_wp2_with fail
    go_ret
    exact ⟨by rw [HN.out]; rfl, bchain (bchain (by repeat' (first | (with_reducible exact Below.refl _ _) | (with_reducible refine Below.drew ?_) | (with_reducible refine bo_drewN _ ?_) | (with_reducible refine bo_alloc ?_ _) | (refine bchain ?_ (by with_reducible assumption)) | (with_reducible refine Below.setCell ?_ ?_ _) | go_size)) hb3) hb4⟩
  have HY := hide (okFl_yes HC0.out m0 m1 HS.out m4)
  go_enter Tryz.func114, Tryz.ntmps114
  go_wp2_with fail
  refine (implWin f.get _).mono ?_; rw [m0]; rintro e v0 ⟨rfl, hsame⟩; obtain rfl := hsame.symm; clear hsame
  go_wp2_with fail
  refine (implWin f.give _).mono ?_; rw [m1]; rintro e v1 ⟨rfl, hsame⟩; obtain rfl := hsame.symm; clear hsame
  go_wp2_with fail
  refine (implRights f.fds _ _ (rd_fv (HR.out.new (by repeat' (first | (with_reducible exact Below.refl _ _) | (with_reducible refine Below.drew ?_) | (with_reducible refine bo_drewN _ ?_) | (with_reducible refine bo_alloc ?_ _) | (refine bchain ?_ (by with_reducible assumption)) | (with_reducible refine Below.setCell ?_ ?_ _) | go_size)))) (rd_fine (HR.out.new (by repeat' (first | (with_reducible exact Below.refl _ _) | (with_reducible refine Below.drew ?_) | (with_reducible refine bo_drewN _ ?_) | (with_reducible refine bo_alloc ?_ _) | (refine bchain ?_ (by with_reducible assumption)) | (with_reducible refine Below.setCell ?_ ?_ _) | go_size))))).mono ?_; rw [m3]; rintro x w3 ⟨rfl, hb3⟩
  have R3 := ((rowIs_new w 125 [.int .i64 f.id, .int .i64 f.get, .int .i64 f.give, .slice ad f.fds.length cap, .int .i64 f.tun.up.r, .string f.tun.up.b, .bool f.tun.up.e, .bool f.tun.up.k, .int .i64 f.tun.dn.r, .string f.tun.dn.b, .bool f.tun.dn.e, .bool f.tun.dn.k, .int .i64 f.tun.went, .int .i64 f.tun.came, .bool f.ended]).alloc (.cells #[.int .i64 e.id, .int .i64 e.state] 127)).new hb3
  have c4 := RowIs.cell (j := 4) R3 rfl
  have c5 := RowIs.cell (j := 5) R3 rfl
  have c6 := RowIs.cell (j := 6) R3 rfl
  have c7 := RowIs.cell (j := 7) R3 rfl
  have c8 := RowIs.cell (j := 8) R3 rfl
  have c9 := RowIs.cell (j := 9) R3 rfl
  have c10 := RowIs.cell (j := 10) R3 rfl
  have c11 := RowIs.cell (j := 11) R3 rfl
  have c12 := RowIs.cell (j := 12) R3 rfl
  have c13 := RowIs.cell (j := 13) R3 rfl
  clear R3
  go_wp2_with fail
  refine (implTunnelOk f.tun _ h1 h2).mono ?_; rw [m4]; rintro x w4 ⟨rfl, hb4⟩
  go_wp2_with fail
  go_ret
  exact ⟨by rw [HY.out]; rfl, bchain (bchain (by repeat' (first | (with_reducible exact Below.refl _ _) | (with_reducible refine Below.drew ?_) | (with_reducible refine bo_drewN _ ?_) | (with_reducible refine bo_alloc ?_ _) | (refine bchain ?_ (by with_reducible assumption)) | (with_reducible refine Below.setCell ?_ ?_ _) | go_size)) hb3) hb4⟩
set_option maxHeartbeats 4000000 in
theorem implEqualF (F : List FlD) (E : List EntryD) (vf ve : Value) (w : World) (hf : RdR flowS w vf F) (he : RdR entryS w ve E) :
    Calls Tryz.prog 113 #[vf, ve, .func (.func 114) #[] #[]] w fun x w' => x = .returned (.bool (okFls F E)) ∧ Below w.heap.size w w' := by
  obtain ⟨af, cf, rfl, f1, f2⟩ := hf.form
  obtain ⟨ae, ce, rfl, e1, e2⟩ := he.form
  have HF := hide hf; have HE := hide he
  clear hf he
  obtain ⟨A, hA⟩ : ∃ A, okFls F E = A := ⟨_, rfl⟩
  rw [hA]
  by_cases hl : F.length = E.length
  rotate_left
  · have hl' : ((F.length : Int) != E.length) = true := by simpa using fun c : (F.length : Int) = E.length => hl (by omega)
    have HN : Hid (A = false) := by
      show A = false
      rw [← hA]
      cases q : okFls F E
      · rfl
      · exact absurd (okFls_len q) hl
    clear hl hA
    go_enter Tryz.func113, Tryz.ntmps113
    go_wp2_with fail
    go_ret
    exact ⟨by rw [HN.out]; rfl, (by repeat' (first | (with_reducible exact Below.refl _ _) | (with_reducible refine Below.drew ?_) | (with_reducible refine bo_drewN _ ?_) | (with_reducible refine bo_alloc ?_ _) | (refine bchain ?_ (by with_reducible assumption)) | (with_reducible refine Below.setCell ?_ ?_ _) | go_size))⟩
  have hl' : ((F.length : Int) != E.length) = false := by simpa using (show (F.length : Int) = E.length by omega)
  have HL := hide hl
  have hle : F.length ≤ E.length := by omega
  have HA := hide hA
  clear hl hA
  go_enter Tryz.func113, Tryz.ntmps113
  go_wp2_with fail
  go_loopw [17] (fun i wr => ∃ (k : Nat), i = .int .i64 k ∧ k ≤ F.length ∧ Hid (∀ j (h : j < F.length) (h' : j < E.length), j < k → okFl F[j] E[j] = true) ∧ Hid (Below w.heap.size w wr)) (fun i _ => F.length - (intOf i).toNat)
  case atStart => exact ⟨0, rfl, Nat.zero_le _, fun j _ _ hj => absurd hj (Nat.not_lt_zero _), Below.refl _ _⟩
  case round =>
    obtain ⟨k, rfl, hk, HN, HB⟩ := hrel
    by_cases hlt : k < F.length
    · have hlte : k < E.length := by omega
      obtain ⟨b, o, cs, rfl, hbw, hrd, hc⟩ := (HF.out.new HB.out).at k hlt
      obtain ⟨be, oe, cse, rfl, hbe, hre, hce⟩ := (HE.out.new HB.out).at k hlte
      have HQN : Hid (okFl F[k] E[k] = false → A = false) := fun h => HA.out.symm.trans (okFls_no hlt hlte h)
      have HQY : Hid (okFl F[k] E[k] = true → ∀ j (h : j < F.length) (h' : j < E.length), j < k + 1 → okFl F[j] E[j] = true) := fun h j h1 h2 hj => by
        by_cases e : j = k
        · subst e; exact h
        · exact HN.out j h1 h2 (by omega)
      obtain ⟨f, hff⟩ : ∃ f, F[k] = f := ⟨_, rfl⟩
      obtain ⟨e, hee⟩ : ∃ e, E[k] = e := ⟨_, rfl⟩
      rw [hff, hee] at HQN HQY
      rw [hff] at hrd
      rw [hee] at hre
      clear hff hee HN
      obtain ⟨vq, rfl, s0, s1, hfd⟩ := hrd
      obtain ⟨aq, pq, rfl, _⟩ := hfd.form
      obtain rfl := hre
      have HFD := hide hfd
      clear hfd
      have ce0 : wr.cell? ⟨be, oe + k * 2, none⟩ = some (.int .i64 e.id) := hce 0 _ rfl
      have ce1 : wr.cell? ⟨be, oe + k * 2 + 1, none⟩ = some (.int .i64 e.state) := hce 1 _ rfl
      have c0 : wr.cell? ⟨b, o + k * 15, none⟩ = some (.int .i64 f.id) := hc 0 _ rfl
      have c1 : wr.cell? ⟨b, o + k * 15 + 1, none⟩ = some (.int .i64 f.get) := hc 1 _ rfl
      have c2 : wr.cell? ⟨b, o + k * 15 + 2, none⟩ = some (.int .i64 f.give) := hc 2 _ rfl
      have c3 : wr.cell? ⟨b, o + k * 15 + 3, none⟩ = some (.slice aq f.fds.length pq) := hc 3 _ rfl
      have c4 : wr.cell? ⟨b, o + k * 15 + 4, none⟩ = some (.int .i64 f.tun.up.r) := hc 4 _ rfl
      have c5 : wr.cell? ⟨b, o + k * 15 + 5, none⟩ = some (.string f.tun.up.b) := hc 5 _ rfl
      have c6 : wr.cell? ⟨b, o + k * 15 + 6, none⟩ = some (.bool f.tun.up.e) := hc 6 _ rfl
      have c7 : wr.cell? ⟨b, o + k * 15 + 7, none⟩ = some (.bool f.tun.up.k) := hc 7 _ rfl
      have c8 : wr.cell? ⟨b, o + k * 15 + 8, none⟩ = some (.int .i64 f.tun.dn.r) := hc 8 _ rfl
      have c9 : wr.cell? ⟨b, o + k * 15 + 9, none⟩ = some (.string f.tun.dn.b) := hc 9 _ rfl
      have c10 : wr.cell? ⟨b, o + k * 15 + 10, none⟩ = some (.bool f.tun.dn.e) := hc 10 _ rfl
      have c11 : wr.cell? ⟨b, o + k * 15 + 11, none⟩ = some (.bool f.tun.dn.k) := hc 11 _ rfl
      have c12 : wr.cell? ⟨b, o + k * 15 + 12, none⟩ = some (.int .i64 f.tun.went) := hc 12 _ rfl
      have c13 : wr.cell? ⟨b, o + k * 15 + 13, none⟩ = some (.int .i64 f.tun.came) := hc 13 _ rfl
      have c14 : wr.cell? ⟨b, o + k * 15 + 14, none⟩ = some (.bool f.ended) := hc 14 _ rfl
      clear hc hce
      have hkI : (k : Int) < E.length := by omega
      have hX : Below wr.heap.size wr ((wr.alloc (.cells #[.int .i64 0, .int .i64 0, .int .i64 0, .slice none 0 0, .int .i64 0, .string ⟨#[]⟩, .bool false, .bool false, .int .i64 0, .string ⟨#[]⟩, .bool false, .bool false, .int .i64 0, .int .i64 0, .bool false] 125)).setRow wr.heap.size #[.int .i64 f.id, .int .i64 f.get, .int .i64 f.give, .slice aq f.fds.length pq, .int .i64 f.tun.up.r, .string f.tun.up.b, .bool f.tun.up.e, .bool f.tun.up.k, .int .i64 f.tun.dn.r, .string f.tun.dn.b, .bool f.tun.dn.e, .bool f.tun.dn.k, .int .i64 f.tun.went, .int .i64 f.tun.came, .bool f.ended]) := below_setRow ((Below.refl _ _).alloc (Nat.le_refl _) _) (Nat.le_refl _) #[.int .i64 f.id, .int .i64 f.get, .int .i64 f.give, .slice aq f.fds.length pq, .int .i64 f.tun.up.r, .string f.tun.up.b, .bool f.tun.up.e, .bool f.tun.up.k, .int .i64 f.tun.dn.r, .string f.tun.dn.b, .bool f.tun.dn.e, .bool f.tun.dn.k, .int .i64 f.tun.went, .int .i64 f.tun.came, .bool f.ended]
      have RX : RowIs ((wr.alloc (.cells #[.int .i64 0, .int .i64 0, .int .i64 0, .slice none 0 0, .int .i64 0, .string ⟨#[]⟩, .bool false, .bool false, .int .i64 0, .string ⟨#[]⟩, .bool false, .bool false, .int .i64 0, .int .i64 0, .bool false] 125)).setRow wr.heap.size #[.int .i64 f.id, .int .i64 f.get, .int .i64 f.give, .slice aq f.fds.length pq, .int .i64 f.tun.up.r, .string f.tun.up.b, .bool f.tun.up.e, .bool f.tun.up.k, .int .i64 f.tun.dn.r, .string f.tun.dn.b, .bool f.tun.dn.e, .bool f.tun.dn.k, .int .i64 f.tun.went, .int .i64 f.tun.came, .bool f.ended]) wr.heap.size 125 [.int .i64 f.id, .int .i64 f.get, .int .i64 f.give, .slice aq f.fds.length pq, .int .i64 f.tun.up.r, .string f.tun.up.b, .bool f.tun.up.e, .bool f.tun.up.k, .int .i64 f.tun.dn.r, .string f.tun.dn.b, .bool f.tun.dn.e, .bool f.tun.dn.k, .int .i64 f.tun.went, .int .i64 f.tun.came, .bool f.ended] := rowIs_setRow (rowIs_new wr 125 [.int .i64 0, .int .i64 0, .int .i64 0, .slice none 0 0, .int .i64 0, .string ⟨#[]⟩, .bool false, .bool false, .int .i64 0, .string ⟨#[]⟩, .bool false, .bool false, .int .i64 0, .int .i64 0, .bool false])
      have ceX := (hX.cell (p := ⟨be, oe + k * 2, none⟩) hbe).trans ce0
      have ceY := (hX.cell (p := ⟨be, oe + k * 2 + 1, none⟩) hbe).trans ce1
      have hbeX : be < ((wr.alloc (.cells #[.int .i64 0, .int .i64 0, .int .i64 0, .slice none 0 0, .int .i64 0, .string ⟨#[]⟩, .bool false, .bool false, .int .i64 0, .string ⟨#[]⟩, .bool false, .bool false, .int .i64 0, .int .i64 0, .bool false] 125)).setRow wr.heap.size #[.int .i64 f.id, .int .i64 f.get, .int .i64 f.give, .slice aq f.fds.length pq, .int .i64 f.tun.up.r, .string f.tun.up.b, .bool f.tun.up.e, .bool f.tun.up.k, .int .i64 f.tun.dn.r, .string f.tun.dn.b, .bool f.tun.dn.e, .bool f.tun.dn.k, .int .i64 f.tun.went, .int .i64 f.tun.came, .bool f.ended]).heap.size := Nat.lt_of_lt_of_le hbe hX.size
      go_upto_region 6 with (refine wpList_store_row (by rfl) 125 _ _ (by rfl) wr.heap.size [.int .i64 f.id, .int .i64 f.get, .int .i64 f.give, .slice aq f.fds.length pq, .int .i64 f.tun.up.r, .string f.tun.up.b, .bool f.tun.up.e, .bool f.tun.up.k, .int .i64 f.tun.dn.r, .string f.tun.dn.b, .bool f.tun.dn.e, .bool f.tun.dn.k, .int .i64 f.tun.went, .int .i64 f.tun.came, .bool f.ended] (by rfl) (by rfl) 125 [.int .i64 0, .int .i64 0, .int .i64 0, .slice none 0 0, .int .i64 0, .string ⟨#[]⟩, .bool false, .bool false, .int .i64 0, .string ⟨#[]⟩, .bool false, .bool false, .int .i64 0, .int .i64 0, .bool false] (rowIs_new wr 125 [.int .i64 0, .int .i64 0, .int .i64 0, .slice none 0 0, .int .i64 0, .string ⟨#[]⟩, .bool false, .bool false, .int .i64 0, .string ⟨#[]⟩, .bool false, .bool false, .int .i64 0, .int .i64 0, .bool false]) (by kernel_rfl) rfl (by intro u hu; simp at hu; rcases hu with rfl | rfl | rfl | rfl | rfl | rfl | rfl | rfl | rfl | rfl | rfl | rfl | rfl | rfl | rfl <;> rfl) ?_)
      replace HFD := hide (HFD.out.new hX)
      replace HB := hide (bchain HB.out hX)
      clear hX ce0 ce1 c0 c1 c2 c3 c4 c5 c6 c7 c8 c9 c10 c11 c12 c13 c14
      generalize (wr.alloc (.cells #[.int .i64 0, .int .i64 0, .int .i64 0, .slice none 0 0, .int .i64 0, .string ⟨#[]⟩, .bool false, .bool false, .int .i64 0, .string ⟨#[]⟩, .bool false, .bool false, .int .i64 0, .int .i64 0, .bool false] 125)).setRow wr.heap.size #[.int .i64 f.id, .int .i64 f.get, .int .i64 f.give, .slice aq f.fds.length pq, .int .i64 f.tun.up.r, .string f.tun.up.b, .bool f.tun.up.e, .bool f.tun.up.k, .int .i64 f.tun.dn.r, .string f.tun.dn.b, .bool f.tun.dn.e, .bool f.tun.dn.k, .int .i64 f.tun.went, .int .i64 f.tun.came, .bool f.ended] = V at *
      generalize wr.heap.size = gy at *
      try simp only [Act.put, List.getElem_toArray, List.getElem_cons_succ, List.getElem_cons_zero, List.setIfInBounds_toArray, List.set_cons_zero, List.set_cons_succ]
      have hbA : Below V.heap.size V (V.alloc (.cells #[.int .i64 e.id, .int .i64 e.state] 127)) := (Below.refl _ _).alloc (Nat.le_refl _) _
      have HRX := hide (RX.new hbA)
      replace HFD := hide (HFD.out.new hbA)
      replace HB := hide (bchain HB.out hbA)
      have re0 := RowIs.cell (j := 0) (rowIs_new V 127 [.int .i64 e.id, .int .i64 e.state]) rfl
      have re1 := RowIs.cell (j := 1) (rowIs_new V 127 [.int .i64 e.id, .int .i64 e.state]) rfl
      clear RX hbA
      go_upto_region 7 with fail
      clear ceX ceY hbeX
      generalize V.alloc (.cells #[.int .i64 e.id, .int .i64 e.state] 127) = X at *
      generalize V.heap.size = gz at *
      go_wp2_with (refine wpList_load_row (by rfl) 125 _ (by rfl) gy (by rfl) [.int .i64 f.id, .int .i64 f.get, .int .i64 f.give, .slice aq f.fds.length pq, .int .i64 f.tun.up.r, .string f.tun.up.b, .bool f.tun.up.e, .bool f.tun.up.k, .int .i64 f.tun.dn.r, .string f.tun.dn.b, .bool f.tun.dn.e, .bool f.tun.dn.k, .int .i64 f.tun.went, .int .i64 f.tun.came, .bool f.ended] _ 125 HRX.out Tryz.underlying125 rfl (by kernel_rfl) ?_)
      refine (implRightOf f e _ _ HFD.out s0 s1).mono ?_; rintro z w5 ⟨rfl, hb5⟩
      replace HB := hide (bchain HB.out hb5)
      clear hb5 HRX HFD re0 re1
      cases hq : okFl f e
      · have HF0 := hide (HQN.out hq)
        clear hq HQN HQY
        go_wp2_with fail
        go_ret
        exact ⟨by rw [HF0.out]; rfl, HB.out⟩
      · have HN := hide (HQY.out hq)
        clear hq HQN HQY
        go_wp2_with fail
        go_roundw
        case rel => exact ⟨k + 1, by go_num, by omega, HN, HB⟩
        case measure => simp [intOf]; omega
    · have HFF : Hid (A = true) := HA.out.symm.trans (okFls_of HL.out fun j h h' => HN.out j h h' (by omega))
      have hge : ¬ (k : Int) < F.length := by omega
      go_wp2_with fail
      go_ret
      exact ⟨by rw [HFF.out]; rfl, HB.out⟩
set_option maxHeartbeats 8000000 in
theorem implConnRight (d : CnD) (ve vi vo vf : Value) (w : World) (hv : CnRd w d ve vi vo vf) : Calls Tryz.prog 85 #[cnv d ve vi vo vf] w fun x w' => x = .returned (.bool (okCn d)) ∧ Below w.heap.size w w' := by
  dsimp only [cnv] at *
  have HV := hide hv
  clear hv
  obtain ⟨ae, pe, rfl, _⟩ := HV.out.e.form
  obtain ⟨ai, pi, rfl, _⟩ := HV.out.i.form
  obtain ⟨ao, po, rfl, _⟩ := HV.out.o.form
  obtain ⟨af, pf, rfl, _⟩ := HV.out.f.form
  have hin : inB d.first 0 16777215 = (winB d.first && !decide (d.first < 0)) := by
    rw [Bool.eq_iff_iff]
    unfold winB inB
    simp
    omega
  obtain ⟨V, hV⟩ : ∃ V, w.alloc (.cells #[.int .i64 d.reg.lim, .int .i64 d.reg.top, .slice ae d.reg.es.length pe, .int .i64 d.inr, .slice ai d.inT.length pi, .int .i64 d.outr, .slice ao d.outT.length po, .int .i64 d.get, .int .i64 d.give, .int .i64 d.first, .slice af d.flows.length pf, .bool d.away, .bool d.dead] 63) = V := ⟨_, rfl⟩
  have HB : Below w.heap.size w V := by rw [← hV]; exact (Below.refl _ _).alloc (Nat.le_refl _) _
  have RX : RowIs V w.heap.size 63 [.int .i64 d.reg.lim, .int .i64 d.reg.top, .slice ae d.reg.es.length pe, .int .i64 d.inr, .slice ai d.inT.length pi, .int .i64 d.outr, .slice ao d.outT.length po, .int .i64 d.get, .int .i64 d.give, .int .i64 d.first, .slice af d.flows.length pf, .bool d.away, .bool d.dead] := by rw [← hV]; exact rowIs_new w 63 _
  have HRX := hide RX
  have x7 := RowIs.cell (j := 7) RX rfl
  have x8 := RowIs.cell (j := 8) RX rfl
  have x9 := RowIs.cell (j := 9) RX rfl
  clear RX
  go_enter Tryz.func85, Tryz.ntmps85
  go_wp2_with fail
  try rw [hV]
  clear hV
  refine (implWin d.get _).mono ?_; rintro e v3 ⟨rfl, hsame⟩; obtain rfl := hsame.symm; clear hsame
  cases k4 : winB d.get
  · have HN := hide (okCn_no (c := d) (fun h => by rw [k4] at h; simp at h))
    go_wp2_with fail
    go_ret
    exact ⟨by rw [HN.out]; rfl, HB⟩
  go_wp2_with fail
  refine (implWin d.give _).mono ?_; rintro e v4 ⟨rfl, hsame⟩; obtain rfl := hsame.symm; clear hsame
  cases k5 : winB d.give
  · have HN := hide (okCn_no (c := d) (fun h => by rw [k5] at h; simp at h))
    go_wp2_with fail
    go_ret
    exact ⟨by rw [HN.out]; rfl, HB⟩
  go_wp2_with fail
  refine (implWin d.first _).mono ?_; rintro e v5 ⟨rfl, hsame⟩; obtain rfl := hsame.symm; clear hsame
  cases k6 : winB d.first
  · have HN := hide (okCn_no (c := d) (fun h => by rw [hin, k6] at h; simp at h))
    go_wp2_with fail
    go_ret
    exact ⟨by rw [HN.out]; rfl, HB⟩
  by_cases k7 : d.first < 0
  · have HN := hide (okCn_no (c := d) (fun h => by rw [hin, decide_eq_true k7] at h; simp at h))
    go_wp2_with fail
    go_ret
    exact ⟨by rw [HN.out]; rfl, HB⟩
  have HIN := hide (show inB d.first 0 16777215 = true by rw [hin, k6, decide_eq_false k7]; rfl)
  have x0 := RowIs.cell (j := 0) HRX.out rfl
  have x1 := RowIs.cell (j := 1) HRX.out rfl
  have x2 := RowIs.cell (j := 2) HRX.out rfl
  go_wp2_with fail
  refine (implRegistryOk d.reg _ _ (HV.out.e.new HB)).mono ?_; rintro x u0 ⟨rfl, hb⟩
  replace HRX := hide (HRX.out.new hb)
  replace HB := bchain HB hb
  clear hb x0 x1 x2 x7 x8 x9
  cases k1 : okRg d.reg
  · have HN := hide (okCn_no (c := d) (fun h => by rw [k1] at h; simp at h))
    go_wp2_with fail
    go_ret
    exact ⟨by rw [HN.out]; rfl, HB⟩
  have x3 := RowIs.cell (j := 3) HRX.out rfl
  have x4 := RowIs.cell (j := 4) HRX.out rfl
  go_wp2_with fail
  refine (implTOk d.inT d.inr _ _ (rd_fv (HV.out.i.new HB)) (rd_fine (HV.out.i.new HB))).mono ?_; rintro x u1 ⟨rfl, hb⟩
  replace HRX := hide (HRX.out.new hb)
  replace HB := bchain HB hb
  clear hb x3 x4
  cases k2 : okT d.inr d.inT
  · have HN := hide (okCn_no (c := d) (fun h => by rw [k2] at h; simp at h))
    go_wp2_with fail
    go_ret
    exact ⟨by rw [HN.out]; rfl, HB⟩
  have x5 := RowIs.cell (j := 5) HRX.out rfl
  have x6 := RowIs.cell (j := 6) HRX.out rfl
  go_wp2_with fail
  refine (implTOk d.outT d.outr _ _ (rd_fv (HV.out.o.new HB)) (rd_fine (HV.out.o.new HB))).mono ?_; rintro x u2 ⟨rfl, hb⟩
  replace HRX := hide (HRX.out.new hb)
  replace HB := bchain HB hb
  clear hb x5 x6
  cases k3 : okT d.outr d.outT
  · have HN := hide (okCn_no (c := d) (fun h => by rw [k3] at h; simp at h))
    go_wp2_with fail
    go_ret
    exact ⟨by rw [HN.out]; rfl, HB⟩
  have HC : Hid (okCn d = okFls d.flows d.reg.es) := by
    show okCn d = _
    unfold okCn
    rw [k1, k2, k3, k4, k5, HIN.out]; rfl
  have x10 := RowIs.cell (j := 10) HRX.out rfl
  have x2 := RowIs.cell (j := 2) HRX.out rfl
  clear k1 k2 k3 k4 k5 k6 k7 hin
  go_wp2_with fail
  refine (implEqualF d.flows d.reg.es _ _ _ (HV.out.f.new HB) (HV.out.e.new HB)).mono ?_; rintro x u3 ⟨rfl, hb⟩
  have HB2 := hide (bchain HB hb)
  clear hb
  go_wp2_with fail
  go_ret
  exact ⟨by rw [HC.out]; rfl, HB2.out⟩
abbrev C0 (n : Int) : CnD := ⟨⟨n, 0, []⟩, 400, [], 400, [], 2000, 2000, 500, [], false, false⟩
theorem okNew17 (n : Int) : okCn (C0 n) = inB n 0 20 := by
  cases h : inB n 0 20
  · exact okCn_no (fun q => by
      have := (okRg_iff.1 q.1).1
      unfold inB at h
      simp at h
      dsimp only at this
      omega)
  · have hi := inB_true h
    refine okCn_yes (okRg_iff.2 ⟨hi, .inl rfl, Nat.zero_le _, fun i h => absurd h (Nat.not_lt_zero _), ?_⟩) (show okT 400 [] = true by decide) (show okT 400 [] = true by decide) (show winB 2000 = true by decide) (show winB 2000 = true by decide) (show inB 500 0 16777215 = true by decide) (show okFls [] [] = true by decide)
    show liveL [] ≤ n
    exact hi.1
theorem rdNew17 (n : Int) (u : World) : CnRd u (C0 n) (.slice none 0 0) (.slice none 0 0) (.slice none 0 0) (.slice none 0 0) := ⟨(owX_nil (E := entryS) u 0 0).rd, (owX_nil (E := fieldS) u 0 0).rd, (owX_nil (E := fieldS) u 0 0).rd, (owX_nil (E := flowS) u 0 0).rd⟩
set_option maxHeartbeats 4000000 in
theorem implNewConn (limit : Int) (w : World) : Calls Tryz.prog 44 #[.int .i64 limit] w fun x w' => x = .returned (.tuple #[cnv (newCn limit).1 (.slice none 0 0) (.slice none 0 0) (.slice none 0 0) (.slice none 0 0), .bool (newCn limit).2]) ∧ Below w.heap.size w w' := by
  have hokn := okNew17 limit
  have hc := fun w => implConnRight (C0 limit) _ _ _ _ w (rdNew17 limit w)
  rw [hokn] at hc
  dsimp only [cnv] at hc
  have HC := hide hc
  clear hc hokn
  obtain ⟨P, hP⟩ : ∃ P, newCn limit = P := ⟨_, rfl⟩
  rw [hP]
  have HP := hide hP
  clear hP
  go_enter Tryz.func44, Tryz.ntmps44
  go_wp2_with fail
  have RZ := ((rowIs_new w 63 [.int .i64 0, .int .i64 0, .slice none 0 0, .int .i64 0, .slice none 0 0, .int .i64 0, .slice none 0 0, .int .i64 0, .int .i64 0, .int .i64 0, .slice none 0 0, .bool false, .bool false]).alloc (.cells #[.int .i64 400, .slice none 0 0] 60)).alloc (.cells #[.int .i64 limit, .int .i64 0, .slice none 0 0, .int .i64 400, .slice none 0 0, .int .i64 400, .slice none 0 0, .int .i64 2000, .int .i64 2000, .int .i64 500, .slice none 0 0, .bool false, .bool false] 63)
  have RC := rowIs_new ((w.alloc (.cells #[.int .i64 0, .int .i64 0, .slice none 0 0, .int .i64 0, .slice none 0 0, .int .i64 0, .slice none 0 0, .int .i64 0, .int .i64 0, .int .i64 0, .slice none 0 0, .bool false, .bool false] 63)).alloc (.cells #[.int .i64 400, .slice none 0 0] 60)) 63 [.int .i64 limit, .int .i64 0, .slice none 0 0, .int .i64 400, .slice none 0 0, .int .i64 400, .slice none 0 0, .int .i64 2000, .int .i64 2000, .int .i64 500, .slice none 0 0, .bool false, .bool false]
  have hsz : ((w.alloc (.cells #[.int .i64 0, .int .i64 0, .slice none 0 0, .int .i64 0, .slice none 0 0, .int .i64 0, .slice none 0 0, .int .i64 0, .int .i64 0, .int .i64 0, .slice none 0 0, .bool false, .bool false] 63)).alloc (.cells #[.int .i64 400, .slice none 0 0] 60)).heap.size = w.heap.size + 1 + 1 := by simp
  rw [hsz] at RC
  have HB : Below w.heap.size w (((w.alloc (.cells #[.int .i64 0, .int .i64 0, .slice none 0 0, .int .i64 0, .slice none 0 0, .int .i64 0, .slice none 0 0, .int .i64 0, .int .i64 0, .int .i64 0, .slice none 0 0, .bool false, .bool false] 63)).alloc (.cells #[.int .i64 400, .slice none 0 0] 60)).alloc (.cells #[.int .i64 limit, .int .i64 0, .slice none 0 0, .int .i64 400, .slice none 0 0, .int .i64 400, .slice none 0 0, .int .i64 2000, .int .i64 2000, .int .i64 500, .slice none 0 0, .bool false, .bool false] 63)) := (by repeat' (first | (with_reducible exact Below.refl _ _) | (with_reducible refine Below.drew ?_) | (with_reducible refine bo_drewN _ ?_) | (with_reducible refine bo_alloc ?_ _) | (refine bchain ?_ (by with_reducible assumption)) | (with_reducible refine Below.setCell ?_ ?_ _) | go_size))
  clear hsz
  refine (HC.out _).mono ?_; rintro x w1 ⟨rfl, hb⟩
  replace RZ := RZ.new hb
  replace RC := RC.new hb
  have HB1 := hide (bchain HB hb)
  clear hb HB HC
  cases hk : inB limit 0 20
  · have hv : P = (zCn, false) := by rw [← HP.out]; unfold newCn; rw [if_neg (by rw [hk]; decide)]
    subst hv
    dsimp only [cnv, zCn]
    have RZ2 := hide (rowIs_setRow (cs' := [.int .i64 0, .int .i64 0, .slice none 0 0, .int .i64 0, .slice none 0 0, .int .i64 0, .slice none 0 0, .int .i64 0, .int .i64 0, .int .i64 0, .slice none 0 0, .bool false, .bool false]) RZ)
    have HB2 := hide (below_setRow HB1.out (Nat.le_refl _) #[.int .i64 0, .int .i64 0, .slice none 0 0, .int .i64 0, .slice none 0 0, .int .i64 0, .slice none 0 0, .int .i64 0, .int .i64 0, .int .i64 0, .slice none 0 0, .bool false, .bool false])
    go_wp2_with (refine wpList_store_row (by rfl) 63 _ _ (by rfl) w.heap.size [.int .i64 0, .int .i64 0, .slice none 0 0, .int .i64 0, .slice none 0 0, .int .i64 0, .slice none 0 0, .int .i64 0, .int .i64 0, .int .i64 0, .slice none 0 0, .bool false, .bool false] (by rfl) (by rfl) 63 [.int .i64 0, .int .i64 0, .slice none 0 0, .int .i64 0, .slice none 0 0, .int .i64 0, .slice none 0 0, .int .i64 0, .int .i64 0, .int .i64 0, .slice none 0 0, .bool false, .bool false] RZ (by kernel_rfl) rfl (by intro u hu; simp at hu; rcases hu with rfl | rfl | rfl | rfl | rfl | rfl | rfl | rfl | rfl | rfl | rfl | rfl | rfl <;> rfl) ?_)
    generalize w1.setRow w.heap.size #[.int .i64 0, .int .i64 0, .slice none 0 0, .int .i64 0, .slice none 0 0, .int .i64 0, .slice none 0 0, .int .i64 0, .int .i64 0, .int .i64 0, .slice none 0 0, .bool false, .bool false] = V at *
    have z0 := RowIs.cell (j := 0) RZ2.out rfl
    have z1 := RowIs.cell (j := 1) RZ2.out rfl
    have z2 := RowIs.cell (j := 2) RZ2.out rfl
    have z3 := RowIs.cell (j := 3) RZ2.out rfl
    have z4 := RowIs.cell (j := 4) RZ2.out rfl
    have z5 := RowIs.cell (j := 5) RZ2.out rfl
    have z6 := RowIs.cell (j := 6) RZ2.out rfl
    have z7 := RowIs.cell (j := 7) RZ2.out rfl
    have z8 := RowIs.cell (j := 8) RZ2.out rfl
    have z9 := RowIs.cell (j := 9) RZ2.out rfl
    have z10 := RowIs.cell (j := 10) RZ2.out rfl
    have z11 := RowIs.cell (j := 11) RZ2.out rfl
    have z12 := RowIs.cell (j := 12) RZ2.out rfl
    have zf := fun j => RowIs.frozen RZ2.out j
    refine bodyPost_ret (v := .tuple #[.agg #[.int .i64 0, .int .i64 0, .slice none 0 0, .int .i64 0, .slice none 0 0, .int .i64 0, .slice none 0 0, .int .i64 0, .int .i64 0, .int .i64 0, .slice none 0 0, .bool false, .bool false], .bool false]) (by simp [results, Tryz.results44, go_sem, *]) rfl ?_
    exact ⟨rfl, HB2.out⟩
  · have hv : P = (C0 limit, true) := by rw [← HP.out]; unfold newCn; rw [if_pos hk]
    subst hv
    dsimp only [cnv]
    have RZ2 := hide (rowIs_setRow (cs' := [.int .i64 limit, .int .i64 0, .slice none 0 0, .int .i64 400, .slice none 0 0, .int .i64 400, .slice none 0 0, .int .i64 2000, .int .i64 2000, .int .i64 500, .slice none 0 0, .bool false, .bool false]) RZ)
    have HB2 := hide (below_setRow HB1.out (Nat.le_refl _) #[.int .i64 limit, .int .i64 0, .slice none 0 0, .int .i64 400, .slice none 0 0, .int .i64 400, .slice none 0 0, .int .i64 2000, .int .i64 2000, .int .i64 500, .slice none 0 0, .bool false, .bool false])
    go_wp2_with (first | (refine wpList_load_row (by rfl) 63 _ (by rfl) (w.heap.size + 1 + 1) (by rfl) [.int .i64 limit, .int .i64 0, .slice none 0 0, .int .i64 400, .slice none 0 0, .int .i64 400, .slice none 0 0, .int .i64 2000, .int .i64 2000, .int .i64 500, .slice none 0 0, .bool false, .bool false] _ 63 RC Tryz.underlying63 rfl (by kernel_rfl) ?_) | (refine wpList_store_row (by rfl) 63 _ _ (by rfl) w.heap.size [.int .i64 limit, .int .i64 0, .slice none 0 0, .int .i64 400, .slice none 0 0, .int .i64 400, .slice none 0 0, .int .i64 2000, .int .i64 2000, .int .i64 500, .slice none 0 0, .bool false, .bool false] (by rfl) (by rfl) 63 [.int .i64 0, .int .i64 0, .slice none 0 0, .int .i64 0, .slice none 0 0, .int .i64 0, .slice none 0 0, .int .i64 0, .int .i64 0, .int .i64 0, .slice none 0 0, .bool false, .bool false] RZ (by kernel_rfl) rfl (by intro u hu; simp at hu; rcases hu with rfl | rfl | rfl | rfl | rfl | rfl | rfl | rfl | rfl | rfl | rfl | rfl | rfl <;> rfl) ?_))
    generalize w1.setRow w.heap.size #[.int .i64 limit, .int .i64 0, .slice none 0 0, .int .i64 400, .slice none 0 0, .int .i64 400, .slice none 0 0, .int .i64 2000, .int .i64 2000, .int .i64 500, .slice none 0 0, .bool false, .bool false] = V at *
    have z0 := RowIs.cell (j := 0) RZ2.out rfl
    have z1 := RowIs.cell (j := 1) RZ2.out rfl
    have z2 := RowIs.cell (j := 2) RZ2.out rfl
    have z3 := RowIs.cell (j := 3) RZ2.out rfl
    have z4 := RowIs.cell (j := 4) RZ2.out rfl
    have z5 := RowIs.cell (j := 5) RZ2.out rfl
    have z6 := RowIs.cell (j := 6) RZ2.out rfl
    have z7 := RowIs.cell (j := 7) RZ2.out rfl
    have z8 := RowIs.cell (j := 8) RZ2.out rfl
    have z9 := RowIs.cell (j := 9) RZ2.out rfl
    have z10 := RowIs.cell (j := 10) RZ2.out rfl
    have z11 := RowIs.cell (j := 11) RZ2.out rfl
    have z12 := RowIs.cell (j := 12) RZ2.out rfl
    have zf := fun j => RowIs.frozen RZ2.out j
    refine bodyPost_ret (v := .tuple #[.agg #[.int .i64 limit, .int .i64 0, .slice none 0 0, .int .i64 400, .slice none 0 0, .int .i64 400, .slice none 0 0, .int .i64 2000, .int .i64 2000, .int .i64 500, .slice none 0 0, .bool false, .bool false], .bool true]) (by simp [results, Tryz.results44, go_sem, *]) rfl ?_
    exact ⟨rfl, HB2.out⟩
end Go.Proofs.YtkhclhnejnpkeaaGreat
