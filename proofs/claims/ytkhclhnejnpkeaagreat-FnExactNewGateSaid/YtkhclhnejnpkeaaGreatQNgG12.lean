/- Several small texts of one level, one behind the other. -/
import Derived.Test.YtkhclhnejnpkeaaGreatQNgRing5
import Derived.Test.YtkhclhnejnpkeaaGreatQNgG11
import Derived.Test.YtkhclhnejnpkeaaGreatQNgG9
import Derived.Test.YtkhclhnejnpkeaaGreatQNgG3
import Derived.Test.YtkhclhnejnpkeaaGreatQNgG5
import Derived.Deep.DeepMust
import Derived.Lib.SliceRun
/- The program's word on a Table. -/
namespace Go.Proofs.YtkhclhnejnpkeaaGreat
open Go.RowKit
set_option maxRecDepth 100000
set_option linter.unusedSimpArgs false
set_option linter.unusedVariables false
set_option maxRecDepth 100000 in
set_option maxHeartbeats 1000000 in
theorem implTOk (L : List Fd) (room : Int) (v : Value) (w : World) (hr0 : Reads w v L.length 2 (fv L)) (hf : ∀ f ∈ L, f.fine) :
    Calls Tryz.prog 112 #[.agg #[.int .i64 room, v]] w fun x w' => x = .returned (.bool (okT room L)) ∧ Below w.heap.size w w' := by
  have HR := hide hr0
  obtain ⟨hl, ad, cap, rfl, h1, h2, h3⟩ := hr0
  clear h3
  go_enter Tryz.func112, Tryz.ntmps112
  go_wp2_with fail
  refine (ringOf1 L room _ _ ?c1 hf).mono ?_
  case c1 => exact HR.out.new (by repeat' (first | (with_reducible exact Below.refl _ _) | (with_reducible refine Below.drew ?_) | (with_reducible refine bo_drewN _ ?_) | (with_reducible refine bo_alloc ?_ _) | (refine bchain ?_ (by with_reducible assumption)) | (with_reducible refine Below.setCell ?_ ?_ _) | go_size))
  rintro x w1 ⟨cs, hcl, hone, rfl, _, hb1⟩
  have HONE := hide hone
  have HB : Below w.heap.size w w1 := (by repeat' (first | (with_reducible exact Below.refl _ _) | (with_reducible refine Below.drew ?_) | (with_reducible refine bo_drewN _ ?_) | (with_reducible refine bo_alloc ?_ _) | (refine bchain ?_ (by with_reducible assumption)) | (with_reducible refine Below.setCell ?_ ?_ _) | go_size))
  clear hone hb1
  go_wp2_with (first | (refine wpList_alloc_row (by rfl) 193 (by rfl) ringZ ringZ_zero.1 ?_) | (refine wpList_store_row (by rfl) 193 _ _ (by rfl) (w1.heap.size) (cs) (by rfl) (by rfl) 193 (ringZ) (rowIs_new w1 193 ringZ) (by rw [hcl]; exact ringZ_zero.2) (Eq.trans ringZ_len (Eq.symm hcl)) (HONE.out) ?_))
  go_ret
  exact ⟨rfl, below_setRow (bo_alloc HB _) HB.size _⟩
end Go.Proofs.YtkhclhnejnpkeaaGreat
/- The program's registry: RegistryOk, Live, Opened, Happened, Swept. -/
namespace Go.Proofs.YtkhclhnejnpkeaaGreat
open Go.RowKit
set_option maxRecDepth 100000
set_option linter.unusedSimpArgs false
set_option linter.unusedVariables false
theorem implRegistryOk (d : RegistryD) (v : Value) (w : World) (hr : RdR entryS w v d.es) : Calls Tryz.prog 111 #[.agg #[.int .i64 d.lim, .int .i64 d.top, v]] w fun x w' => x = .returned (.bool (okRg d)) ∧ Below w.heap.size w w' := by
  obtain ⟨ad, cap, rfl, h1, h2⟩ := hr.form
  have HR := hide hr
  clear hr
  go_enter Tryz.func111, Tryz.ntmps111
  go_wp2_with fail
  refine (implRightR d _ _ (HR.out.new (by repeat' (first | (with_reducible exact Below.refl _ _) | (with_reducible refine Below.drew ?_) | (with_reducible refine bo_drewN _ ?_) | (with_reducible refine bo_alloc ?_ _) | (refine bchain ?_ (by with_reducible assumption)) | (with_reducible refine Below.setCell ?_ ?_ _) | go_size)))).mono ?_; rintro z w1 ⟨rfl, hb1⟩
  go_wp2_with fail
  go_ret
  exact ⟨rfl, (by repeat' (first | (with_reducible exact Below.refl _ _) | (with_reducible refine Below.drew ?_) | (with_reducible refine bo_drewN _ ?_) | (with_reducible refine bo_alloc ?_ _) | (refine bchain ?_ (by with_reducible assumption)) | (with_reducible refine Below.setCell ?_ ?_ _) | go_size))⟩
end Go.Proofs.YtkhclhnejnpkeaaGreat
/- The program's copy of a list, each item by its own apart: Tenants. -/
namespace Go.Proofs.YtkhclhnejnpkeaaGreat
open Go.RowKit
set_option maxRecDepth 100000
set_option linter.unusedSimpArgs false
set_option linter.unusedVariables false
theorem below_turnT {B : Nat} {a b c : World} {g : Nat} (h : Below B a b) (ht : TurnB [g] b c) (hg : B ≤ g) (hB : B ≤ b.heap.size) : Below B a c :=
  ⟨ht.os.trans h.os, ht.tape.trans h.tape, ht.output.trans h.output, Nat.le_trans h.size ht.size, fun k hk => (ht.block k (by omega) (by simp; omega)).trans (h.block k hk)⟩
theorem OwX.keepG {D : Type} {E : Shp D} {w w' : World} {lo hi g : Nat} {v : Value} {L : List D} (h : OwX E w lo hi v L) (ht : TurnB [g] w w') (hg : g < lo) : OwX E w' lo hi v L := by
  obtain ⟨bs, h1, h2, h3⟩ := h
  exact ⟨bs, h1.keep ht.size (fun b hb => ht.block b (h1.lt b hb) (by have := h3 b hb; simp; omega)), h2, h3⟩
theorem ox_own {w : World} {lo hi : Nat} {v : Value} {L : List ByteArray} (h : OwX strS w lo hi v L) : OwR strS w v L v.ownBlock.toList := by
  obtain ⟨bs, h1, h2, h3⟩ := h
  have e := (owr_strs h1).2
  rw [← e]
  exact h1
set_option maxHeartbeats 1000000 in
theorem implCloneTen (v : Value) (n : Nat) (xs : List Value) (w : World) (hr : Reads w v n 4 xs) (h1 : ∀ u ∈ xs, u.oneCell' = true) (hn : n ≤ 2097152) :
    Calls Tryz.prog 84 #[v] w fun x w' => ∃ v', x = .returned v' ∧ w'.ownsRow w.heap.size 88 4 v' n xs ∧ Below w.heap.size w w' := by
  have HR := hide hr
  obtain ⟨hl, ad, cap, rfl, h2, h3, h4⟩ := hr
  have q : ∀ (w : World) (a : Option Addr) (n c n' c' : Nat), (binOp .eql 30 (.slice a n c) (.slice none n' c')).run Tryz.prog w = .ok (.bool a.isNone) w := fun w a n c n' c' => Lib.run_eql_slice_nil w _ _ a n c n' c' Tryz.underlying30
  cases ad with
  | none =>
    have hn0 : n = 0 := by
      rcases Nat.eq_zero_or_pos n with h | h
      · exact h
      · obtain ⟨b, o, e, _⟩ := h4 h; cases e
    subst hn0
    have hx : xs = [] := List.eq_nil_of_length_eq_zero (by simpa using hl)
    subst hx
    clear h4 HR
    go_enter Tryz.func84, Tryz.ntmps84
    go_wp2_with fail
    go_ret
    exact ⟨_, rfl, World.ownsRow_nil _ _ _ _, Below.refl _ _⟩
  | some a =>
    clear h4
    go_enter Tryz.func84, Tryz.ntmps84
    go_wp2_with (at_builtin; go_must (refine wpList_app _ (by rfl) _ _ 30 (by rfl) 88 (.agg #[.string ⟨#[]⟩, .string ⟨#[]⟩, .slice none 0 0, .int .i64 0]) 4 64 Tryz.underlying30 (by kernel_rfl) rfl (by decide) w.heap.size _ 0 [] (by rfl) (World.ownsRow_made w #[] 0 (Nat.le_refl _) (Nat.zero_le _) rfl) _ n xs (by rfl) (HR.out.new ((Below.refl _ _).alloc (Nat.le_refl _) _)) h1 (by omega) (by decide) (by simp) ?_))
    intro ad7 cap7 w7 hown7 hg7 hat7
    have hb7 : Below w.heap.size w w7 := ((Below.refl _ w).alloc (Nat.le_refl _) _).grown hg7 (by simp) (by intro k hk; simp [Value.ownBlock] at hk; omega)
    try simp only [Nat.zero_add, List.nil_append] at hown7
    have HO := hide hown7
    clear hg7 hat7 hown7
    go_wp2_with fail
    go_ret
    refine ⟨_, rfl, ?_, hb7⟩
    simpa using HO.out
theorem mApartTe (v : Value) (w : World) : (Go.method 379 88 v "loop.example/g00296/impl.apart").run Tryz.prog w = .ok (204, v) w := by kernel_rfl
set_option maxHeartbeats 8000000 in
theorem implEachTenant (fl : List TenantD) (v : Value) (w : World) (hr : RdR tenantS w v fl) (hok : ∀ f ∈ fl, okTn f = true) (hn : fl.length ≤ 8) :
    Calls Tryz.prog 43 #[v] w fun x w' => ∃ v', x = .returned v' ∧ OwX tenantS w' w.heap.size w'.heap.size v' fl ∧ Below w.heap.size w w' := by
  obtain ⟨af, pf, rfl, q1, q2⟩ := hr.form
  have HFO : Hid (∀ f ∈ fl, okTn f = true) := hok
  obtain ⟨rs, hrs, hrd, hrr⟩ := hr
  have hrl : fl.length = rs.length := by rw [hrs]; simp
  have hone : ∀ u ∈ rs.flatMap (fun t : List Value × TenantD => t.1), u.oneCell' = true := fun u hu => by
    obtain ⟨t, ht, hu⟩ := List.mem_flatMap.1 hu
    exact tenantS.rd_one (hrr t ht) u hu
  have HRS := hide hrs; have HRD := hide hrd; have HRR := hide hrr; have HRL := hide hrl; have HONE := hide hone
  clear hrs hrd hrr hrl hone hok
  have hme := mApartTe
  go_enter Tryz.func43, Tryz.ntmps43
  go_wp2_with fail
  refine (implCloneTen _ fl.length _ _ (by have := HRD.out; rw [← HRL.out] at this; exact this) HONE.out (by omega)).mono ?_; rintro e W5 ⟨vF, rfl, ho, hb⟩
  obtain ⟨ac, pc, rfl, qF1, qF2⟩ := owns_form ho
  have NHO := hide ho
  have NHB := hide hb
  obtain ⟨g9, hg9⟩ : ∃ n, W5.heap.size = n := ⟨_, rfl⟩
  have hug : w.heap.size ≤ g9 := by have := hb.size; omega
  have HVB : Hid (∀ q, (Value.slice ac fl.length pc).ownBlock = some q → w.heap.size ≤ q ∧ q < g9) := fun q hq => by have := owns_lt ho q hq; omega
  have hgW : Hid (g9 ≤ W5.heap.size) := Nat.le_of_eq hg9.symm
  clear ho hb hg9
  go_wp2_with fail
  have H0 : Hid (([] : List (List Value × TenantD × List Nat)).map (fun t => t.2.1) = fl.take 0 ∧ (∀ t ∈ ([] : List (List Value × TenantD × List Nat)), tenantS.own W5 t.1 t.2.1 t.2.2) ∧ (([] : List (List Value × TenantD × List Nat)).flatMap (fun t => t.2.2)).Nodup ∧ ∀ b ∈ ([] : List (List Value × TenantD × List Nat)).flatMap (fun t => t.2.2), g9 ≤ b ∧ b < W5.heap.size) := ⟨by simp, fun t ht => (by cases ht), by simp, fun b hb => (by simp at hb)⟩
  have HO0 : Hid (W5.ownsRow w.heap.size 88 4 (.slice ac fl.length pc) fl.length (([] : List (List Value × TenantD × List Nat)).flatMap (fun t => t.1) ++ (rs.drop 0).flatMap (fun t : List Value × TenantD => t.1))) := by show World.ownsRow _ _ _ _ _ _ _; simpa using NHO.out
  go_loopw [10, 4, 5] (fun i _ _ wr => ∃ (k : Nat) (ts : List (List Value × TenantD × List Nat)), i = .int .i64 (k : Int) ∧ k ≤ fl.length ∧ Hid (ts.map (fun t => t.2.1) = fl.take k ∧ (∀ t ∈ ts, tenantS.own wr t.1 t.2.1 t.2.2) ∧ (ts.flatMap (fun t => t.2.2)).Nodup ∧ ∀ b ∈ ts.flatMap (fun t => t.2.2), g9 ≤ b ∧ b < wr.heap.size) ∧ Hid (wr.ownsRow w.heap.size 88 4 (.slice ac fl.length pc) fl.length (ts.flatMap (fun t => t.1) ++ (rs.drop k).flatMap (fun t : List Value × TenantD => t.1))) ∧ Hid (Below w.heap.size w wr) ∧ Hid (g9 ≤ wr.heap.size)) (fun i _ _ _ => fl.length - (intOf i).toNat)
  case atStart => exact ⟨0, [], rfl, Nat.zero_le _, H0, HO0, NHB, hgW⟩
  case round =>
    clear H0 HO0 NHB hgW NHO
    obtain ⟨k, ts, rfl, hk, HT, HO, HB, HSR⟩ := hrel
    by_cases hlt : k < fl.length
    rotate_left
    · have hltI : ¬ (k : Int) < fl.length := by omega
      have hkn : k = fl.length := by omega
      have hfin : OwX tenantS wr w.heap.size wr.heap.size (.slice ac fl.length pc) fl := by
        obtain ⟨t1, t2, t3, t4⟩ := HT.out
        have ho := HO.out
        rw [hkn, List.take_length] at t1
        rw [hkn, List.drop_eq_nil_of_le (by have := HRL.out; omega)] at ho
        have htl : ts.length = fl.length := by have := congrArg List.length t1; simpa using this
        have hsr := HSR.out
        refine ⟨_, ⟨ts, t1.symm, by have := owns_base (base' := 0) ho (fun _ _ => Nat.zero_le _); rw [htl]; simp only [List.flatMap_nil, List.append_nil] at this; exact this, t2, rfl⟩, nodup_mk (opt_nodup _) t3 fun b hb hb2 => ?_, fun b hb => ?_⟩
        · have h1 := HVB.out b (by cases hv : (Value.slice ac fl.length pc).ownBlock <;> simp [hv] at hb ⊢; exact hb.symm)
          have h2 := t4 b hb2
          omega
        · rcases List.mem_append.1 hb with e | e
          · have h1 := HVB.out b (by cases hv : (Value.slice ac fl.length pc).ownBlock <;> simp [hv] at e ⊢; exact e.symm)
            omega
          · have h2 := t4 b e; omega
      have HF := hide hfin
      clear hfin hkn
      go_wp2_with fail
      go_ret
      exact ⟨_, rfl, HF.out, HB.out⟩
    · have hltI : (k : Int) < fl.length := by omega
      have hkr : k < rs.length := by have := HRL.out; omega
      obtain ⟨vq, hx1, s0, s1, hfd⟩ := HRR.out _ (List.getElem_mem hkr)
      have hxk : fl[k] = rs[k].2 := by simp only [HRS.out]; simp
      have hfo := HFO.out fl[k] (List.getElem_mem hlt)
      have hdr : (rs.drop k).flatMap (fun t : List Value × TenantD => t.1) = rs[k].1 ++ (rs.drop (k + 1)).flatMap (fun t : List Value × TenantD => t.1) := by rw [List.drop_eq_getElem_cons hkr]; rfl
      rw [hx1] at hdr
      have htk : fl.take (k + 1) = fl.take k ++ [fl[k]] := List.take_succ_eq_append_getElem hlt
      rw [hxk] at hfo htk
      obtain ⟨x, hx⟩ : ∃ x, rs[k].2 = x := ⟨_, rfl⟩
      rw [hx] at hdr s0 s1 hfd hfo htk
      obtain ⟨aq, pq, rfl, _, _⟩ := hfd.form
      have ho := HO.out
      rw [hdr, ← List.append_assoc] at ho
      have htl : ts.length = k := by have := congrArg List.length HT.out.1; simp at this; omega
      have hA15 : (ts.flatMap (fun t : List Value × TenantD × List Nat => t.1)).length = k * 4 := by
        rw [flat_len (fun t : List Value × TenantD × List Nat => t.1) 4 ts (fun t ht => tenantS.rd_len (tenantS.own_rd (HT.out.2.1 t ht))), htl]
      obtain ⟨gf, cap2, SS, hvc, hob, hgl1, hgl2, _, _, hmid, hput⟩ := owns_mid ho (by simp)
      simp only [Value.slice.injEq, true_and] at hvc
      obtain ⟨rfl, rfl⟩ := hvc
      rw [hA15] at hmid hput
      have hvb := HVB.out gf rfl
      have HXB : Hid (x.nm.size ≤ 1000 ∧ x.key.size ≤ 1000 ∧ x.list.length ≤ 20 ∧ ∀ s ∈ x.list, s.size ≤ 60) := by
        obtain ⟨g1, g2, g3, _, g5⟩ := okTn_iff.1 hfo
        refine ⟨?_, ?_, g3, g5⟩
        · unfold nameB at g1
          rw [Bool.and_eq_true] at g1
          have := inB_true g1.2
          omega
        · have := inB_true g2
          omega
      have HFD := hide (hfd.new HB.out)
      have HPUT := hide hput
      have HTK := hide htk
      have S0 := hide s0; have S1 := hide s1
      clear hx1 s0 s1 hfd hxk hfo hdr htk hx ho htl hA15 hput
      have c0 : wr.cell? ⟨gf, k * 4, none⟩ = some (.string x.nm) := hmid.cell (j := 0) rfl
      have c1 : wr.cell? ⟨gf, k * 4 + 1, none⟩ = some (.string x.key) := hmid.cell (j := 1) rfl
      have c2 : wr.cell? ⟨gf, k * 4 + 2, none⟩ = some (.slice aq x.list.length pq) := hmid.cell (j := 2) rfl
      have c3 : wr.cell? ⟨gf, k * 4 + 3, none⟩ = some (.int .i64 x.quota) := hmid.cell (j := 3) rfl
      go_upto_region 5 with fail
      have hX : Below wr.heap.size wr (wr.alloc (.cells #[.string x.nm, .string x.key, .slice aq x.list.length pq, .int .i64 x.quota] 88)) := (Below.refl _ _).alloc (Nat.le_refl _) _
      have RX := rowIs_new wr 88 [.string x.nm, .string x.key, .slice aq x.list.length pq, .int .i64 x.quota]
      have HM := hide (hmid.new hX)
      replace HFD := hide (HFD.out.new hX)
      replace HB := hide (bchain HB.out hX)
      have HTO : Hid (∀ t ∈ ts, tenantS.own (wr.alloc (.cells #[.string x.nm, .string x.key, .slice aq x.list.length pq, .int .i64 x.quota] 88)) t.1 t.2.1 t.2.2) := fun t ht => tenantS.own_keep (HT.out.2.1 t ht) hX.size (fun b hb => hX.block b (tenantS.own_lt (HT.out.2.1 t ht) b hb))
      have HTB : Hid (∀ b ∈ ts.flatMap (fun t : List Value × TenantD × List Nat => t.2.2), g9 ≤ b ∧ b < (wr.alloc (.cells #[.string x.nm, .string x.key, .slice aq x.list.length pq, .int .i64 x.quota] 88)).heap.size) := fun b hb => ⟨(HT.out.2.2.2 b hb).1, Nat.lt_of_lt_of_le (HT.out.2.2.2 b hb).2 hX.size⟩
      have HSR2 : Hid (g9 ≤ (wr.alloc (.cells #[.string x.nm, .string x.key, .slice aq x.list.length pq, .int .i64 x.quota] 88)).heap.size) := Nat.le_trans HSR.out hX.size
      have HTN := hide HT.out.2.2.1
      have HTM := hide HT.out.1
      clear hX hmid HT HO HSR c0 c1 c2 c3
      generalize wr.heap.size = ge at *
      generalize wr.alloc (.cells #[.string x.nm, .string x.key, .slice aq x.list.length pq, .int .i64 x.quota] 88) = u1 at *
      have x0 := RX.cell (j := 0) rfl
      have x1 := RX.cell (j := 1) rfl
      have x2 := RX.cell (j := 2) rfl
      have x3 := RX.cell (j := 3) rfl
      have xl := RX.lt
      go_wp2_with fail
      refine (implTApart x aq pq _ HFD.out HXB.out.1 HXB.out.2.1 HXB.out.2.2.1 HXB.out.2.2.2).mono ?_; rintro e u2 ⟨an, pn, rfl, hon, hb2⟩
      clear x0 x1 x2 x3 xl RX
      replace HM := hide (HM.out.new hb2)
      replace HB := hide (bchain HB.out hb2)
      have HTO2 : Hid (∀ t ∈ ts, tenantS.own u2 t.1 t.2.1 t.2.2) := fun t ht => tenantS.own_keep (HTO.out t ht) hb2.size (fun b hb => hb2.block b (tenantS.own_lt (HTO.out t ht) b hb))
      have HON := hide hon
      have HZ2 := hide hb2.size
      have HGU : Hid (gf < u1.heap.size) := Nat.lt_of_lt_of_le hvb.2 HSR2.out
      clear hon hb2 HTO
      go_upto_region 6 with (refine wpList_store_mid (by rfl) 88 _ _ (by rfl) gf (k * 4) [.string x.nm, .string x.key, .slice an x.list.length pn, .int .i64 x.quota] (by rfl) (by rfl) 88 _ _ _ HM.out (by kernel_rfl) rfl (by intro u hu; simp at hu; rcases hu with rfl | rfl | rfl | rfl <;> rfl) ?_; intro u3 hm3 ht3)
      have ho3 := HPUT.out u3 [.string x.nm, .string x.key, .slice an x.list.length pn, .int .i64 x.quota] rfl hm3
      have hon := HON.out
      have hsr2 := HSR2.out
      have hz2 := HZ2.out
      have hgu := HGU.out
      have HON3 := hon.keepG ht3 (by omega)
      have HB3 := hide (below_turnT HB.out ht3 (by omega) HB.out.size)
      have hnb : ∀ b, (Value.slice an x.list.length pn).ownBlock = some b → u1.heap.size ≤ b ∧ b < u3.heap.size := fun b hb => by have := HON3.own b hb; have := ht3.size; omega
      have hT3 : Hid ((ts ++ [(([.string x.nm, .string x.key, .slice an x.list.length pn, .int .i64 x.quota] : List Value), x, (Value.slice an x.list.length pn).ownBlock.toList)]).map (fun t : List Value × TenantD × List Nat => t.2.1) = fl.take (k + 1) ∧ (∀ t ∈ ts ++ [(([.string x.nm, .string x.key, .slice an x.list.length pn, .int .i64 x.quota] : List Value), x, (Value.slice an x.list.length pn).ownBlock.toList)], tenantS.own u3 t.1 t.2.1 t.2.2) ∧ ((ts ++ [(([.string x.nm, .string x.key, .slice an x.list.length pn, .int .i64 x.quota] : List Value), x, (Value.slice an x.list.length pn).ownBlock.toList)]).flatMap (fun t : List Value × TenantD × List Nat => t.2.2)).Nodup ∧ ∀ b ∈ (ts ++ [(([.string x.nm, .string x.key, .slice an x.list.length pn, .int .i64 x.quota] : List Value), x, (Value.slice an x.list.length pn).ownBlock.toList)]).flatMap (fun t : List Value × TenantD × List Nat => t.2.2), g9 ≤ b ∧ b < u3.heap.size) := by
        refine ⟨by rw [List.map_append, HTM.out, HTK.out]; rfl, fun t ht => ?_, ?_, fun b hb => ?_⟩
        · rcases List.mem_append.1 ht with e | e
          · refine tenantS.own_keep (HTO2.out t e) ht3.size (fun b hb => ht3.block b (tenantS.own_lt (HTO2.out t e) b hb) ?_)
            have := (HTB.out b (List.mem_flatMap.2 ⟨t, e, hb⟩)).1
            simp; omega
          · simp at e
            subst e
            exact ⟨.slice an x.list.length pn, _, rfl, S0.out, S1.out, ox_own HON3, rfl⟩
        · rw [List.flatMap_append]
          refine nodup_mk HTN.out (by simpa using opt_nodup _) fun b hb hb2 => ?_
          have h1 := (HTB.out b hb).2
          simp only [List.flatMap_cons, List.flatMap_nil, List.append_nil] at hb2
          have h2 := (hnb b (by cases hv : (Value.slice an x.list.length pn).ownBlock <;> simp [hv] at hb2 ⊢; exact hb2.symm)).1
          omega
        · rw [List.flatMap_append] at hb
          rcases List.mem_append.1 hb with e | e
          · have := HTB.out b e; have := ht3.size; omega
          · simp only [List.flatMap_cons, List.flatMap_nil, List.append_nil] at e
            have h2 := hnb b (by cases hv : (Value.slice an x.list.length pn).ownBlock <;> simp [hv] at e ⊢; exact e.symm)
            omega
      have HO3 : Hid (u3.ownsRow w.heap.size 88 4 (.slice (some ⟨gf, 0, none⟩) fl.length pc) fl.length ((ts ++ [(([.string x.nm, .string x.key, .slice an x.list.length pn, .int .i64 x.quota] : List Value), x, (Value.slice an x.list.length pn).ownBlock.toList)]).flatMap (fun t : List Value × TenantD × List Nat => t.1) ++ (rs.drop (k + 1)).flatMap (fun t : List Value × TenantD => t.1))) := by
        show World.ownsRow _ _ _ _ _ _ _
        rw [List.flatMap_append]
        simpa using ho3
      have hs3 : Hid (g9 ≤ u3.heap.size) := by show _ ≤ _; have := ht3.size; omega
      clear hm3 ho3 HON3 HM HB hnb ht3 hon hsr2 hz2 hgu HON HZ2 HGU HSR2
      go_wp2_with fail
      go_roundw
      case rel => exact ⟨k + 1, _, by go_num, by omega, hT3, HO3, HB3, hs3⟩
      case measure => simp [intOf]; omega
end Go.Proofs.YtkhclhnejnpkeaaGreat
