/- Several small texts of one level, one behind the other. -/
import Derived.Test.YtkhclhnejnpkeaaGreatQWtRing2
import Derived.Test.YtkhclhnejnpkeaaGreatQWtG2
import Derived.Test.YtkhclhnejnpkeaaGreatQWtG3
import Derived.Test.YtkhclhnejnpkeaaGreatQWtG8
import Derived.Test.YtkhclhnejnpkeaaGreatQWtG5
import Derived.Deep.DeepMust
import Derived.Deep.RegionHeld3
import Derived.Test.YtkhclhnejnpkeaaGreatQWtG6
/- The ring's own functions: it is made to fit, and its rows are laid out as a Table. -/
namespace Go.Proofs.YtkhclhnejnpkeaaGreat
open Go.RowKit
set_option maxRecDepth 100000
set_option linter.unusedSimpArgs false
set_option linter.unusedVariables false

/-- A ring whose rows are L. -/
structure RingAt (w : World) (b first : Nat) (L : List Fd) : Prop where
  fst : first < 112
  len : L.length ≤ 112
  row : RowIs w b 193 (rC (ringS first L) first L.length (sumW L))
theorem RingAt.new {w w' : World} {b first : Nat} {L : List Fd} (h : RingAt w b first L) (hb : Below w.heap.size w w') : RingAt w' b first L := ⟨h.fst, h.len, h.row.new hb⟩
theorem RingAt.turn {w w' : World} {b first : Nat} {L : List Fd} (h : RingAt w b first L) {lo hi : Nat} (ht : Turn lo hi w w') (hk : b < lo ∨ hi ≤ b) : RingAt w' b first L := ⟨h.fst, h.len, h.row.kept (ht.block b h.row.lt hk)⟩
/-- How many rows a ring tells that it has. -/
def cntOf (b : Nat) (w : World) : Nat := match w.cell? ⟨b, 225, none⟩ with | some (.int _ c) => c.toNat | _ => 0
theorem RingAt.cnt {w : World} {b first : Nat} {L : List Fd} (h : RingAt w b first L) : cntOf b w = L.length := by
  have := h.row.cell (rC_num (ringS_len first L) first L.length (sumW L)).2.1
  simp [cntOf, this]
theorem RingAt.wgt {w : World} {b first : Nat} {L : List Fd} (h : RingAt w b first L) : w.cell? ⟨b, 226, none⟩ = some (.int .i64 (sumW L)) := h.row.cell (rC_num (ringS_len first L) first L.length (sumW L)).2.2
theorem RingAt.count {w : World} {b first : Nat} {L : List Fd} (h : RingAt w b first L) : w.cell? ⟨b, 225, none⟩ = some (.int .i64 L.length) := h.row.cell (rC_num (ringS_len first L) first L.length (sumW L)).2.1
theorem sumW_dropLast {L : List Fd} (h : 0 < L.length) : sumW L.dropLast = sumW L - wt (L[L.length - 1]'(by omega)) := by
  have hne : L ≠ [] := fun e => by subst e; simp at h
  have h1 := List.dropLast_concat_getLast hne
  have h2 : sumW L = sumW (L.dropLast ++ [L.getLast hne]) := by rw [h1]
  rw [sumW_app, List.getLast_eq_getElem] at h2
  simp only [sumW] at h2
  omega

theorem drop2 (b first : Nat) (L : List Fd) (w : World) (h : RingAt w b first L) (h0 : 0 < L.length) (hok : ∀ f ∈ L, okF f = true) :
    Calls Tryz.prog 165 #[.pointer (some ⟨b, 0, none⟩)] w fun x w' => x = .returned (.tuple #[]) ∧ RingAt w' b first L.dropLast ∧ Turn b (b + 1) w w' := by
  obtain ⟨n, hn⟩ : ∃ n, L.length = n + 1 := ⟨L.length - 1, by omega⟩
  have hln := h.len
  have hlt : n < L.length := by omega
  have hr := h.row
  rw [hn] at hr
  have hrg := sumW_range L
  refine (dropLast1 b first n (ringS first L) (sumW L) L[n] w (ringS_len _ _) hr h.fst (by omega) (ringS_at h.fst hln n hlt) (fine_of (hok _ (List.getElem_mem hlt))) hrg.1 (by omega)).mono ?_
  rintro x w' ⟨rfl, hr', ht⟩
  refine ⟨rfl, ⟨h.fst, by rw [List.length_dropLast]; omega, ?_⟩, ht⟩
  have e1 := ringS_drop (first := first) (L := L) h.fst h0 hln
  rw [show L.length - 1 = n by omega] at e1
  have e2 := sumW_dropLast h0
  simp only [show L.length - 1 = n by omega] at e2
  rw [List.length_dropLast, show L.length - 1 = n by omega, e2, ← e1]
  exact hr'

set_option maxHeartbeats 1000000 in
theorem fit1 (b first : Nat) (L : List Fd) (room : Int) (w : World) (h : RingAt w b first L) (hok : ∀ f ∈ L, okF f = true) (hroom : 0 ≤ room) :
    Calls Tryz.prog 151 #[.pointer (some ⟨b, 0, none⟩), .int .i64 room] w fun x w' => x = .returned (.tuple #[]) ∧ RingAt w' b first (shr room L) ∧ Turn b (b + 1) w w' := by
  obtain ⟨R, hR⟩ : ∃ R, R = shr room L := ⟨_, rfl⟩
  rw [← hR]
  have H0 := hide h; have HOK := hide hok; have HRR := hide hR
  clear h hok hR
  go_enter Tryz.func151, Tryz.ntmps151
  go_wp2_with fail
  go_loopw [] (fun wr => ∃ L' : List Fd, RingAt wr b first L' ∧ (∀ f ∈ L', okF f = true) ∧ R = shr room L' ∧ Turn b (b + 1) w wr) (fun wr => cntOf b wr)
  case atStart => exact ⟨L, H0.out, HOK.out, HRR.out, Turn.refl _ _ _⟩
  case round =>
    obtain ⟨L', hra, hok', hR', ht⟩ := hrel
    have c6 := hra.wgt
    by_cases hgt : room < sumW L'
    · have hpos : 0 < L'.length := by
        rcases Nat.eq_zero_or_pos L'.length with h0 | h0
        · have : L' = [] := List.length_eq_zero_iff.1 h0
          subst this
          simp [sumW] at hgt; omega
        · exact h0
      have HD := hide (hR'.trans (shr_go hgt))
      have HA := hide hra; have HO := hide hok'; have HT := hide ht
      clear hR' hra hok' ht
      go_wp2_with fail
      refine (drop2 b first L' _ HA.out hpos HO.out).mono ?_; rintro x w1 ⟨rfl, hra1, ht1⟩
      have hc1 := hra1.cnt
      have hc0 := HA.out.cnt
      rw [List.length_dropLast] at hc1
      have HA1 := hide hra1
      have HC0 := hide hc0; have HC1 := hide hc1
      clear hra1 hc0 hc1
      go_wp2_with fail
      exact ⟨⟨L'.dropLast, HA1.out, fun f hf => HO.out f ((List.dropLast_sublist _).subset hf), HD.out, HT.out.trans ht1⟩, by have := HC0.out; have := HC1.out; omega⟩
    · have HD := hide (hR'.trans (shr_stop hgt))
      have HA := hide hra; have HT := hide ht
      clear hR' hra hok' ht
      go_wp2_with fail
      refine bodyPost_end (v := .tuple #[]) (by simp [results, Tryz.results151, go_sem]) rfl ?_
      exact ⟨rfl, by rw [HD.out]; exact HA.out, HT.out⟩

end Go.Proofs.YtkhclhnejnpkeaaGreat
/- Chapter 15's model: who is found, who is admitted, who reaches a place. -/
namespace Go.Proofs.YtkhclhnejnpkeaaGreat
open Go.RowKit
set_option maxRecDepth 100000
set_option linter.unusedSimpArgs false
set_option linter.unusedVariables false
/-- One tenant of a row that is read: its cells. -/
theorem ten_at {w : World} {ad : Option Addr} {n cap k : Nat} {L : List TenantD} (h : RdR tenantS w (.slice ad n cap) L) (hk : k < L.length) : ∃ b o al pl, ad = some ⟨b, o, none⟩ ∧ b < w.heap.size ∧ w.cell? ⟨b, o + k * 4, none⟩ = some (.string (tn L k).nm) ∧ w.cell? ⟨b, o + k * 4 + 1, none⟩ = some (.string (tn L k).key) ∧ w.cell? ⟨b, o + k * 4 + 2, none⟩ = some (.slice al (tn L k).list.length pl) ∧ w.cell? ⟨b, o + k * 4 + 3, none⟩ = some (.int .i64 (tn L k).quota) ∧ (tn L k).nm.size ≤ 9223372036854775807 ∧ (tn L k).key.size ≤ 9223372036854775807 ∧ RdR strS w (.slice al (tn L k).list.length pl) (tn L k).list ∧ (tn L k).list.length ≤ pl ∧ pl ≤ 9223372036854775807 := by
  rw [tn_get hk]
  obtain ⟨b, o, cs, rfl, hb, ⟨vl, rfl, f0, f1, hls⟩, hc⟩ := h.at k hk
  obtain ⟨al, pl, rfl, q1, q2⟩ := hls.form
  exact ⟨b, o, al, pl, rfl, hb, hc 0 _ rfl, hc 1 _ rfl, hc 2 _ rfl, hc 3 _ rfl, f0, f1, hls, q1, q2⟩
set_option maxHeartbeats 1000000 in
theorem specAtT (L : List TenantD) (name : ByteArray) (v : Value) (w : World) (hr : RdR tenantS w v L) (hL : L.length ≤ 1048576) : Calls Tryz.prog 28 #[v, .string name] w fun x w' => x = .returned (.int .i64 (atV L name)) ∧ Below w.heap.size w w' := by
  obtain ⟨ad, cap, rfl, h1, h2⟩ := hr.form
  obtain ⟨A, hA⟩ : ∃ A, atV L name = A := ⟨_, rfl⟩
  rw [hA]
  have HA := hide hA
  have HR := hide hr
  clear hA hr
  go_enter Tryz.func28, Tryz.ntmps28
  go_wp2_with fail
  go_loop [5] (fun i => ∃ k : Nat, i = .int .i64 (k : Int) ∧ k ≤ L.length ∧ Hid (atF name k (L.drop k) = A)) (fun i => L.length - (intOf i).toNat)
  case atStart => exact ⟨0, rfl, Nat.zero_le _, HA⟩
  case round =>
    obtain ⟨k, rfl, hk, HK⟩ := hrel
    by_cases hlt : k < L.length
    · have hltI : (k : Int) < L.length := by omega
      obtain ⟨b, o, al, pl, rfl, hbw, c0, _⟩ := ten_at HR.out hlt
      have hd : L.drop k = L[k] :: L.drop (k + 1) := List.drop_eq_getElem_cons hlt
      have HK2 : Hid ((if (tn L k).nm = name then (k : Int) else atF name (k + 1) (L.drop (k + 1))) = A) := by show _ = A; rw [← HK.out, hd, tn_get hlt]; rfl
      clear hd
      generalize (tn L k).nm = z at *
      have he := str_eq z name
      by_cases hz : z = name
      · rw [decide_eq_true hz] at he
        have HV : Hid (A = (k : Int)) := by show A = _; rw [← HK2.out, if_pos hz]
        clear hz
        go_wp2_with fail
        go_ret
        exact ⟨by rw [HV.out]; rfl, Below.refl _ _⟩
      · rw [decide_eq_false hz] at he
        have HV : Hid (atF name (k + 1) (L.drop (k + 1)) = A) := by show _ = A; rw [← HK2.out, if_neg hz]
        clear hz
        go_wp2_with fail
        go_round
        case rel => exact ⟨k + 1, by go_num, by omega, HV⟩
        case measure => simp [intOf]; omega
    · have hltI : ¬ (k : Int) < L.length := by omega
      have HV : Hid (A = -1) := by show A = _; rw [← HK.out, List.drop_of_length_le (by omega)]; rfl
      go_wp2_with fail
      go_ret
      exact ⟨by rw [HV.out]; rfl, Below.refl _ _⟩
end Go.Proofs.YtkhclhnejnpkeaaGreat
/- Chapter 10's model, what it makes: a copy, one opened, what happens, what is swept. -/
namespace Go.Proofs.YtkhclhnejnpkeaaGreat
open Go.RowKit
set_option maxRecDepth 100000
set_option linter.unusedSimpArgs false
set_option linter.unusedVariables false
/-- A Registry in block g whose entries are owned, in a block apart from it. -/
structure RegAt (w : World) (g base : Nat) (d : RegistryD) : Prop where
  ex : ∃ ad cap, RowIs w g 57 [.int .i64 d.lim, .int .i64 d.top, .slice ad d.es.length cap] ∧ w.ownsRow base 127 2 (.slice ad d.es.length cap) d.es.length (ev d.es) ∧ (Value.slice ad d.es.length cap).ownBlock ≠ some g
theorem RegAt.new {w w' : World} {g base : Nat} {d : RegistryD} (h : RegAt w g base d) (hb : Below w.heap.size w w') : RegAt w' g base d := by
  obtain ⟨ad, cap, h1, h2, h3⟩ := h.ex
  exact ⟨ad, cap, h1.new hb, owns_new h2 hb, h3⟩
end Go.Proofs.YtkhclhnejnpkeaaGreat
/- Tenants as the program goes about them, in plain words: how many of them are right, whether their names rise, where each name is. -/
namespace Go.Proofs.YtkhclhnejnpkeaaGreat
open Go.RowKit
set_option maxRecDepth 100000
set_option linter.unusedSimpArgs false
set_option linter.unusedVariables false
theorem lt_le {a b : ByteArray} (h : Op.bytesLess a.toList b.toList = true) : leS b a = false := by
  unfold leS
  cases h1 : Op.bytesLess b.toList a.toList
  · rw [Bool.false_or]
    refine beq_eq_false_iff_ne.2 fun e => ?_
    rw [e, less_irr] at h
    cases h
  · have := less_tr _ _ _ h h1
    rw [less_irr] at this
    cases this
def risT (L : List TenantD) : Bool := (List.range (L.length - 1)).all fun i => Op.bytesLess (tn L i).nm.toList (tn L (i + 1)).nm.toList
theorem risT_iff {L : List TenantD} : risT L = true ↔ ∀ i, i + 1 < L.length → Op.bytesLess (tn L i).nm.toList (tn L (i + 1)).nm.toList = true := by
  unfold risT
  simp only [List.all_eq_true, List.mem_range]
  exact ⟨fun h i hi => h i (by omega), fun h i hi => h i (by omega)⟩
def numT15 (L : List TenantD) : Nat := (L.filter okTn).length
theorem num_le (L : List TenantD) : numT15 L ≤ L.length := List.length_filter_le _ _
theorem num_yes {L : List TenantD} {k : Nat} (hk : k < L.length) (h : okTn (tn L k) = true) : numT15 (L.take (k + 1)) = numT15 (L.take k) + 1 := by
  unfold numT15
  rw [tn_get hk] at h
  rw [List.take_add_one, List.filter_append, List.getElem?_eq_getElem hk]
  simp only [Option.toList]
  rw [List.filter_cons_of_pos h]; simp
theorem num_no {L : List TenantD} {k : Nat} (hk : k < L.length) (h : okTn (tn L k) = false) : numT15 (L.take (k + 1)) = numT15 (L.take k) := by
  unfold numT15
  rw [tn_get hk] at h
  rw [List.take_add_one, List.filter_append, List.getElem?_eq_getElem hk]
  simp only [Option.toList]
  rw [List.filter_cons_of_neg (by rw [h]; simp)]; simp
theorem num_all {L : List TenantD} : numT15 L = L.length ↔ ∀ i, i < L.length → okTn (tn L i) = true := by
  unfold numT15
  rw [List.length_filter_eq_length_iff]
  constructor
  · intro h i hi; rw [tn_get hi]; exact h _ (List.getElem_mem hi)
  · intro h x hx
    obtain ⟨i, hi, rfl⟩ := List.mem_iff_getElem.1 hx
    have := h i hi
    rw [tn_get hi] at this
    exact this
theorem okTs_way (L : List TenantD) : okTs L = (decide (L.length ≤ 8) && (decide (numT15 L = L.length) && risT L)) := by
  apply Bool.eq_iff_iff.2
  rw [okTs_iff, Bool.and_eq_true, Bool.and_eq_true, decide_eq_true_eq, decide_eq_true_eq, num_all, risT_iff]
  constructor
  · rintro ⟨h1, h2⟩
    refine ⟨h1, fun i hi => (h2 i hi).1, fun i hi => ?_⟩
    rcases (h2 (i + 1) hi).2 with h | h
    · omega
    · exact le_lt h
  · rintro ⟨h1, h2, h3⟩
    refine ⟨h1, fun i hi => ⟨h2 i hi, ?_⟩⟩
    cases i with
    | zero => exact .inl rfl
    | succ i => exact .inr (lt_le (h3 i hi))
theorem okTn_way (d : TenantD) : okTn d = (nameB d.nm && (inB (d.key.size : Int) 1 40 && (plcB d.list && inB d.quota 0 20))) := by
  apply Bool.eq_iff_iff.2
  rw [okTn_iff, Bool.and_eq_true, Bool.and_eq_true, Bool.and_eq_true]
  unfold plcB
  rw [decide_eq_true_eq]
  constructor
  · rintro ⟨a, b, c, d, e⟩; exact ⟨a, b, ⟨c, e⟩, d⟩
  · rintro ⟨a, b, ⟨c, e⟩, d⟩; exact ⟨a, b, c, d, e⟩
/-- Where each name is, of the first k. -/
def plN (L : List TenantD) (k : Nat) (name : ByteArray) : Option Int := if 0 ≤ atV (L.take k) name then some (atV (L.take k) name) else none
theorem atF_app (name : ByteArray) (x : TenantD) : ∀ (M : List TenantD) (m : Nat), atF name m (M ++ [x]) = if 0 ≤ atF name m M then atF name m M else if x.nm = name then ((m + M.length : Nat) : Int) else -1
  | [], m => by simp [atF]
  | y :: M, m => by
    rw [List.cons_append]
    unfold atF
    by_cases e : y.nm = name
    · simp [e]
    · simp only [e, if_false]
      rw [atF_app name x M (m + 1)]
      have : m + 1 + M.length = m + (y :: M).length := by simp; omega
      rw [this]
theorem plN_zero (L : List TenantD) (name : ByteArray) : plN L 0 name = none := by unfold plN atV; simp [atF]
theorem plN_step {L : List TenantD} (h : okTs L = true) {k : Nat} (hk : k < L.length) : plN L k (tn L k).nm = none ∧ ∀ name, (if name = (tn L k).nm then some (k : Int) else plN L k name) = plN L (k + 1) name := by
  have h0 : ∀ name, 0 ≤ atV (L.take k) name → name ≠ (tn L k).nm := by
    intro name h1 e
    obtain ⟨j, hj, _, hn⟩ := at_found h1
    rw [List.length_take] at hj
    have hjL : j < L.length := by omega
    have : tn (L.take k) j = tn L j := by rw [tn_get (by rw [List.length_take]; omega), tn_get hjL, List.getElem_take]
    rw [this, e] at hn
    have := apart_names h hjL hk hn
    omega
  have hx : L.take (k + 1) = L.take k ++ [tn L k] := by rw [tn_get hk]; exact List.take_succ_eq_append_getElem hk
  refine ⟨by unfold plN; rw [if_neg (fun c => h0 _ c rfl)], fun name => ?_⟩
  have hl : (L.take k).length = k := by rw [List.length_take]; omega
  unfold plN
  rw [hx]
  have ha : atV (L.take k ++ [tn L k]) name = if 0 ≤ atV (L.take k) name then atV (L.take k) name else if (tn L k).nm = name then (k : Int) else -1 := by
    unfold atV; rw [atF_app, hl, Nat.zero_add]
  rw [ha]
  by_cases c : 0 ≤ atV (L.take k) name
  · rw [if_neg (h0 name c), if_pos c, if_pos c, if_pos c]
  · rw [if_neg c, if_neg c]
    by_cases e : name = (tn L k).nm
    · subst e; simp
    · have hne : ¬ (tn L k).nm = name := fun c => e c.symm
      rw [if_neg e]; simp only [hne, if_false]; rfl
theorem plN_end {L : List TenantD} {k : Nat} (hk : L.length ≤ k) (name : ByteArray) : plN L k name = if 0 ≤ atV L name then some (atV L name) else none := by unfold plN; rw [List.take_of_length_le hk]
end Go.Proofs.YtkhclhnejnpkeaaGreat
