/- Lemmas. -/
import Derived.Test.YtlpbnkideaojeaaGreatDoorQRpG24
namespace Go.Proofs.YtlpbnkideaojeaaGreatDoor
open Go.RowKit
set_option maxRecDepth 100000
set_option linter.unusedSimpArgs false
set_option linter.unusedVariables false
theorem cZ.tun {w : World} {g : Nat} {d : aH} {bs : List Nat} (h : cZ w g d bs) (k : Nat) (hk : k < d.flows.length) :
  ∃ gf A C ve vi vo cap, aj w g 40 (vZ d ve vi vo (.slice (some ⟨gf, 0, none⟩) d.flows.length cap)) ∧ gf ∈ bs ∧ gf < w.heap.size ∧ bL w gf 92 A C (k * 15 + 4) (rW d.flows[k].tun) ∧ d.flows[k].tun.up.b.size ≤ 9223372036854775807 ∧ d.flows[k].tun.dn.b.size ≤ 9223372036854775807 ∧
   ∀ w' t', t'.up.b.size ≤ 9223372036854775807 → t'.dn.b.size ≤ 9223372036854775807 → bL w' gf 92 A C (k * 15 + 4) (rW t') → aG [gf] w w' → cZ w' g { d with flows := d.flows.set k { d.flows[k] with tun := t' } } bs := by
 obtain ⟨⟨ve, vi, vo, vf, hrow, ⟨be, bi, bo, bf, h1, h2, h3, h4, rfl⟩, hn⟩, dJ⟩ := h
 have nO : bf.Nodup := by simp only [List.nodup_append] at hn; exact hn.2.1
 have ql : ∀ x ∈ bf, x ∉ be ++ bi ++ bo := fun x hx hx2 => by
  rw [List.nodup_append] at hn
  exact hn.2.2 x hx2 x hx rfl
 obtain ⟨gf, cap, cs, b, A, C, rfl, hgl, hgm, hgb, hsub, hown, hmid, hA, hput⟩ := h4.mid nO k hk
 obtain ⟨v0, bq, rfl, f0, f1, g1, rfl⟩ := hown
 refine ⟨gf, A ++ [.int .i64 d.flows[k].id, .int .i64 d.flows[k].get, .int .i64 d.flows[k].give, v0], [.bool d.flows[k].ended] ++ C, ve, vi, vo, cap, hrow, by simp [hgm], hgl, ⟨?_, by simp [hA]; rfl⟩, f0, f1, ?_⟩
 ·have e : A ++ [Value.int .i64 d.flows[k].id, .int .i64 d.flows[k].get, .int .i64 d.flows[k].give, v0] ++ rW d.flows[k].tun ++ ([.bool d.flows[k].ended] ++ C) = A ++ [.int .i64 d.flows[k].id, .int .i64 d.flows[k].get, .int .i64 d.flows[k].give, v0, .int .i64 d.flows[k].tun.up.r, .string d.flows[k].tun.up.b, .bool d.flows[k].tun.up.e, .bool d.flows[k].tun.up.k, .int .i64 d.flows[k].tun.dn.r, .string d.flows[k].tun.dn.b, .bool d.flows[k].tun.dn.e, .bool d.flows[k].tun.dn.k, .int .i64 d.flows[k].tun.went, .int .i64 d.flows[k].tun.came, .bool d.flows[k].ended] ++ C := by simp
  rw [e]
  exact hmid
 ·intro w' t' t1 t2 hm' ht
  have hk1 : ∀ x, x < w.heap.size → x ≠ gf → w'.heap[x]? = w.heap[x]? := fun x hx hne => ht.block x hx (by simpa using hne)
  have hgg : g ≠ gf := fun e => dJ (by rw [e]; simp [hgm])
  have hk0 : ∀ x ∈ be ++ bi ++ bo, x ≠ gf := fun x hx e => ql gf hgm (e ▸ hx)
  have e : A ++ [Value.int .i64 d.flows[k].id, .int .i64 d.flows[k].get, .int .i64 d.flows[k].give, v0] ++ rW t' ++ ([.bool d.flows[k].ended] ++ C) = A ++ [.int .i64 d.flows[k].id, .int .i64 d.flows[k].get, .int .i64 d.flows[k].give, v0, .int .i64 t'.up.r, .string t'.up.b, .bool t'.up.e, .bool t'.up.k, .int .i64 t'.dn.r, .string t'.dn.b, .bool t'.dn.e, .bool t'.dn.k, .int .i64 t'.went, .int .i64 t'.came, .bool d.flows[k].ended] ++ C := by simp
  have hr' := hm'.row
  rw [e] at hr'
  have Bv : ∀ x ∈ b, w'.heap[x]? = w.heap[x]? := fun x hx => hk1 x (g1.lt x hx) (fun e => hgb (e ▸ hx))
  have hO := hput w' _ { d.flows[k] with tun := t' } hr' ⟨v0, b, rfl, t1, t2, g1.keep ht.size Bv, rfl⟩ ht.size (fun x hx hne => hk1 x (h4.lt x hx) hne)
  refine ⟨⟨ve, vi, vo, .slice (some ⟨gf, 0, none⟩) d.flows.length cap, hrow.kept (hk1 g hrow.lt hgg), ⟨be, bi, bo, bf, h1.keep ht.size (fun x hx => hk1 x (h1.lt x hx) (hk0 x (by simp [hx]))), h2.keep ht.size (fun x hx => hk1 x (h2.lt x hx) (hk0 x (by simp [hx]))), h3.keep ht.size (fun x hx => hk1 x (h3.lt x hx) (hk0 x (by simp [hx]))), hO, rfl⟩, hn⟩, dJ⟩
theorem uV {g : Nat} {a b : World} (h : Turn g (g + 1) a b) : aG [g] a b := ⟨h.os, h.tape, h.output, h.size, fun k hk hn => h.block k hk (by simp at hn; omega)⟩
theorem Pf {x : Int} (h : fP x = true) : -16777215 ≤ x ∧ x ≤ 16777215 := jm h
theorem Zp {r : bZ} (h : fE r = true) : r.es.length ≤ 60 := by
 unfold fE at h
 simp only [Bool.and_eq_true, decide_eq_true_eq] at h
 omega
theorem rH {d : aH} (h : dV d = true) : d.flows.length = d.reg.es.length ∧ d.reg.es.length ≤ 60 := ⟨Jg h, Zp (jI.1 h).1⟩
theorem zu {d : aH} (h : dV d = true) {f : aV} (hf : f ∈ d.flows) : (-16777215 ≤ f.get ∧ f.get ≤ 16777215) ∧ (-16777215 ≤ f.give ∧ f.give ≤ 16777215) ∧ jJ f.tun = true ∧ dZ f.fds = true := by
 obtain ⟨i, hi, rfl⟩ := List.mem_iff_getElem.1 hf
 have hl := Jg h
 have := Jm.1 (Dk (jI.1 h).2.2.2.2.2.2 i hi (by omega))
 exact ⟨Pf this.2.1, Pf this.2.2.1, this.2.2.2.2, this.2.2.2.1⟩
theorem Zq {r : bZ} {id : Int} (h0 : jk r id ≠ 0) (h4 : jk r id ≠ 4) : ∃ k, dI r.es id = some k := by
 cases h : dI r.es id with
 | some k => exact ⟨k, rfl⟩
 | none =>
  rw [Uf h] at h0 h4
  split at h0
  ·rename_i c; rw [if_pos c] at h4; exact absurd rfl h4
  ·exact absurd rfl h0
def Ext (c d : aH) : Prop := d.dead = c.dead ∧ c.flows.length ≤ d.flows.length ∧ d.reg.lim = c.reg.lim
theorem Ext.refl (c : aH) : Ext c c := ⟨rfl, Nat.le_refl _, rfl⟩
theorem Ext.trans {a b c : aH} (h : Ext a b) (k : Ext b c) : Ext a c := ⟨k.1.trans h.1, Nat.le_trans h.2.1 k.2.1, k.2.2.trans h.2.2⟩
end Go.Proofs.YtlpbnkideaojeaaGreatDoor
