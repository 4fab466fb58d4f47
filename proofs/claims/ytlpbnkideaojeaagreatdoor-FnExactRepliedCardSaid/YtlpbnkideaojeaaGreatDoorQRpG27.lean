/- Lemmas. -/
import Derived.Test.YtlpbnkideaojeaaGreatDoorQRpG26
namespace Go.Proofs.YtlpbnkideaojeaaGreatDoor
open Go.RowKit
set_option maxRecDepth 100000
set_option linter.unusedSimpArgs false
set_option linter.unusedVariables false
abbrev nS (f : aV) (v : Value) : List Value := [.int .i64 f.id, .int .i64 f.get, .int .i64 f.give, v, .int .i64 f.tun.up.r, .string f.tun.up.b, .bool f.tun.up.e, .bool f.tun.up.k, .int .i64 f.tun.dn.r, .string f.tun.dn.b, .bool f.tun.dn.e, .bool f.tun.dn.k, .int .i64 f.tun.went, .int .i64 f.tun.came, .bool f.ended]
theorem cZ.xY {w : World} {g : Nat} {d : aH} {bs : List Nat} (h : cZ w g d bs) (k : Nat) (hk : k < d.flows.length) :
  ∃ gf A C ve vi vo cap v0, aj w g 40 (vZ d ve vi vo (.slice (some ⟨gf, 0, none⟩) d.flows.length cap)) ∧ gf ∈ bs ∧ gf < w.heap.size ∧ g ≠ gf ∧ bL w gf 92 A C (k * 15) (nS d.flows[k] v0) ∧ d.flows[k].tun.up.b.size ≤ 9223372036854775807 ∧ d.flows[k].tun.dn.b.size ≤ 9223372036854775807 ∧ aT bT w v0 d.flows[k].fds ∧
   ∀ w' f', f'.fds = d.flows[k].fds → f'.tun.up.b.size ≤ 9223372036854775807 → f'.tun.dn.b.size ≤ 9223372036854775807 → bL w' gf 92 A C (k * 15) (nS f' v0) → aG [gf] w w' → cZ w' g { d with flows := d.flows.set k f' } bs := by
 obtain ⟨⟨ve, vi, vo, vf, hrow, ⟨be, bi, bo, bf, h1, h2, h3, h4, rfl⟩, hn⟩, dJ⟩ := h
 have nO : bf.Nodup := by simp only [List.nodup_append] at hn; exact hn.2.1
 have ql : ∀ x ∈ bf, x ∉ be ++ bi ++ bo := fun x hx hx2 => by
  rw [List.nodup_append] at hn
  exact hn.2.2 x hx2 x hx rfl
 obtain ⟨gf, cap, cs, b, A, C, rfl, hgl, hgm, hgb, hsub, hown, hmid, hA, hput⟩ := h4.mid nO k hk
 obtain ⟨v0, bq, rfl, f0, f1, g1, rfl⟩ := hown
 have hgg : g ≠ gf := fun e => dJ (by rw [e]; simp [hgm])
 refine ⟨gf, A, C, ve, vi, vo, cap, v0, hrow, by simp [hgm], hgl, hgg, ⟨hmid, by rw [hA]; rfl⟩, f0, f1, g1.rd, ?_⟩
 intro w' f' hfe t1 t2 hm' ht
 have hk1 : ∀ x, x < w.heap.size → x ≠ gf → w'.heap[x]? = w.heap[x]? := fun x hx hne => ht.block x hx (by simpa using hne)
 have hk0 : ∀ x ∈ be ++ bi ++ bo, x ≠ gf := fun x hx e => ql gf hgm (e ▸ hx)
 have Bv : ∀ x ∈ b, w'.heap[x]? = w.heap[x]? := fun x hx => hk1 x (g1.lt x hx) (fun e => hgb (e ▸ hx))
 have hO := hput w' _ f' hm'.row ⟨v0, b, rfl, t1, t2, by rw [hfe]; exact g1.keep ht.size Bv, rfl⟩ ht.size (fun x hx hne => hk1 x (h4.lt x hx) hne)
 refine ⟨⟨ve, vi, vo, .slice (some ⟨gf, 0, none⟩) d.flows.length cap, ?_, ⟨be, bi, bo, bf, h1.keep ht.size (fun x hx => hk1 x (h1.lt x hx) (hk0 x (by simp [hx]))), h2.keep ht.size (fun x hx => hk1 x (h2.lt x hx) (hk0 x (by simp [hx]))), h3.keep ht.size (fun x hx => hk1 x (h3.lt x hx) (hk0 x (by simp [hx]))), hO, rfl⟩, hn⟩, dJ⟩
 exact hrow.kept (hk1 g hrow.lt hgg)
theorem Zi (w : World) (f : Fr) : (w.alloc (.cells #[.int .i64 f.k, .int .i64 f.fl, .int .i64 f.st, .string f.b] 72)).ownsRow w.heap.size 72 4 (.slice (some ⟨w.heap.size, 0, none⟩) 1 1) 1 (fr [f]) := kW w 72 4 1 #[.int .i64 f.k, .int .i64 f.fl, .int .i64 f.st, .string f.b] rfl (by omega)
theorem Zj {c : aH} {id : Int} {k : Nat} (h : dV c = true) (hq : dI c.reg.es id = some k) : ∃ (hk : k < c.flows.length) (hke : k < c.reg.es.length), c.reg.es[k].id = id ∧ gN c.flows[k] c.reg.es[k] = true ∧ 1 ≤ id ∧ id ≤ 100000 := by
 obtain ⟨hke, hid, _⟩ := mH hq
 have hk : k < c.flows.length := by rw [Jg h]; exact hke
 have h' := jI.1 h
 have he := nC.1 ((qw.1 h'.1).2.2.2.1 k hke).1
 have hi := Gj.1 he.1
 exact ⟨hk, hke, hid, Dk h'.2.2.2.2.2.2 k hk hke, by omega, by omega⟩
end Go.Proofs.YtlpbnkideaojeaaGreatDoor
