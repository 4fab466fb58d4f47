/- A Registry in its box, its entries to be read. -/
import Derived.Test.YtgodopiejiajjaaRegSpec1
namespace Go.Proofs.Ytgodopiejiajjaa
open Go.RowKit
set_option maxRecDepth 100000
structure BxR (w : World) (b : Nat) (d : RegistryD) (a : Option Addr) (p : Nat) : Prop where
  row : RowIs w b 26 [.int .i64 d.lim, .int .i64 d.top, .slice a d.es.length p]
  rd : RdR entryS w (.slice a d.es.length p) d.es
theorem BxR.new {w w' : World} {b : Nat} {d : RegistryD} {a : Option Addr} {p : Nat} (h : BxR w b d a p) (hb : Below w.heap.size w w') : BxR w' b d a p := ⟨h.row.new hb, h.rd.new hb⟩
theorem BxR.make (w : World) (d : RegistryD) {a : Option Addr} {p : Nat} (h : RdR entryS w (.slice a d.es.length p) d.es) : BxR (w.alloc (.cells #[.int .i64 d.lim, .int .i64 d.top, .slice a d.es.length p] 26)) w.heap.size d a p :=
  ⟨rowIs_new w 26 [.int .i64 d.lim, .int .i64 d.top, .slice a d.es.length p], h.new ((Below.refl _ _).alloc (Nat.le_refl _) _)⟩
theorem rdE_far {w : World} {v : Value} {L : List EntryD} (h : RdR entryS w v L) (p : Addr) (u : Value) (hp : v.ownBlock ≠ some p.block) : RdR entryS (w.setCell p u) v L :=
  ev_rd ((rd_ev h).kept (by simp) fun k hk _ => Below.heap_setCell w p u k (fun e => hp (by rw [hk, e])))
/-- A box that is written anew. -/
theorem BxR.put {w : World} {b : Nat} {d d' : RegistryD} {a a' : Option Addr} {p p' : Nat} (h : BxR w b d a p) (hr : RdR entryS w (.slice a' d'.es.length p') d'.es) (hne : (Value.slice a' d'.es.length p').ownBlock ≠ some b) :
    BxR (((w.setCell ⟨b, 0, none⟩ (.int .i64 d'.lim)).setCell ⟨b, 1, none⟩ (.int .i64 d'.top)).setCell ⟨b, 2, none⟩ (.slice a' d'.es.length p')) b d' a' p' :=
  ⟨((h.row.set 0 _).set 1 _).set 2 _, rdE_far (rdE_far (rdE_far hr _ _ hne) _ _ hne) _ _ hne⟩
end Go.Proofs.Ytgodopiejiajjaa
