/- Chapter 10's model, what it makes: a copy, one opened, what happens, what is swept. -/
import Derived.Test.YtgodopiejiajjabRegSpec1
import Derived.Test.YtgodopiejiajjabAppRows
import Derived.Test.YtgodopiejiajjabRowNew
import Derived.Deep.RegionHeld3


namespace Go.Proofs.Ytgodopiejiajjab
open Go.RowKit
set_option maxRecDepth 100000
set_option linter.unusedSimpArgs false
set_option linter.unusedVariables false
/-- A Registry in block g whose entries are owned, in a block apart from it. -/
structure RegAt (w : World) (g base : Nat) (d : RegistryD) : Prop where
  ex : ∃ ad cap, RowIs w g 28 [.int .i64 d.lim, .int .i64 d.top, .slice ad d.es.length cap] ∧ w.ownsRow base 37 2 (.slice ad d.es.length cap) d.es.length (ev d.es) ∧ (Value.slice ad d.es.length cap).ownBlock ≠ some g
theorem RegAt.new {w w' : World} {g base : Nat} {d : RegistryD} (h : RegAt w g base d) (hb : Below w.heap.size w w') : RegAt w' g base d := by
  obtain ⟨ad, cap, h1, h2, h3⟩ := h.ex
  exact ⟨ad, cap, h1.new hb, owns_new h2 hb, h3⟩
theorem regAt_new {w : World} {base : Nat} {d : RegistryD} {ad : Option Addr} {cap : Nat} (h : w.ownsRow base 37 2 (.slice ad d.es.length cap) d.es.length (ev d.es)) : RegAt (w.alloc (.cells #[.int .i64 d.lim, .int .i64 d.top, .slice ad d.es.length cap] 28)) w.heap.size base d :=
  ⟨ad, cap, rowIs_new w 28 [.int .i64 d.lim, .int .i64 d.top, .slice ad d.es.length cap], h.alloc _, fun hq => by have := (h.lt _ hq).2; omega⟩
theorem ev_set (L : List EntryD) (k : Nat) (hk : k < L.length) (s : Int) : (ev L).set (k * 2 + 1) (.int .i64 s) = ev (L.set k ⟨L[k].id, s⟩) := flat_set EntryD.cs 2 (fun _ => rfl) L k hk 1 (by decide) (.int .i64 s) ⟨L[k].id, s⟩ rfl
end Go.Proofs.Ytgodopiejiajjab
