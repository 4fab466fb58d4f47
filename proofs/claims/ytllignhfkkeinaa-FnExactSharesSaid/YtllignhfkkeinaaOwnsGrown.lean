/- A row that is owned stays while another one is written. -/
import Derived.Test.YtllignhfkkeinaaHeapRows
namespace Go.Proofs.Ytllignhfkkeinaa
open Go.RowKit
set_option maxRecDepth 100000
theorem owns_grown {w w' : World} {base : Nat} {e : TypeId} {size : Nat} {v : Value} {n : Nat} {xs : List Value} {row : Option Nat} (h : w.ownsRow base e size v n xs) (hg : w.grownBy w' row) (hne : ∀ q, v.ownBlock = some q → row ≠ some q) : w'.ownsRow base e size v n xs :=
  owns_kept h (fun k hk hlt => hg.block k hlt (fun c => hne k hk c.symm))
end Go.Proofs.Ytllignhfkkeinaa
