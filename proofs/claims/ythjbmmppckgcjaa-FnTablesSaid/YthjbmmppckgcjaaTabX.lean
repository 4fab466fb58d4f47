/- A Table in a box, its rows owned, all in one interval of blocks: what an exact law carries on. -/
import Derived.Test.YthjbmmppckgcjaaSpecNoted2
import Derived.Test.YthjbmmppckgcjaaTables
namespace Go.Proofs.Ythjbmmppckgcjaa
open Go.RowKit

/-- A Table in block g, its rows owned: all of it in blocks lo .. hi - 1. -/
structure TabX (w : World) (lo hi g : Nat) (a : Option Addr) (p : Nat) (room : Int) (L : List Fd) : Prop where
  row : RowIs w g 26 [.int .i64 room, .slice a L.length p]
  own : w.ownsRow lo 28 2 (.slice a L.length p) L.length (fv L)
  up : ∀ q, (Value.slice a L.length p).ownBlock = some q → q < hi
  glo : lo ≤ g
  ghi : g < hi
  ap : (Value.slice a L.length p).ownBlock ≠ some g
theorem TabX.new {w w' : World} {lo hi g : Nat} {a : Option Addr} {p : Nat} {room : Int} {L : List Fd} (h : TabX w lo hi g a p room L) (hb : Below w.heap.size w w') : TabX w' lo hi g a p room L :=
  ⟨h.row.new hb, owns_new h.own hb, h.up, h.glo, h.ghi, h.ap⟩
theorem TabX.turn {w w' : World} {lo hi lo' hi' g : Nat} {a : Option Addr} {p : Nat} {room : Int} {L : List Fd} (h : TabX w lo hi g a p room L) (ht : Turn lo' hi' w w') (hd : hi ≤ lo' ∨ hi' ≤ lo) : TabX w' lo hi g a p room L :=
  ⟨h.row.kept (ht.block g h.row.lt (by have := h.glo; have := h.ghi; omega)), owns_turn h.own ht (fun q hq => by have := (h.own.lt q hq).1; have := h.up q hq; omega), h.up, h.glo, h.ghi, h.ap⟩
theorem TabX.read {w : World} {lo hi g : Nat} {a : Option Addr} {p : Nat} {room : Int} {L : List Fd} (h : TabX w lo hi g a p room L) : Reads w (.slice a L.length p) L.length 2 (fv L) := reads_of_owns h.own
/-- A box that is filled as it is made. -/
theorem tabX_new {w : World} {lo : Nat} {room : Int} {L : List Fd} {a : Option Addr} {p : Nat} (ho : w.ownsRow lo 28 2 (.slice a L.length p) L.length (fv L)) (hl : lo ≤ w.heap.size) :
    TabX (w.alloc (.cells #[.int .i64 room, .slice a L.length p] 26)) lo (w.alloc (.cells #[.int .i64 room, .slice a L.length p] 26)).heap.size w.heap.size a p room L :=
  ⟨rowIs_new w 26 [.int .i64 room, .slice a L.length p], ho.alloc _, fun q hq => by have := (ho.lt q hq).2; simp; omega, hl, by simp, fun hq => by have := (ho.lt _ hq).2; omega⟩
/-- A box that was made empty and is filled now. -/
theorem tabX_set {w : World} {lo g : Nat} {x y : Value} {room : Int} {L : List Fd} {a : Option Addr} {p : Nat} (hr : RowIs w g 26 [x, y]) (ho : w.ownsRow lo 28 2 (.slice a L.length p) L.length (fv L)) (hap : (Value.slice a L.length p).ownBlock ≠ some g) (hl : lo ≤ g) :
    TabX ((w.setCell ⟨g, 0, none⟩ (.int .i64 room)).setCell ⟨g, 1, none⟩ (.slice a L.length p)) lo ((w.setCell ⟨g, 0, none⟩ (.int .i64 room)).setCell ⟨g, 1, none⟩ (.slice a L.length p)).heap.size g a p room L := by
  have hg := hr.lt
  exact ⟨(hr.set 0 _).set 1 _, owns_apart (owns_apart ho _ _ hap) _ _ hap, fun q hq => by have := (ho.lt q hq).2; simpa using this, hl, by simpa using hg, hap⟩
theorem TabX.base {w : World} {lo lo' hi g : Nat} {a : Option Addr} {p : Nat} {room : Int} {L : List Fd} (h : TabX w lo hi g a p room L) (hl : lo' ≤ lo) : TabX w lo' hi g a p room L :=
  ⟨h.row, owns_base h.own (fun q hq => Nat.le_trans hl (h.own.lt q hq).1), h.up, Nat.le_trans hl h.glo, h.ghi, h.ap⟩
theorem notedD_len (room : Int) (L : List Fd) (f : Fd) : (notedD room L f).1.2.length ≤ L.length + 1 := by
  unfold notedD
  split
  · split
    · have := shr_len (room := room) (f :: L); simpa using this
    · simp
  · simp
theorem resizedD_len (room : Int) (L : List Fd) (r : Int) : (resizedD room L r).1.2.length ≤ L.length + 1 := by
  unfold resizedD
  split
  · split
    · have := shr_len (room := r) L; simp only; omega
    · simp
  · simp
end Go.Proofs.Ythjbmmppckgcjaa
