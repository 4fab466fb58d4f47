/- What the laws of blocks draw: a list of Fields. -/
import Derived.Test.YtejmnkabmajebaaQG11
import Derived.Test.YtejmnkabmajebaaQG3
namespace Go.Proofs.Ytejmnkabmajebaa
open Go.RowKit
set_option maxRecDepth 100000
set_option linter.unusedSimpArgs false
set_option linter.unusedVariables false

/-- How many elements a slice tells that it has. -/
def sliceLen : Value → Nat
  | .slice _ n _ => n
  | _ => 0

set_option maxHeartbeats 2000000 in
theorem drawList (g B : Nat) (w : World) (hc : Cur w g B) :
    Calls Try.prog 38 #[.pointer (some ⟨g, 0, none⟩)] w fun e w' => ∃ (v : Value) (l : List Fd), e = .returned v ∧ w'.ownsRow w.heap.size 46 2 v l.length (fv l) ∧ (∀ f ∈ l, f.small) ∧ l.length ≤ 21 ∧ Cur w' g B ∧ Moves g w w' := by
  have hgw := hc.lt
  go_enter Try.func38, Try.ntmps38
  go_wp2_with fail
  have ho0 := owns_none w 46
  have hc0 := hc.alloc (.cells #[] 46)
  have hm0 := (Moves.refl g w).alloc (.cells #[] 46)
  generalize w.alloc (.cells #[] 46) = w0 at *
  refine (below1 g B 5 _ hc0 (by omega)).mono ?_; rintro e w1 ⟨n, n0, n1, _, rfl, hc1, hm1⟩
  have n5 := n1 (by omega)
  have ho1 := owns_moves ho0 hm1 hgw
  replace hm1 := hm0.trans hm1
  clear ho0 hc0 hm0 n1 hc
  go_wp2_with fail
  go_loopw [3, 4] (fun lst n wr => ∃ (m : Nat) (l : List Fd) (la : Option Addr) (lp : Nat), n = .int .i64 m ∧ lst = .slice la l.length lp ∧ m + l.length ≤ 5 ∧ wr.ownsRow w.heap.size 46 2 (.slice la l.length lp) l.length (fv l) ∧ (∀ f ∈ l, f.small) ∧ Cur wr g B ∧ Moves g w wr) (fun _ n _ => (intOf n).toNat)
  case atStart =>
    obtain ⟨m, rfl⟩ : ∃ m : Nat, n = m := ⟨n.toNat, by omega⟩
    exact ⟨m, [], _, _, rfl, rfl, by simp; omega, ho1, fun f hf => by simp at hf, hc1, hm1⟩
  case round =>
    obtain ⟨m, l, la, lp, rfl, rfl, hml, how, hsm, hcr, hmr⟩ := hrel
    have HSM := hide hsm
    clear hsm ho1 hm1 hc1
    have hsr := hmr.size
    by_cases hm : 0 < m
    · obtain ⟨m', rfl⟩ : ∃ m', m = m' + 1 := ⟨m - 1, by omega⟩
      go_wp2_with fail
      refine (drawField g B _ hcr).mono ?_; rintro e w5 ⟨f, hn, hv, rfl, hc5, hm5⟩
      have how5 := owns_moves how hm5 hgw
      have hm6 := hmr.trans hm5
      have hX : Below w5.heap.size w5 (w5.alloc (.cells #[.string f.n, .string f.v] 46)) := (Below.refl _ _).alloc (Nat.le_refl _) _
      have hownX := owns_new how5 hX
      have hRd := reads_row1 w5 f
      have hcX := hc5.below hX
      have hmX := hm6.trans (Moves.of_below (g := g) hX)
      have hsX := hmX.size
      clear how how5 hcr hmr hm5 hm6 hc5 hX
      go_wp2_with (at_builtin; refine wpList_app _ (by rfl) _ _ 24 (by rfl) 46 (.agg #[.string ⟨#[]⟩, .string ⟨#[]⟩]) 2 32 Try.underlying24 (by kernel_rfl) rfl (by decide) w.heap.size _ l.length (fv l) (by rfl) hownX _ 1 (fv [f]) (by rfl) hRd (fv_one _) (by omega) (by decide) (by omega) ?_)
      intro ad7 cap7 w7 hown7 hg7 hat7
      have HC := hide (hcX.grown hg7 (fun k hk => by have := (hownX.lt k hk).1; omega))
      have HM := hide (hmX.grown hg7 (fun k hk => by have := (hownX.lt k hk).1; omega))
      have HO := hide hown7
      have HSM2 : Hid (∀ u ∈ l ++ [f], u.small) := fun u hu => by
        rcases List.mem_append.1 hu with h | h
        · exact HSM.out u h
        · simp at h; rw [h]; exact ⟨hn, hv⟩
      clear hown7 hg7 hat7 hownX hRd hcX hmX
      go_wp2_with fail
      go_roundw
      case rel =>
        have hlen : (l ++ [f]).length = l.length + 1 := by simp
        refine ⟨m', l ++ [f], ad7, cap7, by go_num, ?_⟩
        rw [hlen, fv_app]
        exact ⟨rfl, by omega, HO.out, HSM2.out, HC.out, HM.out⟩
      case measure => simp [intOf]
    · obtain rfl : m = 0 := by omega
      go_wp2_with fail
      refine (once1 g B 40 _ hcr (by omega)).mono ?_; rintro e w2 ⟨v, rfl, hc2, hm2⟩
      have how2 := owns_moves how hm2 hgw
      replace hm2 := hmr.trans hm2
      clear how hcr hmr
      cases v
      · have HO := hide how2; have HC := hide hc2; have HM := hide hm2
        clear how2 hc2 hm2
        go_wp2_with fail
        go_ret
        exact ⟨_, l, rfl, HO.out, HSM.out, by omega, HC.out, HM.out⟩
      · go_wp2_with fail
        go_loopw [3] (fun lst wr => ∃ (l : List Fd) (la : Option Addr) (lp : Nat), lst = .slice la l.length lp ∧ l.length ≤ 21 ∧ wr.ownsRow w.heap.size 46 2 (.slice la l.length lp) l.length (fv l) ∧ (∀ f ∈ l, f.small) ∧ Cur wr g B ∧ Moves g w wr) (fun lst _ => 21 - sliceLen lst)
        case atStart => exact ⟨l, la, lp, rfl, by omega, how2, HSM.out, hc2, hm2⟩
        case round =>
          clear how2 HSM hc2 hm2 hml
          obtain ⟨l2, la2, lp2, rfl, h21, how, hsm, hcr, hmr⟩ := hrel
          have HSM := hide hsm
          clear hsm
          have hsr2 := hmr.size
          by_cases hlt : (l2.length : Int) < 21
          · obtain ⟨f, hf⟩ : ∃ f : Fd, f = ⟨⟨#[110]⟩, ⟨#[]⟩⟩ := ⟨_, rfl⟩
            have e1 : f.n = ⟨#[110]⟩ := by rw [hf]
            have e2 : f.v = ⟨#[]⟩ := by rw [hf]
            have hX : Below wr.heap.size wr (wr.alloc (.cells #[.string f.n, .string f.v] 46)) := (Below.refl _ _).alloc (Nat.le_refl _) _
            have hownX := owns_new how hX
            have hRd := reads_row1 wr f
            have hcX := hcr.below hX
            have hmX := hmr.trans (Moves.of_below (g := g) hX)
            have hsX := hmX.size
            have HSM2 : Hid (∀ u ∈ l2 ++ [f], u.small) := fun u hu => by
              rcases List.mem_append.1 hu with h | h
              · exact HSM.out u h
              · simp at h; rw [h, hf]; exact ⟨by simp [ByteArray.size], by simp [ByteArray.size]⟩
            rw [e1, e2] at hownX hRd hcX hmX hsX
            clear how hcr hmr hX e1 e2
            go_wp2_with (at_builtin; refine wpList_app _ (by rfl) _ _ 24 (by rfl) 46 (.agg #[.string ⟨#[]⟩, .string ⟨#[]⟩]) 2 32 Try.underlying24 (by kernel_rfl) rfl (by decide) w.heap.size _ l2.length (fv l2) (by rfl) hownX _ 1 (fv [f]) (by rfl) hRd (fv_one _) (by omega) (by decide) (by omega) ?_)
            intro ad7 cap7 w7 hown7 hg7 hat7
            have HC := hide (hcX.grown hg7 (fun k hk => by have := (hownX.lt k hk).1; omega))
            have HM := hide (hmX.grown hg7 (fun k hk => by have := (hownX.lt k hk).1; omega))
            have HO := hide hown7
            clear hown7 hg7 hat7 hownX hRd hcX hmX
            go_wp2_with fail
            go_roundw
            case rel =>
              rw [← hf] at HO
              have hlen : (l2 ++ [f]).length = l2.length + 1 := by simp
              refine ⟨l2 ++ [f], ad7, cap7, ?_⟩
              rw [hlen, fv_app]
              exact ⟨rfl, by omega, HO.out, HSM2.out, HC.out, HM.out⟩
            case measure => simp [sliceLen]; omega
          · have HO := hide how; have HC := hide hcr; have HM := hide hmr
            clear how hcr hmr
            go_wp2_with fail
            go_ret
            exact ⟨.slice la2 l2.length lp2, rfl, l2, HO.out, HSM.out, h21, HC.out, HM.out⟩
end Go.Proofs.Ytejmnkabmajebaa
