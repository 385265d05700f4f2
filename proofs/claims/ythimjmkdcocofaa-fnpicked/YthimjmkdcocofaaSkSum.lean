/- The walks through the model's helpers of a merging. No statement of the seat is proved here. -/
import Derived.Test.YthimjmkdcocofaaSkOk
import Derived.Deep.RegionHeld3
import Derived.Deep.AppendLies
namespace Go.Proofs.Ythimjmkdcocofaa
open Go.RowKit
def sumL (xs ys : List Int) : List Int := List.zipWith addN xs ys
theorem sumL_length (xs ys : List Int) (n : Nat) (hx : xs.length = n) (hy : ys.length = n) : (sumL xs ys).length = n := by simp [sumL, hx, hy]
theorem sumL_snoc (xs ys : List Int) (k : Nat) (hx : k < xs.length) (hy : k < ys.length) : (sumL xs ys).take (k + 1) = (sumL xs ys).take k ++ [addN (xs[k]?.getD 0) (ys[k]?.getD 0)] := by
  rw [take_snoc (sumL xs ys) 0 k (by simp [sumL]; omega)]
  simp [sumL, List.getElem?_zipWith, List.getElem?_eq_getElem hx, List.getElem?_eq_getElem hy]
theorem own_grow {w wr w1 : World} {e : TypeId} {v : Value} {n : Nat} {xs : List Value} {o : Obj} (hbel : Below w.heap.size w wr) (hown : wr.ownsRow w.heap.size e 1 v n xs) (hgrow : ((wr.drew).alloc o).grownBy w1 v.ownBlock):
    Below w.heap.size w w1 := by
  have h1 : Below w.heap.size w (wr.drew.alloc o) := (hbel.drew).alloc hbel.size o
  exact h1.grown hgrow (by simp; have := hbel.size; omega) (fun k hk => (hown.lt k hk).1)
theorem rdI_of_own {w : World} {B e n : Nat} {v : Value} {zs : List Int} (h : w.ownsRow B e 1 v n (zs.map (Value.int .i64))) : ∃ a cap F, v = .slice a n cap ∧ RdI w a n zs F ∧ Own B w F := by
  rcases h.2 with ⟨h1, h2⟩ | ⟨g, cap, cur, h1, _⟩
  · subst h2
    exact ⟨none, 0, [], h1, ⟨by simpa using h.1, .inl ⟨rfl, rfl⟩⟩, Own.nil⟩
  · subst h1
    obtain ⟨F, hr, ho, _⟩ := RdI.of_own h
    exact ⟨_, cap, F, rfl, hr, ho⟩
theorem own_empty (w : World) (e : TypeId) : (w.alloc (.cells #[] e)).ownsRow w.heap.size e 1 (.slice (some ⟨w.heap.size, 0, none⟩) 0 0) 0 [] :=
  ⟨rfl, .inr ⟨w.heap.size, 0, #[], rfl, Nat.le_refl _, Blk.made w #[] e, Nat.le_refl _, by simp, rfl, rfl⟩⟩
theorem cell_new1 (w : World) (u : Value) (t : TypeId) : ∀ (j : Nat) (x : Value), [u][j]? = some x → (w.alloc (.cells #[u] t)).cell? ((⟨w.heap.size, 0, none⟩ : Addr).add j) = some x := by
  intro j x hx
  cases j with
  | zero =>
    obtain rfl : u = x := by simpa using hx
    simp [Addr.add]
  | succ j => simp at hx
end Go.Proofs.Ythimjmkdcocofaa
