/- The walks through the draws of chapter 3: some list of numbers, some summary. No statement of the seat is proved here. -/
import Derived.Test.YthimjmkdcocofaaDrawPick
import Derived.Test.YthimjmkdcocofaaSkSum
namespace Go.Proofs.Ythimjmkdcocofaa
open Go.RowKit
theorem own_keep {w w' : World} {B e size g : Nat} {v : Value} {n : Nat} {xs : List Value} (h : w.ownsRow B e size v n xs) (k : w.grownBy w' (some g)) (hg : g < B) : w'.ownsRow B e size v n xs := by
  refine ⟨h.1, ?_⟩
  rcases h.2 with h' | ⟨b, cap, cur, h1, h2, h3, h4⟩
  · exact .inl h'
  · have hb : b < w.heap.size := (h.lt b (by rw [h1]; rfl)).2
    exact .inr ⟨b, cap, cur, h1, h2, by rw [k.block b hb (fun e => by simp at e; omega)]; exact h3, h4⟩
/-- A cursor stays where its block, and what is elder than w, stay. -/
theorem cur_agree {w w' : World} {g : Nat} {a : Option Addr} {len cap : Nat} {zs : List Int} {i h : Int} (C : Cur w g a len cap zs i h) (_hg : g < w.heap.size) (e : w'.heap[g]? = w.heap[g]?) (hb : ∀ b, b < w.heap.size → (∃ off, a = some ⟨b, off, none⟩ ∧ 0 < len) → w'.heap[b]? = w.heap[b]?) : Cur w' g a len cap zs i h := by
  refine ⟨(World.cell?_of_block (w := w) (a := ⟨g, 0, none⟩) e).trans C.c0, (World.cell?_of_block (w := w) (a := ⟨g, 1, none⟩) e).trans C.c1, (World.cell?_of_block (w := w) (a := ⟨g, 2, none⟩) e).trans C.c2, (World.frozen?_of_block (w := w) (a := ⟨g, 1, none⟩) e).trans C.f1, (World.frozen?_of_block (w := w) (a := ⟨g, 2, none⟩) e).trans C.f2, C.i0, C.i1, ?_, C.ap⟩
  refine ⟨C.rd.length, C.rd.range, ?_⟩
  rcases C.rd.cells with h0 | ⟨b, off, ha, hc⟩
  · exact .inl h0
  · by_cases hl : len = 0
    · exact .inl hl
    · have hlt : b < w.heap.size := World.block_lt_of_cell? _ _ (hc 0 (by omega))
      exact .inr ⟨b, off, ha, fun j hj => (World.cell?_of_block (w := w) (a := ⟨b, off + j, none⟩) (hb b hlt ⟨off, ha, by omega⟩)).trans (hc j hj)⟩
def valList (p : Int) : List Int := [0, 1, 7, 8, 100, 5000, 1000000, p, 1000001, -1]
/-- What the drawing of a list tells: some list, in memory of its own; the cursor goes on. -/
def DrewList (w : World) (g : Nat) (a : Option Addr) (len cap : Nat) (zs : List Int) (e : Ending) (w' : World) : Prop :=
  ∃ a' n c xs F i' h', e = .returned (.slice a' n c) ∧ RdI w' a' n xs F ∧ n ≤ 6 ∧ Own w.heap.size w' F ∧ Cur w' g a len cap zs i' h' ∧ w.grownBy w' (some g)
end Go.Proofs.Ythimjmkdcocofaa
