/- The walks through the picks of one out of a list, which all draws share. No statement of the seat is proved here. -/
import Derived.Test.YtjndcfamfminkaqDraw
namespace Go.Proofs.Ytjndcfamfminkaq
open Go.RowKit

theorem getD_mem {α : Type} (xs : List α) (d : α) (j : Nat) (h : j < xs.length) : xs.getD j d ∈ xs := by
  rw [List.getD_eq_getElem?_getD, List.getElem?_eq_getElem h]; exact List.getElem_mem h

theorem lit_ints (w : World) (xs : List Int) (T : TypeId) (j : Nat) (hj : j < xs.length) : (w.alloc (.cells (xs.map (Value.int .i64)).toArray T)).cell? ⟨w.heap.size, j, none⟩ = some (.int .i64 (xs.getD j 0)) := by
  rw [World.cell?_alloc_at (hn := rfl)]
  simp [List.getElem?_eq_getElem hj]
theorem lit_texts (w : World) (xs : List ByteArray) (T : TypeId) (j : Nat) (hj : j < xs.length) : (w.alloc (.cells (xs.map Value.string).toArray T)).cell? ⟨w.heap.size, j, none⟩ = some (.string (xs.getD j ⟨#[]⟩)) := by
  rw [World.cell?_alloc_at (hn := rfl)]
  simp [List.getElem?_eq_getElem hj]
theorem below_cur {w w1 w2 w3 : World} {o : Obj} (h1 : Below w.heap.size w w1) (h2 : w2 = w1.alloc o) (h3 : w2.grownBy w3 (some w.heap.size)) : Below w.heap.size w w3 := by
  subst h2
  exact (h1.alloc h1.size o).grown h3 (by simp; exact Nat.le_trans h1.size (by omega)) (fun k hk => by simp at hk; omega)
theorem Cur.keep {w w' : World} {g : Nat} {a : Option Addr} {len cap : Nat} {zs : List Int} {i h : Int} (C : Cur w g a len cap zs i h) (hg : Below w.heap.size w w') : Cur w' g a len cap zs i h := by
  have hl : g < w.heap.size := World.block_lt_of_cell? _ _ C.c0
  refine ⟨?_, ?_, ?_, ?_, ?_, C.i0, C.i1, C.rd.below hg, C.ap⟩
  · rw [hg.cell (p := ⟨g, 0, none⟩) hl]; exact C.c0
  · rw [hg.cell (p := ⟨g, 1, none⟩) hl]; exact C.c1
  · rw [hg.cell (p := ⟨g, 2, none⟩) hl]; exact C.c2
  · rw [World.frozen?, hg.block g hl]; exact C.f1
  · rw [World.frozen?, hg.block g hl]; exact C.f2
end Go.Proofs.Ytjndcfamfminkaq
