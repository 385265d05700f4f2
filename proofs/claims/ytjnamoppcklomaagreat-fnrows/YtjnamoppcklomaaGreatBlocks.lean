/- A block's cells as a whole: structs that a call lays in memory of its own. No statement of the seat is proved here. -/
import Derived.Test.YtjnamoppcklomaaGreatOwn
namespace Go.Proofs.YtjnamoppcklomaaGreat
open Go.RowKit
def Blk (w : World) (g : Nat) (cs : Array Value) (t : TypeId) : Prop := w.heap[g]? = some (.cells cs t (0, 0))
theorem Blk.cell {w : World} {g : Nat} {cs : Array Value} {t : TypeId} (h : Blk w g cs t) (i : Nat) : w.cell? ⟨g, i, none⟩ = cs[i]? := by
 have h' : w.heap[g]? = some (.cells cs t (0, 0)) := h
 simp [World.cell?, h']
theorem Blk.frozen {w : World} {g : Nat} {cs : Array Value} {t : TypeId} (h : Blk w g cs t) (i : Nat) : w.frozen? ⟨g, i, none⟩ = false := by
 have h' : w.heap[g]? = some (.cells cs t (0, 0)) := h
 simp [World.frozen?, h']
theorem Blk.lt {w : World} {g : Nat} {cs : Array Value} {t : TypeId} (h : Blk w g cs t) : g < w.heap.size := by
 have h' : w.heap[g]? = some (.cells cs t (0, 0)) := h
 by_cases hg : g < w.heap.size
 ·
  exact hg
 ·
  rw [Array.getElem?_eq_none (by omega)] at h'; cases h'
theorem Blk.agree {w w' : World} {g : Nat} {cs : Array Value} {t : TypeId} (h : Blk w g cs t) (e : w'.heap[g]? = w.heap[g]?) : Blk w' g cs t := e.trans h
theorem Blk.below {w w' : World} {g : Nat} {cs : Array Value} {t : TypeId} (h : Blk w g cs t) (hb : Below w.heap.size w w') : Blk w' g cs t := h.agree (hb.block g h.lt)
theorem Blk.alloc {w : World} {g : Nat} {cs : Array Value} {t : TypeId} (h : Blk w g cs t) (o : Obj) : Blk (w.alloc o) g cs t := h.agree (Below.heap_alloc w o g h.lt)
theorem Blk.made (w : World) (cs : Array Value) (t : TypeId) : Blk (w.alloc (.cells cs t)) w.heap.size cs t := by
 show (w.heap.push _)[w.heap.size]? = _
 simp
theorem Blk.setOther {w : World} {g g' : Nat} {cs : Array Value} {t : TypeId} (h : Blk w g cs t) (hne : g ≠ g') (j : Nat) (v : Value) : Blk (w.setCell ⟨g', j, none⟩ v) g cs t := h.agree (Below.heap_setCell w ⟨g', j, none⟩ v g hne)
theorem Blk.set {w : World} {g : Nat} {cs : Array Value} {t : TypeId} (h : Blk w g cs t) (j : Nat) (v : Value) : Blk (w.setCell ⟨g, j, none⟩ v) g (cs.setIfInBounds j v) t := by
 have h' : w.heap[g]? = some (.cells cs t (0, 0)) := h
 unfold Blk
 simp only [World.setCell, Array.getElem?_modify, if_true]
 rw [h']
 simp
structure Three (w : World) (A : Array Value) (tA : TypeId) (B : Array Value) (C : Array Value) (tC : TypeId) (W : World) : Prop where
 box : Blk W w.heap.size A tA
 res : Blk W (w.heap.size + 1) B tC
 loc : Blk W (w.heap.size + 1 + 1) C tC
 bel : Below w.heap.size w W
theorem Three.made (w : World) (A : Array Value) (tA : TypeId) (B C : Array Value) (tC : TypeId) : Three w A tA B C tC (((w.alloc (.cells A tA)).alloc (.cells B tC)).alloc (.cells C tC)) := by
 have s1 : (w.alloc (.cells A tA)).heap.size = w.heap.size + 1 := by simp
 have s2 : ((w.alloc (.cells A tA)).alloc (.cells B tC)).heap.size = w.heap.size + 1 + 1 := by simp
 refine ⟨((Blk.made w A tA).alloc _).alloc _, ?_, ?_, (((Below.refl _ _).alloc (Nat.le_refl _) _).alloc (by omega) _).alloc (by omega) _⟩
 ·
  have := Blk.made (w.alloc (.cells A tA)) B tC
  rw [s1] at this
  exact this.alloc _
 ·
  have := Blk.made ((w.alloc (.cells A tA)).alloc (.cells B tC)) C tC
  rw [s2] at this
  exact this
theorem Three.size {w W : World} {A B C : Array Value} {tA tC : TypeId} (h : Three w A tA B C tC W) : w.heap.size + 3 ≤ W.heap.size := h.loc.lt
theorem Three.below {w W W' : World} {A B C : Array Value} {tA tC : TypeId} (h : Three w A tA B C tC W) (hb : Below W.heap.size W W') : Three w A tA B C tC W' :=
 ⟨h.box.below hb, h.res.below hb, h.loc.below hb, h.bel.trans (hb.mono h.bel.size)⟩
theorem Three.set {w W : World} {A B C : Array Value} {tA tC : TypeId} (h : Three w A tA B C tC W) (j : Nat) (v : Value) : Three w A tA B (C.setIfInBounds j v) tC (W.setCell ⟨w.heap.size + 1 + 1, j, none⟩ v) :=
 ⟨h.box.setOther (by omega) j v, h.res.setOther (by omega) j v, h.loc.set j v, h.bel.setCell (by show w.heap.size ≤ w.heap.size + 1 + 1; omega) v⟩
theorem Agree.refl (w : World) (F : List Nat) : Agree w w F := fun _ _ => rfl
theorem Agree.trans {a b c : World} {F : List Nat} (h : Agree a b F) (k : Agree b c F) : Agree a c F := fun x hx => (k x hx).trans (h x hx)
theorem Agree.mono {a b : World} {F G : List Nat} (h : Agree a b G) (hs : ∀ x ∈ F, x ∈ G) : Agree a b F := fun x hx => h x (hs x hx)
theorem Agree.thenSet {w w' : World} {F : List Nat} {g : Nat} (h : Agree w w' F) (hg : g ∉ F) (j : Nat) (v : Value) : Agree w (w'.setCell ⟨g, j, none⟩ v) F :=
 h.trans (fun b hb => Below.heap_setCell w' ⟨g, j, none⟩ v b (fun e => hg (by have e2 : b = g := e; rw [← e2]; exact hb)))
theorem Blk.made_eq {w : World} {cs : Array Value} {t : TypeId} {g : Nat} (h : g = w.heap.size) : Blk (w.alloc (.cells cs t)) g cs t := by subst h; exact Blk.made w cs t
theorem Blk.drew {w : World} {g : Nat} {cs : Array Value} {t : TypeId} (h : Blk w g cs t) : Blk w.drew g cs t := h
theorem Below.allocW {B : Nat} {a w : World} (o : Obj) (h : Below B a w) (hB : B ≤ a.heap.size) : Below B a (w.alloc o) := h.alloc (Nat.le_trans hB h.size) o
theorem Below.next {w0 wx w1 : World} (h : Below w0.heap.size w0 wx) (hb : Below wx.heap.size wx w1) : Below w0.heap.size w0 w1 := h.trans (hb.mono h.size)
theorem Below.sets7 {B : Nat} {a w : World} {g : Nat} {v0 v1 v2 v3 v4 v5 v6 : Value} (h : Below B a w) (hg : B ≤ g) :
 Below B a (((((((w.setCell ⟨g, 0, none⟩ v0).setCell ⟨g, 1, none⟩ v1).setCell ⟨g, 2, none⟩ v2).setCell ⟨g, 3, none⟩ v3).setCell ⟨g, 4, none⟩ v4).setCell ⟨g, 5, none⟩ v5).setCell ⟨g, 6, none⟩ v6) :=
 ((((((h.setCell hg v0).setCell hg v1).setCell hg v2).setCell hg v3).setCell hg v4).setCell hg v5).setCell hg v6
end Go.Proofs.YtjnamoppcklomaaGreat
