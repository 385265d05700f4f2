/- Frames that are marked; a frame in a variable of the law's own. No statement of the seat is proved here. -/
import Derived.Test.YtjndcfamfminkarFrLaw
import Derived.Test.YtjndcfamfminkarItVar
namespace Go.Proofs.Ytjndcfamfminkar
open Go.RowKit
def It.marked (k : Int) (x : It) : It := { x with sk := x.sk.marked k }
def Fr.many (x : Fr) : Int := 2 * x.taken.length + x.item.sk.many
def Fr.marked (k : Int) (x : Fr) : Fr := ⟨x.kind, x.agent, x.epoch, x.granted, markP k x.taken.length, x.item.marked (k + 2 * x.taken.length)⟩
structure MarkedF (B : Nat) (w : World) (v : Value) (k : Int) (x : Fr) (F : List Nat) (w' : World) : Prop where
  rd : RdF w' v (x.marked k) F
  own : Own B w' F
  only : Only F w w'
theorem Fr.many_fits {x : Fr} (h : x.taken.length + x.item.sk.size ≤ 1048576) : 0 ≤ x.many ∧ x.many ≤ 4194304 := by
  have h1 := Sk.many_nonneg x.item.sk
  have h2 : x.item.sk.many ≤ x.item.sk.size := by
    have h0 := sumLen_nonneg x.item.sk.rows
    unfold Sk.size Sk.many
    omega
  unfold Fr.many
  omega
/-- An entry in a variable of the call's own: its struct lies in block g, its lists in memory between lo and hi. -/
structure VarF (W : World) (lo hi g : Nat) (cs : Array Value) (s : Fr) (F : List Nat) : Prop where
  blk : Blk W g cs 56
  rd : RdF W (.agg cs) s F
  sz : cs.size = 16
  own : Own lo W F
  lt : ∀ b ∈ F, b < hi
  ge : lo ≤ g
  glt : g < hi
  apart : g ∉ F
theorem VarF.below {W W' : World} {lo hi g : Nat} {cs : Array Value} {s : Fr} {F : List Nat} (h : VarF W lo hi g cs s F) (b : Below W.heap.size W W') : VarF W' lo hi g cs s F :=
  ⟨h.blk.below b, h.rd.below b, h.sz, h.own.below h.rd.lt b, h.lt, h.ge, h.glt, h.apart⟩
theorem VarF.fresh {w0 w1 W : World} {cs : Array Value} {s : Fr} {F : List Nat} (r : RdF w1 (.agg cs) s F) (o : Own w0.heap.size w1 F) (b : Below w0.heap.size w0 w1) (sz : cs.size = 16) (k : Blk W w1.heap.size cs 56) (b2 : Below w1.heap.size w1 W) : VarF W w0.heap.size W.heap.size w1.heap.size cs s F :=
  ⟨k, r.below b2, sz, o.below r.lt b2, fun x hx => by have := r.lt x hx; have := b2.size; omega, b.size, k.lt, fun hx => by have := r.lt _ hx; omega⟩
theorem VarF.only {W W' : World} {lo hi g lo' hi' g' : Nat} {cs ds : Array Value} {s t : Fr} {F G : List Nat} (h : VarF W lo hi g cs s F) (k : VarF W lo' hi' g' ds t G) (o : Only G W W') (hd : hi ≤ lo' ∨ hi' ≤ lo) : VarF W' lo hi g cs s F := by
  have d : ∀ b ∈ F, b ∉ G := fun b hb hg => by have := h.lt b hb; have := h.own.ge b hb; have := k.lt b hg; have := k.own.ge b hg; omega
  have e : g ∉ G := fun hg => by have := h.ge; have := h.glt; have := k.lt g hg; have := k.own.ge g hg; omega
  exact ⟨h.blk.agree (o.block g h.blk.lt e), h.rd.agree (o.agree h.rd.lt d), h.sz, h.own.agree (o.agree h.rd.lt d), h.lt, h.ge, h.glt, h.apart⟩
theorem VarF.only' {W W' : World} {lo hi g lo' hi' : Nat} {cs : Array Value} {s : Fr} {F G : List Nat} (h : VarF W lo hi g cs s F) (o : Only G W W') (kl : ∀ b ∈ G, b < hi') (kg : ∀ b ∈ G, lo' ≤ b) (hd : hi ≤ lo' ∨ hi' ≤ lo) : VarF W' lo hi g cs s F := by
  have d : ∀ b ∈ F, b ∉ G := fun b hb hg => by have := h.lt b hb; have := h.own.ge b hb; have := kl b hg; have := kg b hg; omega
  have e : g ∉ G := fun hg => by have := h.ge; have := h.glt; have := kl g hg; have := kg g hg; omega
  exact ⟨h.blk.agree (o.block g h.blk.lt e), h.rd.agree (o.agree h.rd.lt d), h.sz, h.own.agree (o.agree h.rd.lt d), h.lt, h.ge, h.glt, h.apart⟩
theorem VarF.bel {w W W' : World} {lo' hi' g' : Nat} {ds : Array Value} {t : Fr} {G : List Nat} (k : VarF W lo' hi' g' ds t G) (o : Only G W W') (h : Below w.heap.size w W) (hb : w.heap.size ≤ lo') : Below w.heap.size w W' :=
  o.below h h.size (fun b hg => by have := k.own.ge b hg; omega)
theorem VarF.mark {W W' : World} {lo hi g : Nat} {cs : Array Value} {s : Fr} {F : List Nat} {k : Int} (h : VarF W lo hi g cs s F) (m : MarkedF lo W (.agg cs) k s F W') : VarF W' lo hi g cs (s.marked k) F :=
  ⟨h.blk.agree (m.only.block g h.blk.lt h.apart), m.rd, h.sz, m.own, h.lt, h.ge, h.glt, h.apart⟩
/-- The boxes of two arguments lie there. -/
def FrBoxes (g : Nat) (cs ds : Array Value) (W : World) : Prop := Blk W g cs 64 ∧ Blk W (g + 1) ds 64
theorem FrBoxes.below {g : Nat} {cs ds : Array Value} {W W' : World} (h : FrBoxes g cs ds W) (b : Below W.heap.size W W') : FrBoxes g cs ds W' := ⟨h.1.below b, h.2.below b⟩
theorem FrBoxes.setRow {g k : Nat} {cs ds es : Array Value} {W : World} (h : FrBoxes g cs ds W) (hk : g + 1 < k) : FrBoxes g cs ds (W.setRow k es) := ⟨h.1.setRowOther (by omega), h.2.setRowOther (by omega)⟩
end Go.Proofs.Ytjndcfamfminkar
