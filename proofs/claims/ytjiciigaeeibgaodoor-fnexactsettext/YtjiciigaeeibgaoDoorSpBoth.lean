/- The walk through the program's going through two sets. No statement of the seat is proved here. -/
import Derived.Test.YtjiciigaeeibgaoDoorSpCut
import Derived.Deep.RegionHeld3
namespace Go.Proofs.YtjiciigaeeibgaoDoor
open Go.RowKit
theorem RdP.move {w W : World} {B : Nat} {a : Option Addr} {len : Nat} {ps : Sp} {F : List Nat} (h : RdP w a len ps F) (hF : ∀ b ∈ F, b < B) (h1 : Below B w W) : RdP W a len ps F := h.agree (fun b hb => h1.block b (hF b hb))
theorem RdP.back {w W : World} {B : Nat} {a : Option Addr} {len : Nat} {ps : Sp} {F : List Nat} (h : RdP W a len ps F) (hF : ∀ b ∈ F, b < B) (h1 : Below B w W) : RdP w a len ps F := h.agree (fun b hb => (h1.block b (hF b hb)).symm)
theorem LayAt.below {w W : World} {B n : Nat} {v0 v : Value} {o : Sp} {xs : List Value} (h : LayAt w B v0 v o W) (h0 : w.ownsRow B 31 2 v0 n xs) (hB : B ≤ w.heap.size) : Below B w W :=
  ⟨h.grown.os, h.grown.tape, h.grown.output, h.grown.size, fun k hk => h.grown.block k (by omega) (fun e => by have := (h0.lt k e.symm).1; omega)⟩
/-- Midway in a round: the set that is made, the span's box. -/
structure MidB (w : World) (nb : Nat) (x y : Int) (v : Value) (o : Sp) (W : World) : Prop where
  own : W.ownsRow w.heap.size 31 2 v o.length ((flat o).map (Value.int .i64))
  bel : Below w.heap.size w W
  box : Blk W nb #[.int .i64 x, .int .i64 y] 31
  ne : some nb ≠ v.ownBlock
theorem MidB.alloc {w : World} {nb : Nat} {x y : Int} {v : Value} {o : Sp} {W : World} (h : MidB w nb x y v o W) (ob : Obj) : MidB w nb x y v o (W.alloc ob) := ⟨h.own.alloc _, Below.allocW _ h.bel (Nat.le_refl _), h.box.alloc _, h.ne⟩
theorem MidB.drew {w : World} {nb : Nat} {x y : Int} {v : Value} {o : Sp} {W : World} (h : MidB w nb x y v o W) : MidB w nb x y v o W.drew := ⟨⟨h.own.1, h.own.2⟩, h.bel.drew, h.box, h.ne⟩
/-- Behind the first laying: what lay beside lies there still. -/
structure AftB (w : World) (nb : Nat) (x y : Int) (v v' : Value) (o' : Sp) (W W' : World) : Prop where
  mid : MidB w nb x y v' o' W'
  old : ∀ g cs t, Blk W g cs t → some g ≠ v.ownBlock → Blk W' g cs t ∧ some g ≠ v'.ownBlock
theorem AftB.of {w : World} {nb : Nat} {x y : Int} {v v' : Value} {o o' : Sp} {W W' : World} (h : MidB w nb x y v o W) (k : LayAt W w.heap.size v v' o' W') : AftB w nb x y v v' o' W W' := by
  have hold : ∀ g cs t, Blk W g cs t → some g ≠ v.ownBlock → Blk W' g cs t ∧ some g ≠ v'.ownBlock := fun g cs t hb hne => by
    refine ⟨hb.agree (k.grown.block g hb.lt hne), ?_⟩
    rcases k.fresh with e | e
    · rw [e]; exact hne
    · intro e2; have := e g e2.symm; have := hb.lt; omega
  obtain ⟨h1, h2⟩ := hold _ _ _ h.box h.ne
  exact ⟨⟨k.own, h.bel.trans (k.below h.own h.bel.size), h1, h2⟩, hold⟩
/-- Ahead of the second laying: the one span's slice. -/
structure TwoB (w : World) (nb : Nat) (x y : Int) (v' : Value) (o' : Sp) (g : Nat) (W : World) : Prop where
  mid : MidB w nb x y v' o' W
  one : Blk W g #[.int .i64 x, .int .i64 y] 31
  ne : some g ≠ v'.ownBlock
theorem AftB.two {w : World} {nb : Nat} {x y : Int} {v v' : Value} {o o' : Sp} {W W' : World} (h : AftB w nb x y v v' o' (W.alloc (.cells #[.int .i64 x, .int .i64 y] 31)).drew W') (k : MidB w nb x y v o W) : TwoB w nb x y v' o' W.heap.size W' := by
  obtain ⟨h1, h2⟩ := h.old _ _ _ (Blk.made W _ _) (fun e => by have := (k.own.lt _ e.symm).2; omega)
  exact ⟨h.mid, h1, h2⟩
theorem AftB.new {w : World} {nb : Nat} {x y : Int} {v v' : Value} {o' : Sp} {W W' : World} (h : AftB w nb x y v v' o' W W') : TwoB w nb x y v' o' W'.heap.size (W'.alloc (.cells #[.int .i64 x, .int .i64 y] 31)) :=
  ⟨h.mid.alloc _, Blk.made _ _ _, fun e => by have := (h.mid.own.lt _ e.symm).2; omega⟩
theorem rdP_one {W : World} {g : Nat} {x y : Int} {t : TypeId} (h : Blk W g #[.int .i64 x, .int .i64 y] t) : RdP W (some ⟨g, 0, none⟩) 1 [(x, y)] [g] :=
  ⟨rfl, rdI_tcv (xs := flat [(x, y)]) (by simpa [tcv, flat] using h) (by simp [flat]) (by omega)⟩
/-- Ahead of a round. -/
structure BInv (w : World) (ps qs : Sp) (k : Nat) (o rs : Sp) (aa : Option Addr) (la ca : Nat) (F : List Nat) (v : Value) (wr : World) : Prop where
  own : wr.ownsRow w.heap.size 31 2 v o.length ((flat o).map (Value.int .i64))
  bel : Below w.heap.size w wr
  rd : RdP w aa la rs F
  lt : ∀ b ∈ F, b < w.heap.size
  cap : la ≤ ca
  len : o.length + rs.length ≤ ps.length + k
  ino : ∀ p ∈ o, InB p
  ina : ∀ p ∈ rs, InB p
  eq : both rs (qs.drop k) o = both ps qs []
end Go.Proofs.YtjiciigaeeibgaoDoor
