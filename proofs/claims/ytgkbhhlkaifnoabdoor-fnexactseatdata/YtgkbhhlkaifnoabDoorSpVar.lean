/- A set in memory of the law's own: between which blocks it lies; what a marking of another one leaves. No statement of the seat is proved here. -/
import Derived.Test.YtgkbhhlkaifnoabDoorSpJoin2
namespace Go.Proofs.YtgkbhhlkaifnoabDoor
open Go.RowKit
structure VP (W : World) (lo hi : Nat) (a : Option Addr) (len : Nat) (zs : List Int) (F : List Nat) : Prop where
  rd : RdI W a (2 * len) zs F
  own : Own lo W F
  lt : ∀ b ∈ F, b < hi
theorem VP.below {W W' : World} {lo hi : Nat} {a : Option Addr} {len : Nat} {zs : List Int} {F : List Nat} (h : VP W lo hi a len zs F) (b : Below W.heap.size W W') : VP W' lo hi a len zs F := ⟨h.rd.below b, h.own.below h.rd.lt b, h.lt⟩
theorem VP.of {W W' : World} {a : Option Addr} {len : Nat} {ps : Sp} {F : List Nat} (r : RdP W' a len ps F) (o : Own W.heap.size W' F) : VP W' W.heap.size W'.heap.size a len (flat ps) F := ⟨r.rd, o, r.lt⟩
theorem VP.rdp {W : World} {lo hi : Nat} {a : Option Addr} {len : Nat} {ps : Sp} {F : List Nat} (h : VP W lo hi a len (flat ps) F) (hl : ps.length = len) : RdP W a len ps F := ⟨hl, h.rd⟩
theorem VP.mark {W W' : World} {lo hi : Nat} {a : Option Addr} {len : Nat} {zs : List Int} {F : List Nat} {k : Int} (h : VP W lo hi a len zs F) (m : MarkedP lo W a len k F W') : VP W' lo hi a len (marksI k (2 * len)) F := ⟨m.rd, m.own, h.lt⟩
theorem VP.only {W W' : World} {lo hi lo' hi' : Nat} {a a' : Option Addr} {len len' : Nat} {zs zs' : List Int} {F G : List Nat} (h : VP W lo hi a len zs F) (k : VP W lo' hi' a' len' zs' G) (o : Only G W W') (hd : hi ≤ lo' ∨ hi' ≤ lo) : VP W' lo hi a len zs F := by
  have d : ∀ b ∈ F, b ∉ G := fun b hb hg => by have := h.lt b hb; have := h.own.ge b hb; have := k.lt b hg; have := k.own.ge b hg; omega
  exact ⟨h.rd.agree (o.agree h.rd.lt d), h.own.agree (o.agree h.rd.lt d), h.lt⟩
theorem VP.bel {w W W' : World} {lo hi : Nat} {a : Option Addr} {len : Nat} {zs : List Int} {F : List Nat} (h : VP W lo hi a len zs F) (o : Only F W W') (b : Below w.heap.size w W) (hl : w.heap.size ≤ lo) : Below w.heap.size w W' := o.below b b.size (fun x hx => by have := h.own.ge x hx; omega)
theorem Only.size' {F : List Nat} {a b : World} (h : Only F a b) : a.heap.size ≤ b.heap.size := h.size
theorem add_length (ps : Sp) (n : Int) : (ps.add n).1.length ≤ ps.length + 1 := by
  unfold Sp.add
  split
  · exact put_length _ _ _
  · simp
theorem join_length (ps qs : Sp) : (ps.join qs).length ≤ ps.length + qs.length := by
  unfold Sp.join
  split
  · exact joinTo_length _ (Nat.le_refl _)
  · simp
end Go.Proofs.YtgkbhhlkaifnoabDoor
