/- An item in a variable of the law's own; how great an entry out of an item is. No statement of the seat is proved here. -/
import Derived.Test.YtbmbmnhamogghapItVar
import Derived.Test.YtbmbmnhamogghapItOf
namespace Go.Proofs.Ytbmbmnhamogghap
open Go.RowKit
structure VarI (W : World) (lo hi g : Nat) (cs : Array Value) (s : It) (F : List Nat) : Prop where
  blk : Blk W g cs 44
  rd : RdIt W (.agg cs) s F
  sz : cs.size = 11
  own : Own lo W F
  lt : ∀ b ∈ F, b < hi
  ge : lo ≤ g
  glt : g < hi
  apart : g ∉ F
theorem VarI.below {W W' : World} {lo hi g : Nat} {cs : Array Value} {s : It} {F : List Nat} (h : VarI W lo hi g cs s F) (b : Below W.heap.size W W') : VarI W' lo hi g cs s F :=
  ⟨h.blk.below b, h.rd.below b, h.sz, h.own.below h.rd.lt b, h.lt, h.ge, h.glt, h.apart⟩
theorem VarI.fresh {w0 w1 W : World} {cs : Array Value} {s : It} {F : List Nat} (r : RdIt w1 (.agg cs) s F) (o : Own w0.heap.size w1 F) (b : Below w0.heap.size w0 w1) (sz : cs.size = 11) (k : Blk W w1.heap.size cs 44) (b2 : Below w1.heap.size w1 W) : VarI W w0.heap.size W.heap.size w1.heap.size cs s F :=
  ⟨k, r.below b2, sz, o.below r.lt b2, fun x hx => by have := r.lt x hx; have := b2.size; omega, b.size, k.lt, fun hx => by have := r.lt _ hx; omega⟩
theorem entry_cases (s : It) (ag : Int) : s.entry ag = En.zero ∨ ((s.entry ag).ids.length = 1 ∧ (s.entry ag).sk = s.sk) := by
  cases h : s.entryOk ag
  · exact .inl (It.entry_not h)
  · rw [It.entry_yes h]; exact .inr ⟨rfl, rfl⟩
theorem entry_wide {s : It} {ag : Int} (h : s.fits) : (s.entry ag).wide := by
  rcases entry_cases s ag with e | ⟨e1, e2⟩
  · rw [e]
    exact ⟨⟨by simp [En.zero, Sk.zero], by simp [En.zero, Sk.zero], by simp [En.zero, Sk.zero], by simp [En.zero, Sk.zero]⟩, by simp [En.zero]⟩
  · exact ⟨by rw [e2]; exact It.fits.wide h, by omega⟩
theorem entry_many {s : It} {ag : Int} (h : s.sk.size ≤ 1048576) : 0 ≤ (s.entry ag).many ∧ (s.entry ag).many ≤ 4194304 := by
  rcases entry_cases s ag with e | ⟨e1, e2⟩
  · rw [e]; simp [En.many, Sk.many, En.zero, Sk.zero, sumLen]
  · have := many_fits h
    unfold En.many
    rw [e1, e2]
    omega
end Go.Proofs.Ytbmbmnhamogghap
