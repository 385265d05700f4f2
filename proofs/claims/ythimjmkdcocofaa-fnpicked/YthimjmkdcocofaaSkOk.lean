/- When a summary is right; the walk through the model's SketchOk. No statement of the seat is proved here. -/
import Derived.Test.YthimjmkdcocofaaSk
import Derived.Test.YthimjmkdcocofaaStop
namespace Go.Proofs.Ythimjmkdcocofaa
open Go.RowKit

/-- A list of so many numbers, each in 0 .. most; all 0 where z. -/
def okN (most : Int) (z : Bool) (x : Int) : Bool := decide (0 ≤ x ∧ x ≤ most) && (!z || decide (x = 0))
def okL (l : List Int) (many : Nat) (most : Int) (z : Bool) : Bool := decide (l.length = many) && l.all (okN most z)
def okHead (s : Sk) : Bool := decide (0 ≤ s.count ∧ s.count ≤ 1000000000) && decide (0 ≤ s.sum ∧ s.sum ≤ 1000000000) && decide (0 ≤ s.min ∧ s.min ≤ 1000000) && decide (0 ≤ s.max ∧ s.max ≤ 1000000) && decide (s.min ≤ s.max) && decide (s.rows.length = 2)
def okZero (s : Sk) : Bool := !decide (s.count = 0) || (decide (s.sum = 0) && decide (s.max = 0))
def okLists (s : Sk) : Bool := okL s.hist 8 1000000000 (decide (s.count = 0)) && okL s.regs 8 17 (decide (s.count = 0)) && okL (s.rows.getD 0 []) 4 1000000000 (decide (s.count = 0)) && okL (s.rows.getD 1 []) 4 1000000000 (decide (s.count = 0))
def Sk.ok (s : Sk) : Bool := okHead s && okZero s && okLists s

theorem all_snoc {p : Int → Bool} {l : List Int} {k : Nat} (hk : k < l.length) (h : (l.take k).all p = true) (hx : p (l[k]?.getD 0) = true) : (l.take (k + 1)).all p = true := by
  rw [take_succ' l k hk, List.all_append, h]; simpa using hx
theorem all_not {p : Int → Bool} {l : List Int} {k : Nat} (hk : k < l.length) (hx : p (l[k]?.getD 0) = false) : l.all p = false := by
  rw [← Bool.not_eq_true, List.all_eq_true]
  intro h
  have := h _ (List.getElem_mem hk)
  rw [List.getElem?_eq_getElem hk] at hx
  simp at hx
  rw [hx] at this; cases this
end Go.Proofs.Ythimjmkdcocofaa
