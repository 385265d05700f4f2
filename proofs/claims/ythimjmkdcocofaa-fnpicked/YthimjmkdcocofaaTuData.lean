/- Turns, as plain data. No statement of the seat is proved here. -/
import Derived.Test.YthimjmkdcocofaaOwn
namespace Go.Proofs.Ythimjmkdcocofaa
open Go.RowKit
/-- Whose turn it is. -/
structure Tu where
  who : Int
  fresh : Bool
  left : List Int
  deriving DecidableEq
/-- A turn's value that can be read; F: its list's block. -/
def RdTu (w : World) (v : Value) (x : Tu) (F : List Nat) : Prop :=
  ∃ b l c, v = .agg #[.int .i64 x.who, .bool x.fresh, .slice b l c] ∧ RdI w b l x.left F
theorem RdTu.agree {w w' : World} {v : Value} {x : Tu} {F : List Nat} (h : RdTu w v x F) (ha : Agree w w' F) : RdTu w' v x F := by
  obtain ⟨b, l, c, hv, h1⟩ := h
  exact ⟨b, l, c, hv, h1.agree ha⟩
theorem RdTu.lt {w : World} {v : Value} {x : Tu} {F : List Nat} (h : RdTu w v x F) : ∀ b ∈ F, b < w.heap.size := by
  obtain ⟨b, l, c, hv, h1⟩ := h
  exact h1.lt
theorem RdTu.below {w w' : World} {v : Value} {x : Tu} {F : List Nat} (h : RdTu w v x F) (hb : Below w.heap.size w w') : RdTu w' v x F := h.agree (.below hb h.lt)
theorem RdTu.cells {w : World} {v : Value} {x : Tu} {F : List Nat} (h : RdTu w v x F) : ∃ cs : Array Value, v = .agg cs ∧ cs.size = 3 ∧ cs.all (·.oneCell') = true := by
  obtain ⟨b, l, c, rfl, _⟩ := h
  exact ⟨_, rfl, rfl, by simp [Value.oneCell']⟩
def NewTu (w : World) (x : Tu) (e : Ending) (w' : World) : Prop := ∃ v F, e = .returned v ∧ RdTu w' v x F ∧ Own w.heap.size w' F ∧ Below w.heap.size w w'
theorem Tu.eq_of {x y : Tu} (h1 : x.who = y.who) (h2 : x.fresh = y.fresh) (h3 : x.left = y.left) : x = y := by
  cases x; cases y; simp_all
def Tu.vast (x : Tu) : Prop := x.left.length ≤ 9223372036854775807
def Tu.fits (x : Tu) : Prop := x.left.length ≤ 1048576
def Tu.wide (x : Tu) : Prop := x.left.length ≤ 2097152
def Tu.many (x : Tu) : Int := x.left.length
theorem Tu.fits.wide {x : Tu} (h : x.fits) : x.wide := by unfold Tu.fits at h; unfold Tu.wide; omega
end Go.Proofs.Ythimjmkdcocofaa
