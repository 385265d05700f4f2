/- Seats, as plain data. No statement of the seat is proved here. -/
import Derived.Test.YtgkbhhlkaifnoabDoorSpData
namespace Go.Proofs.YtgkbhhlkaifnoabDoor
open Go.RowKit
/-- What the collector keeps of an agent. -/
structure Se where
  epoch : Int
  granted : Int
  taken : Sp
  merged : Int
  last : Int
  deriving DecidableEq
/-- A seat's value that can be read; F: its set's block. -/
def RdSe (w : World) (v : Value) (x : Se) (F : List Nat) : Prop :=
  ∃ b l c, v = .agg #[.int .i64 x.epoch, .int .i64 x.granted, .slice b l c, .int .i64 x.merged, .int .i64 x.last] ∧ RdP w b l x.taken F ∧ Capd b l c
theorem RdSe.agree {w w' : World} {v : Value} {x : Se} {F : List Nat} (h : RdSe w v x F) (ha : Agree w w' F) : RdSe w' v x F := by
  obtain ⟨b, l, c, hv, h1, k1⟩ := h
  exact ⟨b, l, c, hv, h1.agree ha, k1⟩
theorem RdSe.lt {w : World} {v : Value} {x : Se} {F : List Nat} (h : RdSe w v x F) : ∀ b ∈ F, b < w.heap.size := by
  obtain ⟨b, l, c, hv, h1, _⟩ := h
  exact h1.lt
theorem RdSe.below {w w' : World} {v : Value} {x : Se} {F : List Nat} (h : RdSe w v x F) (hb : Below w.heap.size w w') : RdSe w' v x F := h.agree (.below hb h.lt)
theorem RdSe.cells {w : World} {v : Value} {x : Se} {F : List Nat} (h : RdSe w v x F) : ∃ cs : Array Value, v = .agg cs ∧ cs.size = 5 ∧ cs.all (·.oneCell') = true := by
  obtain ⟨b, l, c, rfl, _⟩ := h
  exact ⟨_, rfl, rfl, by simp [Value.oneCell']⟩
def NewSe (w : World) (x : Se) (e : Ending) (w' : World) : Prop := ∃ v F, e = .returned v ∧ RdSe w' v x F ∧ Own w.heap.size w' F ∧ Below w.heap.size w w'
theorem Se.eq_of {x y : Se} (h1 : x.epoch = y.epoch) (h2 : x.granted = y.granted) (h3 : x.taken = y.taken) (h4 : x.merged = y.merged) (h5 : x.last = y.last) : x = y := by
  cases x; cases y; simp_all
def Se.vast (x : Se) : Prop := x.taken.length ≤ 9223372036854775807
def Se.fits (x : Se) : Prop := x.taken.length ≤ 1048576
def Se.wide (x : Se) : Prop := x.taken.length ≤ 2097152
def Se.many (x : Se) : Int := 2 * x.taken.length
theorem Se.fits.wide {x : Se} (h : x.fits) : x.wide := by unfold Se.fits at h; unfold Se.wide; omega
end Go.Proofs.YtgkbhhlkaifnoabDoor
