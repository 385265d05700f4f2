/- Agents, as plain data. No statement of the seat is proved here. -/
import Derived.Test.YtgkbhhlkaifnoaaLstCopy
import Derived.Test.YtgkbhhlkaifnoaaFrData
namespace Go.Proofs.Ytgkbhhlkaifnoaa
open Go.RowKit
/-- An item as an element of a slice. -/
def itK : ElK It where
  n := 11
  R := RdIt
  agree := fun h ha => RdIt.agree h ha
  lt := fun h => RdIt.lt h
  cells := fun h => by
    obtain ⟨a1, n1, c1, a2, n2, c2, a3, n3, c3, rfl⟩ := RdIt.cells11 h
    exact ⟨_, rfl, rfl, by simp [Value.oneCell']⟩
  pos := by decide
structure Ag where
  id : Int
  epoch : Int
  live : Bool
  granted : Int
  sealed : List It
  taken : Sp
  next : Int
  deriving DecidableEq
/-- An agent's value that can be read; F: its items' blocks, G: its set's. -/
def RdAg (w : World) (v : Value) (x : Ag) (F G : List Nat) : Prop :=
  ∃ a1 n1 c1 a2 n2 c2, v = .agg #[.int .i64 x.id, .int .i64 x.epoch, .bool x.live, .int .i64 x.granted, .slice a1 n1 c1, .slice a2 n2 c2, .int .i64 x.next] ∧
    RdL itK w a1 n1 x.sealed F ∧ RdP w a2 n2 x.taken G ∧ Capd a1 n1 c1 ∧ Capd a2 n2 c2
theorem RdAg.agree {w w' : World} {v : Value} {x : Ag} {F G : List Nat} (h : RdAg w v x F G) (ha : Agree w w' F) (hg : Agree w w' G) : RdAg w' v x F G := by
  obtain ⟨a1, n1, c1, a2, n2, c2, hv, h1, h2, k1, k2⟩ := h
  exact ⟨a1, n1, c1, a2, n2, c2, hv, h1.agree ha, h2.agree hg, k1, k2⟩
theorem RdAg.lt1 {w : World} {v : Value} {x : Ag} {F G : List Nat} (h : RdAg w v x F G) : ∀ b ∈ F, b < w.heap.size := by
  obtain ⟨a1, n1, c1, a2, n2, c2, hv, h1, h2, _⟩ := h
  exact h1.lt
theorem RdAg.lt2 {w : World} {v : Value} {x : Ag} {F G : List Nat} (h : RdAg w v x F G) : ∀ b ∈ G, b < w.heap.size := by
  obtain ⟨a1, n1, c1, a2, n2, c2, hv, h1, h2, _⟩ := h
  exact h2.lt
theorem RdAg.below {w w' : World} {v : Value} {x : Ag} {F G : List Nat} (h : RdAg w v x F G) (hb : Below w.heap.size w w') : RdAg w' v x F G := h.agree (.below hb h.lt1) (.below hb h.lt2)
theorem RdAg.cells {w : World} {v : Value} {x : Ag} {F G : List Nat} (h : RdAg w v x F G) : ∃ cs : Array Value, v = .agg cs ∧ cs.size = 7 ∧ cs.all (·.oneCell') = true := by
  obtain ⟨a1, n1, c1, a2, n2, c2, rfl, _⟩ := h
  exact ⟨_, rfl, rfl, by simp [Value.oneCell']⟩
def NewAg (w : World) (x : Ag) (e : Ending) (w' : World) : Prop := ∃ v F G, e = .returned v ∧ RdAg w' v x F G ∧ Own w.heap.size w' F ∧ Own w.heap.size w' G ∧ (∀ b ∈ F, b ∉ G) ∧ Below w.heap.size w w'
theorem Ag.eq_of {x y : Ag} (h1 : x.id = y.id) (h2 : x.epoch = y.epoch) (h3 : x.live = y.live) (h4 : x.granted = y.granted) (h5 : x.sealed = y.sealed) (h6 : x.taken = y.taken) (h7 : x.next = y.next) : x = y := by
  cases x; cases y; simp_all
end Go.Proofs.Ytgkbhhlkaifnoaa
