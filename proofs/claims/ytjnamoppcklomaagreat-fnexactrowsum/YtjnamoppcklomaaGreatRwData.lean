/- Rows of entries, as plain data. No statement of the seat is proved here. -/
import Derived.Test.YtjnamoppcklomaaGreatEnData
namespace Go.Proofs.YtjnamoppcklomaaGreat
open Go.RowKit
/-- A row: entries, the first one first. -/
structure Rw where
  list : List En
  deriving DecidableEq
/-- A row's value that can be read; F: its blocks. -/
def RdRw (w : World) (v : Value) (x : Rw) (F : List Nat) : Prop :=
  ∃ a n c, v = .agg #[.slice a n c] ∧ RdL enK w a n x.list F ∧ Capd a n c
theorem RdRw.agree {w w' : World} {v : Value} {x : Rw} {F : List Nat} (h : RdRw w v x F) (ha : Agree w w' F) : RdRw w' v x F := by
  obtain ⟨a, n, c, hv, h1, k1⟩ := h
  exact ⟨a, n, c, hv, h1.agree ha, k1⟩
theorem RdRw.lt {w : World} {v : Value} {x : Rw} {F : List Nat} (h : RdRw w v x F) : ∀ b ∈ F, b < w.heap.size := by
  obtain ⟨a, n, c, hv, h1, _⟩ := h
  exact h1.lt
theorem RdRw.below {w w' : World} {v : Value} {x : Rw} {F : List Nat} (h : RdRw w v x F) (hb : Below w.heap.size w w') : RdRw w' v x F := h.agree (.below hb h.lt)
theorem RdRw.cells {w : World} {v : Value} {x : Rw} {F : List Nat} (h : RdRw w v x F) : ∃ cs : Array Value, v = .agg cs ∧ cs.size = 1 ∧ cs.all (·.oneCell') = true := by
  obtain ⟨a, n, c, rfl, _⟩ := h
  exact ⟨_, rfl, rfl, by simp [Value.oneCell']⟩
def NewRw (w : World) (x : Rw) (e : Ending) (w' : World) : Prop := ∃ v F, e = .returned v ∧ RdRw w' v x F ∧ Own w.heap.size w' F ∧ Below w.heap.size w w'
theorem Rw.eq_of {x y : Rw} (h : x.list = y.list) : x = y := by
  cases x; cases y; simp_all
/-- What a row weighs. -/
def Rw.size (x : Rw) : Int := (x.list.length : Int) + ensSize x.list
def Rw.vast (x : Rw) : Prop := (∀ y ∈ x.list, y.vast) ∧ x.list.length ≤ 9223372036854775807
def Rw.fits (x : Rw) : Prop := x.size ≤ 1048576
def Rw.wide (x : Rw) : Prop := (∀ y ∈ x.list, y.wide) ∧ x.list.length ≤ 1048576
theorem Rw.fits.len {x : Rw} (h : x.fits) : x.list.length ≤ 1048576 := by
  have := ensSize_nonneg x.list
  unfold Rw.fits Rw.size at h
  omega
theorem Rw.fits.each {x : Rw} (h : x.fits) : ∀ y ∈ x.list, y.fits := fun y hy => by
  have := ensSize_mem hy
  unfold Rw.fits Rw.size at h
  exact En.fits_wt (by omega)
theorem Rw.fits.wide {x : Rw} (h : x.fits) : x.wide := ⟨fun y hy => (h.each y hy).wide, h.len⟩
theorem Rw.fits_of {x : Rw} (h : x.size ≤ 1048576) : x.fits := h
end Go.Proofs.YtjnamoppcklomaaGreat
