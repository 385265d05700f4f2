/- What the laws over items and entries share. No statement of the seat is proved here. -/
import Derived.Test.YtjndcfamfminkarItOpen
import Derived.Test.YtjndcfamfminkarItModel
namespace Go.Proofs.Ytjndcfamfminkar
open Go.RowKit Go.WideShapes Go.ChangeShapes Go.ChangeAt
theorem RdIt.cells {w : World} {v : Value} {x : It} {F : List Nat} (h : RdIt w v x F) : ∃ cs : Array Value, v = .agg cs ∧ cs.size = 11 ∧ cs.all (·.oneCell') = true := by
  obtain ⟨a1, n1, c1, a2, n2, c2, a3, n3, c3, rfl, _⟩ := h
  exact ⟨_, rfl, rfl, by simp [Value.oneCell']⟩
/-- An entry's value that can be read; F: its blocks. -/
def RdE (w : World) (v : Value) (x : En) (F : List Nat) : Prop := ∃ F1 F2, F = F1 ++ F2 ∧ RdEn w v x F1 F2
theorem RdE.agree {w w' : World} {v : Value} {x : En} {F : List Nat} (h : RdE w v x F) (ha : Agree w w' F) : RdE w' v x F := by
  obtain ⟨F1, F2, rfl, h⟩ := h
  exact ⟨F1, F2, rfl, h.agree (fun b hb => ha b (List.mem_append_left _ hb)) (fun b hb => ha b (List.mem_append_right _ hb))⟩
theorem RdE.lt {w : World} {v : Value} {x : En} {F : List Nat} (h : RdE w v x F) : ∀ b ∈ F, b < w.heap.size := by
  obtain ⟨F1, F2, rfl, h⟩ := h
  exact fun b hb => (List.mem_append.1 hb).elim (h.lt1 b) (h.lt2 b)
theorem RdE.below {w w' : World} {v : Value} {x : En} {F : List Nat} (h : RdE w v x F) (hb : Below w.heap.size w w') : RdE w' v x F := h.agree (.below hb h.lt)
theorem RdE.cells {w : World} {v : Value} {x : En} {F : List Nat} (h : RdE w v x F) : ∃ cs : Array Value, v = .agg cs ∧ cs.size = 10 ∧ cs.all (·.oneCell') = true := by
  obtain ⟨F1, F2, rfl, b, l, c, a1, n1, c1, a2, n2, c2, a3, n3, c3, rfl, _⟩ := h
  exact ⟨_, rfl, rfl, by simp [Value.oneCell']⟩
def It.vast (x : It) : Prop := x.sk.vast
def It.fits (x : It) : Prop := x.sk.fits
def It.wide (x : It) : Prop := x.sk.wide
theorem It.fits.wide {x : It} (h : x.fits) : x.wide := Sk.fits.wide h
def En.vast (x : En) : Prop := x.sk.vast ∧ x.ids.length ≤ 9223372036854775807
def En.fits (x : En) : Prop := x.sk.fits ∧ x.ids.length ≤ 1048576
def En.wide (x : En) : Prop := x.sk.wide ∧ x.ids.length ≤ 1048576
theorem En.fits.wide {x : En} (h : x.fits) : x.wide := ⟨h.1.wide, h.2⟩
theorem It.fits_of {x : It} {r left : Int} (h : r = left - x.sk.size) (h0 : 0 ≤ r) (hl : left ≤ 1048576) : x.fits := Sk.fits_of (by omega)
theorem En.fits_of {x : En} {r left : Int} (h : r = left - x.ids.length - x.sk.size ∧ (x.ids.length : Int) ≤ left ∧ x.sk.size ≤ left) (_h0 : 0 ≤ r) (hl : left ≤ 1048576) : x.fits := ⟨Sk.fits_of (by omega), by omega⟩
end Go.Proofs.Ytjndcfamfminkar
