/- A slice of spans that comes in as an argument: what it holds. No statement of the seat is proved here. -/
import Derived.Test.YtjnamoppcklomaaGreatSpHelp
import Derived.ProofKit
import Derived.OpenShut
import Derived.ChangeSlices
import Derived.WideShapes
import Derived.Deep.SlicePairs
namespace Go.Proofs.YtjnamoppcklomaaGreat
open Go.RowKit Go.WideShapes Go.ChangeShapes Go.ChangeAt Go.Deep
theorem sp_addr {w : World} {x : Addr} {v : Value} (h : w.cell? (x.add (0 * 2)) = some v) : ∃ b off, x = ⟨b, off, none⟩ := by
  obtain ⟨b, off, spot⟩ := x
  have hspot : spot = none := by simpa [Addr.add] using World.cell?_spot h
  subst hspot
  exact ⟨b, off, rfl⟩
theorem sp_add (b off i : Nat) : (⟨b, off, none⟩ : Addr).add i = ⟨b, off + i, none⟩ := by unfold Addr.add; split <;> simp_all
/-- Each number fits 64 bits. -/
def Fit64 (x : Int) : Prop := -9223372036854775808 ≤ x ∧ x ≤ 9223372036854775807
theorem flat_range (n : Nat) (f g : Nat → Int) : ∀ i, i < n → ((List.range n).map fun i => (f i, g i))[i]?.getD (0, 0) = (f i, g i) := fun i hi => by simp [hi]
theorem rdP_mk {W : World} {b off len : Nat} (ps : Sp) (hl : ps.length = len) (hp : 0 < len) (h : ∀ i, i < len → W.cell? ⟨b, off + i * 2, none⟩ = some (.int .i64 (ps[i]?.getD (0, 0)).1) ∧ W.cell? ⟨b, off + i * 2 + 1, none⟩ = some (.int .i64 (ps[i]?.getD (0, 0)).2)) : RdP W (some ⟨b, off, none⟩) len ps [b] := by
  refine ⟨hl, by rw [flat_length, hl], .inr ⟨b, off, by omega, rfl, rfl, fun j hj => ?_⟩⟩
  rw [List.getD_eq_getElem?_getD]
  have hj2 : j = 2 * (j / 2) ∨ j = 2 * (j / 2) + 1 := by omega
  rcases hj2 with e | e
  · rw [e, flat_lo, show off + 2 * (j / 2) = off + j / 2 * 2 by omega]
    exact (h (j / 2) (by omega)).1
  · rw [e, flat_hi, show off + (2 * (j / 2) + 1) = off + j / 2 * 2 + 1 by omega]
    exact (h (j / 2) (by omega)).2
end Go.Proofs.YtjnamoppcklomaaGreat
