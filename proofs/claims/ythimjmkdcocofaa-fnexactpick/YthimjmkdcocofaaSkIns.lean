/- The walk through the model's Insert, of a summary whose lists are as long as told: what comes of it is such a one again. No statement of the seat is proved here. -/
import Derived.Test.YthimjmkdcocofaaSkCopy
import Derived.Test.YthimjmkdcocofaaSkOk
import Derived.Test.YthimjmkdcocofaaSkLaw
import Derived.Test.YthimjmkdcocofaaTallyMath
import Derived.Deep.DeepCutAuto
namespace Go.Proofs.Ythimjmkdcocofaa
open Go.RowKit
section
variable {w : World} {lo g : Nat} {c sm mn mx : Int} {b1 o1 k1 b2 o2 k2 p po k3 b3 o3 j0 b4 o4 j1 : Nat} {l1 l2 x y : List Int} {W : World}
theorem cell_keep {u : Value} (h : W.cell? ⟨p, po, none⟩ = some u) {q j : Nat} {n : Value} (hq : p ≠ q) : (W.setCell ⟨q, j, none⟩ n).cell? ⟨p, po, none⟩ = some u :=
  (World.cell?_of_block (w := W) (a := ⟨p, po, none⟩) (Below.heap_setCell W ⟨q, j, none⟩ n p hq)).trans h
end
theorem RdI.single {w : World} {a : Option Addr} {n : Nat} {zs : List Int} {F : List Nat} (h : RdI w a n zs F) (hp : 0 < n) : ∃ b off, a = some ⟨b, off, none⟩ ∧ F = [b] := by
  rcases h.cells with ⟨h0, _⟩ | ⟨b, off, _, e, f, _⟩
  · omega
  · exact ⟨b, off, e, f⟩
theorem shaped_full {s : Sk} (h : s.shaped = true) : s.full := by
  obtain ⟨e1, e2, x, y, e3, e4, e5⟩ := Sk.shaped_parts h
  refine ⟨by omega, by omega, by rw [e3]; simp, fun z hz => ?_⟩
  rw [e3] at hz
  simp at hz
  rcases hz with rfl | rfl <;> omega
theorem shaped_wide {s : Sk} (h : s.shaped = true) : s.wide := by
  obtain ⟨e1, e2, x, y, e3, e4, e5⟩ := Sk.shaped_parts h
  refine ⟨by omega, by omega, by rw [e3]; simp, fun z hz => ?_⟩
  rw [e3] at hz
  simp at hz
  rcases hz with rfl | rfl <;> omega
end Go.Proofs.Ythimjmkdcocofaa
