/- Marks in a row of numbers, as plain data. No statement of the seat is proved here. -/
import Derived.Test.YtjnamoppcklomaaGreatIntLists
import Derived.Test.YtjnamoppcklomaaGreatBlocks
namespace Go.Proofs.YtjnamoppcklomaaGreat
open Go.RowKit
theorem RdI.set {w : World} {b off len : Nat} {zs : List Int} (h : RdI w (some ⟨b, off, none⟩) len zs [b]) (hp : 0 < len) (j : Nat) (hj : j < len) (n : Int) : RdI (w.setCell ⟨b, off + j, none⟩ (.int .i64 n)) (some ⟨b, off, none⟩) len (zs.set j n) [b] := by
 have hl := h.length
 rcases h.cells with ⟨h0, _⟩ | ⟨b', off', _, he, _, hc⟩
 ·
  omega
 ·
  obtain ⟨rfl, rfl⟩ : b = b' ∧ off = off' := by simpa using he
  refine ⟨by simp [hl], .inr ⟨b, off, hp, rfl, rfl, fun i hi => ?_⟩⟩
  by_cases hij : i = j
  ·
   subst hij
   rw [World.cell?_setCell_same _ _ _ (hc i hi)]
   simp [hl, hi]
  ·
   rw [World.cell?_setCell_other _ _ _ _ (by intro e; simp only [Addr.mk.injEq] at e; omega), hc i hi]
   simp [Ne.symm hij]
theorem Own.set {B : Nat} {w : World} {F : List Nat} (h : Own B w F) (g j : Nat) (v : Value) : Own B (w.setCell ⟨g, j, none⟩ v) F :=
 ⟨h.nodup, fun b hb o => (World.frozen?_setCell _ _ _ _).trans (h.free b hb o), h.ge⟩
end Go.Proofs.YtjnamoppcklomaaGreat
