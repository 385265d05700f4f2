/- The walk through the model's SketchNew. No statement of the seat is proved here. -/
import Derived.Test.YthimjmkdcocofaaSk
import Derived.Deep.RegionHeld3
import Derived.Deep.OwnRows
namespace Go.Proofs.Ythimjmkdcocofaa
open Go.RowKit
def Sk.new : Sk := ⟨0, 0, 0, 0, [0, 0, 0, 0, 0, 0, 0, 0], [0, 0, 0, 0, 0, 0, 0, 0], [[0, 0, 0, 0], [0, 0, 0, 0]]⟩
theorem rdI_blk {W : World} {g n : Nat} {cs : Array Value} {t : TypeId} {zs : List Int} (h : Blk W g cs t) (hc : cs.toList = zs.map (Value.int .i64)) (hn : zs.length = n) (hp : 0 < n) : RdI W (some ⟨g, 0, none⟩) n zs [g] := by
  refine ⟨hn, .inr ⟨g, 0, hp, rfl, rfl, fun i hi => ?_⟩⟩
  rw [Nat.zero_add, h.cell i, ← Array.getElem?_toList, hc, List.getElem?_map, List.getElem?_eq_getElem (by omega)]
  simp [List.getElem?_eq_getElem (show i < zs.length by omega)]
/-- A new summary, and what lies behind its lists. -/
def NewSkX (w : World) (t : TypeId) (e : Ending) (W : World) : Prop := ∃ v F g1 x5 g5 z8, e = .returned v ∧ v = .agg #[.int .i64 0, .int .i64 0, .int .i64 0, .int .i64 0, .slice (some ⟨g1, 0, none⟩) 8 8, x5, .slice (some ⟨g5, 0, none⟩) 2 2] ∧ RdSk W v Sk.new F ∧ Own w.heap.size W F ∧ Below w.heap.size w W ∧ g1 ∈ F ∧ Blk W g1 z8 t ∧ z8.size = 8
theorem NewSkX.sk {w W : World} {t : TypeId} {e : Ending} (h : NewSkX w t e W) : NewSk w Sk.new e W := by
  obtain ⟨v, F, _, _, _, _, h1, _, h2, h3, h4, _⟩ := h
  exact ⟨v, F, h1, h2, h3, h4⟩
theorem newSk_close {w W : World} {g1 g2 g3 g4 g5 : Nat} {z8 z4 : Array Value} {t t' : TypeId} (b1 : Blk W g1 z8 t) (b2 : Blk W g2 z8 t) (b5 : Blk W g5 #[.slice (some ⟨g3, 0, none⟩) 4 4, .slice (some ⟨g4, 0, none⟩) 4 4] t') (b3 : Blk W g3 z4 t) (b4 : Blk W g4 z4 t)
    (hz8 : z8 = madeCells #[.int .i64 0] 8) (hz4 : z4 = madeCells #[.int .i64 0] 4)
    (hn : g1 ≠ g2 ∧ g1 ≠ g3 ∧ g1 ≠ g4 ∧ g1 ≠ g5 ∧ g2 ≠ g3 ∧ g2 ≠ g4 ∧ g2 ≠ g5 ∧ g3 ≠ g4 ∧ g3 ≠ g5 ∧ g4 ≠ g5) (hge : w.heap.size ≤ g1 ∧ w.heap.size ≤ g2 ∧ w.heap.size ≤ g3 ∧ w.heap.size ≤ g4 ∧ w.heap.size ≤ g5) (hb : Below w.heap.size w W) :
    NewSkX w t (.returned (.agg #[.int .i64 0, .int .i64 0, .int .i64 0, .int .i64 0, .slice (some ⟨g1, 0, none⟩) 8 8, .slice (some ⟨g2, 0, none⟩) 8 8, .slice (some ⟨g5, 0, none⟩) 2 2])) W := by
  have e8 : z8.toList = ([0, 0, 0, 0, 0, 0, 0, 0] : List Int).map (Value.int .i64) := by rw [hz8]; kernel_rfl
  have e4 : z4.toList = ([0, 0, 0, 0] : List Int).map (Value.int .i64) := by rw [hz4]; kernel_rfl
  have es : z8.size = 8 := by have := congrArg List.length e8; simpa using this
  refine ⟨_, [g1] ++ ([g2] ++ [g5, g3, g4]), g1, _, g5, z8, rfl, rfl, ⟨_, 8, 8, _, 8, 8, _, 2, 2, [g1], [g2], [g5, g3, g4], rfl, rdI_blk b1 e8 rfl (by omega), rdI_blk b2 e8 rfl (by omega), ⟨rfl, .inr ⟨g5, 0, [g3, g4], by omega, rfl, rfl, ?_⟩⟩, rfl⟩, ⟨?_, ?_, ?_⟩, hb, by simp, b1, es⟩
  · show RdM W [ints [0, 0, 0, 0], ints [0, 0, 0, 0]] g5 0 [g3, g4]
    rw [RdM]
    refine ⟨_, [g3], [g4], by rw [b5.cell 0]; rfl, rd_ints.2 ⟨_, 4, 4, rfl, rdI_blk b3 e4 rfl (by omega)⟩, ?_, rfl⟩
    rw [RdM]
    exact ⟨_, [g4], [], by rw [b5.cell 1]; rfl, rd_ints.2 ⟨_, 4, 4, rfl, rdI_blk b4 e4 rfl (by omega)⟩, by simp [RdM], rfl⟩
  · simp
    omega
  · intro b hx o
    simp at hx
    rcases hx with rfl | rfl | rfl | rfl | rfl
    · exact b1.frozen o
    · exact b2.frozen o
    · exact b5.frozen o
    · exact b3.frozen o
    · exact b4.frozen o
  · intro b hx
    simp at hx
    omega
theorem newSk_close2 {w W : World} {g1 g2 g5 : Nat} {z8 z4 : Array Value} {t t' : TypeId} (b1 : Blk W g1 z8 t) (b2 : Blk W g2 z8 t)
    (h : ∃ g3 g4, Blk W g5 #[.slice (some ⟨g3, 0, none⟩) 4 4, .slice (some ⟨g4, 0, none⟩) 4 4] t' ∧ Blk W g3 z4 t ∧ Blk W g4 z4 t ∧ (g1 ≠ g2 ∧ g1 ≠ g3 ∧ g1 ≠ g4 ∧ g1 ≠ g5 ∧ g2 ≠ g3 ∧ g2 ≠ g4 ∧ g2 ≠ g5 ∧ g3 ≠ g4 ∧ g3 ≠ g5 ∧ g4 ≠ g5) ∧ (w.heap.size ≤ g1 ∧ w.heap.size ≤ g2 ∧ w.heap.size ≤ g3 ∧ w.heap.size ≤ g4 ∧ w.heap.size ≤ g5))
    (hz8 : z8 = madeCells #[.int .i64 0] 8) (hz4 : z4 = madeCells #[.int .i64 0] 4) (hb : Below w.heap.size w W) :
    NewSkX w t (.returned (.agg #[.int .i64 0, .int .i64 0, .int .i64 0, .int .i64 0, .slice (some ⟨g1, 0, none⟩) 8 8, .slice (some ⟨g2, 0, none⟩) 8 8, .slice (some ⟨g5, 0, none⟩) 2 2])) W := by
  obtain ⟨g3, g4, b5, b3, b4, hn, hge⟩ := h
  exact newSk_close b1 b2 b5 b3 b4 hz8 hz4 hn hge hb
end Go.Proofs.Ythimjmkdcocofaa
