/- Where the lists of a summary that is right lie. No statement of the seat is proved here. -/
import Derived.Test.YtjnamoppcklomaaGreatSkSum
namespace Go.Proofs.YtjnamoppcklomaaGreat
open Go.RowKit
structure Shape (w : World) (s : Sk) (a1 a2 : Option Addr) (p po : Nat) (r0 r1 : Option Addr) (k0 k1 : Nat) : Prop where
 hist : ∃ F, RdI w a1 8 s.hist F
 regs : ∃ F, RdI w a2 8 s.regs F
 row0 : ∃ F, RdI w r0 4 (s.rows.getD 0 []) F
 row1 : ∃ F, RdI w r1 4 (s.rows.getD 1 []) F
 cell0 : w.cell? ⟨p, po, none⟩ = some (.slice r0 4 k0)
 cell1 : w.cell? ⟨p, po + 1, none⟩ = some (.slice r1 4 k1)
theorem Shape.below {w w' : World} {s : Sk} {a1 a2 : Option Addr} {p po : Nat} {r0 r1 : Option Addr} {k0 k1 : Nat} (h : Shape w s a1 a2 p po r0 r1 k0 k1) (hb : Below w.heap.size w w') : Shape w' s a1 a2 p po r0 r1 k0 k1 :=
 ⟨h.hist.elim fun F x => ⟨F, x.below hb⟩, h.regs.elim fun F x => ⟨F, x.below hb⟩, h.row0.elim fun F x => ⟨F, x.below hb⟩, h.row1.elim fun F x => ⟨F, x.below hb⟩, (hb.cell (World.block_lt_of_cell? _ _ h.cell0)).trans h.cell0, (hb.cell (World.block_lt_of_cell? _ _ h.cell1)).trans h.cell1⟩
theorem okL_len {l : List Int} {n : Nat} {m : Int} {z : Bool} (h : okL l n m z = true) : l.length = n := by
 unfold okL at h; simp at h; exact h.1
theorem shape_of {w : World} {s : Sk} {a1 a2 a3 : Option Addr} {n1 n2 n3 : Nat} {F1 F2 F3 : List Nat} (h1 : RdI w a1 n1 s.hist F1) (h2 : RdI w a2 n2 s.regs F2) (h3 : RdII w a3 n3 s.rows F3) (hok : s.ok = true) :
 n1 = 8 ∧ n2 = 8 ∧ n3 = 2 ∧ ∃ p po r0 r1 k0 k1, a3 = some ⟨p, po, none⟩ ∧ Shape w s a1 a2 p po r0 r1 k0 k1 := by
 unfold Sk.ok okHead okLists at hok
 simp only [Bool.and_eq_true, decide_eq_true_eq] at hok
 obtain ⟨⟨⟨_, hr⟩, _⟩, ⟨⟨⟨l1, l2⟩, l3⟩, l4⟩⟩ := hok
 have e1 := okL_len l1; have e2 := okL_len l2; have e3 := okL_len l3; have e4 := okL_len l4
 obtain rfl : n1 = 8 := by rw [← h1.length]; exact e1
 obtain rfl : n2 = 8 := by rw [← h2.length]; exact e2
 obtain rfl : n3 = 2 := by rw [← h3.length]; exact hr
 refine ⟨rfl, rfl, rfl, ?_⟩
 rcases h3.cells with ⟨h0, _⟩ | ⟨p, po, F', _, rfl, _, hm⟩
 ·
  omega
 ·
  obtain ⟨r0, m0, k0, G0, x0, q0, _⟩ := RdII.row hm h3.length 0 (by omega)
  obtain ⟨r1, m1, k1, G1, x1, q1, _⟩ := RdII.row hm h3.length 1 (by omega)
  obtain rfl : m0 = 4 := by rw [← q0.length]; exact e3
  obtain rfl : m1 = 4 := by rw [← q1.length]; exact e4
  exact ⟨p, po, r0, r1, k0, k1, rfl, ⟨F1, h1⟩, ⟨F2, h2⟩, ⟨G0, q0⟩, ⟨G1, q1⟩, x0, x1⟩
end Go.Proofs.YtjnamoppcklomaaGreat
