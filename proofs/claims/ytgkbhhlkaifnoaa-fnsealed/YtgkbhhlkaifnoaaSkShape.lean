/- Where the lists of a summary that is right lie. No statement of the seat is proved here. -/
import Derived.Test.YtgkbhhlkaifnoaaSkSum
namespace Go.Proofs.Ytgkbhhlkaifnoaa
open Go.RowKit
/-- A summary whose lists are as long as told, and where they lie. -/
structure Shape (w : World) (s : Sk) (a1 a2 : Option Addr) (p po : Nat) (r0 r1 : Option Addr) (k0 k1 : Nat) : Prop where
  hist : ∃ F, RdI w a1 8 s.hist F
  regs : ∃ F, RdI w a2 8 s.regs F
  row0 : ∃ F, RdI w r0 4 (s.rows.getD 0 []) F
  row1 : ∃ F, RdI w r1 4 (s.rows.getD 1 []) F
  cell0 : w.cell? ⟨p, po, none⟩ = some (.slice r0 4 k0)
  cell1 : w.cell? ⟨p, po + 1, none⟩ = some (.slice r1 4 k1)
theorem Shape.below {w w' : World} {s : Sk} {a1 a2 : Option Addr} {p po : Nat} {r0 r1 : Option Addr} {k0 k1 : Nat} (h : Shape w s a1 a2 p po r0 r1 k0 k1) (hb : Below w.heap.size w w') : Shape w' s a1 a2 p po r0 r1 k0 k1 :=
  ⟨h.hist.elim fun F x => ⟨F, x.below hb⟩, h.regs.elim fun F x => ⟨F, x.below hb⟩, h.row0.elim fun F x => ⟨F, x.below hb⟩, h.row1.elim fun F x => ⟨F, x.below hb⟩, (hb.cell (World.block_lt_of_cell? _ _ h.cell0)).trans h.cell0, (hb.cell (World.block_lt_of_cell? _ _ h.cell1)).trans h.cell1⟩
end Go.Proofs.Ytgkbhhlkaifnoaa
