/- The walks through the helpers by which the laws draw their inputs: a cursor over the code's bytes. No statement of the seat is proved here. -/
import Derived.Test.YtjndcfamfminkaqBase
import Derived.Laws.BitsAllLaws
import Derived.Deep.QuietTactic
import Derived.BigQuiet
namespace Go.Proofs.Ytjndcfamfminkaq
open Go.RowKit

/-- A cursor that lies in block g, over the bytes zs. -/
structure Cur (w : World) (g : Nat) (a : Option Addr) (len cap : Nat) (zs : List Int) (i h : Int) : Prop where
  c0 : w.cell? ⟨g, 0, none⟩ = some (.slice a len cap)
  c1 : w.cell? ⟨g, 1, none⟩ = some (.int .i64 i)
  c2 : w.cell? ⟨g, 2, none⟩ = some (.int .i64 h)
  f1 : w.frozen? ⟨g, 1, none⟩ = false
  f2 : w.frozen? ⟨g, 2, none⟩ = false
  i0 : 0 ≤ i
  i1 : i ≤ len
  rd : RdB w a len zs
  ap : ∀ x, a = some x → 0 < len → x.block ≠ g

theorem and255 (z : Int) : 0 ≤ bits .and .i64 z 255 ∧ bits .and .i64 z 255 ≤ 255 := by
  have e : ((BitVec.ofInt 64 z) &&& (BitVec.ofInt 64 255)).toNat ≤ 255 := by
    rw [BitVec.toNat_and]
    exact Nat.le_trans Nat.and_le_right (by decide)
  have h : bits .and .i64 z 255 = IntKind.i64.wrap (((BitVec.ofInt 64 z) &&& (BitVec.ofInt 64 255)).toNat : Int) := rfl
  rw [h]
  generalize ((BitVec.ofInt 64 z) &&& (BitVec.ofInt 64 255)).toNat = c at e
  simp [IntKind.wrap, IntKind.bits, IntKind.signed]
  omega

theorem grown_set (w : World) (g j : Nat) (v : Value) : w.grownBy (w.setCell ⟨g, j, none⟩ v) (some g) :=
  ⟨rfl, rfl, rfl, by simp, fun k _ hk => Below.heap_setCell w ⟨g, j, none⟩ v k (fun e => hk (by simp [e]))⟩
theorem grown_tr {a b c : World} {row : Option Nat} (h : a.grownBy b row) (k : b.grownBy c row) : a.grownBy c row :=
  ⟨k.os.trans h.os, k.tape.trans h.tape, k.output.trans h.output, Nat.le_trans h.size k.size, fun j hj hr => (k.block j (Nat.lt_of_lt_of_le hj h.size) hr).trans (h.block j hj hr)⟩
theorem grown_drewN {w w' : World} {row : Option Nat} (n : Nat) (h : w.grownBy w' row) : w.grownBy (w'.drewN n) row := ⟨h.os, h.tape, h.output, h.size, h.block⟩
theorem Cur.drewN {w : World} {g : Nat} {a : Option Addr} {len cap : Nat} {zs : List Int} {i h : Int} (C : Cur w g a len cap zs i h) (n : Nat) : Cur (w.drewN n) g a len cap zs i h :=
  ⟨C.c0, C.c1, C.c2, C.f1, C.f2, C.i0, C.i1, ⟨C.rd.length, C.rd.range, C.rd.cells⟩, C.ap⟩
theorem RdB.set {w : World} {g j : Nat} {a : Option Addr} {len : Nat} {zs : List Int} (h : RdB w a len zs) (ap : ∀ x, a = some x → 0 < len → x.block ≠ g) (v : Value) : RdB (w.setCell ⟨g, j, none⟩ v) a len zs := by
  refine ⟨h.length, h.range, ?_⟩
  rcases h.cells with h0 | ⟨b, off, ha, hc⟩
  · exact .inl h0
  · refine .inr ⟨b, off, ha, fun i hi => ?_⟩
    have hne : b ≠ g := ap _ ha (by omega)
    rw [World.cell?_setCell_other _ _ _ _ (by intro e; simp only [Addr.mk.injEq] at e; exact hne e.1.symm)]
    exact hc i hi
theorem Cur.seth {w : World} {g : Nat} {a : Option Addr} {len cap : Nat} {zs : List Int} {i h : Int} (C : Cur w g a len cap zs i h) (H : Int) : Cur (w.setCell ⟨g, 2, none⟩ (.int .i64 H)) g a len cap zs i H := by
  refine ⟨?_, ?_, ?_, ?_, ?_, C.i0, C.i1, C.rd.set C.ap _, C.ap⟩
  · rw [World.cell?_setCell_other _ _ _ _ (by simp)]; exact C.c0
  · rw [World.cell?_setCell_other _ _ _ _ (by simp)]; exact C.c1
  · exact World.cell?_setCell_same _ _ _ C.c2
  · exact (World.frozen?_setCell _ _ _ _).trans C.f1
  · exact (World.frozen?_setCell _ _ _ _).trans C.f2
theorem Cur.seti {w : World} {g : Nat} {a : Option Addr} {len cap : Nat} {zs : List Int} {i h : Int} (C : Cur w g a len cap zs i h) (j : Int) (h0 : 0 ≤ j) (h1 : j ≤ len) : Cur (w.setCell ⟨g, 1, none⟩ (.int .i64 j)) g a len cap zs j h := by
  refine ⟨?_, ?_, ?_, ?_, ?_, h0, h1, C.rd.set C.ap _, C.ap⟩
  · rw [World.cell?_setCell_other _ _ _ _ (by simp)]; exact C.c0
  · exact World.cell?_setCell_same _ _ _ C.c1
  · rw [World.cell?_setCell_other _ _ _ _ (by simp)]; exact C.c2
  · exact (World.frozen?_setCell _ _ _ _).trans C.f1
  · exact (World.frozen?_setCell _ _ _ _).trans C.f2

theorem cur_new (w : World) (a : Option Addr) (len cap : Nat) (zs : List Int) (H : Int) (T : TypeId) (hR : RdB w a len zs) : Cur (w.alloc (.cells #[.slice a len cap, .int .i64 0, .int .i64 H] T)) w.heap.size a len cap zs 0 H := by
  refine ⟨by simp [go_sem], by simp [go_sem], by simp [go_sem], by simp [go_sem], by simp [go_sem], by omega, by omega, hR.below ((Below.refl _ _).alloc (Nat.le_refl _) _), fun x hx hl => ?_⟩
  rcases hR.cells with h0 | ⟨b, off, ha, hc⟩
  · omega
  · rw [hx] at ha
    cases ha
    have := World.block_lt_of_cell? _ _ (hc 0 hl)
    simp at this
    exact fun e => by simp at e; omega

theorem Cur.below {w w' : World} {g : Nat} {a : Option Addr} {len cap : Nat} {zs : List Int} {i h : Int} (C : Cur w g a len cap zs i h) (hb : Below w.heap.size w w') : Cur w' g a len cap zs i h := by
  have hg : g < w.heap.size := World.block_lt_of_cell? _ _ C.c0
  exact ⟨(hb.cell (p := ⟨g, 0, none⟩) hg).trans C.c0, (hb.cell (p := ⟨g, 1, none⟩) hg).trans C.c1, (hb.cell (p := ⟨g, 2, none⟩) hg).trans C.c2, (hb.frozen (p := ⟨g, 1, none⟩) hg).trans C.f1, (hb.frozen (p := ⟨g, 2, none⟩) hg).trans C.f2, C.i0, C.i1, C.rd.below hb, C.ap⟩
theorem Cur.alloc {w : World} {g : Nat} {a : Option Addr} {len cap : Nat} {zs : List Int} {i h : Int} (C : Cur w g a len cap zs i h) (o : Obj) : Cur (w.alloc o) g a len cap zs i h :=
  C.below ((Below.refl _ _).alloc (Nat.le_refl _) _)

end Go.Proofs.Ytjndcfamfminkaq
