/- An entry as the program holds it, in memory. No statement of the seat is proved here. -/
import Derived.Test.YtbmbmnhamogghapItImplA
namespace Go.Proofs.Ytbmbmnhamogghap
open Go.RowKit
theorem cutOf_hc {k p : Int} {a : Option Addr} {l c : Nat} {ys : List Int} (h : ys.length = 28) : cutOf (hc k p a l c ys) 3 28 = tc ys := by
  unfold cutOf hc tc
  show (List.take 28 (ys.map (Value.int .i64))).toArray = _
  rw [List.take_of_length_le (by simp; omega)]
theorem cutOf_place (k p : Int) (a : Option Addr) (l c : Nat) (ys : List Int) : cutOf (hc k p a l c ys) 0 2 = #[.int .i64 k, .int .i64 p] := by
  unfold cutOf hc
  simp
/-- The program's entry lies in block g. -/
def HoldS (g : Nat) (k p : Int) (a : Option Addr) (l c : Nat) (ys : List Int) (W : World) : Prop := Blk W g (hc k p a l c ys) 77 ∧ W.cell? ⟨g, 0, none⟩ = some (.int .i64 k) ∧ W.cell? ⟨g, 1, none⟩ = some (.int .i64 p) ∧ W.cell? ⟨g, 2, none⟩ = some (.slice a l c)
theorem holdS {g : Nat} {k p : Int} {a : Option Addr} {l c : Nat} {ys : List Int} {W : World} (h : Blk W g (hc k p a l c ys) 77) : HoldS g k p a l c ys W := ⟨h, by rw [h.cell]; rfl, by rw [h.cell]; rfl, by rw [h.cell]; rfl⟩
theorem HoldS.below {g : Nat} {k p : Int} {a : Option Addr} {l c : Nat} {ys : List Int} {W W' : World} (h : HoldS g k p a l c ys W) (b : Below W.heap.size W W') : HoldS g k p a l c ys W' := holdS (h.1.below b)
theorem HoldS.setRow {g j : Nat} {k p : Int} {a : Option Addr} {l c : Nat} {ys : List Int} {W : World} {ds : Array Value} (h : HoldS g k p a l c ys W) (hj : g ≠ j) : HoldS g k p a l c ys (W.setRow j ds) := holdS (h.1.setRowOther hj)
theorem infoPlace : (Try.prog.info? 70).map (·.size) = some 2 := by kernel_rfl
theorem enSizeA {cs : Array Value} (h : cs.size = 10) : (Try.prog.info? 34).map (·.size) = some cs.size := by rw [h]; exact infoEnA
theorem value_ok {P : Program} {w : World} {m : Sem Value} {v : Value} (h : m.run P w = .ok v w) : Sem.run P (do pure (Next.value (← m))) w = .ok (.value v) w := by
  simp [h]
theorem wrapI {n : Int} (h : -9223372036854775808 ≤ n ∧ n ≤ 9223372036854775807) : IntKind.i64.wrap n = n := by
  simp [IntKind.wrap, IntKind.bits, IntKind.signed]
  omega
end Go.Proofs.Ytbmbmnhamogghap
