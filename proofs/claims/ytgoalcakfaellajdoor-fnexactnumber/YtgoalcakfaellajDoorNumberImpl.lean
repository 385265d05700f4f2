/- The walk through the program's Number: it defers, it calls readDigits, it recovers. No statement of the seat is proved here. -/
import Derived.Test.YtgoalcakfaellajDoorNumber
namespace Go.Proofs.YtgoalcakfaellajDoor
open Go.RowKit

theorem readDigits_no (s : ByteArray) (w : World) (hs : s.size ≤ 1048576) (hL : Lib4 w) (hn : numOf s.data.toList = none) :
    Calls Tryd.prog 11 #[.string s] w fun e w' => e = .panicked [{ v := .iface 9 (.string ⟨#[110, 111, 32, 110, 117, 109, 98, 101, 114]⟩), recovered := false }] ∧ Below w.heap.size w w' := by
  have := readDigits_any s w hs hL
  rw [hn] at this
  exact this
theorem readDigits_yes (s : ByteArray) (v : Int) (w : World) (hs : s.size ≤ 1048576) (hL : Lib4 w) (hn : numOf s.data.toList = some v) :
    Calls Tryd.prog 11 #[.string s] w fun e w' => e = .returned (.int .i64 v) ∧ Below w.heap.size w w' := by
  have := readDigits_any s w hs hL
  rw [hn] at this
  exact this
theorem below2 (w : World) (a b : Obj) : Below w.heap.size w ((w.alloc a).alloc b) := ((Below.refl _ _).alloc (Nat.le_refl _) _).alloc (by simp) _

set_option maxHeartbeats 800000 in
theorem numImpl_no (s : ByteArray) (w : World) (hs : s.size ≤ 1048576) (hL : Lib4 w) (hn : numOf s.data.toList = none) :
    Calls Tryd.prog 8 #[.string s] w fun e w' => e = .returned (.tuple #[.int .i64 0, .bool false]) ∧ Below w.heap.size w w' := by
  have hmf : ∀ (fn : Fn) (first cap : Array Value) (w : World), (Instr.makeFunc fn first cap).run Tryd.prog w = .ok (.func fn first cap) w := fun _ _ _ _ => rfl
  have HL : Hid (Lib4 w) := hL
  have Hn : Hid (numOf s.data.toList = none) := hn
  clear hL hn
  go_enter_defers Tryd.func8, Tryd.ntmps8
  go_wp2_with fail
  refine (readDigits_no s _ hs (HL.out.below (below2 _ _ _)) Hn.out).mono ?_
  rintro e w1 ⟨rfl, hb⟩
  have c0 : w1.cell? ⟨w.heap.size, 0, none⟩ = some (.int .i64 0) := (hb.cell (p := ⟨w.heap.size, 0, none⟩) (by simp; omega)).trans (by simp [go_sem])
  have c1 : w1.cell? ⟨w.heap.size + 1, 0, none⟩ = some (.bool false) := (hb.cell (p := ⟨w.heap.size + 1, 0, none⟩) (by simp)).trans (by simp [go_sem])
  have f0 : w1.frozen? ⟨w.heap.size, 0, none⟩ = false := (hb.frozen (p := ⟨w.heap.size, 0, none⟩) (by simp; omega)).trans (by simp [go_sem])
  have f1 : w1.frozen? ⟨w.heap.size + 1, 0, none⟩ = false := (hb.frozen (p := ⟨w.heap.size + 1, 0, none⟩) (by simp)).trans (by simp [go_sem])
  have hB : Below w.heap.size w w1 := (below2 w _ _).trans (hb.mono (by simp; omega))
  have HB : Hid (Below w.heap.size w w1) := hB
  clear hb hB HL Hn
  go_wp2
  refine leaves_cons (f := 10) (args := #[.pointer (some ⟨w.heap.size, 0, none⟩), .pointer (some ⟨w.heap.size + 1, 0, none⟩)]) (by simp) (by simp [go_sem]) ?_
  refine (catch_panicking ⟨w.heap.size, 0, none⟩ ⟨w.heap.size + 1, 0, none⟩ _ _ _ _ [] _ (by simp) c0 f0 c1 f1).mono ?_
  rintro e u' w2 ⟨rfl, rfl, rfl⟩
  clear hmf
  simp [Leaves, settle, results, Tryd.results8, go_sem, c0, c1]
  exact (HB.out.setCell (Nat.le_refl _) _).setCell (by show w.heap.size ≤ w.heap.size + 1; omega) _

set_option maxHeartbeats 800000 in
theorem numImpl_yes (s : ByteArray) (v : Int) (w : World) (hs : s.size ≤ 1048576) (hL : Lib4 w) (hn : numOf s.data.toList = some v) :
    Calls Tryd.prog 8 #[.string s] w fun e w' => e = .returned (.tuple #[.int .i64 v, .bool true]) ∧ Below w.heap.size w w' := by
  have hmf : ∀ (fn : Fn) (first cap : Array Value) (w : World), (Instr.makeFunc fn first cap).run Tryd.prog w = .ok (.func fn first cap) w := fun _ _ _ _ => rfl
  have HL : Hid (Lib4 w) := hL
  have Hn : Hid (numOf s.data.toList = some v) := hn
  clear hL hn
  go_enter_defers Tryd.func8, Tryd.ntmps8
  go_wp2_with fail
  refine (readDigits_yes s v _ hs (HL.out.below (below2 _ _ _)) Hn.out).mono ?_
  rintro e w1 ⟨rfl, hb⟩
  have c0 : w1.cell? ⟨w.heap.size, 0, none⟩ = some (.int .i64 0) := (hb.cell (p := ⟨w.heap.size, 0, none⟩) (by simp; omega)).trans (by simp [go_sem])
  have c1 : w1.cell? ⟨w.heap.size + 1, 0, none⟩ = some (.bool false) := (hb.cell (p := ⟨w.heap.size + 1, 0, none⟩) (by simp)).trans (by simp [go_sem])
  have f0 : w1.frozen? ⟨w.heap.size, 0, none⟩ = false := (hb.frozen (p := ⟨w.heap.size, 0, none⟩) (by simp; omega)).trans (by simp [go_sem])
  have f1 : w1.frozen? ⟨w.heap.size + 1, 0, none⟩ = false := (hb.frozen (p := ⟨w.heap.size + 1, 0, none⟩) (by simp)).trans (by simp [go_sem])
  have hB : Below w.heap.size w w1 := (below2 w _ _).trans (hb.mono (by simp; omega))
  have HB : Hid (Below w.heap.size w w1) := hB
  clear hb hB HL Hn
  go_wp2
  refine leaves_cons (f := 10) (args := #[.pointer (some ⟨w.heap.size, 0, none⟩), .pointer (some ⟨w.heap.size + 1, 0, none⟩)]) (by simp) (by simp [go_sem]) ?_
  refine (catch_idle _ _ _).mono ?_
  rintro e u' w2 ⟨rfl, rfl, rfl⟩
  clear hmf
  simp [Leaves, settle, results, Tryd.results8, go_sem, c0, c1]
  exact (HB.out.setCell (Nat.le_refl _) _).setCell (by show w.heap.size ≤ w.heap.size + 1; omega) _

theorem numImpl_any (s : ByteArray) (w : World) (hs : s.size ≤ 1048576) (hL : Lib4 w) :
    Calls Tryd.prog 8 #[.string s] w fun e w' => e = .returned (out2 (numOf s.data.toList)) ∧ Below w.heap.size w w' := by
  cases hr : numOf s.data.toList with
  | none => exact numImpl_no s w hs hL hr
  | some v => exact numImpl_yes s v w hs hL hr
end Go.Proofs.YtgoalcakfaellajDoor
