/- The walks through the program's looks at numbers and lists of a summary. No statement of the seat is proved here. -/
import Derived.Test.YtgkbhhlkaifnoabDoorSkOk
namespace Go.Proofs.YtgkbhhlkaifnoabDoor
open Go.RowKit
set_option maxRecDepth 200000 in
theorem inRange_any (x hi : Int) (w : World) : Calls Tryd.prog 41 #[.int .i64 x, .int .i64 hi] w fun e w' => e = .returned (.bool (decide (0 ≤ x ∧ x ≤ hi))) ∧ w' = w := by
  have hd : ∀ d : Bool, d = decide (0 ≤ x ∧ x ≤ hi) → (d = true ↔ 0 ≤ x ∧ x ≤ hi) := by rintro d rfl; simp
  generalize decide (0 ≤ x ∧ x ≤ hi) = d at *
  have hd := hd d rfl
  by_cases h : 0 ≤ x
  · by_cases h2 : x ≤ hi
    · have e : Hid (d = true) := hd.2 ⟨h, h2⟩
      clear hd
      go_enter Tryd.func41, Tryd.ntmps41
      go_wp2
      go_ret
      rw [e.out]; exact ⟨rfl, rfl⟩
    · have e : Hid (d = false) := show d = false by cases d; rfl; exact absurd (hd.1 rfl).2 h2
      clear hd
      go_enter Tryd.func41, Tryd.ntmps41
      go_wp2
      go_ret
      rw [e.out]; exact ⟨rfl, rfl⟩
  · have e : Hid (d = false) := show d = false by cases d; rfl; exact absurd (hd.1 rfl).1 h
    clear hd
    go_enter Tryd.func41, Tryd.ntmps41
    go_wp2
    go_ret
    rw [e.out]; exact ⟨rfl, rfl⟩
/-- Lists as long as told. -/
def Sk.shaped (s : Sk) : Bool := s.rows.all (fun z => decide (z.length = 4)) && decide (s.hist.length = 8) && decide (s.regs.length = 8) && decide (s.rows.length = 2)
theorem allL_snoc {p : List Int → Bool} {l : List (List Int)} {k : Nat} (hk : k < l.length) (h : (l.take k).all p = true) (hx : p (l.getD k []) = true) : (l.take (k + 1)).all p = true := by
  rw [take_snoc l [] k hk, List.all_append, h]; simpa using hx
theorem allL_not {p : List Int → Bool} {l : List (List Int)} {k : Nat} (hk : k < l.length) (hx : p (l.getD k []) = false) : l.all p = false := by
  cases e : l.all p
  · rfl
  · rw [List.all_eq_true] at e
    rw [e _ (mem_getD hk)] at hx; cases hx
end Go.Proofs.YtgkbhhlkaifnoabDoor
