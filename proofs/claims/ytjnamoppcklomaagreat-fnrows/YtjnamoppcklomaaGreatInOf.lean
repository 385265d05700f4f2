/- Whether a number lies between two, as the model tells it. No statement of the seat is proved here. -/
import Derived.Test.YtjnamoppcklomaaGreatBase
set_option maxRecDepth 200000
set_option maxHeartbeats 16000000
namespace Go.Proofs.YtjnamoppcklomaaGreat
open Go.RowKit
theorem l1In_any (x lo hi : Int) (w : World) : Calls Tryz.prog 107 #[.int .i64 x, .int .i64 lo, .int .i64 hi] w fun e w' => e = .returned (.bool (decide (lo ≤ x ∧ x ≤ hi))) ∧ w' = w := by
 have hd : ∀ d : Bool, d = decide (lo ≤ x ∧ x ≤ hi) → (d = true ↔ lo ≤ x ∧ x ≤ hi) := by rintro d rfl; simp
 generalize decide (lo ≤ x ∧ x ≤ hi) = d at *
 have hd := hd d rfl
 by_cases h : lo ≤ x
 ·
  by_cases h2 : x ≤ hi
  ·
   have e : Hid (d = true) := hd.2 ⟨h, h2⟩
   clear hd
   go_enter Tryz.func107, Tryz.ntmps107
   go_wp2
   go_ret
   rw [e.out]; exact ⟨rfl, rfl⟩
  ·
   have e : Hid (d = false) := show d = false by cases d; rfl; exact absurd (hd.1 rfl).2 h2
   clear hd
   go_enter Tryz.func107, Tryz.ntmps107
   go_wp2
   go_ret
   rw [e.out]; exact ⟨rfl, rfl⟩
 ·
  have e : Hid (d = false) := show d = false by cases d; rfl; exact absurd (hd.1 rfl).1 h
  clear hd
  go_enter Tryz.func107, Tryz.ntmps107
  go_wp2
  go_ret
  rw [e.out]; exact ⟨rfl, rfl⟩
end Go.Proofs.YtjnamoppcklomaaGreat
