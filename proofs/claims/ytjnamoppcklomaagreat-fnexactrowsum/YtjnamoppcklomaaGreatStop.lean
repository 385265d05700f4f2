/- The walks through chapter 2: the program's functions and the model's. No statement of the seat is proved here. -/
import Derived.Test.YtjnamoppcklomaaGreatBase
import Derived.Test.YtjnamoppcklomaaGreatStopMath
import Derived.Test.YtjnamoppcklomaaGreatInOf
namespace Go.Proofs.YtjnamoppcklomaaGreat
open Go.RowKit

set_option maxRecDepth 200000 in
theorem within_any (n m : Int) (w : World) (hm : 0 ≤ m) : Calls Tryz.prog 168 #[.int .i64 n, .int .i64 m] w fun e w' => e = .returned (.int .i64 (clip n m)) ∧ w' = w := by
  go_enter Tryz.func168, Tryz.ntmps168
  go_wp2
  all_goals
    go_ret
    refine ⟨ret_int ?_, rfl⟩
    unfold clip
    by_cases h1 : n < 0 <;> by_cases h2 : m < n <;> simp only [h1, h2, if_true, if_false] <;> omega
set_option maxRecDepth 200000 in
theorem l1Max_any (a b : Int) (w : World) : Calls Tryz.prog 112 #[.int .i64 a, .int .i64 b] w fun e w' => e = .returned (.int .i64 (max a b)) ∧ w' = w := by
  by_cases h : a > b
  · go_enter Tryz.func112, Tryz.ntmps112
    go_wp2
    go_ret
    exact ⟨ret_int (by omega), rfl⟩
  · go_enter Tryz.func112, Tryz.ntmps112
    go_wp2
    go_ret
    exact ⟨ret_int (by omega), rfl⟩
set_option maxRecDepth 200000 in
theorem l1Min_any (a b : Int) (w : World) : Calls Tryz.prog 111 #[.int .i64 a, .int .i64 b] w fun e w' => e = .returned (.int .i64 (min a b)) ∧ w' = w := by
  by_cases h : a < b
  · go_enter Tryz.func111, Tryz.ntmps111
    go_wp2
    go_ret
    exact ⟨ret_int (by omega), rfl⟩
  · go_enter Tryz.func111, Tryz.ntmps111
    go_wp2
    go_ret
    exact ⟨ret_int (by omega), rfl⟩
set_option maxRecDepth 200000 in
theorem l2Clip_any (n m : Int) (w : World) (hm : 0 ≤ m) : Calls Tryz.prog 149 #[.int .i64 n, .int .i64 m] w fun e w' => e = .returned (.int .i64 (clip n m)) ∧ w' = w := by
  go_enter Tryz.func149, Tryz.ntmps149
  go_wp2_with fail
  refine (l1Min_any _ _ _).mono ?_
  rintro e w1 ⟨rfl, rfl⟩
  go_wp2_with fail
  refine (l1Max_any _ _ _).mono ?_
  rintro e w1 ⟨rfl, rfl⟩
  go_wp2
  go_ret
  refine ⟨ret_int ?_, rfl⟩
  unfold clip
  by_cases h1 : n < 0 <;> by_cases h2 : m < n <;> simp only [h1, h2, if_true, if_false] <;> omega
set_option maxRecDepth 200000 in
theorem addImpl_any (a b : Int) (w : World) : Calls Tryz.prog 146 #[.int .i64 a, .int .i64 b] w fun e w' => e = .returned (.int .i64 (addN a b)) ∧ w' = w := by
  have h1 := clip_range a 1000000000 (by omega)
  have h2 := clip_range b 1000000000 (by omega)
  go_enter Tryz.func146, Tryz.ntmps146
  go_wp2_with fail
  refine (within_any _ _ _ (by omega)).mono ?_
  rintro e w1 ⟨rfl, rfl⟩
  go_wp2_with fail
  refine (within_any _ _ _ (by omega)).mono ?_
  rintro e w1 ⟨rfl, rfl⟩
  have e : ∀ x, (x = if 1000000000 < clip a 1000000000 + clip b 1000000000 then 1000000000 else clip a 1000000000 + clip b 1000000000) → x = addN a b := fun x h => h
  generalize clip a 1000000000 = x at *
  generalize clip b 1000000000 = y at *
  have E : Hid (∀ z, (z = if 1000000000 < x + y then 1000000000 else x + y) → z = addN a b) := e
  clear e
  go_wp2
  all_goals
    go_ret
    refine ⟨ret_int (E.out _ ?_), rfl⟩
    split <;> omega
set_option maxRecDepth 200000 in
theorem addSpec_any (a b : Int) (w : World) : Calls Tryz.prog 110 #[.int .i64 a, .int .i64 b] w fun e w' => e = .returned (.int .i64 (addN a b)) ∧ w' = w := by
  have h1 := clip_range a 1000000000 (by omega)
  have h2 := clip_range b 1000000000 (by omega)
  go_enter Tryz.func110, Tryz.ntmps110
  go_wp2_with fail
  refine (l2Clip_any _ _ _ (by omega)).mono ?_
  rintro e w1 ⟨rfl, rfl⟩
  go_wp2_with fail
  refine (l2Clip_any _ _ _ (by omega)).mono ?_
  rintro e w1 ⟨rfl, rfl⟩
  have e : ∀ x, (x = if 1000000000 < clip a 1000000000 + clip b 1000000000 then 1000000000 else clip a 1000000000 + clip b 1000000000) → x = addN a b := fun x h => h
  generalize clip a 1000000000 = x at *
  generalize clip b 1000000000 = y at *
  have E : Hid (∀ z, (z = if 1000000000 < x + y then 1000000000 else x + y) → z = addN a b) := e
  clear e
  go_wp2_with fail
  refine (l1Min_any _ _ _).mono ?_
  rintro e w1 ⟨rfl, rfl⟩
  go_wp2
  go_ret
  refine ⟨ret_int (E.out _ ?_), rfl⟩
  split <;> omega
end Go.Proofs.YtjnamoppcklomaaGreat
