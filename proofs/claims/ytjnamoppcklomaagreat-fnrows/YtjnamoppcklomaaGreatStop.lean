/- The walks through chapter 2: the program's functions and the model's. No statement of the seat is proved here. -/
import Derived.Test.YtjnamoppcklomaaGreatBase
import Derived.Test.YtjnamoppcklomaaGreatStopMath
import Derived.Test.YtjnamoppcklomaaGreatInOf
set_option maxRecDepth 200000
set_option maxHeartbeats 16000000
namespace Go.Proofs.YtjnamoppcklomaaGreat
open Go.RowKit
theorem within_any (n m : Int) (w : World) (hm : 0 ≤ m) : Calls Tryz.prog 168 #[.int .i64 n, .int .i64 m] w fun e w' => e = .returned (.int .i64 (clip n m)) ∧ w' = w := by
 go_enter Tryz.func168, Tryz.ntmps168
 go_wp2
 all_goals
  go_ret
  refine ⟨ret_int ?_, rfl⟩
  unfold clip
  by_cases h1 : n < 0 <;> by_cases h2 : m < n <;> simp only [h1, h2, if_true, if_false] <;> omega
theorem l1Max_any (a b : Int) (w : World) : Calls Tryz.prog 112 #[.int .i64 a, .int .i64 b] w fun e w' => e = .returned (.int .i64 (max a b)) ∧ w' = w := by
 by_cases h : a > b
 ·
  go_enter Tryz.func112, Tryz.ntmps112
  go_wp2
  go_ret
  exact ⟨ret_int (by omega), rfl⟩
 ·
  go_enter Tryz.func112, Tryz.ntmps112
  go_wp2
  go_ret
  exact ⟨ret_int (by omega), rfl⟩
theorem l1Min_any (a b : Int) (w : World) : Calls Tryz.prog 111 #[.int .i64 a, .int .i64 b] w fun e w' => e = .returned (.int .i64 (min a b)) ∧ w' = w := by
 by_cases h : a < b
 ·
  go_enter Tryz.func111, Tryz.ntmps111
  go_wp2
  go_ret
  exact ⟨ret_int (by omega), rfl⟩
 ·
  go_enter Tryz.func111, Tryz.ntmps111
  go_wp2
  go_ret
  exact ⟨ret_int (by omega), rfl⟩
theorem l2Clip_any (n m : Int) (w : World) (hm : 0 ≤ m) : Calls Tryz.prog 149 #[.int .i64 n, .int .i64 m] w fun e w' => e = .returned (.int .i64 (clip n m)) ∧ w' = w := by
 go_enter Tryz.func149, Tryz.ntmps149
 go_wp2_with fail
 refine (l1Min_any _ _ _).mono ?_
 rintro e w1 ⟨rfl, rfl⟩
 go_wp2_with fail
 refine (l1Max_any _ _ _).mono ?_
 rintro e w1 ⟨rfl, rfl⟩
 go_wp2
 go_ret
 refine ⟨ret_int ?_, rfl⟩
 unfold clip
 by_cases h1 : n < 0 <;> by_cases h2 : m < n <;> simp only [h1, h2, if_true, if_false] <;> omega
theorem addImpl_any (a b : Int) (w : World) : Calls Tryz.prog 146 #[.int .i64 a, .int .i64 b] w fun e w' => e = .returned (.int .i64 (addN a b)) ∧ w' = w := by
 have h1 := clip_range a 1000000000 (by omega)
 have h2 := clip_range b 1000000000 (by omega)
 go_enter Tryz.func146, Tryz.ntmps146
 go_wp2_with fail
 refine (within_any _ _ _ (by omega)).mono ?_
 rintro e w1 ⟨rfl, rfl⟩
 go_wp2_with fail
 refine (within_any _ _ _ (by omega)).mono ?_
 rintro e w1 ⟨rfl, rfl⟩
 have e : ∀ x, (x = if 1000000000 < clip a 1000000000 + clip b 1000000000 then 1000000000 else clip a 1000000000 + clip b 1000000000) → x = addN a b := fun x h => h
 generalize clip a 1000000000 = x at *
 generalize clip b 1000000000 = y at *
 have E : Hid (∀ z, (z = if 1000000000 < x + y then 1000000000 else x + y) → z = addN a b) := e
 clear e
 go_wp2
 all_goals
  go_ret
  refine ⟨ret_int (E.out _ ?_), rfl⟩
  split <;> omega
theorem addSpec_any (a b : Int) (w : World) : Calls Tryz.prog 110 #[.int .i64 a, .int .i64 b] w fun e w' => e = .returned (.int .i64 (addN a b)) ∧ w' = w := by
 have h1 := clip_range a 1000000000 (by omega)
 have h2 := clip_range b 1000000000 (by omega)
 go_enter Tryz.func110, Tryz.ntmps110
 go_wp2_with fail
 refine (l2Clip_any _ _ _ (by omega)).mono ?_
 rintro e w1 ⟨rfl, rfl⟩
 go_wp2_with fail
 refine (l2Clip_any _ _ _ (by omega)).mono ?_
 rintro e w1 ⟨rfl, rfl⟩
 have e : ∀ x, (x = if 1000000000 < clip a 1000000000 + clip b 1000000000 then 1000000000 else clip a 1000000000 + clip b 1000000000) → x = addN a b := fun x h => h
 generalize clip a 1000000000 = x at *
 generalize clip b 1000000000 = y at *
 have E : Hid (∀ z, (z = if 1000000000 < x + y then 1000000000 else x + y) → z = addN a b) := e
 clear e
 go_wp2_with fail
 refine (l1Min_any _ _ _).mono ?_
 rintro e w1 ⟨rfl, rfl⟩
 go_wp2
 go_ret
 refine ⟨ret_int (E.out _ ?_), rfl⟩
 split <;> omega
theorem mixSpec_any (n : Int) (w : World) : Calls Tryz.prog 164 #[.int .i64 n] w fun e w' => e = .returned (.int .i64 (mixN n)) ∧ w' = w := by
 have h1 := clip_range n 1000000 (by omega)
 go_enter Tryz.func164, Tryz.ntmps164
 go_wp2_with fail
 refine (l2Clip_any _ _ _ (by omega)).mono ?_
 rintro e w1 ⟨rfl, rfl⟩
 have e : mixN n = bits .xor .i64 ((clip n 1000000 * 40503 + 12345) % 65536) ((clip n 1000000 * 40503 + 12345) % 65536 / 256) := rfl
 generalize clip n 1000000 = x at *
 have E : Hid (mixN n = bits .xor .i64 ((x * 40503 + 12345) % 65536) ((x * 40503 + 12345) % 65536 / 256)) := e
 clear e
 go_wp2
 go_ret
 exact ⟨ret_int E.out.symm, rfl⟩
theorem go_digs {v : Nat} {x y : Int} (hx : 0 < x) (hy : y + (digs x.toNat : Int) = (digs v : Int)) : y + 1 + (digs (x / 2).toNat : Int) = (digs v : Int) := by
 have e := digs_pos x.toNat (by omega)
 have e2 : (x / 2).toNat = x.toNat / 2 := by omega
 rw [e2]; omega
theorem bucketSpec_any (v : Int) (w : World) : Calls Tryz.prog 163 #[.int .i64 v] w fun e w' => e = .returned (.int .i64 (bucketN v)) ∧ w' = w := by
 have h1 := clip_range v 1000000 (by omega)
 have hb : ∀ z, z = ((digs (clip v 1000000).toNat : Nat) : Int) → bucketN v = (z + 2) / 3 := by
  intro z hz
  subst hz
  unfold bucketN
  omega
 go_enter Tryz.func163, Tryz.ntmps163
 go_wp2_with fail
 refine (l2Clip_any _ _ _ (by omega)).mono ?_
 rintro e w1 ⟨rfl, rfl⟩
 generalize clip v 1000000 = x0 at *
 obtain ⟨n, rfl⟩ := Int.eq_ofNat_of_zero_le h1.1
 have ht := digs_top n (by omega)
 have HB : Hid (∀ z, z = ((digs (n : Int).toNat : Nat) : Int) → bucketN v = (z + 2) / 3) := hb
 have HT : Hid (digs n ≤ 20) := ht
 have HN : Hid ((n : Int) ≤ 1000000) := h1.2
 clear ht hb h1
 go_wp2
 go_loop [3, 4] (fun i s => ∃ (x y : Int), 0 ≤ x ∧ x ≤ 1000000 ∧ 0 ≤ y ∧ y ≤ 20 ∧ i = .int .i64 x ∧ s = .int .i64 y ∧ Hid (y + (digs x.toNat : Int) = (digs n : Int))) (fun i _ => (intOf i).toNat)
 case atStart => exact ⟨n, 0, by omega, HN.out, by omega, by omega, rfl, rfl, show (0 : Int) + _ = _ by simp⟩
 case round =>
  obtain ⟨x, y, hx0, hx1, hy0, hy1, rfl, rfl, HY⟩ := hrel
  by_cases hlt : 0 < x
  ·
   have hy2 : y < 20 := by
    have := go_digs hlt HY.out
    have := HT.out
    omega
   go_wp2
   go_round
   case rel => exact ⟨_, y + 1, by omega, by omega, by omega, by omega, rfl, rfl, go_digs hlt HY.out⟩
   case measure => simp [intOf]; omega
  ·
   obtain rfl : x = 0 := by omega
   have hy := HY.out
   rw [show (0 : Int).toNat = 0 from rfl, digs_zero] at hy
   have h2 := HB.out y (by rw [Int.toNat_natCast]; omega)
   have H2 : Hid (bucketN v = (y + 2) / 3) := h2
   clear h2 hy
   go_wp2
   go_ret
   exact ⟨ret_int H2.out.symm, rfl⟩
theorem half_rk {v : Nat} {x y : Int} (hx : 0 < x) (h : (rk v : Int) + 1 = y + (rk x.toNat : Int)) (he : x % 2 = 0) : (rk v : Int) + 1 = y + 1 + (rk (x / 2).toNat : Int) := by
 have e := rk_even x.toNat (by omega) (by omega)
 have e2 : (x / 2).toNat = x.toNat / 2 := by omega
 rw [e2]; omega
theorem last_rk {v : Nat} {x y : Int} (hx : 0 < x) (h : (rk v : Int) + 1 = y + (rk x.toNat : Int)) (he : ¬ x % 2 = 0) : y = (rk v : Int) := by
 have e := rk_odd x.toNat (by omega)
 omega
theorem top_rk {v : Nat} {x y : Int} (hx : 0 < x) (hx1 : x < 65536) (hv0 : 0 < v) (hv : v < 65536) (h : (rk v : Int) + 1 = y + (rk x.toNat : Int)) : y ≤ 16 := by
 have := rk_top v 16 (by omega) (by omega)
 have := rk_top x.toNat 16 (by omega) (by omega)
 omega
theorem rankSpec_any (n : Int) (w : World) : Calls Tryz.prog 165 #[.int .i64 n] w fun e w' => e = .returned (.int .i64 (rankN n)) ∧ w' = w := by
 have h1 := mixN_range n
 have hr : rankN n = (rk (mixN n).toNat : Int) := rfl
 go_enter Tryz.func165, Tryz.ntmps165
 go_wp2_with fail
 refine (mixSpec_any _ _).mono ?_
 rintro e w1 ⟨rfl, rfl⟩
 generalize mixN n = z at *
 obtain ⟨h0, h1⟩ := h1
 by_cases hz : z = 0
 ·
  subst hz
  have HQ : Hid (17 = rankN n) := show 17 = rankN n by rw [hr, show (0 : Int).toNat = 0 from rfl, rk_zero]; rfl
  clear hr h0 h1
  go_wp2
  go_ret
  exact ⟨ret_int HQ.out, rfl⟩
 ·
  obtain ⟨v, hv⟩ : ∃ v : Nat, v = z.toNat := ⟨_, rfl⟩
  have hzb : (z == 0) = false := by simpa using hz
  have HV : Hid (0 < v ∧ v < 65536) := show _ ∧ _ by omega
  have HZ : Hid (v = z.toNat) := hv
  have HQ : Hid (rankN n = (rk v : Int)) := by rw [hv]; exact hr
  have hz0 : 0 < z := by omega
  clear hv hr hz
  go_wp2
  go_loop [3, 4] (fun i s => ∃ (x y : Int), 0 < x ∧ x < 65536 ∧ 0 ≤ y ∧ y ≤ 16 ∧ i = .int .i64 x ∧ s = .int .i64 y ∧ Hid ((rk v : Int) + 1 = y + (rk x.toNat : Int))) (fun i _ => (intOf i).toNat)
  case atStart => exact ⟨z, 1, hz0, h1, by omega, by omega, rfl, rfl, show (rk v : Int) + 1 = 1 + (rk z.toNat : Int) by rw [← HZ.out]; omega⟩
  case round =>
   obtain ⟨x, y, hx0, hx1, hy0, hy1, rfl, rfl, HY⟩ := hrel
   by_cases hs : x % 2 = 0
   ·
    have hx2 : 0 < x / 2 := by omega
    have hy2 := top_rk hx2 (by omega) HV.out.1 HV.out.2 (half_rk hx0 HY.out hs)
    go_wp2
    go_round
    case rel => exact ⟨_, y + 1, hx2, by omega, by omega, hy2, rfl, rfl, half_rk hx0 HY.out hs⟩
    case measure => simp [intOf]; omega
   ·
    have hsb : (x % 2 == 0) = false := by simpa using hs
    go_wp2
    go_ret
    exact ⟨ret_int ((last_rk hx0 HY.out hs).trans HQ.out.symm), rfl⟩
end Go.Proofs.YtjnamoppcklomaaGreat
