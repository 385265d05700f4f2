/- The walks through chapter 2: the program's functions and the model's. No statement of the seat is proved here. -/
import Derived.Test.YthimjmkdcocofaaBase
import Derived.Test.YthimjmkdcocofaaStopMath
import Derived.Test.YthimjmkdcocofaaInOf
namespace Go.Proofs.Ythimjmkdcocofaa
open Go.RowKit

set_option maxRecDepth 200000 in
theorem l1Min_any (a b : Int) (w : World) : Calls Try.prog 38 #[.int .i64 a, .int .i64 b] w fun e w' => e = .returned (.int .i64 (min a b)) ∧ w' = w := by
  by_cases h : a < b
  · go_enter Try.func38, Try.ntmps38
    go_wp2
    go_ret
    exact ⟨ret_int (by omega), rfl⟩
  · go_enter Try.func38, Try.ntmps38
    go_wp2
    go_ret
    exact ⟨ret_int (by omega), rfl⟩
theorem shr_nat (v m : Nat) : (v : Int) / 2 ^ m = ((v / 2 ^ m : Nat) : Int) := by
  rw [Int.natCast_ediv, Int.natCast_pow]; rfl
theorem up_digs {v : Nat} {k x : Int} (hx : x = v) (hk : 0 ≤ k) (hs : 0 < x / 2 ^ k.toNat) : k + 1 = min (k + 1) (digs v) := by
  subst hx
  rw [shr_nat] at hs
  have := (digs_lt v k.toNat).2 (by omega)
  omega
theorem stay_digs {v : Nat} {k x y : Int} (hx : x = v) (hk : 0 ≤ k) (hy : y = min k (digs v)) (hs : ¬ 0 < x / 2 ^ k.toNat) : y = min (k + 1) (digs v) := by
  subst hx
  rw [shr_nat] at hs
  have : ¬ k.toNat < digs v := fun h => hs (by have := (digs_lt v k.toNat).1 h; omega)
  omega
theorem end_digs {v : Nat} {y : Int} (hv : v ≤ 1000000) (hy : y = min (20 : Int) (digs v : Int)) : y = (digs v : Int) := by
  have := digs_top v hv
  omega
theorem go_digs {v : Nat} {x y : Int} (hx : 0 < x) (hy : y + (digs x.toNat : Int) = (digs v : Int)) : y + 1 + (digs (x / 2).toNat : Int) = (digs v : Int) := by
  have e := digs_pos x.toNat (by omega)
  have e2 : (x / 2).toNat = x.toNat / 2 := by omega
  rw [e2]; omega
theorem next_rk {x : Nat} {y k : Int} (hy : y = x) (hk : 0 ≤ k) (h : x = 0 ∨ (0 < x / 2 ^ k.toNat ∧ rk x = k.toNat + rk (x / 2 ^ k.toNat))) (ho : ¬ y / 2 ^ k.toNat % 2 = 1) : x = 0 ∨ (0 < x / 2 ^ (k + 1).toNat ∧ rk x = (k + 1).toNat + rk (x / 2 ^ (k + 1).toNat)) := by
  subst hy
  rw [shr_nat] at ho
  rcases h with h | ⟨h1, h2⟩
  · exact .inl h
  · have e1 : (k + 1).toNat = k.toNat + 1 := by omega
    have e2 : x / 2 ^ (k.toNat + 1) = x / 2 ^ k.toNat / 2 := by rw [Nat.pow_succ, Nat.div_div_eq_div_mul]
    rw [e1, e2]
    generalize x / 2 ^ k.toNat = z at *
    have := rk_even z h1 (by omega)
    exact .inr ⟨by omega, by omega⟩
theorem stop_rk {x : Nat} {y k : Int} (hy : y = x) (hk : 0 ≤ k) (h : x = 0 ∨ (0 < x / 2 ^ k.toNat ∧ rk x = k.toNat + rk (x / 2 ^ k.toNat))) (ho : y / 2 ^ k.toNat % 2 = 1) : k + 1 = (rk x : Int) := by
  subst hy
  rw [shr_nat] at ho
  rcases h with h | ⟨h1, h2⟩
  · subst h; simp at ho
  · generalize x / 2 ^ k.toNat = z at *
    have := rk_odd z (by omega)
    omega
theorem end_rk {x : Nat} (hx : x < 65536) (h : x = 0 ∨ (0 < x / 2 ^ (16 : Int).toNat ∧ rk x = (16 : Int).toNat + rk (x / 2 ^ (16 : Int).toNat))) : (17 : Int) = (rk x : Int) := by
  rcases h with h | ⟨h1, h2⟩
  · subst h; rw [rk_zero]; rfl
  · have : x / 2 ^ (16 : Int).toNat = 0 := by rw [show (16 : Int).toNat = 16 from rfl]; omega
    omega
theorem half_rk {v : Nat} {x y : Int} (hx : 0 < x) (h : (rk v : Int) + 1 = y + (rk x.toNat : Int)) (he : x % 2 = 0) : (rk v : Int) + 1 = y + 1 + (rk (x / 2).toNat : Int) := by
  have e := rk_even x.toNat (by omega) (by omega)
  have e2 : (x / 2).toNat = x.toNat / 2 := by omega
  rw [e2]; omega
theorem last_rk {v : Nat} {x y : Int} (hx : 0 < x) (h : (rk v : Int) + 1 = y + (rk x.toNat : Int)) (he : ¬ x % 2 = 0) : y = (rk v : Int) := by
  have e := rk_odd x.toNat (by omega)
  omega
theorem top_rk {v : Nat} {x y : Int} (hx : 0 < x) (hx1 : x < 65536) (hv0 : 0 < v) (hv : v < 65536) (h : (rk v : Int) + 1 = y + (rk x.toNat : Int)) : y ≤ 16 := by
  have := rk_top v 16 (by omega) (by omega)
  have := rk_top x.toNat 16 (by omega) (by omega)
  omega
theorem lowN_out (k : Int) (h : k < 0 ∨ 8 ≤ k) : lowN k = -1 := by
  unfold lowN
  rw [if_neg (by omega), if_neg (by omega), if_neg (by omega), if_neg (by omega), if_neg (by omega), if_neg (by omega), if_neg (by omega), if_neg (by omega)]
end Go.Proofs.Ythimjmkdcocofaa
