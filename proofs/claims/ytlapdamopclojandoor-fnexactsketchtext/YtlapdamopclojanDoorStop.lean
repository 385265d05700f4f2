/- The walks through chapter 2: the program's functions and the model's. No statement of the seat is proved here. -/
import Derived.Test.YtlapdamopclojanDoorBase
import Derived.Test.YtlapdamopclojanDoorStopMath
namespace Go.Proofs.YtlapdamopclojanDoor
open Go.RowKit

theorem shr_nat (v m : Nat) : (v : Int) / 2 ^ m = ((v / 2 ^ m : Nat) : Int) := by
  rw [Int.natCast_ediv, Int.natCast_pow]; rfl
theorem up_digs {v : Nat} {k x : Int} (hx : x = v) (hk : 0 ≤ k) (hs : 0 < x / 2 ^ k.toNat) : k + 1 = min (k + 1) (digs v) := by
  subst hx
  rw [shr_nat] at hs
  have := (digs_lt v k.toNat).2 (by omega)
  omega
theorem stay_digs {v : Nat} {k x y : Int} (hx : x = v) (hk : 0 ≤ k) (hy : y = min k (digs v)) (hs : ¬ 0 < x / 2 ^ k.toNat) : y = min (k + 1) (digs v) := by
  subst hx
  rw [shr_nat] at hs
  have : ¬ k.toNat < digs v := fun h => hs (by have := (digs_lt v k.toNat).1 h; omega)
  omega
theorem end_digs {v : Nat} {y : Int} (hv : v ≤ 1000000) (hy : y = min (20 : Int) (digs v : Int)) : y = (digs v : Int) := by
  have := digs_top v hv
  omega
theorem next_rk {x : Nat} {y k : Int} (hy : y = x) (hk : 0 ≤ k) (h : x = 0 ∨ (0 < x / 2 ^ k.toNat ∧ rk x = k.toNat + rk (x / 2 ^ k.toNat))) (ho : ¬ y / 2 ^ k.toNat % 2 = 1) : x = 0 ∨ (0 < x / 2 ^ (k + 1).toNat ∧ rk x = (k + 1).toNat + rk (x / 2 ^ (k + 1).toNat)) := by
  subst hy
  rw [shr_nat] at ho
  rcases h with h | ⟨h1, h2⟩
  · exact .inl h
  · have e1 : (k + 1).toNat = k.toNat + 1 := by omega
    have e2 : x / 2 ^ (k.toNat + 1) = x / 2 ^ k.toNat / 2 := by rw [Nat.pow_succ, Nat.div_div_eq_div_mul]
    rw [e1, e2]
    generalize x / 2 ^ k.toNat = z at *
    have := rk_even z h1 (by omega)
    exact .inr ⟨by omega, by omega⟩
theorem stop_rk {x : Nat} {y k : Int} (hy : y = x) (hk : 0 ≤ k) (h : x = 0 ∨ (0 < x / 2 ^ k.toNat ∧ rk x = k.toNat + rk (x / 2 ^ k.toNat))) (ho : y / 2 ^ k.toNat % 2 = 1) : k + 1 = (rk x : Int) := by
  subst hy
  rw [shr_nat] at ho
  rcases h with h | ⟨h1, h2⟩
  · subst h; simp at ho
  · generalize x / 2 ^ k.toNat = z at *
    have := rk_odd z (by omega)
    omega
theorem end_rk {x : Nat} (hx : x < 65536) (h : x = 0 ∨ (0 < x / 2 ^ (16 : Int).toNat ∧ rk x = (16 : Int).toNat + rk (x / 2 ^ (16 : Int).toNat))) : (17 : Int) = (rk x : Int) := by
  rcases h with h | ⟨h1, h2⟩
  · subst h; rw [rk_zero]; rfl
  · have : x / 2 ^ (16 : Int).toNat = 0 := by rw [show (16 : Int).toNat = 16 from rfl]; omega
    omega
theorem lowN_out (k : Int) (h : k < 0 ∨ 8 ≤ k) : lowN k = -1 := by
  unfold lowN
  rw [if_neg (by omega), if_neg (by omega), if_neg (by omega), if_neg (by omega), if_neg (by omega), if_neg (by omega), if_neg (by omega), if_neg (by omega)]
theorem l1In_any (x lo hi : Int) (w : World) : Calls Tryd.prog 20 #[.int .i64 x, .int .i64 lo, .int .i64 hi] w fun e w' => e = .returned (.bool (decide (lo ≤ x ∧ x ≤ hi))) ∧ w' = w := by
  have hd : ∀ d : Bool, d = decide (lo ≤ x ∧ x ≤ hi) → (d = true ↔ lo ≤ x ∧ x ≤ hi) := by rintro d rfl; simp
  generalize decide (lo ≤ x ∧ x ≤ hi) = d at *
  have hd := hd d rfl
  by_cases h : lo ≤ x
  · by_cases h2 : x ≤ hi
    · have e : Hid (d = true) := hd.2 ⟨h, h2⟩
      clear hd
      go_enter Tryd.func20, Tryd.ntmps20
      go_wp2
      go_ret
      rw [e.out]; exact ⟨rfl, rfl⟩
    · have e : Hid (d = false) := show d = false by cases d; rfl; exact absurd (hd.1 rfl).2 h2
      clear hd
      go_enter Tryd.func20, Tryd.ntmps20
      go_wp2
      go_ret
      rw [e.out]; exact ⟨rfl, rfl⟩
  · have e : Hid (d = false) := show d = false by cases d; rfl; exact absurd (hd.1 rfl).1 h
    clear hd
    go_enter Tryd.func20, Tryd.ntmps20
    go_wp2
    go_ret
    rw [e.out]; exact ⟨rfl, rfl⟩
end Go.Proofs.YtlapdamopclojanDoor
