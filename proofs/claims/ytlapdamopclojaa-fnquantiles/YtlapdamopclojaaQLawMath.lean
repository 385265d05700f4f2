/- What the quantiles of a summary come to: the mathematics of the law. No statement of the seat is proved here. -/
import Derived.Test.YtlapdamopclojaaAskQMath
namespace Go.Proofs.Ytlapdamopclojaa
open Go.RowKit
theorem low_upto {H : List Int} {p : Int} (hH : Hin H) : ∀ k, k ≤ 8 → (∀ j, j < k → qhit H p j = false) → up H k = 0 ∨ up H k * 1000 < p * up H 8
  | 0, _, _ => .inl (up_zero H)
  | k + 1, hk, h => by
    have ih := low_upto hH k (by omega) (fun j hj => h j (by omega))
    have e := up_succ (H := H) (k := k) (by rw [hH.1]; omega)
    by_cases hp : 0 < H[k]?.getD 0
    · right
      have hq := h k (by omega)
      unfold qhit at hq
      rw [dec_true hp] at hq
      simp at hq
      omega
    · have := (hH.at k).1
      have e2 : up H (k + 1) = up H k := by omega
      rw [e2]; exact ih
theorem low_mono : ∀ j, j < 8 → ∀ i, i < 8 → j ≤ i → lowN (j : Nat) ≤ lowN (i : Nat) := by decide
theorem low_high : ∀ j, j < 8 → lowN (j : Nat) ≤ highN (j : Nat) := by decide
theorem low_lo : ∀ j, j < 8 → 0 ≤ lowN (j : Nat) ∧ lowN (j : Nat) ≤ 262144 := by decide
theorem bucket_nat {n k : Nat} (h0 : 2 ^ k ≤ n) (h1 : n < 2 ^ (k + 1)) (h : n ≤ 1000000) : bucketN (n : Int) = ((k + 3) / 3 : Nat) := by rw [bucketN_nat n h, digs_eq n k h0 h1]
theorem bucket_low : ∀ j, j < 8 → bucketN (lowN (j : Nat)) = (j : Nat) := by
  intro j hj
  match j, hj with
  | 0, _ => show bucketN ((0 : Nat) : Int) = _; rw [bucketN_nat 0 (by omega), digs_zero]
  | 1, _ => exact (bucket_nat (n := 1) (k := 0) (by decide) (by decide) (by decide))
  | 2, _ => exact (bucket_nat (n := 8) (k := 3) (by decide) (by decide) (by decide))
  | 3, _ => exact (bucket_nat (n := 64) (k := 6) (by decide) (by decide) (by decide))
  | 4, _ => exact (bucket_nat (n := 512) (k := 9) (by decide) (by decide) (by decide))
  | 5, _ => exact (bucket_nat (n := 4096) (k := 12) (by decide) (by decide) (by decide))
  | 6, _ => exact (bucket_nat (n := 32768) (k := 15) (by decide) (by decide) (by decide))
  | 7, _ => exact (bucket_nat (n := 262144) (k := 18) (by decide) (by decide) (by decide))
theorem quant_found {H : List Int} {p : Int} (hH : Hin H) (p2 : p ≤ 1000) (hA : up H 8 ≠ 0) : ∃ j, j < 8 ∧ qhit H p j = true ∧ (∀ i, i < j → qhit H p i = false) := by
  cases e : (List.range 8).find? (qhit H p) with
  | none =>
    exfalso
    have h := List.find?_range_eq_none.1 e
    have h8 := low_upto (p := p) hH 8 (Nat.le_refl _) (fun j hj => by simpa using h j hj)
    have h0 := (hH.up 8).1
    have := Int.mul_le_mul_of_nonneg_right p2 h0
    omega
  | some j =>
    obtain ⟨h1, h2, h3⟩ := List.find?_range_eq_some.1 e
    exact ⟨j, by simpa using h2, h1, fun i hi => by simpa using h3 i hi⟩
theorem qhit_parts {H : List Int} {p : Int} {j : Nat} (h : qhit H p j = true) : 0 < H[j]?.getD 0 ∧ p * up H 8 ≤ up H (j + 1) * 1000 := by
  unfold qhit at h
  simpa using h
/-- What the law asks of a quantile. -/
theorem quant_law {H : List Int} {p : Int} (hH : Hin H) (p1 : 1 ≤ p) (p2 : p ≤ 1000) (hA : up H 8 ≠ 0) :
    ∃ j, j < 8 ∧ quantH H p = (lowN (j : Nat), highN (j : Nat)) ∧ bucketN (lowN (j : Nat)) = (j : Nat) ∧ 0 < H[j]?.getD 0 ∧ p * up H 8 ≤ up H (j + 1) * 1000 ∧ (up H (j + 1) - H[j]?.getD 0) * 1000 < p * up H 8 ∧ lowN (j : Nat) ≤ highN (j : Nat) ∧ lowN (j : Nat) ≤ (quantH H 1000).1 := by
  obtain ⟨j, hj, hq, hm⟩ := quant_found (p := p) hH p2 hA
  obtain ⟨i, hi, hq', hm'⟩ := quant_found (p := 1000) hH (by omega) hA
  have h0 := (hH.up 8).1
  have hpos : 0 < p * up H 8 := Int.mul_pos (by omega) (by omega)
  obtain ⟨a1, a2⟩ := qhit_parts hq
  obtain ⟨b1, b2⟩ := qhit_parts hq'
  refine ⟨j, hj, quantH_hit hj hm hq, bucket_low j hj, a1, a2, ?_, low_high j hj, ?_⟩
  · have e := up_succ (H := H) (k := j) (by rw [hH.1]; omega)
    have l := low_upto hH j (by omega) hm
    rw [show up H (j + 1) - H[j]?.getD 0 = up H j by omega]
    omega
  · rw [quantH_hit hi hm' hq']
    refine low_mono j hj i hi ?_
    rcases Nat.lt_or_ge i j with hlt | hge
    · have e := hm i hlt
      have m := Int.mul_le_mul_of_nonneg_right p2 h0
      rw [qhit_yes b1 (by omega)] at e
      cases e
    · exact hge
theorem quant_empty {H : List Int} {p : Int} (hH : Hin H) (hA : up H 8 = 0) : quantH H p = (0, 0) := by
  have hz : ∀ k, k < 8 → H[k]?.getD 0 = 0 := by
    have hm : ∀ k, k ≤ 8 → up H (8 - k) = 0 := by
      intro k
      induction k with
      | zero => intro _; simpa using hA
      | succ k ih =>
        intro hk
        have e := up_succ (H := H) (k := 8 - (k + 1)) (by rw [hH.1]; omega)
        rw [show 8 - (k + 1) + 1 = 8 - k by omega, ih (by omega)] at e
        have := (hH.at (8 - (k + 1))).1
        have := (hH.up (8 - (k + 1))).1
        omega
    intro k hk
    have e := up_succ (H := H) (k := k) (by rw [hH.1]; omega)
    have e1 := hm (8 - k) (by omega)
    have e2 := hm (8 - (k + 1)) (by omega)
    rw [show 8 - (8 - k) = k by omega] at e1
    rw [show 8 - (8 - (k + 1)) = k + 1 by omega] at e2
    omega
  exact quantH_none fun i hi => qhit_none (by rw [hz i hi]; omega)
end Go.Proofs.Ytlapdamopclojaa
