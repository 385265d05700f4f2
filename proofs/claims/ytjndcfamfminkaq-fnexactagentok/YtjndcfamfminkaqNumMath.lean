/- How chapter 1 writes a number as bytes, over natural numbers. No statement of the seat is proved here. -/
import Derived.WalkKit
namespace Go.Proofs.Ytjndcfamfminkaq
open Go.RowKit

/-- Seven bits a byte, the low ones first, 128 more in each byte but the last. -/
def encN (n : Nat) : List Int := if n < 128 then [(n : Int)] else ((n : Int) % 128 + 128) :: encN (n / 128)
  termination_by n
  decreasing_by omega

/-- The bytes of a number: none of one that is not in 0 .. 2147483647. -/
def encOf (n : Int) : List Int := if 0 ≤ n ∧ n ≤ 2147483647 then encN n.toNat else []

theorem encN_small (n : Nat) (h : n < 128) : encN n = [(n : Int)] := by rw [encN, if_pos h]
theorem encN_big (n : Nat) (h : ¬ n < 128) : encN n = ((n : Int) % 128 + 128) :: encN (n / 128) := by rw [encN, if_neg h]
theorem encN_range (n : Nat) : ∀ x ∈ encN n, 0 ≤ x ∧ x ≤ 255 := by
  induction n using encN.induct with
  | case1 n h => rw [encN_small n h]; intro x hx; simp at hx; omega
  | case2 n h ih =>
    rw [encN_big n h]
    intro x hx
    rcases List.mem_cons.1 hx with rfl | hx
    · omega
    · exact ih x hx
theorem encOf_range (n : Int) : ∀ x ∈ encOf n, 0 ≤ x ∧ x ≤ 255 := by
  unfold encOf; split
  · exact encN_range _
  · intro x hx; cases hx
theorem len_small (k n : Nat) (h : n < 128 ^ k * 128) : (encN n).length ≤ k + 1 := by
  induction k generalizing n with
  | zero => rw [encN_small n (by omega)]; simp
  | succ k ih =>
    by_cases h1 : n < 128
    · rw [encN_small n h1]; simp
    · rw [encN_big n h1]
      have := ih (n / 128) (by rw [Nat.pow_succ] at h; omega)
      simp; omega
theorem encN_len (n : Nat) (h : n ≤ 2147483647) : (encN n).length ≤ 5 := len_small 4 n (by omega)
theorem encOf_len (n : Int) : (encOf n).length ≤ 5 := by
  unfold encOf; split
  · exact encN_len _ (by omega)
  · simp
theorem enc_next {n : Nat} {m : Int} {acc : List Int} (h0 : 0 ≤ m) (h : acc ++ encN m.toNat = encN n) (hm : 128 ≤ m) : (acc ++ [m % 128 + 128]) ++ encN (m / 128).toNat = encN n := by
  obtain ⟨m, rfl⟩ := Int.eq_ofNat_of_zero_le h0
  rw [← h, show ((m : Int)).toNat = m by omega, show ((m : Int) / 128).toNat = m / 128 by omega, encN_big m (by omega)]; simp
theorem enc_last {n : Nat} {m : Int} {acc : List Int} (h0 : 0 ≤ m) (h : acc ++ encN m.toNat = encN n) (hm : m < 128) : acc ++ [m] = encN n := by
  obtain ⟨m, rfl⟩ := Int.eq_ofNat_of_zero_le h0
  rw [← h, show ((m : Int)).toNat = m by omega, encN_small m (by omega)]
theorem enc_acc {m n : Nat} {acc : List Int} (h : acc ++ encN m = encN n) (hn : n ≤ 2147483647) : acc.length ≤ 5 := by
  have h1 := encN_len n hn
  rw [← h, List.length_append] at h1; omega

/-- What a marked slice of n bytes holds: k, k + 1, .. each by 256. -/
def marks (k : Int) (n : Nat) : List Int := (List.range n).map fun i : Nat => (k + (i : Int)) % 256
theorem marks_len (k : Int) (n : Nat) : (marks k n).length = n := by simp [marks]
theorem marks_at (k : Int) (n i : Nat) (h : i < n) : (marks k n)[i]?.getD 0 = (k + (i : Int)) % 256 := by simp [marks, h]
theorem marks_range (k : Int) (n : Nat) : ∀ x ∈ marks k n, 0 ≤ x ∧ x ≤ 255 := by
  intro x hx
  simp only [marks, List.mem_map, List.mem_range] at hx
  obtain ⟨i, _, rfl⟩ := hx
  omega
/-- Marked up to i, the rest as it was. -/
def marked (k : Int) (i : Nat) (xs : List Value) : List Value := (marks k i).map (Value.int .u8) ++ xs.drop i
theorem marked_zero (k : Int) (xs : List Value) : marked k 0 xs = xs := by simp [marked, marks]
theorem marked_end (k : Int) (n : Nat) (xs : List Value) (h : xs.length = n) : marked k n xs = (marks k n).map (Value.int .u8) := by
  simp [marked, List.drop_of_length_le (Nat.le_of_eq h)]
theorem marks_succ (k : Int) (i : Nat) : marks k (i + 1) = marks k i ++ [(k + (i : Int)) % 256] := by simp [marks, List.range_succ]
theorem marked_step (k : Int) (i n : Nat) (xs : List Value) (h : xs.length = n) (hi : i < n) : (marked k i xs).set i (.int .u8 ((k + (i : Int)) % 256)) = marked k (i + 1) xs := by
  unfold marked
  have hl : ((marks k i).map (Value.int .u8)).length = i := by simp [marks_len]
  rw [List.set_append_right i _ (by omega), hl, Nat.sub_self, marks_succ, List.map_append, List.append_assoc, List.drop_eq_getElem_cons (show i < xs.length by omega)]
  rfl
end Go.Proofs.Ytjndcfamfminkaq
