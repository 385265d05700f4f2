/- How chapter 1 reads a number off bytes, over whole numbers. No statement of the seat is proved here. -/
import Derived.WalkKit
import Derived.Laws.BitsAllLaws
namespace Go.Proofs.Ytjndcfamfminkaq
open Go.RowKit

/-- The number that the bytes begin with, k of its bytes being read already (together acc): it and how many bytes it takes. -/
def dg : List Int → Nat → Int → Option (Int × Nat)
  | [], _, _ => none
  | c :: r, k, acc => if k = 5 then none else if c < 128 then (if (0 < k ∧ c = 0) ∨ 2147483647 < acc + c % 128 * 128 ^ k then none else some (acc + c % 128 * 128 ^ k, k + 1)) else dg r (k + 1) (acc + c % 128 * 128 ^ k)

/-- The number that begins at that place. -/
def res (zs : List Int) (p : Int) : Option (Int × Nat) := if 0 ≤ p ∧ p ≤ zs.length then dg (zs.drop p.toNat) 0 0 else none
def out3 (r : Option (Int × Nat)) (p : Int) : Value := match r with
  | none => .tuple #[.int .i64 0, .int .i64 0, .bool false]
  | some (n, u) => .tuple #[.int .i64 n, .int .i64 (p + u), .bool true]

theorem or_nat (a b j : Nat) (ha : a < 2 ^ j) (h : a + b * 2 ^ j < 4611686018427387904) : bits .or .i64 (a : Int) ((b * 2 ^ j : Nat) : Int) = ((a + b * 2 ^ j : Nat) : Int) := by
  have h1 : a < 4611686018427387904 := by omega
  have h2 : b * 2 ^ j < 4611686018427387904 := by omega
  have ea : (BitVec.ofInt 64 (a : Int)).toNat = a := by rw [BitVec.toNat_ofInt]; omega
  have eb : (BitVec.ofInt 64 ((b * 2 ^ j : Nat) : Int)).toNat = b * 2 ^ j := by rw [BitVec.toNat_ofInt]; omega
  have e : ((BitVec.ofInt 64 (a : Int)) ||| (BitVec.ofInt 64 ((b * 2 ^ j : Nat) : Int))).toNat = a + b * 2 ^ j := by
    rw [BitVec.toNat_or, ea, eb, Nat.or_comm, nat_join j _ _ (by simp) ha, Nat.add_comm]
  show IntKind.i64.wrap (((BitVec.ofInt 64 (a : Int)) ||| (BitVec.ofInt 64 ((b * 2 ^ j : Nat) : Int))).toNat : Int) = _
  rw [e]
  generalize a + b * 2 ^ j = c at *
  simp [IntKind.wrap, IntKind.bits, IntKind.signed]
  omega
/-- At each of the five places the exclusive-free 'or' is a sum. -/
theorem or_add (k : Nat) (hk : k < 5) (X d : Int) (hX : 0 ≤ X) (hX' : X < 128 ^ k) (hd : 0 ≤ d) (hd' : d < 128) : bits .or .i64 X (d * 128 ^ k) = X + d * 128 ^ k := by
  obtain ⟨x, rfl⟩ := Int.eq_ofNat_of_zero_le hX
  obtain ⟨e, rfl⟩ := Int.eq_ofNat_of_zero_le hd
  have hp : (128 : Nat) ^ k = 2 ^ (7 * k) := by rw [show (128 : Nat) = 2 ^ 7 from rfl, ← Nat.pow_mul]
  have h1 : x < 2 ^ (7 * k) := by rw [← hp]; have : ((x : Int)) < ((128 ^ k : Nat) : Int) := by simpa using hX'
                                  omega
  have he : e < 128 := by omega
  have h2 : x + e * 2 ^ (7 * k) < 4611686018427387904 := by
    have h3 : (2 : Nat) ^ (7 * k) ≤ 2 ^ 28 := Nat.pow_le_pow_right (by decide) (by omega)
    have h4 : e * 2 ^ (7 * k) ≤ 127 * 2 ^ 28 := Nat.mul_le_mul (by omega) h3
    have h5 : (127 : Nat) * 2 ^ 28 = 34091302912 := by decide
    have h6 : (2 : Nat) ^ 28 = 268435456 := by decide
    omega
  have h := or_nat x e (7 * k) h1 h2
  rw [← hp] at h
  simpa using h

/-- What is read with one byte more. -/
def nxt (k : Nat) (X c : Int) : Int := X + c % 128 * 128 ^ k
theorem pow_eq (k : Nat) : (2 : Int) ^ (7 * k) = 128 ^ k := by rw [Int.pow_mul]; rfl
theorem pow_bd (k : Nat) (hk : k < 5) : (1 : Int) ≤ 128 ^ k ∧ (128 : Int) ^ k ≤ 268435456 := by
  have : k = 0 ∨ k = 1 ∨ k = 2 ∨ k = 3 ∨ k = 4 := by omega
  rcases this with rfl | rfl | rfl | rfl | rfl <;> exact ⟨by decide, by decide⟩
theorem part_bd (k : Nat) (hk : k < 5) (c : Int) : 0 ≤ c % 128 * 128 ^ k ∧ c % 128 * 128 ^ k ≤ 127 * 128 ^ k := by
  have h := pow_bd k hk
  exact ⟨Int.mul_nonneg (by omega) (by omega), Int.mul_le_mul_of_nonneg_right (by omega) (by omega)⟩
theorem nxt_bd (k : Nat) (hk : k < 5) (X c : Int) (hX : 0 ≤ X) (hX' : X < 128 ^ k) : 0 ≤ nxt k X c ∧ nxt k X c < 128 ^ (k + 1) ∧ nxt k X c ≤ 34359738368 := by
  have h := pow_bd k hk
  have h2 := part_bd k hk c
  unfold nxt
  refine ⟨by omega, ?_, by omega⟩
  rw [Int.pow_succ]; omega
theorem wrap_part (k : Nat) (hk : k < 5) (c : Int) : wrap64 (c % 128 * 2 ^ (7 * k)) = c % 128 * 128 ^ k := by
  rw [pow_eq]
  have h := pow_bd k hk
  have h2 := part_bd k hk c
  unfold wrap64; omega
theorem or_nxt (k : Nat) (hk : k < 5) (X c : Int) (hX : 0 ≤ X) (hX' : X < 128 ^ k) : bits .or .i64 X (wrap64 (c % 128 * 2 ^ (7 * k))) = nxt k X c := by
  rw [wrap_part k hk c]
  exact or_add k hk X (c % 128) hX hX' (by omega) (by omega)
theorem add_nxt (k : Nat) (hk : k < 5) (X c : Int) (hX : 0 ≤ X) (hX' : X < 128 ^ k) : wrap64 (X + wrap64 (c % 128 * 2 ^ (7 * k))) = nxt k X c := by
  rw [wrap_part k hk c]
  have h := nxt_bd k hk X c hX hX'
  show wrap64 (nxt k X c) = _
  unfold wrap64; omega
theorem dropZ_at {zs : List Int} {j : Nat} (h : j < zs.length) : zs.drop j = zs[j]?.getD 0 :: zs.drop (j + 1) := by
  rw [List.drop_eq_getElem_cons h, List.getElem?_eq_getElem h]; rfl
section
variable {zs : List Int} {q k : Nat} {X c Y : Int} {r : Option (Int × Nat)}
theorem dg_more (hc : c = zs[q + k]?.getD 0) (hl : q + k < zs.length) (hk : k < 5) (h : r = dg (zs.drop (q + k)) k X) (hY : Y = nxt k X c) (h1 : 128 ≤ c) : r = dg (zs.drop (q + (k + 1))) (k + 1) Y := by
  rw [h, dropZ_at hl, ← hc, hY]; show (if k = 5 then _ else _) = _
  rw [if_neg (by omega), if_neg (by omega)]; rfl
theorem dg_bad (hc : c = zs[q + k]?.getD 0) (hl : q + k < zs.length) (h : r = dg (zs.drop (q + k)) k X) (hY : Y = nxt k X c) (h1 : c < 128) (h2 : (0 < k ∧ c = 0) ∨ 2147483647 < Y) : r = none := by
  rw [h, dropZ_at hl, ← hc]; show (if k = 5 then _ else _) = _
  split
  · rfl
  · rw [if_pos]; rw [hY] at h2; exact h2
theorem dg_good (hc : c = zs[q + k]?.getD 0) (hl : q + k < zs.length) (hk : k < 5) (h : r = dg (zs.drop (q + k)) k X) (hY : Y = nxt k X c) (h1 : c < 128) (h2 : ¬ ((0 < k ∧ c = 0) ∨ 2147483647 < Y)) : r = some (Y, k + 1) := by
  rw [h, dropZ_at hl, ← hc]; show (if k = 5 then _ else _) = _
  rw [if_neg (by omega), if_pos h1, if_neg]
  · rw [hY]; rfl
  · rw [hY] at h2; exact h2
theorem dg_end (hl : zs.length ≤ q + k) (h : r = dg (zs.drop (q + k)) k X) : r = none := by
  rw [h, List.drop_eq_nil_of_le hl]; rfl
theorem dg_five (h : r = dg (zs.drop (q + 5)) 5 X) : r = none := by
  rw [h]
  cases zs.drop (q + 5) with
  | nil => rfl
  | cons a l => rfl
end
theorem res_in (zs : List Int) (q : Nat) (h : q ≤ zs.length) : res zs (q : Int) = dg (zs.drop (q + 0)) 0 0 := by
  unfold res; rw [if_pos ⟨by omega, by omega⟩]; rfl
theorem res_out (zs : List Int) (p : Int) (h : ¬ (0 ≤ p ∧ p < zs.length)) : res zs p = none := by
  unfold res; split
  · rename_i h'
    have : p.toNat = zs.length := by omega
    rw [this, List.drop_length]; rfl
  · rfl
end Go.Proofs.Ytjndcfamfminkaq
