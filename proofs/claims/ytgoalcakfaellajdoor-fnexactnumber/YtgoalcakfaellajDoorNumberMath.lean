/- Which number a text spells, over lists of bytes. No statement of the seat is proved here. -/
import Derived.WalkKit
import Derived.Lib.ItoaNum
import Derived.Lib.AtoiAll
namespace Go.Proofs.YtgoalcakfaellajDoor
open Go.RowKit

def isDigit (c : UInt8) : Prop := 48 ≤ c.toNat ∧ c.toNat ≤ 57
theorem decDigits_digit (u : Nat) : ∀ c ∈ Lib.decDigits u, isDigit c := by
  induction u using Nat.strongRecOn with
  | _ u ih =>
    intro c hc
    rw [Lib.decDigits] at hc
    split at hc
    · rename_i h
      simp only [List.mem_singleton] at hc
      subst hc
      have : (UInt8.ofNat (48 + u)).toNat = 48 + u := by simp; omega
      exact ⟨by omega, by omega⟩
    · rename_i h
      rcases List.mem_append.1 hc with h' | h'
      · exact ih (u / 10) (by omega) c h'
      · simp only [List.mem_singleton] at h'
        subst h'
        have : (UInt8.ofNat (48 + u % 10)).toNat = 48 + u % 10 := by simp; omega
        exact ⟨by omega, by omega⟩
theorem decDigits_pos (u : Nat) : 0 < (Lib.decDigits u).length := by
  rw [Lib.decDigits]; split <;> simp
theorem decDigits_len (k : Nat) : ∀ u, u < 10 ^ (k + 1) → (Lib.decDigits u).length ≤ k + 1 := by
  induction k with
  | zero => intro u h; rw [Lib.decDigits, dif_pos (by simpa using h)]; simp
  | succ k ih =>
    intro u h
    rw [Lib.decDigits]
    split
    · simp
    · have := ih (u / 10) (by rw [Nat.pow_succ] at h; omega)
      simp; omega
theorem itoa_digits (v : Int) (h0 : 0 ≤ v) (h1 : v ≤ 999999) : (∀ c ∈ Lib.itoa v, isDigit c) ∧ 0 < (Lib.itoa v).length ∧ (Lib.itoa v).length ≤ 6 := by
  rw [Lib.itoa, if_neg (by omega)]
  exact ⟨decDigits_digit _, decDigits_pos _, decDigits_len 5 _ (by have : (10 : Nat) ^ 6 = 1000000 := by decide
                                                                   omega)⟩

/-- The number from 0 to 999999 of which the text is the digits. -/
def numOf (l : List UInt8) : Option Int := match Lib.atoiAll l with
  | .ok v => if 0 ≤ v ∧ v ≤ 999999 ∧ Lib.itoa v = l then some v else none
  | _ => none
theorem numOf_some {l : List UInt8} {v : Int} (h : numOf l = some v) : 0 ≤ v ∧ v ≤ 999999 ∧ Lib.itoa v = l ∧ Lib.atoiAll l = .ok v := by
  unfold numOf at h
  cases ha : Lib.atoiAll l with
  | ok u =>
    rw [ha] at h
    simp only at h
    split at h
    · rename_i hh
      simp only [Option.some.injEq] at h
      subst h
      exact ⟨hh.1, hh.2.1, hh.2.2, rfl⟩
    · cases h
  | «syntax» => rw [ha] at h; cases h
  | range => rw [ha] at h; cases h
theorem none_of {l : List UInt8} (h : ∀ v, numOf l = some v → False) : numOf l = none := by
  cases hn : numOf l with
  | none => rfl
  | some v => exact (h v hn).elim
theorem numOf_len {l : List UInt8} (h : l.length < 1 ∨ 6 < l.length) : numOf l = none := none_of fun v hv => by
  obtain ⟨a, b, c, _⟩ := numOf_some hv
  have := itoa_digits v a b
  rw [c] at this
  omega
theorem numOf_byte {l : List UInt8} {c : UInt8} (hc : c ∈ l) (h : ¬ isDigit c) : numOf l = none := none_of fun v hv => by
  obtain ⟨a, b, e, _⟩ := numOf_some hv
  have := itoa_digits v a b
  rw [e] at this
  exact h (this.1 c hc)
/-- What digits come to. -/
def val (l : List UInt8) : Nat := l.foldl (fun n c => n * 10 + (c.toNat - 48)) 0
theorem val_snoc (l : List UInt8) (c : UInt8) : val (l ++ [c]) = val l * 10 + (c.toNat - 48) := by simp [val, List.foldl_append]
theorem parse_digits (l : List UInt8) : ∀ (acc k : Nat), acc < 10 ^ k → k + l.length ≤ 6 → (∀ c ∈ l, isDigit c) → Lib.parseUint10 acc l = .ok (l.foldl (fun n c => n * 10 + (c.toNat - 48)) acc) ∧ l.foldl (fun n c => n * 10 + (c.toNat - 48)) acc < 10 ^ (k + l.length) := by
  induction l with
  | nil => intro acc k ha _ _; exact ⟨rfl, by simpa using ha⟩
  | cons c r ih =>
    intro acc k ha hk hd
    have hc := hd c (by simp)
    have h6 : (10 : Nat) ^ k ≤ 10 ^ 6 := Nat.pow_le_pow_right (by decide) (by omega)
    have e6 : (10 : Nat) ^ 6 = 1000000 := by decide
    simp only [List.length_cons] at hk
    have h2 := hc.2
    have := ih (acc * 10 + (c.toNat - 48)) (k + 1) (by rw [Nat.pow_succ]; omega) (by omega) (fun x hx => hd x (by simp [hx]))
    simp only [Lib.parseUint10, List.foldl_cons, List.length_cons]
    rw [if_pos (show 48 ≤ c.toNat ∧ c.toNat ≤ 57 from hc), if_neg (by omega), if_neg (by omega)]
    rw [show k + (r.length + 1) = k + 1 + r.length by omega]
    exact this
theorem atoi_digits (l : List UInt8) (h0 : 0 < l.length) (h6 : l.length ≤ 6) (hd : ∀ c ∈ l, isDigit c) : Lib.atoiAll l = .ok ((val l : Nat) : Int) ∧ val l ≤ 999999 := by
  have hp := parse_digits l 0 0 (by decide) (by omega) hd
  have hv : val l ≤ 999999 := by
    have h1 : val l < 10 ^ (0 + l.length) := hp.2
    have h2 : (10 : Nat) ^ (0 + l.length) ≤ 10 ^ 6 := Nat.pow_le_pow_right (by decide) (by omega)
    have e6 : (10 : Nat) ^ 6 = 1000000 := by decide
    omega
  refine ⟨?_, hv⟩
  cases l with
  | nil => simp at h0
  | cons c r =>
    have hc := hd c (by simp)
    have n43 : ¬ (c.toNat = 43 ∨ c.toNat = 45) := by have := hc.1; omega
    have n45 : ¬ c.toNat = 45 := by have := hc.1; omega
    simp only [Lib.atoiAll]
    rw [if_neg n43, Lib.parseMag, if_neg (by simp), hp.1]
    simp only [n45]
    show (if _ then _ else if _ then _ else _) = _
    have hv' : val (c :: r) ≤ 999999 := hv
    unfold val at hv'
    rw [if_neg (by omega), if_neg (by simp)]
    rfl
theorem numOf_digits (l : List UInt8) (h0 : 0 < l.length) (h6 : l.length ≤ 6) (hd : ∀ c ∈ l, isDigit c) : numOf l = if Lib.itoa ((val l : Nat) : Int) = l then some ((val l : Nat) : Int) else none := by
  obtain ⟨h1, h2⟩ := atoi_digits l h0 h6 hd
  unfold numOf
  rw [h1]
  show (if _ then _ else _) = _
  by_cases h : Lib.itoa ((val l : Nat) : Int) = l
  · rw [if_pos ⟨by omega, by omega, h⟩, if_pos h]
  · rw [if_neg (fun hh => h hh.2.2), if_neg h]
theorem val_bd (l : List UInt8) (h6 : l.length ≤ 6) (hd : ∀ c ∈ l, isDigit c) : val l ≤ 999999 := by
  have hp := parse_digits l 0 0 (by decide) (by omega) hd
  have h1 : val l < 10 ^ (0 + l.length) := hp.2
  have h2 : (10 : Nat) ^ (0 + l.length) ≤ 10 ^ 6 := Nat.pow_le_pow_right (by decide) (by omega)
  have e6 : (10 : Nat) ^ 6 = 1000000 := by decide
  omega
end Go.Proofs.YtgoalcakfaellajDoor
