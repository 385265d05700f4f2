/- How many numbers a set has. No statement of the seat is proved here. -/
import Derived.Test.YtillnoeailnnfaaSpAlg
namespace Go.Proofs.Ytillnoeailnnfaa
open Go.RowKit
/-- How many of the first N numbers f picks. -/
def cnt (f : Int → Bool) : Nat → Int
  | 0 => 0
  | k + 1 => cnt f k + if f k then 1 else 0
theorem cnt_nonneg (f : Int → Bool) : ∀ N, 0 ≤ cnt f N
  | 0 => Int.le_refl _
  | k + 1 => by have := cnt_nonneg f k; rw [cnt]; split <;> omega
theorem cnt_or (f g : Int → Bool) : ∀ N, cnt (fun n => f n || g n) N + cnt (fun n => f n && g n) N = cnt f N + cnt g N
  | 0 => rfl
  | k + 1 => by
    have := cnt_or f g k
    simp only [cnt]
    by_cases hf : f k = true <;> by_cases hg : g k = true <;> simp [hf, hg] <;> omega
theorem cnt_zero {f : Int → Bool} : ∀ {N : Nat}, cnt f N = 0 ↔ ∀ k : Nat, k < N → f k = false
  | 0 => ⟨fun _ k hk => by omega, fun _ => rfl⟩
  | N + 1 => by
    have h0 := cnt_nonneg f N
    have ih := cnt_zero (f := f) (N := N)
    rw [cnt]
    constructor
    · intro h k hk
      cases hf : f N with
      | true => rw [hf] at h; simp at h; omega
      | false =>
        rw [hf] at h
        by_cases c : k = N
        · subst c; exact hf
        · exact ih.1 (by simpa using h) k (by omega)
    · intro h
      rw [ih.2 (fun k hk => h k (by omega)), h N (by omega)]
      rfl
theorem cnt_congr {f g : Int → Bool} : ∀ {N : Nat}, (∀ k : Nat, k < N → f k = g k) → cnt f N = cnt g N
  | 0, _ => rfl
  | N + 1, h => by rw [cnt, cnt, cnt_congr (fun k hk => h k (by omega)), h N (by omega)]
theorem cnt_span (lo hi : Int) (h0 : 0 ≤ lo) (h1 : lo ≤ hi + 1) : ∀ N : Nat, hi < N ∨ (N : Int) ≤ hi + 1 → cnt (fun n => decide (lo ≤ n ∧ n ≤ hi)) N = max 0 (min (N : Int) (hi + 1) - lo)
  | 0, _ => by simp only [cnt]; omega
  | N + 1, h => by
    have ih := cnt_span lo hi h0 h1 N (by omega)
    rw [cnt, ih]
    by_cases c : lo ≤ (N : Int) ∧ (N : Int) ≤ hi
    · rw [decT c, if_pos rfl]; omega
    · rw [decF c, if_neg (by simp)]; omega
theorem sum_cnt : ∀ {ps : Sp} {l : Int}, okFrom l ps → 0 ≤ l → ∀ N : Nat, 9999 < N → Sp.sum ps = cnt (Sp.has ps) N
  | [], _, _, _, N, _ => by
    rw [cnt_zero.2 (fun k _ => has_nil k)]; rfl
  | p :: ps, l, h, h0, N, hN => by
    obtain ⟨⟨a1, a2, a3⟩, a4⟩ := h
    have ih := sum_cnt a4 (by omega) N hN
    have e := cnt_or (fun n => decide (p.1 ≤ n ∧ n ≤ p.2)) (Sp.has ps) N
    have z : cnt (fun n => decide (p.1 ≤ n ∧ n ≤ p.2) && Sp.has ps n) N = 0 := cnt_zero.2 (fun k _ => by
      cases hb : Sp.has ps k with
      | false => simp
      | true =>
        have := inS_ge a4 hb
        rw [decF (by omega)]
        rfl)
    have c := cnt_span p.1 p.2 (by omega) (by omega) N (by omega)
    have s : Sp.sum (p :: ps) = (p.2 - p.1 + 1) + Sp.sum ps := by simp [Sp.sum]
    have e2 : cnt (Sp.has (p :: ps)) N = cnt (fun n => decide (p.1 ≤ n ∧ n ≤ p.2) || Sp.has ps n) N := rfl
    rw [s, e2, ih]
    omega
theorem size_cnt {ps : Sp} (h : ps.ok = true) : ps.size = cnt ps.has 10000 := by
  rw [Sp.size_ok h]
  exact sum_cnt (ok_iff.1 h) (Int.le_refl _) 10000 (by omega)
theorem join_right {a b : Sp} (ha : a.ok = true) (hb : b.ok = true) : (a.join b).ok = true ∧ ∀ n, (a.join b).has n = (a.has n || b.has n) := by
  rw [Sp.join_yes ha hb]
  obtain ⟨j1, j2⟩ := join_ok (ok_iff.1 ha) (ok_iff.1 hb)
  refine ⟨ok_iff.2 j1, fun n => ?_⟩
  have := j2 n
  unfold InS at this
  rw [Bool.eq_iff_iff, this, Bool.or_eq_true]
theorem join_comm {a b : Sp} (ha : a.ok = true) (hb : b.ok = true) : a.join b = b.join a := by
  obtain ⟨i1, i2⟩ := join_right ha hb
  obtain ⟨j1, j2⟩ := join_right hb ha
  exact sp_ext (ok_iff.1 i1) (ok_iff.1 j1) (fun n => by unfold InS; rw [i2, j2, Bool.or_comm])
theorem noMeet_iff {a b : Sp} (ha : okFrom 0 a) (hb : okFrom 0 b) : noMeet a b = true ↔ ∀ n, (a.has n && b.has n) = false := by
  unfold noMeet
  simp only [List.all_eq_true]
  constructor
  · intro h n
    rw [Bool.and_eq_false_iff]
    cases h1 : a.has n with
    | false => exact .inl rfl
    | true =>
      right
      cases h2 : b.has n with
      | false => rfl
      | true =>
        exfalso
        unfold Sp.has at h1 h2
        rw [List.any_eq_true] at h1 h2
        obtain ⟨p, hp, e1⟩ := h1
        obtain ⟨q, hq, e2⟩ := h2
        have e1 := of_decide_eq_true e1
        have e2 := of_decide_eq_true e2
        have := h p hp q hq
        unfold meet at this
        rw [decT (by omega)] at this
        cases this
  · intro h p hp q hq
    have h1 := okFrom_mem ha p hp
    have h2 := okFrom_mem hb q hq
    cases hm : meet p q with
    | false => rfl
    | true =>
      unfold meet at hm
      have hm := of_decide_eq_true hm
      have e1 : a.has (max p.1 q.1) = true := by unfold Sp.has; rw [List.any_eq_true]; exact ⟨p, hp, decT (by omega)⟩
      have e2 : b.has (max p.1 q.1) = true := by unfold Sp.has; rw [List.any_eq_true]; exact ⟨q, hq, decT (by omega)⟩
      have := h (max p.1 q.1)
      rw [e1, e2] at this
      cases this
theorem join_size {a b : Sp} (ha : a.ok = true) (hb : b.ok = true) : (a.join b).size ≤ a.size + b.size ∧ (a.apart b = true ↔ (a.join b).size = a.size + b.size) := by
  obtain ⟨j1, j2⟩ := join_right ha hb
  rw [size_cnt j1, size_cnt ha, size_cnt hb, cnt_congr (g := fun n => a.has n || b.has n) (fun k _ => j2 k)]
  have e := cnt_or a.has b.has 10000
  have z := cnt_nonneg (fun n => a.has n && b.has n) 10000
  refine ⟨by omega, ?_⟩
  rw [apart_eq, ha, hb]
  simp only [Bool.and_self, Bool.true_and]
  rw [noMeet_iff (ok_iff.1 ha) (ok_iff.1 hb)]
  constructor
  · intro h
    have : cnt (fun n => a.has n && b.has n) 10000 = 0 := cnt_zero.2 (fun k _ => h k)
    omega
  · intro h n
    have hz : cnt (fun n => a.has n && b.has n) 10000 = 0 := by omega
    by_cases c : 0 ≤ n ∧ n ≤ 9999
    · have := cnt_zero.1 hz n.toNat (by omega)
      rw [show ((n.toNat : Nat) : Int) = n by omega] at this
      exact this
    · rw [Bool.and_eq_false_iff]
      left
      cases h1 : a.has n with
      | false => rfl
      | true =>
        exfalso
        have x1 := inS_ge (ok_iff.1 ha) h1
        have x2 := inS_le (ok_iff.1 ha) h1
        exact c ⟨x1, x2⟩
theorem add_right {a : Sp} {n : Int} (h : (a.add n).2 = true) : (a.add n).1.has n = true ∧ (a.add n).1.size = a.size + 1 ∧ a.has n = false := by
  by_cases c : a.ok = true ∧ (0 ≤ n ∧ n ≤ 9999) ∧ a.has n = false
  · obtain ⟨c1, c2, c3⟩ := c
    rw [Sp.add_yes c1 c2 c3]
    obtain ⟨j1, j2⟩ := put_ok (x := (n, n)) (ok_iff.1 c1) c2.1 (Int.le_refl _) c2.2
    refine ⟨(j2 n).2 (.inr ⟨Int.le_refl _, Int.le_refl _⟩), ?_, c3⟩
    rw [size_cnt (ok_iff.2 j1), size_cnt c1]
    have e := cnt_or a.has (fun m => decide (n ≤ m ∧ m ≤ n)) 10000
    have z : cnt (fun m => a.has m && decide (n ≤ m ∧ m ≤ n)) 10000 = 0 := cnt_zero.2 (fun k _ => by
      by_cases e : (k : Int) = n
      · rw [e, c3]; rfl
      · rw [decF (by omega), Bool.and_false])
    have s := cnt_span n n c2.1 (by omega) 10000 (by omega)
    have g : cnt (put a (n, n) false).has 10000 = cnt (fun m => a.has m || decide (n ≤ m ∧ m ≤ n)) 10000 := cnt_congr (fun k _ => by
      have := j2 (k : Int)
      unfold InS at this
      rw [Bool.eq_iff_iff, this, Bool.or_eq_true, decide_eq_true_eq])
    rw [g]
    omega
  · rw [Sp.add_not c] at h
    cases h
end Go.Proofs.Ytillnoeailnnfaa
