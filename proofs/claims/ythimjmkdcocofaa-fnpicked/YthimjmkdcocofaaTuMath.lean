/- Whose turn it is: one step, the steps in turn, why they end. No statement of the seat is proved here. -/
import Derived.Test.YthimjmkdcocofaaTuData
namespace Go.Proofs.Ythimjmkdcocofaa
open Go.RowKit
def nums (zs : List Int) (lo hi : Int) : Bool := decide (zs.length = 3) && zs.all fun z => decide (lo ≤ z ∧ z ≤ hi)
theorem nums_iff {zs : List Int} {lo hi : Int} : nums zs lo hi = true ↔ zs.length = 3 ∧ ∀ z ∈ zs, lo ≤ z ∧ z ≤ hi := by
  unfold nums; simp [List.all_eq_true]
theorem nums_three {zs : List Int} {lo hi : Int} (h : nums zs lo hi = true) : ∃ a b c, zs = [a, b, c] ∧ (lo ≤ a ∧ a ≤ hi) ∧ (lo ≤ b ∧ b ≤ hi) ∧ lo ≤ c ∧ c ≤ hi := by
  obtain ⟨h1, h2⟩ := nums_iff.1 h
  match zs, h1 with
  | [a, b, c], _ => exact ⟨a, b, c, rfl, h2 a (by simp), h2 b (by simp), h2 c (by simp)⟩
def Tu.ok (x : Tu) : Bool := decide (0 ≤ x.who ∧ x.who ≤ 2) && nums x.left 0 1000
def Tu.new : Tu := ⟨0, true, [0, 0, 0]⟩
/-- One agent's turn: what is left to it, and whether it is the one. -/
def Tu.step (x : Tu) (s sh : Int) : Tu × Bool :=
  if s = 0 then (⟨x.who, x.fresh, x.left.set x.who.toNat 0⟩, false)
  else
    let l := if x.fresh then min (x.left.getD x.who.toNat 0 + sh) 1000 else x.left.getD x.who.toNat 0
    if s ≤ l then (⟨x.who, false, x.left.set x.who.toNat (l - s)⟩, true) else (⟨x.who, false, x.left.set x.who.toNat l⟩, false)
def Tu.next (x : Tu) : Tu := ⟨(x.who + 1) % 3, true, x.left⟩
def Tu.at (x : Tu) (ss ws : List Int) (q : Int) : Tu × Bool := x.step (ss.getD x.who.toNat 0) (q * ws.getD x.who.toNat 0)
def pickN (ss ws : List Int) (q : Int) : Nat → Tu → Tu
  | 0, x => x
  | n + 1, x => if (x.at ss ws q).2 = true then (x.at ss ws q).1 else pickN ss ws q n (x.at ss ws q).1.next
def picks (ss ws : List Int) (q : Int) (x : Tu) : Bool := nums ss 0 200 && nums ws 1 4 && decide (1 ≤ q ∧ q ≤ 60) && x.ok
def pick (ss ws : List Int) (q : Int) (x : Tu) : Int × Tu :=
  if picks ss ws q x = true then (if nums ss 0 0 = true then (-1, Tu.new) else ((pickN ss ws q 20000 x).who, pickN ss ws q 20000 x)) else (-1, x)
/-- What all rounds have. -/
structure PickIn (ss ws : List Int) (q : Int) (x : Tu) : Prop where
  hs : nums ss 0 200 = true
  hw : nums ws 1 4 = true
  hq : 1 ≤ q ∧ q ≤ 60
  ok : x.ok = true
  any : nums ss 0 0 = false
theorem picks_in {ss ws : List Int} {q : Int} {x : Tu} (h : picks ss ws q x = true) (k : nums ss 0 0 = false) : PickIn ss ws q x := by
  unfold picks at h
  simp only [Bool.and_eq_true, decide_eq_true_eq] at h
  exact ⟨h.1.1.1, h.1.1.2, h.1.2, h.2, k⟩
def roomOf (s l : Int) : Nat := if 0 < s then (1000 - l).toNat else 0
def distOf (ss : List Int) (x : Tu) : Nat := if 0 < ss.getD x.who.toNat 0 then 0 else if 0 < ss.getD ((x.who + 1) % 3).toNat 0 then 1 else 2
/-- How many steps are still to come at most. -/
def Tu.mu (x : Tu) (ss : List Int) : Nat := 4 * (roomOf (ss.getD 0 0) (x.left.getD 0 0) + roomOf (ss.getD 1 0) (x.left.getD 1 0) + roomOf (ss.getD 2 0) (x.left.getD 2 0)) + distOf ss x + if x.fresh = true then 0 else 8
theorem share_range {q w : Int} (hq : 1 ≤ q ∧ q ≤ 60) (hw : 1 ≤ w ∧ w ≤ 4) : 1 ≤ q * w ∧ q * w ≤ 240 := by
  constructor
  · have := Int.mul_le_mul hq.1 hw.1 (by omega) (by omega); simpa using this
  · have := Int.mul_le_mul hq.2 hw.2 (by omega) (by omega); simpa using this
theorem ok_three {x : Tu} (h : x.ok = true) : ∃ a b c, x.left = [a, b, c] ∧ (0 ≤ a ∧ a ≤ 1000) ∧ (0 ≤ b ∧ b ≤ 1000) ∧ (0 ≤ c ∧ c ≤ 1000) ∧ 0 ≤ x.who ∧ x.who ≤ 2 := by
  unfold Tu.ok at h
  simp only [Bool.and_eq_true, decide_eq_true_eq] at h
  obtain ⟨a, b, c, h1, h2, h3, h4⟩ := nums_three h.2
  exact ⟨a, b, c, h1, h2, h3, h4, h.1⟩
theorem ok_mk {k : Int} {f : Bool} {a b c : Int} (hk : 0 ≤ k ∧ k ≤ 2) (ha : 0 ≤ a ∧ a ≤ 1000) (hb : 0 ≤ b ∧ b ≤ 1000) (hc : 0 ≤ c ∧ c ≤ 1000) : Tu.ok ⟨k, f, [a, b, c]⟩ = true := by
  unfold Tu.ok nums
  simp [hk, ha, hb, hc]
theorem nums_zero {a b c : Int} (ha : 0 ≤ a) (hb : 0 ≤ b) (hc : 0 ≤ c) (h : nums [a, b, c] 0 0 = false) : 0 < a ∨ 0 < b ∨ 0 < c := by
  refine Classical.byContradiction fun hn => ?_
  have h1 : a = 0 := by omega
  have h2 : b = 0 := by omega
  have h3 : c = 0 := by omega
  subst h1 h2 h3
  exact absurd h (by decide)
set_option maxHeartbeats 4000000 in
/-- A step that picks nobody brings the end nearer. -/
theorem step_mu {ss ws : List Int} {q : Int} {x : Tu} (h : PickIn ss ws q x) (hs : (x.at ss ws q).2 = false) : (x.at ss ws q).1.next.mu ss < x.mu ss ∧ PickIn ss ws q (x.at ss ws q).1.next := by
  obtain ⟨s0, s1, s2, rfl, hs0, hs1, hs2⟩ := nums_three h.hs
  obtain ⟨w0, w1, w2, rfl, hw0, hw1, hw2⟩ := nums_three h.hw
  have hz := nums_zero hs0.1 hs1.1 hs2.1 h.any
  obtain ⟨k, f, ls⟩ := x
  obtain ⟨l0, l1, l2, hl, hl0, hl1, hl2, hk⟩ := ok_three h.ok
  have hl' : ls = [l0, l1, l2] := hl
  subst hl'
  have p0 := share_range h.hq hw0
  have p1 := share_range h.hq hw1
  have p2 := share_range h.hq hw2
  obtain ⟨m0, e0⟩ : ∃ m, m = q * w0 := ⟨_, rfl⟩
  obtain ⟨m1, e1⟩ : ∃ m, m = q * w1 := ⟨_, rfl⟩
  obtain ⟨m2, e2⟩ : ∃ m, m = q * w2 := ⟨_, rfl⟩
  have hk3 : k = 0 ∨ k = 1 ∨ k = 2 := by have := hk.1; have := hk.2; simp only at *; omega
  have key : (Tu.at ⟨k, f, [l0, l1, l2]⟩ [s0, s1, s2] [w0, w1, w2] q).1.next.mu [s0, s1, s2] < Tu.mu ⟨k, f, [l0, l1, l2]⟩ [s0, s1, s2] ∧ ((Tu.at ⟨k, f, [l0, l1, l2]⟩ [s0, s1, s2] [w0, w1, w2] q).1.next).ok = true := by
    rcases hk3 with rfl | rfl | rfl
    all_goals
      unfold Tu.at Tu.step at hs ⊢
      simp only [Int.toNat_zero, Int.toNat_one, Int.reduceToNat, List.getD_cons_zero, List.getD_cons_succ, ← e0, ← e1, ← e2] at hs ⊢
      rw [← e0] at p0; rw [← e1] at p1; rw [← e2] at p2
      revert hs
      cases f <;> simp only [if_true, Bool.false_eq_true, if_false] <;> (repeat' split) <;> intro hs <;> first
        | (simp at hs; done)
        | (refine ⟨?_, ok_mk (by simp) (by omega) (by omega) (by omega)⟩
           unfold Tu.mu Tu.next distOf roomOf
           simp
           (repeat' split) <;> omega)
  exact ⟨key.1, h.hs, h.hw, h.hq, key.2, h.any⟩
theorem mu_le {ss : List Int} {x : Tu} (h : x.ok = true) : x.mu ss < 20000 := by
  obtain ⟨a, b, c, hl, ha, hb, hc, hk⟩ := ok_three h
  unfold Tu.mu distOf roomOf
  rw [hl]
  simp
  (repeat' split) <;> omega
theorem pickN_yes {ss ws : List Int} {q : Int} {n : Nat} {x : Tu} (h : (x.at ss ws q).2 = true) : pickN ss ws q (n + 1) x = (x.at ss ws q).1 := by rw [pickN, if_pos h]
theorem pickN_no {ss ws : List Int} {q : Int} {n : Nat} {x : Tu} (h : (x.at ss ws q).2 = false) : pickN ss ws q (n + 1) x = pickN ss ws q n (x.at ss ws q).1.next := by rw [pickN, if_neg (by rw [h]; decide)]
set_option maxHeartbeats 4000000 in
/-- Who is picked: it has something, it isn't fresh; of one that has nothing no more is left. -/
theorem step_got {ss ws : List Int} {q : Int} {x : Tu} (h : PickIn ss ws q x) : (∀ i, ss.getD i 0 = 0 → (x.at ss ws q).1.left.getD i 0 ≤ x.left.getD i 0) ∧ ((x.at ss ws q).2 = true → (x.at ss ws q).1.ok = true ∧ (x.at ss ws q).1.fresh = false ∧ 0 < ss.getD (x.at ss ws q).1.who.toNat 0) := by
  obtain ⟨s0, s1, s2, rfl, hs0, hs1, hs2⟩ := nums_three h.hs
  obtain ⟨w0, w1, w2, rfl, hw0, hw1, hw2⟩ := nums_three h.hw
  obtain ⟨k, f, ls⟩ := x
  obtain ⟨l0, l1, l2, hl, hl0, hl1, hl2, hk⟩ := ok_three h.ok
  have hl' : ls = [l0, l1, l2] := hl
  subst hl'
  have p0 := share_range h.hq hw0
  have p1 := share_range h.hq hw1
  have p2 := share_range h.hq hw2
  obtain ⟨m0, e0⟩ : ∃ m, m = q * w0 := ⟨_, rfl⟩
  obtain ⟨m1, e1⟩ : ∃ m, m = q * w1 := ⟨_, rfl⟩
  obtain ⟨m2, e2⟩ : ∃ m, m = q * w2 := ⟨_, rfl⟩
  have hk3 : k = 0 ∨ k = 1 ∨ k = 2 := by have := hk.1; have := hk.2; simp only at *; omega
  rcases hk3 with rfl | rfl | rfl
  all_goals
    unfold Tu.at Tu.step
    simp only [Int.toNat_zero, Int.toNat_one, Int.reduceToNat, List.getD_cons_zero, List.getD_cons_succ, ← e0, ← e1, ← e2]
    rw [← e0] at p0; rw [← e1] at p1; rw [← e2] at p2
    constructor
    · intro i hi
      match i, hi with
      | 0, hi => cases f <;> simp only [if_true, Bool.false_eq_true, if_false] <;> (repeat' split) <;> simp at hi ⊢ <;> omega
      | 1, hi => cases f <;> simp only [if_true, Bool.false_eq_true, if_false] <;> (repeat' split) <;> simp at hi ⊢ <;> omega
      | 2, hi => cases f <;> simp only [if_true, Bool.false_eq_true, if_false] <;> (repeat' split) <;> simp at hi ⊢ <;> omega
      | i + 3, hi => cases f <;> simp only [if_true, Bool.false_eq_true, if_false] <;> (repeat' split) <;> simp
    · cases f <;> simp only [if_true, Bool.false_eq_true, if_false] <;> (repeat' split) <;> intro hy <;> first
        | (simp at hy; done)
        | (exact ⟨ok_mk (by simp) (by omega) (by omega) (by omega), rfl, by simp; omega⟩)
theorem pickN_got {ss ws : List Int} {q : Int} : ∀ (n : Nat) {x : Tu}, PickIn ss ws q x → x.mu ss < n → (pickN ss ws q n x).ok = true ∧ (pickN ss ws q n x).fresh = false ∧ 0 < ss.getD (pickN ss ws q n x).who.toNat 0 ∧ ∀ i, ss.getD i 0 = 0 → (pickN ss ws q n x).left.getD i 0 ≤ x.left.getD i 0
  | 0, x, _, hm => by omega
  | n + 1, x, h, hm => by
    obtain ⟨g1, g2⟩ := step_got h
    cases hs : (x.at ss ws q).2
    · rw [pickN_no hs]
      obtain ⟨m1, m2⟩ := step_mu h hs
      obtain ⟨r1, r2, r3, r4⟩ := pickN_got n m2 (by omega)
      exact ⟨r1, r2, r3, fun i hi => Int.le_trans (r4 i hi) (g1 i hi)⟩
    · rw [pickN_yes hs]
      obtain ⟨r1, r2, r3⟩ := g2 hs
      exact ⟨r1, r2, r3, g1⟩
end Go.Proofs.Ythimjmkdcocofaa
