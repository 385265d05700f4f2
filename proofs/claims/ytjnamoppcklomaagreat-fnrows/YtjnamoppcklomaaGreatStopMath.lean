/- Chapter 2 over whole numbers: sums that stop, binary digits, buckets, noughts at the end. No statement of the seat is proved here. -/
import Derived.WalkKit
import Derived.Laws.BitsAllLaws
namespace Go.Proofs.YtjnamoppcklomaaGreat
open Go.RowKit
def clip (n m : Int) : Int := if n < 0 then 0 else if m < n then m else n
def addN (a b : Int) : Int := if 1000000000 < clip a 1000000000 + clip b 1000000000 then 1000000000 else clip a 1000000000 + clip b 1000000000
theorem clip_range (n m : Int) (h : 0 ≤ m) : 0 ≤ clip n m ∧ clip n m ≤ m := by
 unfold clip
 by_cases h1 : n < 0 <;> by_cases h2 : m < n <;> simp only [h1, h2, if_true, if_false] <;> omega
theorem clip_id (n m : Int) (h0 : 0 ≤ n) (h1 : n ≤ m) : clip n m = n := by unfold clip; rw [if_neg (by omega), if_neg (by omega)]
theorem addN_range (a b : Int) : 0 ≤ addN a b ∧ addN a b ≤ 1000000000 := by
 have h1 := clip_range a 1000000000 (by omega)
 have h2 := clip_range b 1000000000 (by omega)
 unfold addN; split <;> omega
theorem addN_comm (a b : Int) : addN a b = addN b a := by
 unfold addN; rw [Int.add_comm]
theorem addN_assoc (a b d : Int) : addN (addN a b) d = addN a (addN b d) := by
 have e1 := clip_id (addN a b) 1000000000 (addN_range a b).1 (addN_range a b).2
 have e2 := clip_id (addN b d) 1000000000 (addN_range b d).1 (addN_range b d).2
 have h1 := clip_range a 1000000000 (by omega)
 have h2 := clip_range b 1000000000 (by omega)
 have h3 := clip_range d 1000000000 (by omega)
 unfold addN at e1 e2 ⊢
 rw [e1, e2]
 generalize clip a 1000000000 = x at *
 generalize clip b 1000000000 = y at *
 generalize clip d 1000000000 = z at *
 clear e1 e2
 by_cases c1 : 1000000000 < x + y
 ·
  rw [if_pos c1]
  by_cases c2 : 1000000000 < y + z
  ·
   rw [if_pos c2]; split <;> split <;> omega
  ·
   rw [if_neg c2]; split <;> split <;> omega
 ·
  rw [if_neg c1]
  by_cases c2 : 1000000000 < y + z
  ·
   rw [if_pos c2]; split <;> split <;> omega
  ·
   rw [if_neg c2]; split <;> split <;> omega
def pre (n : Int) : Int := (clip n 1000000 * 40503 + 12345) % 65536
def mixN (n : Int) : Int := bits .xor .i64 (pre n) (pre n / 256)
theorem pre_range (n : Int) : 0 ≤ pre n ∧ pre n < 65536 := by unfold pre; omega
theorem xor64s (a b : Nat) (ha : a < 65536) (hb : b < 65536) : bits .xor .i64 (a : Int) (b : Int) = ((a ^^^ b : Nat) : Int) ∧ a ^^^ b < 65536 := by
 have hx : a ^^^ b < 65536 := Nat.xor_lt_two_pow (n := 16) ha hb
 refine ⟨?_, hx⟩
 have ea : (BitVec.ofInt 64 (a : Int)).toNat = a := by rw [BitVec.toNat_ofInt]; omega
 have eb : (BitVec.ofInt 64 (b : Int)).toNat = b := by rw [BitVec.toNat_ofInt]; omega
 have e : ((BitVec.ofInt 64 (a : Int)) ^^^ (BitVec.ofInt 64 (b : Int))).toNat = a ^^^ b := by
  rw [BitVec.toNat_xor, ea, eb]
 show IntKind.i64.wrap (((BitVec.ofInt 64 (a : Int)) ^^^ (BitVec.ofInt 64 (b : Int))).toNat : Int) = _
 rw [e]
 generalize a ^^^ b = c at *
 simp [IntKind.wrap, IntKind.bits, IntKind.signed]
 omega
theorem mixN_range (n : Int) : 0 ≤ mixN n ∧ mixN n < 65536 := by
 obtain ⟨h0, h1⟩ := pre_range n
 unfold mixN
 generalize pre n = x at *
 obtain ⟨a, rfl⟩ := Int.eq_ofNat_of_zero_le h0
 have e : (a : Int) / 256 = ((a / 256 : Nat) : Int) := by omega
 rw [e]
 have := xor64s a (a / 256) (by omega) (by omega)
 rw [this.1]; omega
def digs (n : Nat) : Nat := if n = 0 then 0 else digs (n / 2) + 1
 termination_by n
 decreasing_by omega
theorem digs_zero : digs 0 = 0 := by rw [digs]; simp
theorem digs_pos (n : Nat) (h : 0 < n) : digs n = digs (n / 2) + 1 := by rw [digs, if_neg (by omega)]
theorem digs_lt (n : Nat) : ∀ k, k < digs n ↔ 0 < n / 2 ^ k := by
 induction n using digs.induct with
 | case1 => intro k; rw [digs_zero]; simp
 | case2 n h ih =>
  intro k
  rw [digs_pos n (by omega)]
  cases k with
  | zero => simp; omega
  | succ k =>
   have e : n / 2 ^ (k + 1) = n / 2 / 2 ^ k := by rw [Nat.pow_succ, Nat.mul_comm, Nat.div_div_eq_div_mul]
   rw [e, ← ih k]; omega
theorem digs_le (n k : Nat) : k < digs n ↔ 2 ^ k ≤ n := by
 rw [digs_lt, Nat.div_pos_iff]
 have : 0 < 2 ^ k := Nat.two_pow_pos k
 exact ⟨fun h => h.2, fun h => ⟨this, h⟩⟩
theorem digs_top (n : Nat) (h : n ≤ 1000000) : digs n ≤ 20 := by
 rcases Nat.lt_or_ge 20 (digs n) with h' | h'
 ·
  have := (digs_le n 20).1 h'; omega
 ·
  exact h'
def bucketN (v : Int) : Int := ((digs (clip v 1000000).toNat + 2) / 3 : Nat)
theorem bucketN_range (v : Int) : 0 ≤ bucketN v ∧ bucketN v < 8 := by
 have h := clip_range v 1000000 (by omega)
 have := digs_top (clip v 1000000).toNat (by omega)
 unfold bucketN; omega
def rk (x : Nat) : Nat := if x = 0 then 17 else if x % 2 = 1 then 1 else rk (x / 2) + 1
 termination_by x
 decreasing_by omega
theorem rk_zero : rk 0 = 17 := by rw [rk]; simp
theorem rk_odd (x : Nat) (h : x % 2 = 1) : rk x = 1 := by rw [rk, if_neg (by omega), if_pos h]
theorem rk_even (x : Nat) (h0 : 0 < x) (h : ¬ x % 2 = 1) : rk x = rk (x / 2) + 1 := by rw [rk, if_neg (by omega), if_neg h]
theorem rk_top (x : Nat) : ∀ k, 0 < x → x < 2 ^ k → 1 ≤ rk x ∧ rk x ≤ k := by
 induction x using rk.induct with
 | case1 => intro k h; omega
 | case2 x h0 h =>
  intro k _ hk
  rw [rk_odd x h]
  cases k with
  | zero => simp at hk; omega
  | succ k => omega
 | case3 x h0 h ih =>
  intro k _ hk
  cases k with
  | zero => simp at hk; omega
  | succ k =>
   rw [Nat.pow_succ] at hk
   have := ih k (by omega) (by omega)
   rw [rk_even x (by omega) h]
   omega
def rankN (n : Int) : Int := (rk (mixN n).toNat : Nat)
end Go.Proofs.YtjnamoppcklomaaGreat
