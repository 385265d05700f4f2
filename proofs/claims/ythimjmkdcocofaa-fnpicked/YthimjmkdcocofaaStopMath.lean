/- Chapter 2 over whole numbers: sums that stop, binary digits, buckets, noughts at the end. No statement of the seat is proved here. -/
import Derived.WalkKit
import Derived.Laws.BitsAllLaws
namespace Go.Proofs.Ythimjmkdcocofaa
open Go.RowKit

def clip (n m : Int) : Int := if n < 0 then 0 else if m < n then m else n
def addN (a b : Int) : Int := if 1000000000 < clip a 1000000000 + clip b 1000000000 then 1000000000 else clip a 1000000000 + clip b 1000000000
theorem clip_range (n m : Int) (h : 0 ≤ m) : 0 ≤ clip n m ∧ clip n m ≤ m := by
  unfold clip
  by_cases h1 : n < 0 <;> by_cases h2 : m < n <;> simp only [h1, h2, if_true, if_false] <;> omega
theorem clip_mono (a b m : Int) (hm : 0 ≤ m) (h : a ≤ b) : clip a m ≤ clip b m := by
  unfold clip
  by_cases h1 : a < 0 <;> by_cases h2 : b < 0 <;> by_cases h3 : m < a <;> by_cases h4 : m < b <;> simp only [h1, h2, h3, h4, if_true, if_false] <;> omega
theorem clip_id (n m : Int) (h0 : 0 ≤ n) (h1 : n ≤ m) : clip n m = n := by unfold clip; rw [if_neg (by omega), if_neg (by omega)]
theorem addN_range (a b : Int) : 0 ≤ addN a b ∧ addN a b ≤ 1000000000 := by
  have h1 := clip_range a 1000000000 (by omega)
  have h2 := clip_range b 1000000000 (by omega)
  unfold addN; split <;> omega
theorem addN_comm (a b : Int) : addN a b = addN b a := by
  unfold addN; rw [Int.add_comm]
theorem addN_assoc (a b d : Int) : addN (addN a b) d = addN a (addN b d) := by
  have e1 := clip_id (addN a b) 1000000000 (addN_range a b).1 (addN_range a b).2
  have e2 := clip_id (addN b d) 1000000000 (addN_range b d).1 (addN_range b d).2
  have h1 := clip_range a 1000000000 (by omega)
  have h2 := clip_range b 1000000000 (by omega)
  have h3 := clip_range d 1000000000 (by omega)
  unfold addN at e1 e2 ⊢
  rw [e1, e2]
  generalize clip a 1000000000 = x at *
  generalize clip b 1000000000 = y at *
  generalize clip d 1000000000 = z at *
  clear e1 e2
  by_cases c1 : 1000000000 < x + y
  · rw [if_pos c1]
    by_cases c2 : 1000000000 < y + z
    · rw [if_pos c2]; split <;> split <;> omega
    · rw [if_neg c2]; split <;> split <;> omega
  · rw [if_neg c1]
    by_cases c2 : 1000000000 < y + z
    · rw [if_pos c2]; split <;> split <;> omega
    · rw [if_neg c2]; split <;> split <;> omega

/-! ### the mixed number -/
def pre (n : Int) : Int := (clip n 1000000 * 40503 + 12345) % 65536
def mixN (n : Int) : Int := bits .xor .i64 (pre n) (pre n / 256)
theorem pre_range (n : Int) : 0 ≤ pre n ∧ pre n < 65536 := by unfold pre; omega
theorem xor64s (a b : Nat) (ha : a < 65536) (hb : b < 65536) : bits .xor .i64 (a : Int) (b : Int) = ((a ^^^ b : Nat) : Int) ∧ a ^^^ b < 65536 := by
  have hx : a ^^^ b < 65536 := Nat.xor_lt_two_pow (n := 16) ha hb
  refine ⟨?_, hx⟩
  have ea : (BitVec.ofInt 64 (a : Int)).toNat = a := by rw [BitVec.toNat_ofInt]; omega
  have eb : (BitVec.ofInt 64 (b : Int)).toNat = b := by rw [BitVec.toNat_ofInt]; omega
  have e : ((BitVec.ofInt 64 (a : Int)) ^^^ (BitVec.ofInt 64 (b : Int))).toNat = a ^^^ b := by
    rw [BitVec.toNat_xor, ea, eb]
  show IntKind.i64.wrap (((BitVec.ofInt 64 (a : Int)) ^^^ (BitVec.ofInt 64 (b : Int))).toNat : Int) = _
  rw [e]
  generalize a ^^^ b = c at *
  simp [IntKind.wrap, IntKind.bits, IntKind.signed]
  omega
theorem mixN_range (n : Int) : 0 ≤ mixN n ∧ mixN n < 65536 := by
  obtain ⟨h0, h1⟩ := pre_range n
  unfold mixN
  generalize pre n = x at *
  obtain ⟨a, rfl⟩ := Int.eq_ofNat_of_zero_le h0
  have e : (a : Int) / 256 = ((a / 256 : Nat) : Int) := by omega
  rw [e]
  have := xor64s a (a / 256) (by omega) (by omega)
  rw [this.1]; omega

/-! ### binary digits -/
def digs (n : Nat) : Nat := if n = 0 then 0 else digs (n / 2) + 1
  termination_by n
  decreasing_by omega
theorem digs_zero : digs 0 = 0 := by rw [digs]; simp
theorem digs_pos (n : Nat) (h : 0 < n) : digs n = digs (n / 2) + 1 := by rw [digs, if_neg (by omega)]
theorem digs_lt (n : Nat) : ∀ k, k < digs n ↔ 0 < n / 2 ^ k := by
  induction n using digs.induct with
  | case1 => intro k; rw [digs_zero]; simp
  | case2 n h ih =>
    intro k
    rw [digs_pos n (by omega)]
    cases k with
    | zero => simp; omega
    | succ k =>
      have e : n / 2 ^ (k + 1) = n / 2 / 2 ^ k := by rw [Nat.pow_succ, Nat.mul_comm, Nat.div_div_eq_div_mul]
      rw [e, ← ih k]; omega
theorem digs_le (n k : Nat) : k < digs n ↔ 2 ^ k ≤ n := by
  rw [digs_lt, Nat.div_pos_iff]
  have : 0 < 2 ^ k := Nat.two_pow_pos k
  exact ⟨fun h => h.2, fun h => ⟨this, h⟩⟩
theorem digs_mono (a b : Nat) (h : a ≤ b) : digs a ≤ digs b := by
  rcases Nat.lt_or_ge (digs b) (digs a) with h' | h'
  · have h1 := (digs_le a (digs b)).1 h'
    have h2 := (digs_le b (digs b)).2 (by omega)
    omega
  · exact h'
theorem digs_top (n : Nat) (h : n ≤ 1000000) : digs n ≤ 20 := by
  rcases Nat.lt_or_ge 20 (digs n) with h' | h'
  · have := (digs_le n 20).1 h'; omega
  · exact h'
def bucketN (v : Int) : Int := ((digs (clip v 1000000).toNat + 2) / 3 : Nat)
theorem bucketN_range (v : Int) : 0 ≤ bucketN v ∧ bucketN v < 8 := by
  have h := clip_range v 1000000 (by omega)
  have := digs_top (clip v 1000000).toNat (by omega)
  unfold bucketN; omega
theorem bucketN_mono (a b : Int) (h : a ≤ b) : bucketN a ≤ bucketN b := by
  have h1 := clip_mono a b 1000000 (by omega) h
  have := digs_mono (clip a 1000000).toNat (clip b 1000000).toNat (by omega)
  unfold bucketN; omega
def lowN (k : Int) : Int := if k = 0 then 0 else if k = 1 then 1 else if k = 2 then 8 else if k = 3 then 64 else if k = 4 then 512 else if k = 5 then 4096 else if k = 6 then 32768 else if k = 7 then 262144 else -1
theorem digs_eq (n k : Nat) (h0 : 2 ^ k ≤ n) (h1 : n < 2 ^ (k + 1)) : digs n = k + 1 := by
  have a := (digs_le n k).2 h0
  have b : ¬ k + 1 < digs n := fun h => by have := (digs_le n (k + 1)).1 h; omega
  omega
theorem bucketN_nat (n : Nat) (h : n ≤ 1000000) : bucketN (n : Int) = ((digs n + 2) / 3 : Nat) := by
  unfold bucketN; rw [clip_id _ _ (by omega) (by omega)]; rfl
theorem low_parts (a : Int) (h0 : 0 ≤ a) (h1 : a ≤ 1000000) : lowN (bucketN a) ≤ a ∧ bucketN (lowN (bucketN a)) = bucketN a ∧ (bucketN a + 1 < 8 → a < lowN (bucketN a + 1)) := by
  obtain ⟨n, rfl⟩ := Int.eq_ofNat_of_zero_le h0
  have hr := bucketN_range (n : Int)
  have hb := bucketN_nat n (by omega)
  have hlt : ∀ k, bucketN (n : Int) ≤ (k : Nat) → n < 2 ^ (3 * k) := by
    intro k hk
    rcases Nat.lt_or_ge n (2 ^ (3 * k)) with h | h
    · exact h
    · have := (digs_le n (3 * k)).2 h; omega
  have hge : ∀ k, (k : Nat) + 1 ≤ bucketN (n : Int) → 2 ^ (3 * k) ≤ n := by
    intro k hk
    exact (digs_le n (3 * k)).1 (by omega)
  have hp : ∀ k : Nat, 2 ^ (3 * k) ≤ 1000000 → bucketN ((2 ^ (3 * k) : Nat) : Int) = k + 1 := by
    intro k hk
    rw [bucketN_nat _ hk, digs_eq (2 ^ (3 * k)) (3 * k) (Nat.le_refl _) (by rw [Nat.pow_succ]; have := Nat.two_pow_pos (3 * k); omega)]
    omega
  generalize bucketN (n : Int) = q at *
  clear hb
  have hq : q = 0 ∨ q = 1 ∨ q = 2 ∨ q = 3 ∨ q = 4 ∨ q = 5 ∨ q = 6 ∨ q = 7 := by omega
  rcases hq with rfl | rfl | rfl | rfl | rfl | rfl | rfl | rfl
  · have a := hlt 0 (by omega); have z : bucketN 0 = 0 := by rw [show (0 : Int) = ((0 : Nat) : Int) from rfl, bucketN_nat 0 (by omega), digs_zero]
    refine ⟨by simp [lowN], by simpa [lowN] using z, fun _ => by simp [lowN]; simp at a; omega⟩
  · have a := hlt 1 (by omega); have b := hge 0 (by omega); have z := hp 0 (by omega)
    refine ⟨by simp [lowN]; simp at b; omega, by simpa [lowN] using z, fun _ => by simp [lowN]; simp at a; omega⟩
  · have a := hlt 2 (by omega); have b := hge 1 (by omega); have z := hp 1 (by omega)
    refine ⟨by simp [lowN]; simp at b; omega, by simpa [lowN] using z, fun _ => by simp [lowN]; simp at a; omega⟩
  · have a := hlt 3 (by omega); have b := hge 2 (by omega); have z := hp 2 (by omega)
    refine ⟨by simp [lowN]; simp at b; omega, by simpa [lowN] using z, fun _ => by simp [lowN]; simp at a; omega⟩
  · have a := hlt 4 (by omega); have b := hge 3 (by omega); have z := hp 3 (by omega)
    refine ⟨by simp [lowN]; simp at b; omega, by simpa [lowN] using z, fun _ => by simp [lowN]; simp at a; omega⟩
  · have a := hlt 5 (by omega); have b := hge 4 (by omega); have z := hp 4 (by omega)
    refine ⟨by simp [lowN]; simp at b; omega, by simpa [lowN] using z, fun _ => by simp [lowN]; simp at a; omega⟩
  · have a := hlt 6 (by omega); have b := hge 5 (by omega); have z := hp 5 (by omega)
    refine ⟨by simp [lowN]; simp at b; omega, by simpa [lowN] using z, fun _ => by simp [lowN]; simp at a; omega⟩
  · have b := hge 6 (by omega); have z := hp 6 (by omega)
    refine ⟨by simp [lowN]; simp at b; omega, by simpa [lowN] using z, fun h => by omega⟩

/-! ### noughts at the end -/
def rk (x : Nat) : Nat := if x = 0 then 17 else if x % 2 = 1 then 1 else rk (x / 2) + 1
  termination_by x
  decreasing_by omega
theorem rk_zero : rk 0 = 17 := by rw [rk]; simp
theorem rk_odd (x : Nat) (h : x % 2 = 1) : rk x = 1 := by rw [rk, if_neg (by omega), if_pos h]
theorem rk_even (x : Nat) (h0 : 0 < x) (h : ¬ x % 2 = 1) : rk x = rk (x / 2) + 1 := by rw [rk, if_neg (by omega), if_neg h]
theorem rk_top (x : Nat) : ∀ k, 0 < x → x < 2 ^ k → 1 ≤ rk x ∧ rk x ≤ k := by
  induction x using rk.induct with
  | case1 => intro k h; omega
  | case2 x h0 h =>
    intro k _ hk
    rw [rk_odd x h]
    cases k with
    | zero => simp at hk; omega
    | succ k => omega
  | case3 x h0 h ih =>
    intro k _ hk
    cases k with
    | zero => simp at hk; omega
    | succ k =>
      rw [Nat.pow_succ] at hk
      have := ih k (by omega) (by omega)
      rw [rk_even x (by omega) h]
      omega
def rankN (n : Int) : Int := (rk (mixN n).toNat : Nat)
theorem rankN_range (n : Int) : 1 ≤ rankN n ∧ rankN n ≤ 17 := by
  have h := mixN_range n
  unfold rankN
  generalize mixN n = x at *
  by_cases h0 : x = 0
  · subst h0; rw [show (0 : Int).toNat = 0 from rfl, rk_zero]; omega
  · have := rk_top x.toNat 16 (by omega) (by omega)
    omega
end Go.Proofs.Ythimjmkdcocofaa
