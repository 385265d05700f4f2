/- Several texts of mine, laid together. No statement of the seat is proved here. -/
import Derived.Test.YtbmbmnhamogghabB1
import Derived.Test.YtbmbmnhamogghabB2
import Derived.Deep.QuietTactic
import Derived.BigQuiet
/- The walks through chapter 2: the program's functions and the model's. No statement of the seat is proved here. -/
namespace Go.Proofs.Ytbmbmnhamogghab
open Go.RowKit

set_option maxRecDepth 200000 in
theorem within_any (n m : Int) (w : World) (hm : 0 ≤ m) : Calls Try.prog 80 #[.int .i64 n, .int .i64 m] w fun e w' => e = .returned (.int .i64 (clip n m)) ∧ w' = w := by
  go_enter Try.func80, Try.ntmps80
  go_wp2
  all_goals
    go_ret
    refine ⟨ret_int ?_, rfl⟩
    unfold clip
    by_cases h1 : n < 0 <;> by_cases h2 : m < n <;> simp only [h1, h2, if_true, if_false] <;> omega
set_option maxRecDepth 200000 in
theorem l1Max_any (a b : Int) (w : World) : Calls Try.prog 85 #[.int .i64 a, .int .i64 b] w fun e w' => e = .returned (.int .i64 (max a b)) ∧ w' = w := by
  by_cases h : a > b
  · go_enter Try.func85, Try.ntmps85
    go_wp2
    go_ret
    exact ⟨ret_int (by omega), rfl⟩
  · go_enter Try.func85, Try.ntmps85
    go_wp2
    go_ret
    exact ⟨ret_int (by omega), rfl⟩
set_option maxRecDepth 200000 in
theorem l1Min_any (a b : Int) (w : World) : Calls Try.prog 84 #[.int .i64 a, .int .i64 b] w fun e w' => e = .returned (.int .i64 (min a b)) ∧ w' = w := by
  by_cases h : a < b
  · go_enter Try.func84, Try.ntmps84
    go_wp2
    go_ret
    exact ⟨ret_int (by omega), rfl⟩
  · go_enter Try.func84, Try.ntmps84
    go_wp2
    go_ret
    exact ⟨ret_int (by omega), rfl⟩
set_option maxRecDepth 200000 in
theorem l2Clip_any (n m : Int) (w : World) (hm : 0 ≤ m) : Calls Try.prog 92 #[.int .i64 n, .int .i64 m] w fun e w' => e = .returned (.int .i64 (clip n m)) ∧ w' = w := by
  go_enter Try.func92, Try.ntmps92
  go_wp2_with fail
  refine (l1Min_any _ _ _).mono ?_
  rintro e w1 ⟨rfl, rfl⟩
  go_wp2_with fail
  refine (l1Max_any _ _ _).mono ?_
  rintro e w1 ⟨rfl, rfl⟩
  go_wp2
  go_ret
  refine ⟨ret_int ?_, rfl⟩
  unfold clip
  by_cases h1 : n < 0 <;> by_cases h2 : m < n <;> simp only [h1, h2, if_true, if_false] <;> omega
set_option maxRecDepth 200000 in
theorem addImpl_any (a b : Int) (w : World) : Calls Try.prog 58 #[.int .i64 a, .int .i64 b] w fun e w' => e = .returned (.int .i64 (addN a b)) ∧ w' = w := by
  have h1 := clip_range a 1000000000 (by omega)
  have h2 := clip_range b 1000000000 (by omega)
  go_enter Try.func58, Try.ntmps58
  go_wp2_with fail
  refine (within_any _ _ _ (by omega)).mono ?_
  rintro e w1 ⟨rfl, rfl⟩
  go_wp2_with fail
  refine (within_any _ _ _ (by omega)).mono ?_
  rintro e w1 ⟨rfl, rfl⟩
  have e : ∀ x, (x = if 1000000000 < clip a 1000000000 + clip b 1000000000 then 1000000000 else clip a 1000000000 + clip b 1000000000) → x = addN a b := fun x h => h
  generalize clip a 1000000000 = x at *
  generalize clip b 1000000000 = y at *
  have E : Hid (∀ z, (z = if 1000000000 < x + y then 1000000000 else x + y) → z = addN a b) := e
  clear e
  go_wp2
  all_goals
    go_ret
    refine ⟨ret_int (E.out _ ?_), rfl⟩
    split <;> omega
set_option maxRecDepth 200000 in
theorem addSpec_any (a b : Int) (w : World) : Calls Try.prog 83 #[.int .i64 a, .int .i64 b] w fun e w' => e = .returned (.int .i64 (addN a b)) ∧ w' = w := by
  have h1 := clip_range a 1000000000 (by omega)
  have h2 := clip_range b 1000000000 (by omega)
  go_enter Try.func83, Try.ntmps83
  go_wp2_with fail
  refine (l2Clip_any _ _ _ (by omega)).mono ?_
  rintro e w1 ⟨rfl, rfl⟩
  go_wp2_with fail
  refine (l2Clip_any _ _ _ (by omega)).mono ?_
  rintro e w1 ⟨rfl, rfl⟩
  have e : ∀ x, (x = if 1000000000 < clip a 1000000000 + clip b 1000000000 then 1000000000 else clip a 1000000000 + clip b 1000000000) → x = addN a b := fun x h => h
  generalize clip a 1000000000 = x at *
  generalize clip b 1000000000 = y at *
  have E : Hid (∀ z, (z = if 1000000000 < x + y then 1000000000 else x + y) → z = addN a b) := e
  clear e
  go_wp2_with fail
  refine (l1Min_any _ _ _).mono ?_
  rintro e w1 ⟨rfl, rfl⟩
  go_wp2
  go_ret
  refine ⟨ret_int (E.out _ ?_), rfl⟩
  split <;> omega
set_option maxRecDepth 200000 in
theorem mixSpec_any (n : Int) (w : World) : Calls Try.prog 96 #[.int .i64 n] w fun e w' => e = .returned (.int .i64 (mixN n)) ∧ w' = w := by
  have h1 := clip_range n 1000000 (by omega)
  go_enter Try.func96, Try.ntmps96
  go_wp2_with fail
  refine (l2Clip_any _ _ _ (by omega)).mono ?_
  rintro e w1 ⟨rfl, rfl⟩
  have e : mixN n = bits .xor .i64 ((clip n 1000000 * 40503 + 12345) % 65536) ((clip n 1000000 * 40503 + 12345) % 65536 / 256) := rfl
  generalize clip n 1000000 = x at *
  have E : Hid (mixN n = bits .xor .i64 ((x * 40503 + 12345) % 65536) ((x * 40503 + 12345) % 65536 / 256)) := e
  clear e
  go_wp2
  go_ret
  exact ⟨ret_int E.out.symm, rfl⟩
theorem shr_nat (v m : Nat) : (v : Int) / 2 ^ m = ((v / 2 ^ m : Nat) : Int) := by
  rw [Int.natCast_ediv, Int.natCast_pow]; rfl
theorem up_digs {v : Nat} {k x : Int} (hx : x = v) (hk : 0 ≤ k) (hs : 0 < x / 2 ^ k.toNat) : k + 1 = min (k + 1) (digs v) := by
  subst hx
  rw [shr_nat] at hs
  have := (digs_lt v k.toNat).2 (by omega)
  omega
theorem stay_digs {v : Nat} {k x y : Int} (hx : x = v) (hk : 0 ≤ k) (hy : y = min k (digs v)) (hs : ¬ 0 < x / 2 ^ k.toNat) : y = min (k + 1) (digs v) := by
  subst hx
  rw [shr_nat] at hs
  have : ¬ k.toNat < digs v := fun h => hs (by have := (digs_lt v k.toNat).1 h; omega)
  omega
theorem end_digs {v : Nat} {y : Int} (hv : v ≤ 1000000) (hy : y = min (20 : Int) (digs v : Int)) : y = (digs v : Int) := by
  have := digs_top v hv
  omega
theorem go_digs {v : Nat} {x y : Int} (hx : 0 < x) (hy : y + (digs x.toNat : Int) = (digs v : Int)) : y + 1 + (digs (x / 2).toNat : Int) = (digs v : Int) := by
  have e := digs_pos x.toNat (by omega)
  have e2 : (x / 2).toNat = x.toNat / 2 := by omega
  rw [e2]; omega
set_option maxRecDepth 200000 in
theorem bucketSpec_any (v : Int) (w : World) : Calls Try.prog 95 #[.int .i64 v] w fun e w' => e = .returned (.int .i64 (bucketN v)) ∧ w' = w := by
  have h1 := clip_range v 1000000 (by omega)
  have hb : ∀ z, z = ((digs (clip v 1000000).toNat : Nat) : Int) → bucketN v = (z + 2) / 3 := by
    intro z hz
    subst hz
    unfold bucketN
    omega
  go_enter Try.func95, Try.ntmps95
  go_wp2_with fail
  refine (l2Clip_any _ _ _ (by omega)).mono ?_
  rintro e w1 ⟨rfl, rfl⟩
  generalize clip v 1000000 = x0 at *
  obtain ⟨n, rfl⟩ := Int.eq_ofNat_of_zero_le h1.1
  have ht := digs_top n (by omega)
  have HB : Hid (∀ z, z = ((digs (n : Int).toNat : Nat) : Int) → bucketN v = (z + 2) / 3) := hb
  have HT : Hid (digs n ≤ 20) := ht
  have HN : Hid ((n : Int) ≤ 1000000) := h1.2
  clear ht hb h1
  go_wp2
  go_loop [3, 4] (fun i s => ∃ (x y : Int), 0 ≤ x ∧ x ≤ 1000000 ∧ 0 ≤ y ∧ y ≤ 20 ∧ i = .int .i64 x ∧ s = .int .i64 y ∧ Hid (y + (digs x.toNat : Int) = (digs n : Int))) (fun i _ => (intOf i).toNat)
  case atStart => exact ⟨n, 0, by omega, HN.out, by omega, by omega, rfl, rfl, show (0 : Int) + _ = _ by simp⟩
  case round =>
    obtain ⟨x, y, hx0, hx1, hy0, hy1, rfl, rfl, HY⟩ := hrel
    by_cases hlt : 0 < x
    · have hy2 : y < 20 := by
        have := go_digs hlt HY.out
        have := HT.out
        omega
      go_wp2
      go_round
      case rel => exact ⟨_, y + 1, by omega, by omega, by omega, by omega, rfl, rfl, go_digs hlt HY.out⟩
      case measure => simp [intOf]; omega
    · obtain rfl : x = 0 := by omega
      have hy := HY.out
      rw [show (0 : Int).toNat = 0 from rfl, digs_zero] at hy
      have h2 := HB.out y (by rw [Int.toNat_natCast]; omega)
      have H2 : Hid (bucketN v = (y + 2) / 3) := h2
      clear h2 hy
      go_wp2
      go_ret
      exact ⟨ret_int H2.out.symm, rfl⟩
theorem next_rk {x : Nat} {y k : Int} (hy : y = x) (hk : 0 ≤ k) (h : x = 0 ∨ (0 < x / 2 ^ k.toNat ∧ rk x = k.toNat + rk (x / 2 ^ k.toNat))) (ho : ¬ y / 2 ^ k.toNat % 2 = 1) : x = 0 ∨ (0 < x / 2 ^ (k + 1).toNat ∧ rk x = (k + 1).toNat + rk (x / 2 ^ (k + 1).toNat)) := by
  subst hy
  rw [shr_nat] at ho
  rcases h with h | ⟨h1, h2⟩
  · exact .inl h
  · have e1 : (k + 1).toNat = k.toNat + 1 := by omega
    have e2 : x / 2 ^ (k.toNat + 1) = x / 2 ^ k.toNat / 2 := by rw [Nat.pow_succ, Nat.div_div_eq_div_mul]
    rw [e1, e2]
    generalize x / 2 ^ k.toNat = z at *
    have := rk_even z h1 (by omega)
    exact .inr ⟨by omega, by omega⟩
theorem stop_rk {x : Nat} {y k : Int} (hy : y = x) (hk : 0 ≤ k) (h : x = 0 ∨ (0 < x / 2 ^ k.toNat ∧ rk x = k.toNat + rk (x / 2 ^ k.toNat))) (ho : y / 2 ^ k.toNat % 2 = 1) : k + 1 = (rk x : Int) := by
  subst hy
  rw [shr_nat] at ho
  rcases h with h | ⟨h1, h2⟩
  · subst h; simp at ho
  · generalize x / 2 ^ k.toNat = z at *
    have := rk_odd z (by omega)
    omega
theorem end_rk {x : Nat} (hx : x < 65536) (h : x = 0 ∨ (0 < x / 2 ^ (16 : Int).toNat ∧ rk x = (16 : Int).toNat + rk (x / 2 ^ (16 : Int).toNat))) : (17 : Int) = (rk x : Int) := by
  rcases h with h | ⟨h1, h2⟩
  · subst h; rw [rk_zero]; rfl
  · have : x / 2 ^ (16 : Int).toNat = 0 := by rw [show (16 : Int).toNat = 16 from rfl]; omega
    omega
theorem half_rk {v : Nat} {x y : Int} (hx : 0 < x) (h : (rk v : Int) + 1 = y + (rk x.toNat : Int)) (he : x % 2 = 0) : (rk v : Int) + 1 = y + 1 + (rk (x / 2).toNat : Int) := by
  have e := rk_even x.toNat (by omega) (by omega)
  have e2 : (x / 2).toNat = x.toNat / 2 := by omega
  rw [e2]; omega
theorem last_rk {v : Nat} {x y : Int} (hx : 0 < x) (h : (rk v : Int) + 1 = y + (rk x.toNat : Int)) (he : ¬ x % 2 = 0) : y = (rk v : Int) := by
  have e := rk_odd x.toNat (by omega)
  omega
theorem top_rk {v : Nat} {x y : Int} (hx : 0 < x) (hx1 : x < 65536) (hv0 : 0 < v) (hv : v < 65536) (h : (rk v : Int) + 1 = y + (rk x.toNat : Int)) : y ≤ 16 := by
  have := rk_top v 16 (by omega) (by omega)
  have := rk_top x.toNat 16 (by omega) (by omega)
  omega
set_option maxRecDepth 200000 in
theorem rankSpec_any (n : Int) (w : World) : Calls Try.prog 97 #[.int .i64 n] w fun e w' => e = .returned (.int .i64 (rankN n)) ∧ w' = w := by
  have h1 := mixN_range n
  have hr : rankN n = (rk (mixN n).toNat : Int) := rfl
  go_enter Try.func97, Try.ntmps97
  go_wp2_with fail
  refine (mixSpec_any _ _).mono ?_
  rintro e w1 ⟨rfl, rfl⟩
  generalize mixN n = z at *
  obtain ⟨h0, h1⟩ := h1
  by_cases hz : z = 0
  · subst hz
    have HQ : Hid (17 = rankN n) := show 17 = rankN n by rw [hr, show (0 : Int).toNat = 0 from rfl, rk_zero]; rfl
    clear hr h0 h1
    go_wp2
    go_ret
    exact ⟨ret_int HQ.out, rfl⟩
  · obtain ⟨v, hv⟩ : ∃ v : Nat, v = z.toNat := ⟨_, rfl⟩
    have hzb : (z == 0) = false := by simpa using hz
    have HV : Hid (0 < v ∧ v < 65536) := show _ ∧ _ by omega
    have HZ : Hid (v = z.toNat) := hv
    have HQ : Hid (rankN n = (rk v : Int)) := by rw [hv]; exact hr
    have hz0 : 0 < z := by omega
    clear hv hr hz
    go_wp2
    go_loop [3, 4] (fun i s => ∃ (x y : Int), 0 < x ∧ x < 65536 ∧ 0 ≤ y ∧ y ≤ 16 ∧ i = .int .i64 x ∧ s = .int .i64 y ∧ Hid ((rk v : Int) + 1 = y + (rk x.toNat : Int))) (fun i _ => (intOf i).toNat)
    case atStart => exact ⟨z, 1, hz0, h1, by omega, by omega, rfl, rfl, show (rk v : Int) + 1 = 1 + (rk z.toNat : Int) by rw [← HZ.out]; omega⟩
    case round =>
      obtain ⟨x, y, hx0, hx1, hy0, hy1, rfl, rfl, HY⟩ := hrel
      by_cases hs : x % 2 = 0
      · have hx2 : 0 < x / 2 := by omega
        have hy2 := top_rk hx2 (by omega) HV.out.1 HV.out.2 (half_rk hx0 HY.out hs)
        go_wp2
        go_round
        case rel => exact ⟨_, y + 1, hx2, by omega, by omega, hy2, rfl, rfl, half_rk hx0 HY.out hs⟩
        case measure => simp [intOf]; omega
      · have hsb : (x % 2 == 0) = false := by simpa using hs
        go_wp2
        go_ret
        exact ⟨ret_int ((last_rk hx0 HY.out hs).trans HQ.out.symm), rfl⟩
theorem lowN_out (k : Int) (h : k < 0 ∨ 8 ≤ k) : lowN k = -1 := by
  unfold lowN
  rw [if_neg (by omega), if_neg (by omega), if_neg (by omega), if_neg (by omega), if_neg (by omega), if_neg (by omega), if_neg (by omega), if_neg (by omega)]
set_option maxRecDepth 200000 in
theorem l1In_any (x lo hi : Int) (w : World) : Calls Try.prog 45 #[.int .i64 x, .int .i64 lo, .int .i64 hi] w fun e w' => e = .returned (.bool (decide (lo ≤ x ∧ x ≤ hi))) ∧ w' = w := by
  have hd : ∀ d : Bool, d = decide (lo ≤ x ∧ x ≤ hi) → (d = true ↔ lo ≤ x ∧ x ≤ hi) := by rintro d rfl; simp
  generalize decide (lo ≤ x ∧ x ≤ hi) = d at *
  have hd := hd d rfl
  by_cases h : lo ≤ x
  · by_cases h2 : x ≤ hi
    · have e : Hid (d = true) := hd.2 ⟨h, h2⟩
      clear hd
      go_enter Try.func45, Try.ntmps45
      go_wp2
      go_ret
      rw [e.out]; exact ⟨rfl, rfl⟩
    · have e : Hid (d = false) := show d = false by cases d; rfl; exact absurd (hd.1 rfl).2 h2
      clear hd
      go_enter Try.func45, Try.ntmps45
      go_wp2
      go_ret
      rw [e.out]; exact ⟨rfl, rfl⟩
  · have e : Hid (d = false) := show d = false by cases d; rfl; exact absurd (hd.1 rfl).1 h
    clear hd
    go_enter Try.func45, Try.ntmps45
    go_wp2
    go_ret
    rw [e.out]; exact ⟨rfl, rfl⟩
end Go.Proofs.Ytbmbmnhamogghab
/- Sets of numbers, as plain data. No statement of the seat is proved here. -/
namespace Go.Proofs.Ytbmbmnhamogghab
open Go.RowKit
theorem decT {p : Prop} [Decidable p] (h : p) : decide p = true := by simpa using h
theorem decF {p : Prop} [Decidable p] (h : ¬ p) : decide p = false := by simpa using h
/-- The k-th span. -/
def Sp.at (ps : Sp) (k : Nat) : Int × Int := ps[k]?.getD (0, 0)
def Sp.okAt (ps : Sp) (k : Nat) : Bool := decide (0 ≤ (ps.at k).1 ∧ (ps.at k).1 ≤ 9999) && decide ((ps.at k).1 ≤ (ps.at k).2 ∧ (ps.at k).2 ≤ 9999) && (decide (k = 0) || decide ((ps.at (k - 1)).2 + 1 < (ps.at k).1))
def Sp.ok (ps : Sp) : Bool := (List.range ps.length).all ps.okAt
theorem Sp.ok_all {ps : Sp} (h : ∀ k, k < ps.length → ps.okAt k = true) : ps.ok = true := by
  unfold Sp.ok
  rw [List.all_eq_true]
  intro k hk
  exact h k (List.mem_range.1 hk)
theorem Sp.ok_not {ps : Sp} {k : Nat} (hk : k < ps.length) (h : ps.okAt k = false) : ps.ok = false := by
  unfold Sp.ok
  rw [List.all_eq_false]
  exact ⟨k, List.mem_range.2 hk, by rw [h]; decide⟩
theorem Sp.ok_at {ps : Sp} (h : ps.ok = true) (k : Nat) (hk : k < ps.length) : ps.okAt k = true := by
  unfold Sp.ok at h
  rw [List.all_eq_true] at h
  exact h k (List.mem_range.2 hk)
theorem Sp.okAt_parts {ps : Sp} {k : Nat} (h : ps.okAt k = true) : (0 ≤ (ps.at k).1 ∧ (ps.at k).1 ≤ (ps.at k).2 ∧ (ps.at k).2 ≤ 9999) ∧ (0 < k → (ps.at (k - 1)).2 + 1 < (ps.at k).1) := by
  unfold Sp.okAt at h
  simp only [Bool.and_eq_true, Bool.or_eq_true, decide_eq_true_eq] at h
  omega
def Sp.has (ps : Sp) (n : Int) : Bool := ps.any fun p => decide (p.1 ≤ n ∧ n ≤ p.2)
theorem Sp.has_at {ps : Sp} {n : Int} {k : Nat} (hk : k < ps.length) (h : (ps.at k).1 ≤ n ∧ n ≤ (ps.at k).2) : ps.has n = true := by
  unfold Sp.has
  rw [List.any_eq_true]
  refine ⟨ps[k], List.getElem_mem hk, ?_⟩
  unfold Sp.at at h
  rw [List.getElem?_eq_getElem hk] at h
  exact decT h
theorem Sp.has_not {ps : Sp} {n : Int} (h : ∀ k, k < ps.length → ¬ ((ps.at k).1 ≤ n ∧ n ≤ (ps.at k).2)) : ps.has n = false := by
  unfold Sp.has
  rw [List.any_eq_false]
  intro p hp
  obtain ⟨k, hk, rfl⟩ := List.getElem_of_mem hp
  have := h k hk
  unfold Sp.at at this
  rw [List.getElem?_eq_getElem hk] at this
  simpa using this
set_option maxRecDepth 200000 in
theorem l1In_yes (x lo hi : Int) (w : World) (h : lo ≤ x ∧ x ≤ hi) : Calls Try.prog 45 #[.int .i64 x, .int .i64 lo, .int .i64 hi] w fun e w' => e = .returned (.bool true) ∧ w' = w := by
  have := l1In_any x lo hi w
  rw [decT h] at this
  exact this
set_option maxRecDepth 200000 in
theorem l1In_no (x lo hi : Int) (w : World) (h : ¬ (lo ≤ x ∧ x ≤ hi)) : Calls Try.prog 45 #[.int .i64 x, .int .i64 lo, .int .i64 hi] w fun e w' => e = .returned (.bool false) ∧ w' = w := by
  have := l1In_any x lo hi w
  rw [decF h] at this
  exact this
/-- The slice's cells, at any world that only draws. -/
def SpCells (w : World) (b off len : Nat) (ps : Sp) : Prop := ∀ i, i < len → w.cell? ⟨b, off + i * 2, none⟩ = some (.int .i64 (ps.at i).1) ∧ w.cell? ⟨b, off + i * 2 + 1, none⟩ = some (.int .i64 (ps.at i).2)
theorem drewN_cell (w : World) (m : Nat) (a : Addr) : (w.drewN m).cell? a = w.cell? a := rfl
/-- Only draws lie between. -/
def QuietTo (w w' : World) : Prop := ∃ m, w' = w.drewN m
theorem QuietTo.refl (w : World) : QuietTo w w := ⟨0, rfl⟩
theorem QuietTo.drewN {w w' : World} (h : QuietTo w w') (n : Nat) : QuietTo w (w'.drewN n) := by
  obtain ⟨m, rfl⟩ := h
  exact ⟨m + n, (World.drewN_drewN ..)⟩
theorem QuietTo.cell {w w' : World} (h : QuietTo w w') (a : Addr) : w'.cell? a = w.cell? a := by
  obtain ⟨m, rfl⟩ := h
  rfl
theorem quiet_below {w w' : World} (h : ∃ m, w' = w.drewN m) : Below w.heap.size w w' := by
  obtain ⟨m, rfl⟩ := h
  exact ⟨rfl, rfl, rfl, Nat.le_refl _, fun _ _ => rfl⟩
end Go.Proofs.Ytbmbmnhamogghab
/- The walks through the model's SetOk, SetSize and SetApart. No statement of the seat is proved here. -/
namespace Go.Proofs.Ytbmbmnhamogghab
open Go.RowKit
theorem Sp.okAt_false {ps : Sp} {k : Nat} (h : ¬ ((0 ≤ (ps.at k).1 ∧ (ps.at k).1 ≤ 9999) ∧ ((ps.at k).1 ≤ (ps.at k).2 ∧ (ps.at k).2 ≤ 9999) ∧ (k = 0 ∨ (ps.at (k - 1)).2 + 1 < (ps.at k).1))) : ps.okAt k = false := by
  rw [Bool.eq_false_iff]
  intro e
  unfold Sp.okAt at e
  simp only [Bool.and_eq_true, Bool.or_eq_true, decide_eq_true_eq] at e
  exact h ⟨e.1.1, e.1.2, e.2⟩
theorem Sp.okAt_true {ps : Sp} {k : Nat} (h1 : 0 ≤ (ps.at k).1 ∧ (ps.at k).1 ≤ 9999) (h2 : (ps.at k).1 ≤ (ps.at k).2 ∧ (ps.at k).2 ≤ 9999) (h3 : k = 0 ∨ (ps.at (k - 1)).2 + 1 < (ps.at k).1) : ps.okAt k = true := by
  unfold Sp.okAt
  simp only [Bool.and_eq_true, Bool.or_eq_true, decide_eq_true_eq]
  exact ⟨⟨h1, h2⟩, h3⟩
theorem all_up {P : Nat → Prop} {k : Nat} (h : ∀ j, j < k → P j) (hk : P k) : ∀ j, j < k + 1 → P j := fun j hj => by
  by_cases e : j < k
  · exact h j e
  · obtain rfl : j = k := by omega
    exact hk
set_option maxRecDepth 200000 in
set_option maxHeartbeats 4000000 in
theorem setOkSpec_any (a : Option Addr) (len cap : Nat) (ps : Sp) (F : List Nat) (w : World) (h : RdP w a len ps F) (hlen : len ≤ 140737488355328) :
    Calls Try.prog 63 #[.slice a len cap] w fun e w' => e = .returned (.bool ps.ok) ∧ ∃ m, w' = w.drewN m := by
  have HL : Hid (ps.length = len) := h.length
  rcases h.cells with ⟨rfl, _, rfl⟩ | ⟨b, off, hp, rfl, _, hc⟩
  · clear h
    go_enter Try.func63, Try.ntmps63
    go_wp2
    refine wp_loop_rounds 1 ?_
    rw [rounds_succ]
    go_wp2
    go_ret
    exact ⟨rfl, 0, rfl⟩
  · have HC : Hid (SpCells w b off len ps) := hc
    clear h hc
    go_enter Try.func63, Try.ntmps63
    go_wp2
    go_loopw [3] (fun i wr => ∃ (k : Nat), k ≤ len ∧ i = .int .i64 k ∧ Hid (QuietTo w wr) ∧ Hid (∀ j, j < k → ps.okAt j = true)) (fun i _ => len - (intOf i).toNat)
    case atStart => exact ⟨0, by omega, rfl, QuietTo.refl w, fun j hj => by omega⟩
    case round =>
      obtain ⟨k, hk, rfl, HQ, HN⟩ := hrel
      by_cases hlt : k < len
      · obtain ⟨x, hx⟩ : ∃ x, x = (ps.at k).1 := ⟨_, rfl⟩
        obtain ⟨y, hy⟩ : ∃ x, x = (ps.at k).2 := ⟨_, rfl⟩
        have e := HC.out k hlt
        rw [← hx, ← hy] at e
        have d1 : wr.cell? ⟨b, off + k * 2, none⟩ = some (.int .i64 x) := (HQ.out.cell _).trans e.1
        have d2 : wr.cell? ⟨b, off + k * 2 + 1, none⟩ = some (.int .i64 y) := (HQ.out.cell _).trans e.2
        have HX : Hid (x = (ps.at k).1 ∧ y = (ps.at k).2) := ⟨hx, hy⟩
        have hI : (k : Int) < (len : Int) := by omega
        clear e hx hy
        by_cases h1 : 0 ≤ x ∧ x ≤ 9999
        rotate_left
        · have HV : Hid (ps.ok = false) := Sp.ok_not (by rw [HL.out]; exact hlt) (Sp.okAt_false (fun e => h1 (by rw [HX.out.1]; exact e.1)))
          go_wp2
          go_quiet ((go_at_call 45; exact Calls.quiet_of_same (l1In_no _ _ _ _ h1)))
          go_wp2
          go_ret
          rw [HV.out]
          exact ⟨rfl, HQ.out.drewN _⟩
        by_cases h2 : x ≤ y ∧ y ≤ 9999
        rotate_left
        · have HV : Hid (ps.ok = false) := Sp.ok_not (by rw [HL.out]; exact hlt) (Sp.okAt_false (fun e => h2 (by rw [HX.out.1, HX.out.2]; exact e.2.1)))
          go_wp2
          go_quiet ((go_at_call 45; first | (with_reducible exact Calls.quiet_of_same (l1In_yes _ _ _ _ h1)) | (with_reducible exact Calls.quiet_of_same (l1In_no _ _ _ _ h2))))
          go_wp2
          go_ret
          rw [HV.out]
          exact ⟨rfl, HQ.out.drewN _⟩
        cases k with
        | zero =>
          have HN2 : Hid (∀ j, j < 0 + 1 → ps.okAt j = true) := all_up HN.out (Sp.okAt_true (by rw [← HX.out.1]; exact h1) (by rw [← HX.out.1, ← HX.out.2]; exact h2) (.inl rfl))
          rw [show off + 0 * 2 = off by omega] at d1 d2
          have hI0 : (0 : Int) < (len : Int) := by omega
          simp only [Int.cast_ofNat_Int]
          clear hI
          go_wp2
          go_quiet ((go_at_call 45; first | (with_reducible exact Calls.quiet_of_same (l1In_yes _ _ _ _ h1)) | (with_reducible exact Calls.quiet_of_same (l1In_yes _ _ _ _ h2))))
          go_wp2
          go_roundw
          case rel => exact ⟨0 + 1, by omega, by go_num, HQ.out.drewN _, HN2⟩
          case measure => simp [intOf]; omega
        | succ k =>
          obtain ⟨z, hz⟩ : ∃ x, x = (ps.at k).2 := ⟨_, rfl⟩
          have e := HC.out k (by omega)
          rw [← hz] at e
          have d3 : wr.cell? ⟨b, off + k * 2 + 1, none⟩ = some (.int .i64 z) := (HQ.out.cell _).trans e.2
          have hprev := (Sp.okAt_parts (HN.out k (by omega))).1
          have z0 : 0 ≤ z := by rw [hz]; omega
          have z1 : z ≤ 9999 := by rw [hz]; omega
          have HZ : Hid (z = (ps.at k).2) := hz
          have hI2 : (k : Int) < (len : Int) := by omega
          have hg : decide ((0 : Int) < ((k + 1 : Nat) : Int)) = true := decT (by omega)
          clear e hz hprev
          by_cases h3 : x ≤ z + 1
          · have HV : Hid (ps.ok = false) := Sp.ok_not (by rw [HL.out]; exact hlt) (Sp.okAt_false (fun e => by
              rcases e.2.2 with e | e
              · omega
              · rw [← HX.out.1, show k + 1 - 1 = k by omega, ← HZ.out] at e; omega))
            have hd : decide (x ≤ z + 1) = true := decT h3
            go_wp2
            go_quiet ((go_at_call 45; first | (with_reducible exact Calls.quiet_of_same (l1In_yes _ _ _ _ h1)) | (with_reducible exact Calls.quiet_of_same (l1In_yes _ _ _ _ h2))))
            go_wp2
            go_ret
            rw [HV.out]
            exact ⟨rfl, HQ.out.drewN _⟩
          · have HN2 : Hid (∀ j, j < k + 1 + 1 → ps.okAt j = true) := all_up HN.out (Sp.okAt_true (by rw [← HX.out.1]; exact h1) (by rw [← HX.out.1, ← HX.out.2]; exact h2) (.inr (by rw [← HX.out.1, show k + 1 - 1 = k by omega, ← HZ.out]; omega)))
            have hd : decide (x ≤ z + 1) = false := decF h3
            go_wp2
            go_quiet ((go_at_call 45; first | (with_reducible exact Calls.quiet_of_same (l1In_yes _ _ _ _ h1)) | (with_reducible exact Calls.quiet_of_same (l1In_yes _ _ _ _ h2))))
            go_wp2
            go_roundw
            case rel => exact ⟨k + 1 + 1, by omega, by go_num, HQ.out.drewN _, HN2⟩
            case measure => simp [intOf]; omega
      · obtain rfl : k = len := by omega
        have HV : Hid (ps.ok = true) := Sp.ok_all (fun j hj => HN.out j (by rw [← HL.out]; exact hj))
        go_wp2
        go_ret
        rw [HV.out]
        exact ⟨rfl, HQ.out⟩
end Go.Proofs.Ytbmbmnhamogghab
/- When a summary is right; the walk through the model's SketchOk. No statement of the seat is proved here. -/
namespace Go.Proofs.Ytbmbmnhamogghab
open Go.RowKit

/-- A list of so many numbers, each in 0 .. most; all 0 where z. -/
def okN (most : Int) (z : Bool) (x : Int) : Bool := decide (0 ≤ x ∧ x ≤ most) && (!z || decide (x = 0))
def okL (l : List Int) (many : Nat) (most : Int) (z : Bool) : Bool := decide (l.length = many) && l.all (okN most z)
def okHead (s : Sk) : Bool := decide (0 ≤ s.count ∧ s.count ≤ 1000000000) && decide (0 ≤ s.sum ∧ s.sum ≤ 1000000000) && decide (0 ≤ s.min ∧ s.min ≤ 1000000) && decide (0 ≤ s.max ∧ s.max ≤ 1000000) && decide (s.min ≤ s.max) && decide (s.rows.length = 2)
def okZero (s : Sk) : Bool := !decide (s.count = 0) || (decide (s.sum = 0) && decide (s.max = 0))
def okLists (s : Sk) : Bool := okL s.hist 8 1000000000 (decide (s.count = 0)) && okL s.regs 8 17 (decide (s.count = 0)) && okL (s.rows.getD 0 []) 4 1000000000 (decide (s.count = 0)) && okL (s.rows.getD 1 []) 4 1000000000 (decide (s.count = 0))
def Sk.ok (s : Sk) : Bool := okHead s && okZero s && okLists s

theorem all_snoc {p : Int → Bool} {l : List Int} {k : Nat} (hk : k < l.length) (h : (l.take k).all p = true) (hx : p (l[k]?.getD 0) = true) : (l.take (k + 1)).all p = true := by
  rw [take_succ' l k hk, List.all_append, h]; simpa using hx
theorem all_not {p : Int → Bool} {l : List Int} {k : Nat} (hk : k < l.length) (hx : p (l[k]?.getD 0) = false) : l.all p = false := by
  rw [← Bool.not_eq_true, List.all_eq_true]
  intro h
  have := h _ (List.getElem_mem hk)
  rw [List.getElem?_eq_getElem hk] at hx
  simp at hx
  rw [hx] at this; cases this
set_option maxRecDepth 200000 in
set_option maxHeartbeats 1000000 in
theorem l3List_any (a : Option Addr) (len cap : Nat) (zs : List Int) (F : List Nat) (many : Nat) (most : Int) (z : Bool) (w : World) (h : RdI w a len zs F) (hlen : len ≤ 140737488355328) (hmany : (many : Int) ≤ 1000) :
    Calls Try.prog 81 #[.slice a len cap, .int .i64 many, .int .i64 most, .bool z] w fun e w' => e = .returned (.bool (okL zs many most z)) ∧ w' = w := by
  obtain ⟨d, hd⟩ : ∃ d, d = okL zs many most z := ⟨_, rfl⟩
  rw [← hd]
  have HL : Hid (zs.length = len) := h.length
  by_cases hl : len = many
  · subst hl
    have HD : Hid (d = zs.all (okN most z)) := by show d = _; rw [hd, okL, HL.out]; simp
    have hbne : ((len : Int) != (len : Int)) = false := by simp
    clear hd
    rcases h.cells with ⟨h0, _⟩ | ⟨b, off, hp, rfl, _, hc⟩
    · subst h0
      have hz : zs = [] := List.eq_nil_of_length_eq_zero h.length
      subst hz
      clear h
      go_enter Try.func81, Try.ntmps81
      go_wp2
      refine wp_loop_rounds 1 ?_
      rw [rounds_succ]
      go_wp2
      go_ret
      exact ⟨ret_bool (by rw [HD.out]; rfl), rfl⟩
    · have HC : Hid (∀ i, i < len → w.cell? ⟨b, off + i, none⟩ = some (.int .i64 (zs.getD i 0))) := hc
      clear h hc
      go_enter Try.func81, Try.ntmps81
      go_wp2
      go_loop [9] (fun i => ∃ k : Nat, k ≤ len ∧ i = .int .i64 k ∧ Hid ((zs.take k).all (okN most z) = true)) (fun i => len - (intOf i).toNat)
      case atStart => exact ⟨0, by omega, rfl, show _ = true by simp⟩
      case round =>
        obtain ⟨k, hk, rfl, HA⟩ := hrel
        by_cases hlt : k < len
        · have hck := HC.out k hlt
          obtain ⟨x, hx⟩ : ∃ x, x = zs[k]?.getD 0 := ⟨_, rfl⟩
          have hck2 : w.cell? ⟨b, off + k, none⟩ = some (.int .i64 x) := by rw [hx, hck]; simp
          have HX : Hid (x = zs[k]?.getD 0) := hx
          clear hck hx
          by_cases hin : 0 ≤ x ∧ x ≤ most
          · by_cases hzz : z = true ∧ ¬ x = 0
            · obtain ⟨rfl, hx0⟩ := hzz
              have hxb : (x != 0) = true := by simpa using hx0
              have HN : Hid (zs.all (okN most true) = false) := all_not (by rw [HL.out]; exact hlt) (by rw [← HX.out]; simp [okN, hx0])
              have hdec : decide (0 ≤ x ∧ x ≤ most) = true := by simpa using hin
              clear hin hx0
              go_wp2_with fail
              refine (l1In_any _ _ _ _).mono ?_
              rintro e w1 ⟨rfl, hw1⟩
              have hw1' := hw1.symm
              subst hw1'
              rw [hdec]
              clear hw1 hdec
              go_wp2
              go_ret
              exact ⟨ret_bool (by rw [HD.out, HN.out]), rfl⟩
            · have HA2 : Hid ((zs.take (k + 1)).all (okN most z) = true) := all_snoc (by rw [HL.out]; exact hlt) HA.out (by
                rw [← HX.out]; unfold okN; rw [dec_true hin]; cases z <;> simp_all)
              have hdec : decide (0 ≤ x ∧ x ≤ most) = true := by simpa using hin
              clear hin
              go_wp2_with fail
              refine (l1In_any _ _ _ _).mono ?_
              rintro e w1 ⟨rfl, hw1⟩
              have hw1' := hw1.symm
              subst hw1'
              rw [hdec]
              clear hw1 hdec
              cases z with
              | false =>
                clear hzz
                go_wp2
                go_round
                case rel => exact ⟨k + 1, by omega, by go_num, HA2⟩
                case measure => simp [intOf]; omega
              | true =>
                obtain rfl : x = 0 := by simpa using hzz
                clear hzz
                go_wp2
                go_round
                case rel => exact ⟨k + 1, by omega, by go_num, HA2⟩
                case measure => simp [intOf]; omega
          · have HN : Hid (zs.all (okN most z) = false) := all_not (by rw [HL.out]; exact hlt) (by rw [← HX.out]; unfold okN; rw [dec_false hin]; rfl)
            have hdec : decide (0 ≤ x ∧ x ≤ most) = false := by simpa using hin
            clear hin
            go_wp2_with fail
            refine (l1In_any _ _ _ _).mono ?_
            rintro e w1 ⟨rfl, hw1⟩
            have hw1' := hw1.symm
            subst hw1'
            rw [hdec]
            clear hw1 hdec
            go_wp2
            go_ret
            exact ⟨ret_bool (by rw [HD.out, HN.out]), rfl⟩
        · obtain rfl : k = len := by omega
          have HF : Hid (zs.all (okN most z) = true) := by have := HA.out; rw [List.take_of_length_le (Nat.le_of_eq HL.out)] at this; exact this
          go_wp2
          go_ret
          exact ⟨ret_bool (by rw [HD.out, HF.out]), rfl⟩
  · have hbne : ((len : Int) != (many : Int)) = true := by simp; omega
    have HD : Hid (d = false) := by show d = _; rw [hd, okL, HL.out, dec_false hl]; rfl
    clear hd h
    go_enter Try.func81, Try.ntmps81
    go_wp2
    go_ret
    exact ⟨ret_bool HD.out.symm, rfl⟩
set_option maxRecDepth 200000 in
set_option maxHeartbeats 2000000 in
theorem okSpec_any (v : Value) (s : Sk) (F : List Nat) (w : World) (h : RdSk w v s F) (hw : s.wide) :
    Calls Try.prog 64 #[v] w fun e w' => e = .returned (.bool s.ok) ∧ Below w.heap.size w w' := by
  obtain ⟨a1, n1, c1, a2, n2, c2, a3, n3, c3, F1, F2, F3, rfl, h1, h2, h3, _⟩ := h
  have hn1 : n1 ≤ 140737488355328 := by rw [← h1.length]; exact hw.hist
  have hn2 : n2 ≤ 140737488355328 := by rw [← h2.length]; exact hw.regs
  have hn3 : n3 ≤ 140737488355328 := by rw [← h3.length]; exact hw.rows
  have HW : Hid s.wide := hw
  have bw : Below w.heap.size w (w.alloc (.cells #[.int .i64 s.count, .int .i64 s.sum, .int .i64 s.min, .int .i64 s.max, .slice a1 n1 c1, .slice a2 n2 c2, .slice a3 n3 c3] 28)) := (Below.refl w.heap.size w).alloc (Nat.le_refl _) _
  have HR : Hid (RdI (w.alloc (.cells #[.int .i64 s.count, .int .i64 s.sum, .int .i64 s.min, .int .i64 s.max, .slice a1 n1 c1, .slice a2 n2 c2, .slice a3 n3 c3] 28)) a1 n1 s.hist F1 ∧ RdI (w.alloc (.cells #[.int .i64 s.count, .int .i64 s.sum, .int .i64 s.min, .int .i64 s.max, .slice a1 n1 c1, .slice a2 n2 c2, .slice a3 n3 c3] 28)) a2 n2 s.regs F2 ∧ RdII (w.alloc (.cells #[.int .i64 s.count, .int .i64 s.sum, .int .i64 s.min, .int .i64 s.max, .slice a1 n1 c1, .slice a2 n2 c2, .slice a3 n3 c3] 28)) a3 n3 s.rows F3 ∧ Below w.heap.size w (w.alloc (.cells #[.int .i64 s.count, .int .i64 s.sum, .int .i64 s.min, .int .i64 s.max, .slice a1 n1 c1, .slice a2 n2 c2, .slice a3 n3 c3] 28))) := ⟨h1.below bw, h2.below bw, h3.below bw, bw⟩
  have HL3 : Hid (s.rows.length = n3) := h3.length
  obtain ⟨d, hd⟩ : ∃ d, d = s.ok := ⟨_, rfl⟩
  rw [← hd]
  have HD : Hid (d = s.ok) := hd
  clear h1 h2 h3 hw bw hd
  go_enter Try.func64, Try.ntmps64
  go_wp2_with fail
  refine (l1In_any _ _ _ _).mono ?_
  rintro e w1 ⟨rfl, rfl⟩
  by_cases p0 : 0 ≤ s.count ∧ s.count ≤ 1000000000
  rotate_left
  · rw [dec_false p0]
    have HP : Hid (decide (0 ≤ s.count ∧ s.count ≤ 1000000000) = false) := dec_false p0
    clear p0
    go_wp2
    go_ret
    exact ⟨ret_bool (by rw [HD.out]; unfold Sk.ok okHead; rw [HP.out]; simp), HR.out.2.2.2⟩
  rw [dec_true p0]
  have P0 : Hid (0 ≤ s.count ∧ s.count ≤ 1000000000) := p0
  clear p0
  go_wp2_with fail
  refine (l1In_any _ _ _ _).mono ?_
  rintro e w1 ⟨rfl, rfl⟩
  by_cases p1 : 0 ≤ s.sum ∧ s.sum ≤ 1000000000
  rotate_left
  · rw [dec_false p1]
    have HP : Hid (decide (0 ≤ s.sum ∧ s.sum ≤ 1000000000) = false) := dec_false p1
    clear p1
    go_wp2
    go_ret
    exact ⟨ret_bool (by rw [HD.out]; unfold Sk.ok okHead; rw [HP.out]; simp), HR.out.2.2.2⟩
  rw [dec_true p1]
  have P1 : Hid (0 ≤ s.sum ∧ s.sum ≤ 1000000000) := p1
  clear p1
  go_wp2_with fail
  refine (l1In_any _ _ _ _).mono ?_
  rintro e w1 ⟨rfl, rfl⟩
  by_cases p2 : 0 ≤ s.min ∧ s.min ≤ 1000000
  rotate_left
  · rw [dec_false p2]
    have HP : Hid (decide (0 ≤ s.min ∧ s.min ≤ 1000000) = false) := dec_false p2
    clear p2
    go_wp2
    go_ret
    exact ⟨ret_bool (by rw [HD.out]; unfold Sk.ok okHead; rw [HP.out]; simp), HR.out.2.2.2⟩
  rw [dec_true p2]
  have P2 : Hid (0 ≤ s.min ∧ s.min ≤ 1000000) := p2
  clear p2
  go_wp2_with fail
  refine (l1In_any _ _ _ _).mono ?_
  rintro e w1 ⟨rfl, rfl⟩
  by_cases p3 : 0 ≤ s.max ∧ s.max ≤ 1000000
  rotate_left
  · rw [dec_false p3]
    have HP : Hid (decide (0 ≤ s.max ∧ s.max ≤ 1000000) = false) := dec_false p3
    clear p3
    go_wp2
    go_ret
    exact ⟨ret_bool (by rw [HD.out]; unfold Sk.ok okHead; rw [HP.out]; simp), HR.out.2.2.2⟩
  rw [dec_true p3]
  have P3 : Hid (0 ≤ s.max ∧ s.max ≤ 1000000) := p3
  clear p3
  by_cases p4 : s.min ≤ s.max
  rotate_left
  · have HP : Hid (decide (s.min ≤ s.max) = false) := dec_false p4
    have p4' : s.max < s.min := by omega
    clear p4
    go_wp2
    go_ret
    exact ⟨ret_bool (by rw [HD.out]; unfold Sk.ok okHead; rw [HP.out]; simp), HR.out.2.2.2⟩
  have P4 : Hid (s.min ≤ s.max) := p4
  by_cases p5 : n3 = 2
  rotate_left
  · have HP : Hid (decide (s.rows.length = 2) = false) := dec_false (by rw [HL3.out]; exact p5)
    have p5' : ((n3 : Int) != 2) = true := by simp; omega
    clear p5
    go_wp2
    go_ret
    exact ⟨ret_bool (by rw [HD.out]; unfold Sk.ok okHead; rw [HP.out]; simp), HR.out.2.2.2⟩
  have P5 : Hid (s.rows.length = 2) := by show _ = 2; rw [HL3.out]; exact p5
  subst p5
  have p5' : (((2 : Nat) : Int) != 2) = false := by simp
  have HH : Hid (okHead s = true) := by show _ = true; unfold okHead; rw [dec_true P0.out, dec_true P1.out, dec_true P2.out, dec_true P3.out, dec_true P4.out, dec_true P5.out]; rfl
  obtain ⟨b3, o3, F3', ha3, hm3⟩ : ∃ b off F', a3 = some ⟨b, off, none⟩ ∧ RdM (w.alloc (.cells #[.int .i64 s.count, .int .i64 s.sum, .int .i64 s.min, .int .i64 s.max, .slice a1 n1 c1, .slice a2 n2 c2, .slice a3 2 c3] 28)) (s.rows.map ints) b off F' := by
    rcases HR.out.2.2.1.cells with ⟨h0, _⟩ | ⟨b, off, F', _, e, _, hm⟩
    · omega
    · exact ⟨b, off, F', e, hm⟩
  subst ha3
  obtain ⟨r0, m0, k0, G0, x0, row0, _⟩ := RdII.row hm3 P5.out 0 (by omega)
  obtain ⟨r1, m1, k1, G1, x1, row1, _⟩ := RdII.row hm3 P5.out 1 (by omega)
  simp only [Nat.add_zero] at x0
  have hm0 : m0 ≤ 140737488355328 := by rw [← row0.length]; exact HW.out.row _ (mem_getD (by rw [P5.out]; omega))
  have hm1 : m1 ≤ 140737488355328 := by rw [← row1.length]; exact HW.out.row _ (mem_getD (by rw [P5.out]; omega))
  have HRow : Hid (RdI (w.alloc (.cells #[.int .i64 s.count, .int .i64 s.sum, .int .i64 s.min, .int .i64 s.max, .slice a1 n1 c1, .slice a2 n2 c2, .slice (some ⟨b3, o3, none⟩) 2 c3] 28)) r0 m0 (s.rows.getD 0 []) G0 ∧ RdI (w.alloc (.cells #[.int .i64 s.count, .int .i64 s.sum, .int .i64 s.min, .int .i64 s.max, .slice a1 n1 c1, .slice a2 n2 c2, .slice (some ⟨b3, o3, none⟩) 2 c3] 28)) r1 m1 (s.rows.getD 1 []) G1) := ⟨row0, row1⟩
  clear hm3 row0 row1 P0 P1 P2 P3 P4 P5
  by_cases z : s.count = 0
  · have zb : (s.count == 0) = true := by simpa using z
    have HZ : Hid (decide (s.count = 0) = true) := dec_true z
    clear z
    by_cases y : s.sum = 0
    rotate_left
    · have yb : (s.sum != 0) = true := by simpa using y
      have HP : Hid (decide (s.sum = 0) = false) := dec_false y
      clear y
      go_wp2
      go_ret
      exact ⟨ret_bool (by rw [HD.out]; unfold Sk.ok okZero; rw [HZ.out, HP.out]; simp), HR.out.2.2.2⟩
    have ysum : (s.sum != 0) = false := by simpa using y
    have Ysum : Hid (s.sum = 0) := y
    clear y
    by_cases y : s.max = 0
    rotate_left
    · have yb : (s.max != 0) = true := by simpa using y
      have HP : Hid (decide (s.max = 0) = false) := dec_false y
      clear y
      go_wp2
      go_ret
      exact ⟨ret_bool (by rw [HD.out]; unfold Sk.ok okZero; rw [HZ.out, HP.out]; simp), HR.out.2.2.2⟩
    have ymax : (s.max != 0) = false := by simpa using y
    have Ymax : Hid (s.max = 0) := y
    clear y
    have HO : Hid (okZero s = true) := by show _ = true; unfold okZero; rw [dec_true Ysum.out, dec_true Ymax.out]; simp
    go_wp2_with fail
    refine (l3List_any a1 n1 c1 s.hist F1 8 1000000000 true _ HR.out.1 hn1 (by omega)).mono ?_
    rintro e w1 ⟨rfl, rfl⟩
    cases l0 : okL s.hist 8 1000000000 true
    · have HN : Hid (okL s.hist 8 1000000000 true = false) := l0
      clear l0
      go_wp2
      go_ret
      exact ⟨ret_bool (by rw [HD.out]; unfold Sk.ok okLists; rw [HZ.out, HN.out]; simp), HR.out.2.2.2⟩
    have L0 : Hid (okL s.hist 8 1000000000 true = true) := l0
    clear l0
    go_wp2_with fail
    refine (l3List_any a2 n2 c2 s.regs F2 8 17 true _ HR.out.2.1 hn2 (by omega)).mono ?_
    rintro e w1 ⟨rfl, rfl⟩
    cases l1 : okL s.regs 8 17 true
    · have HN : Hid (okL s.regs 8 17 true = false) := l1
      clear l1
      go_wp2
      go_ret
      exact ⟨ret_bool (by rw [HD.out]; unfold Sk.ok okLists; rw [HZ.out, HN.out]; simp), HR.out.2.2.2⟩
    have L1 : Hid (okL s.regs 8 17 true = true) := l1
    clear l1
    go_wp2_with fail
    refine (l3List_any r0 m0 k0 (s.rows.getD 0 []) G0 4 1000000000 true _ HRow.out.1 hm0 (by omega)).mono ?_
    rintro e w1 ⟨rfl, rfl⟩
    cases l2 : okL (s.rows.getD 0 []) 4 1000000000 true
    · have HN : Hid (okL (s.rows.getD 0 []) 4 1000000000 true = false) := l2
      clear l2
      go_wp2
      go_ret
      exact ⟨ret_bool (by rw [HD.out]; unfold Sk.ok okLists; rw [HZ.out, HN.out]; simp), HR.out.2.2.2⟩
    have L2 : Hid (okL (s.rows.getD 0 []) 4 1000000000 true = true) := l2
    clear l2
    go_wp2_with fail
    refine (l3List_any r1 m1 k1 (s.rows.getD 1 []) G1 4 1000000000 true _ HRow.out.2 hm1 (by omega)).mono ?_
    rintro e w1 ⟨rfl, rfl⟩
    cases l3 : okL (s.rows.getD 1 []) 4 1000000000 true
    · have HN : Hid (okL (s.rows.getD 1 []) 4 1000000000 true = false) := l3
      clear l3
      go_wp2
      go_ret
      exact ⟨ret_bool (by rw [HD.out]; unfold Sk.ok okLists; rw [HZ.out, HN.out]; simp), HR.out.2.2.2⟩
    have L3 : Hid (okL (s.rows.getD 1 []) 4 1000000000 true = true) := l3
    clear l3
    go_wp2
    go_ret
    exact ⟨ret_bool (by rw [HD.out]; unfold Sk.ok okLists; rw [HZ.out, HH.out, HO.out, L0.out, L1.out, L2.out, L3.out]; rfl), HR.out.2.2.2⟩
  · have zb : (s.count == 0) = false := by simpa using z
    have HZ : Hid (decide (s.count = 0) = false) := dec_false z
    have HO : Hid (okZero s = true) := by show _ = true; unfold okZero; rw [dec_false z]; rfl
    clear z
    go_wp2_with fail
    refine (l3List_any a1 n1 c1 s.hist F1 8 1000000000 false _ HR.out.1 hn1 (by omega)).mono ?_
    rintro e w1 ⟨rfl, rfl⟩
    cases l0 : okL s.hist 8 1000000000 false
    · have HN : Hid (okL s.hist 8 1000000000 false = false) := l0
      clear l0
      go_wp2
      go_ret
      exact ⟨ret_bool (by rw [HD.out]; unfold Sk.ok okLists; rw [HZ.out, HN.out]; simp), HR.out.2.2.2⟩
    have L0 : Hid (okL s.hist 8 1000000000 false = true) := l0
    clear l0
    go_wp2_with fail
    refine (l3List_any a2 n2 c2 s.regs F2 8 17 false _ HR.out.2.1 hn2 (by omega)).mono ?_
    rintro e w1 ⟨rfl, rfl⟩
    cases l1 : okL s.regs 8 17 false
    · have HN : Hid (okL s.regs 8 17 false = false) := l1
      clear l1
      go_wp2
      go_ret
      exact ⟨ret_bool (by rw [HD.out]; unfold Sk.ok okLists; rw [HZ.out, HN.out]; simp), HR.out.2.2.2⟩
    have L1 : Hid (okL s.regs 8 17 false = true) := l1
    clear l1
    go_wp2_with fail
    refine (l3List_any r0 m0 k0 (s.rows.getD 0 []) G0 4 1000000000 false _ HRow.out.1 hm0 (by omega)).mono ?_
    rintro e w1 ⟨rfl, rfl⟩
    cases l2 : okL (s.rows.getD 0 []) 4 1000000000 false
    · have HN : Hid (okL (s.rows.getD 0 []) 4 1000000000 false = false) := l2
      clear l2
      go_wp2
      go_ret
      exact ⟨ret_bool (by rw [HD.out]; unfold Sk.ok okLists; rw [HZ.out, HN.out]; simp), HR.out.2.2.2⟩
    have L2 : Hid (okL (s.rows.getD 0 []) 4 1000000000 false = true) := l2
    clear l2
    go_wp2_with fail
    refine (l3List_any r1 m1 k1 (s.rows.getD 1 []) G1 4 1000000000 false _ HRow.out.2 hm1 (by omega)).mono ?_
    rintro e w1 ⟨rfl, rfl⟩
    cases l3 : okL (s.rows.getD 1 []) 4 1000000000 false
    · have HN : Hid (okL (s.rows.getD 1 []) 4 1000000000 false = false) := l3
      clear l3
      go_wp2
      go_ret
      exact ⟨ret_bool (by rw [HD.out]; unfold Sk.ok okLists; rw [HZ.out, HN.out]; simp), HR.out.2.2.2⟩
    have L3 : Hid (okL (s.rows.getD 1 []) 4 1000000000 false = true) := l3
    clear l3
    go_wp2
    go_ret
    exact ⟨ret_bool (by rw [HD.out]; unfold Sk.ok okLists; rw [HZ.out, HH.out, HO.out, L0.out, L1.out, L2.out, L3.out]; rfl), HR.out.2.2.2⟩
end Go.Proofs.Ytbmbmnhamogghab
/- The walks through the model's IdOf, ItemOk, EntryOk. No statement of the seat is proved here. -/
namespace Go.Proofs.Ytbmbmnhamogghab
open Go.RowKit
def idOf (a s : Int) : Int := if (0 ≤ a ∧ a ≤ 2) ∧ 1 ≤ s ∧ s ≤ 60 then 100 * a + s else -1
def placeOk (k w : Int) : Bool := decide (0 ≤ k ∧ k ≤ 4) && decide (0 ≤ w ∧ w ≤ 20)
def It.ok (x : It) : Bool := decide (1 ≤ x.seq ∧ x.seq ≤ 60) && decide (0 ≤ x.cls ∧ x.cls ≤ 1) && placeOk x.key x.window && x.sk.ok
def En.ok (x : En) : Bool := placeOk x.key x.window && decide (0 < x.ids.length) && x.ids.ok && x.sk.ok
def En.zero : En := ⟨0, 0, [], Sk.zero⟩
theorem rdEn_zero (W : World) : RdEn W (.agg #[.int .i64 0, .int .i64 0, .slice none 0 0, .int .i64 0, .int .i64 0, .int .i64 0, .int .i64 0, .slice none 0 0, .slice none 0 0, .slice none 0 0]) En.zero [] [] :=
  ⟨none, 0, 0, none, 0, 0, none, 0, 0, none, 0, 0, rfl, RdP.nil, ⟨none, 0, 0, none, 0, 0, none, 0, 0, [], [], [], rfl, ⟨rfl, .inl ⟨rfl, rfl⟩⟩, ⟨rfl, .inl ⟨rfl, rfl⟩⟩, ⟨rfl, .inl ⟨rfl, rfl⟩⟩, rfl⟩, fun _ => rfl, Nat.le_refl _⟩
theorem infoEnA : (Try.prog.info? 30).map (·.size) = some 10 := by kernel_rfl
theorem En.ok_sk {x : En} (h : x.ok = true) : x.sk.ok = true := by
  unfold En.ok at h
  simp only [Bool.and_eq_true] at h
  exact h.2
set_option maxRecDepth 200000 in
theorem l6Agent_any (n : Int) (w : World) : Calls Try.prog 44 #[.int .i64 n] w fun e w' => e = .returned (.bool (decide (0 ≤ n ∧ n ≤ 2))) ∧ w' = w := by
  go_enter Try.func44, Try.ntmps44
  go_wp2_with fail
  refine (l1In_any _ _ _ _).mono ?_
  rintro e w2 ⟨rfl, hw2⟩
  have hw2' := hw2.symm
  subst hw2'
  clear hw2
  obtain ⟨d, hd⟩ : ∃ d, d = decide (0 ≤ n ∧ n ≤ 2) := ⟨_, rfl⟩
  rw [← hd]
  have HD : Hid (d = decide (0 ≤ n ∧ n ≤ 2)) := hd
  clear hd
  go_wp2
  go_ret
  exact ⟨ret_bool HD.out, rfl⟩
set_option maxRecDepth 200000 in
theorem idSpec_any (a s : Int) (w : World) : Calls Try.prog 18 #[.int .i64 a, .int .i64 s] w fun e w' => e = .returned (.int .i64 (idOf a s)) ∧ w' = w := by
  go_enter Try.func18, Try.ntmps18
  go_wp2_with fail
  refine (l6Agent_any _ _).mono ?_
  rintro e w2 ⟨rfl, hw2⟩
  have hw2' := hw2.symm
  subst hw2'
  clear hw2
  by_cases h1 : 0 ≤ a ∧ a ≤ 2
  rotate_left
  · rw [decF h1]
    have HV : Hid (idOf a s = -1) := by show _ = _; unfold idOf; rw [if_neg (fun e => h1 e.1)]
    clear h1
    go_wp2
    go_ret
    rw [HV.out]
    exact ⟨rfl, rfl⟩
  rw [decT h1]
  go_wp2_with fail
  refine (l1In_any _ _ _ _).mono ?_
  rintro e w2 ⟨rfl, hw2⟩
  have hw2' := hw2.symm
  subst hw2'
  clear hw2
  by_cases h2 : 1 ≤ s ∧ s ≤ 60
  rotate_left
  · rw [decF h2]
    have HV : Hid (idOf a s = -1) := by show _ = _; unfold idOf; rw [if_neg (fun e => h2 e.2)]
    clear h1 h2
    go_wp2
    go_ret
    rw [HV.out]
    exact ⟨rfl, rfl⟩
  rw [decT h2]
  have HV : Hid (idOf a s = 100 * a + s) := by show _ = _; unfold idOf; rw [if_pos ⟨h1, h2⟩]
  obtain ⟨a0, a1⟩ := h1
  obtain ⟨s0, s1⟩ := h2
  go_wp2
  go_ret
  rw [HV.out]
  exact ⟨rfl, rfl⟩
set_option maxRecDepth 200000 in
theorem l6Place_any (k p : Int) (w : World) : Calls Try.prog 62 #[.int .i64 k, .int .i64 p] w fun e w' => e = .returned (.bool (placeOk k p)) ∧ w' = w := by
  go_enter Try.func62, Try.ntmps62
  go_wp2_with fail
  refine (l1In_any _ _ _ _).mono ?_
  rintro e w2 ⟨rfl, hw2⟩
  have hw2' := hw2.symm
  subst hw2'
  clear hw2
  obtain ⟨d1, hd1⟩ : ∃ d, d = decide (0 ≤ k ∧ k ≤ 4) := ⟨_, rfl⟩
  rw [← hd1]
  have HD1 : Hid (d1 = decide (0 ≤ k ∧ k ≤ 4)) := hd1
  clear hd1
  cases d1
  · have HV : Hid (placeOk k p = false) := by show _ = _; unfold placeOk; rw [← HD1.out]; rfl
    go_wp2
    go_ret
    exact ⟨ret_bool HV.out.symm, rfl⟩
  go_wp2_with fail
  refine (l1In_any _ _ _ _).mono ?_
  rintro e w2 ⟨rfl, hw2⟩
  have hw2' := hw2.symm
  subst hw2'
  clear hw2
  obtain ⟨d2, hd2⟩ : ∃ d, d = decide (0 ≤ p ∧ p ≤ 20) := ⟨_, rfl⟩
  rw [← hd2]
  have HV : Hid (d2 = placeOk k p) := by show _ = _; unfold placeOk; rw [← HD1.out, ← hd2]; rfl
  clear hd2
  go_wp2
  go_ret
  exact ⟨ret_bool HV.out, rfl⟩
set_option maxRecDepth 200000 in
set_option maxHeartbeats 2000000 in
theorem itemOkSpec_any (v : Value) (x : It) (F : List Nat) (w : World) (h : RdIt w v x F) (hw : x.sk.wide) :
    Calls Try.prog 39 #[v] w fun e w' => e = .returned (.bool x.ok) ∧ Below w.heap.size w w' := by
  obtain ⟨a1, n1, c1, a2, n2, c2, a3, n3, c3, rfl, hr⟩ := h
  have HR : Hid (RdSk w (.agg #[.int .i64 x.sk.count, .int .i64 x.sk.sum, .int .i64 x.sk.min, .int .i64 x.sk.max, .slice a1 n1 c1, .slice a2 n2 c2, .slice a3 n3 c3]) x.sk F ∧ x.sk.wide) := ⟨hr, hw⟩
  have HB : Hid (Below w.heap.size w (w.alloc (.cells #[.int .i64 x.seq, .int .i64 x.cls, .int .i64 x.key, .int .i64 x.window, .int .i64 x.sk.count, .int .i64 x.sk.sum, .int .i64 x.sk.min, .int .i64 x.sk.max, .slice a1 n1 c1, .slice a2 n2 c2, .slice a3 n3 c3] 40)) ∧ Blk (w.alloc (.cells #[.int .i64 x.seq, .int .i64 x.cls, .int .i64 x.key, .int .i64 x.window, .int .i64 x.sk.count, .int .i64 x.sk.sum, .int .i64 x.sk.min, .int .i64 x.sk.max, .slice a1 n1 c1, .slice a2 n2 c2, .slice a3 n3 c3] 40)) w.heap.size #[.int .i64 x.seq, .int .i64 x.cls, .int .i64 x.key, .int .i64 x.window, .int .i64 x.sk.count, .int .i64 x.sk.sum, .int .i64 x.sk.min, .int .i64 x.sk.max, .slice a1 n1 c1, .slice a2 n2 c2, .slice a3 n3 c3] 40) := ⟨Below.allocW _ (Below.refl _ _) (Nat.le_refl _), Blk.made _ _ _⟩
  clear hr hw
  go_enter Try.func39, Try.ntmps39
  go_wp2_with fail
  refine (l1In_any _ _ _ _).mono ?_
  rintro e w2 ⟨rfl, hw2⟩
  have hw2' := hw2.symm
  subst hw2'
  clear hw2
  obtain ⟨d1, hd1⟩ : ∃ d, d = decide (1 ≤ x.seq ∧ x.seq ≤ 60) := ⟨_, rfl⟩
  rw [← hd1]
  have HD1 : Hid (d1 = decide (1 ≤ x.seq ∧ x.seq ≤ 60)) := hd1
  clear hd1
  cases d1
  · have HV : Hid (x.ok = false) := by show _ = _; unfold It.ok; rw [← HD1.out]; rfl
    go_wp2
    go_ret
    exact ⟨ret_bool HV.out.symm, HB.out.1⟩
  go_wp2_with fail
  refine (l1In_any _ _ _ _).mono ?_
  rintro e w2 ⟨rfl, hw2⟩
  have hw2' := hw2.symm
  subst hw2'
  clear hw2
  obtain ⟨d2, hd2⟩ : ∃ d, d = decide (0 ≤ x.cls ∧ x.cls ≤ 1) := ⟨_, rfl⟩
  rw [← hd2]
  have HD2 : Hid (d2 = decide (0 ≤ x.cls ∧ x.cls ≤ 1)) := hd2
  clear hd2
  cases d2
  · have HV : Hid (x.ok = false) := by show _ = _; unfold It.ok; rw [← HD1.out, ← HD2.out]; rfl
    go_wp2
    go_ret
    exact ⟨ret_bool HV.out.symm, HB.out.1⟩
  go_wp2_with fail
  refine (l6Place_any _ _ _).mono ?_
  rintro e w2 ⟨rfl, hw2⟩
  have hw2' := hw2.symm
  subst hw2'
  clear hw2
  obtain ⟨d3, hd3⟩ : ∃ d, d = placeOk x.key x.window := ⟨_, rfl⟩
  rw [← hd3]
  have HD3 : Hid (d3 = placeOk x.key x.window) := hd3
  clear hd3
  cases d3
  · have HV : Hid (x.ok = false) := by show _ = _; unfold It.ok; rw [← HD1.out, ← HD2.out, ← HD3.out]; rfl
    go_wp2
    go_ret
    exact ⟨ret_bool HV.out.symm, HB.out.1⟩
  go_wp2_with (first | go_skip | (with_reducible refine stopLoad 28 rfl ?_))
  refine load_cutw 28 w.heap.size 4 7 _ #[.int .i64 x.sk.count, .int .i64 x.sk.sum, .int .i64 x.sk.min, .int .i64 x.sk.max, .slice a1 n1 c1, .slice a2 n2 c2, .slice a3 n3 c3] 40 _ HB.out.2 rfl rfl rfl Try.underlying28 rfl infoSkI (by simp) rfl ?_
  go_wp2_with fail
  refine (okSpec_any _ x.sk F _ (HR.out.1.below HB.out.1) HR.out.2).mono ?_
  rintro e w2 ⟨rfl, hb2⟩
  have HB2 : Hid (Below w.heap.size w w2) := Below.next HB.out.1 hb2
  have HV : Hid (x.ok = x.sk.ok) := by show _ = _; unfold It.ok; rw [← HD1.out, ← HD2.out, ← HD3.out]; rfl
  clear hb2
  obtain ⟨d4, hd4⟩ : ∃ d, d = x.sk.ok := ⟨_, rfl⟩
  rw [← hd4] at HV ⊢
  clear hd4
  go_wp2
  go_ret
  exact ⟨ret_bool HV.out.symm, HB2.out⟩
set_option maxRecDepth 200000 in
set_option maxHeartbeats 2000000 in
theorem entryOkSpec_any (v : Value) (x : En) (F G : List Nat) (w : World) (h : RdEn w v x F G) (hw : x.sk.wide) (hl : x.ids.length ≤ 140737488355328) :
    Calls Try.prog 28 #[v] w fun e w' => e = .returned (.bool x.ok) ∧ Below w.heap.size w w' := by
  obtain ⟨b, l, c, a1, n1, c1, a2, n2, c2, a3, n3, c3, rfl, hp, hr, _⟩ := h
  have HR : Hid (RdSk w (.agg #[.int .i64 x.sk.count, .int .i64 x.sk.sum, .int .i64 x.sk.min, .int .i64 x.sk.max, .slice a1 n1 c1, .slice a2 n2 c2, .slice a3 n3 c3]) x.sk G ∧ x.sk.wide) := ⟨hr, hw⟩
  have HP : Hid (RdP w b l x.ids F ∧ l ≤ 140737488355328 ∧ x.ids.length = l) := ⟨hp, by rw [← hp.length]; exact hl, hp.length⟩
  have HB : Hid (Below w.heap.size w (w.alloc (.cells #[.int .i64 x.key, .int .i64 x.window, .slice b l c, .int .i64 x.sk.count, .int .i64 x.sk.sum, .int .i64 x.sk.min, .int .i64 x.sk.max, .slice a1 n1 c1, .slice a2 n2 c2, .slice a3 n3 c3] 30)) ∧ Blk (w.alloc (.cells #[.int .i64 x.key, .int .i64 x.window, .slice b l c, .int .i64 x.sk.count, .int .i64 x.sk.sum, .int .i64 x.sk.min, .int .i64 x.sk.max, .slice a1 n1 c1, .slice a2 n2 c2, .slice a3 n3 c3] 30)) w.heap.size #[.int .i64 x.key, .int .i64 x.window, .slice b l c, .int .i64 x.sk.count, .int .i64 x.sk.sum, .int .i64 x.sk.min, .int .i64 x.sk.max, .slice a1 n1 c1, .slice a2 n2 c2, .slice a3 n3 c3] 30) := ⟨Below.allocW _ (Below.refl _ _) (Nat.le_refl _), Blk.made _ _ _⟩
  clear hr hw hp hl
  go_enter Try.func28, Try.ntmps28
  go_wp2_with fail
  refine (l6Place_any _ _ _).mono ?_
  rintro e w2 ⟨rfl, hw2⟩
  have hw2' := hw2.symm
  subst hw2'
  clear hw2
  obtain ⟨d1, hd1⟩ : ∃ d, d = placeOk x.key x.window := ⟨_, rfl⟩
  rw [← hd1]
  have HD1 : Hid (d1 = placeOk x.key x.window) := hd1
  clear hd1
  cases d1
  · have HV : Hid (x.ok = false) := by show _ = _; unfold En.ok; rw [← HD1.out]; rfl
    go_wp2
    go_ret
    exact ⟨ret_bool HV.out.symm, HB.out.1⟩
  by_cases h0 : l = 0
  · subst h0
    have HV : Hid (x.ok = false) := by show _ = _; unfold En.ok; rw [← HD1.out, HP.out.2.2]; rfl
    go_wp2
    go_ret
    exact ⟨ret_bool HV.out.symm, HB.out.1⟩
  have g1 : decide ((0 : Int) < (l : Int)) = true := decT (by omega)
  have g2 : decide (0 < l) = true := decT (by omega)
  have g3 : 0 < l := by omega
  clear h0
  go_wp2_with fail
  refine (setOkSpec_any b l c x.ids F _ (HP.out.1.below HB.out.1) HP.out.2.1).mono ?_
  rintro e w2 ⟨rfl, hq⟩
  have HB2 : Hid (Below w.heap.size w w2 ∧ Blk w2 w.heap.size #[.int .i64 x.key, .int .i64 x.window, .slice b l c, .int .i64 x.sk.count, .int .i64 x.sk.sum, .int .i64 x.sk.min, .int .i64 x.sk.max, .slice a1 n1 c1, .slice a2 n2 c2, .slice a3 n3 c3] 30) := ⟨Below.next HB.out.1 (quiet_below hq), HB.out.2.below (quiet_below hq)⟩
  obtain ⟨d2, hd2⟩ : ∃ d, d = x.ids.ok := ⟨_, rfl⟩
  rw [← hd2]
  have HD2 : Hid (d2 = x.ids.ok) := hd2
  clear hd2 hq HB
  cases d2
  · have HV : Hid (x.ok = false) := by show _ = _; unfold En.ok; rw [← HD2.out]; simp
    go_wp2
    go_ret
    exact ⟨ret_bool HV.out.symm, HB2.out.1⟩
  go_wp2_with (first | go_skip | (with_reducible refine stopLoad 28 rfl ?_))
  refine load_cutw 28 w.heap.size 3 7 _ #[.int .i64 x.sk.count, .int .i64 x.sk.sum, .int .i64 x.sk.min, .int .i64 x.sk.max, .slice a1 n1 c1, .slice a2 n2 c2, .slice a3 n3 c3] 30 _ HB2.out.2 rfl rfl rfl Try.underlying28 rfl infoSkI (by simp) rfl ?_
  go_wp2_with fail
  refine (okSpec_any _ x.sk G _ (HR.out.1.below HB2.out.1) HR.out.2).mono ?_
  rintro e w3 ⟨rfl, hb3⟩
  have HB3 : Hid (Below w.heap.size w w3) := Below.next HB2.out.1 hb3
  have HV : Hid (x.ok = x.sk.ok) := by show _ = _; unfold En.ok; rw [← HD1.out, ← HD2.out, HP.out.2.2, g2]; rfl
  clear hb3
  obtain ⟨d4, hd4⟩ : ∃ d, d = x.sk.ok := ⟨_, rfl⟩
  rw [← hd4] at HV ⊢
  clear hd4
  go_wp2
  go_ret
  exact ⟨ret_bool HV.out.symm, HB3.out⟩
end Go.Proofs.Ytbmbmnhamogghab
