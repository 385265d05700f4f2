/- What a quantile is, as plain data; the walks through the small functions of both sides. No statement of the seat is proved here. -/
import Derived.Test.YtlapdamopclojaaAskDiff
import Derived.Test.YtlapdamopclojaaStop
namespace Go.Proofs.Ytlapdamopclojaa
open Go.RowKit
def highN (k : Int) : Int := if k = 7 then 1000000 else lowN (k + 1) - 1
/-- What the first k of them come to. -/
def up (H : List Int) (k : Nat) : Int := (H.take k).sum
theorem up_zero (H : List Int) : up H 0 = 0 := by simp [up]
theorem up_succ {H : List Int} {k : Nat} (hk : k < H.length) : up H (k + 1) = up H k + H[k]?.getD 0 := by
  unfold up
  rw [take_succ' H k hk, List.sum_append]
  simp
/-- All are in bounds. -/
def Hin (H : List Int) : Prop := H.length = 8 ∧ ∀ x ∈ H, 0 ≤ x ∧ x ≤ 1000000000
theorem Hin.at {H : List Int} (h : Hin H) (k : Nat) : 0 ≤ H[k]?.getD 0 ∧ H[k]?.getD 0 ≤ 1000000000 := by
  by_cases hk : k < H.length
  · rw [List.getElem?_eq_getElem hk]; exact h.2 _ (List.getElem_mem hk)
  · rw [List.getElem?_eq_none (by omega)]; simp
theorem Hin.up {H : List Int} (h : Hin H) : ∀ k, 0 ≤ up H k ∧ up H k ≤ 1000000000 * k ∧ up H k ≤ 8000000000
  | 0 => by rw [up_zero]; omega
  | k + 1 => by
    have ih := Hin.up h k
    by_cases hk : k < H.length
    · have e := up_succ hk
      have b := h.at k
      have := h.1
      omega
    · have e : Proofs.Ytlapdamopclojaa.up H (k + 1) = Proofs.Ytlapdamopclojaa.up H k := by unfold Proofs.Ytlapdamopclojaa.up; rw [List.take_of_length_le (by omega), List.take_of_length_le (by omega)]
      omega
theorem okHist {s : Sk} (h : s.ok = true) : Hin s.hist := by
  refine ⟨(tl_hist h).2, ?_⟩
  unfold Sk.ok okLists at h
  simp only [Bool.and_eq_true] at h
  have h1 := h.2.1.1.1
  unfold okL at h1
  simp only [Bool.and_eq_true, List.all_eq_true] at h1
  intro x hx
  have := h1.2 x hx
  unfold okN at this
  simp at this
  exact this.1
theorem zeroHist {s : Sk} (h : s.ok = true) (h0 : s.count = 0) : ∀ x ∈ s.hist, x = 0 := by
  unfold Sk.ok okLists at h
  simp only [Bool.and_eq_true] at h
  have h1 := h.2.1.1.1
  unfold okL at h1
  simp only [Bool.and_eq_true, List.all_eq_true] at h1
  intro x hx
  have := h1.2 x hx
  unfold okN at this
  simp [h0] at this
  exact this.2
/-- The quantile stands in bucket j or ahead of it, and bucket j has something. -/
def qhit (H : List Int) (p : Int) (j : Nat) : Bool := decide (0 < H[j]?.getD 0) && decide (p * up H 8 ≤ up H (j + 1) * 1000)
def quantH (H : List Int) (p : Int) : Int × Int := match (List.range 8).find? (qhit H p) with | some j => (lowN j, highN j) | none => (0, 0)
def quantN (s : Sk) (p : Int) : Int × Int := if s.ok = true ∧ 1 ≤ p ∧ p ≤ 1000 then quantH s.hist p else (0, 0)
theorem quantH_hit {H : List Int} {p : Int} {k : Nat} (hk : k < 8) (h : ∀ i, i < k → qhit H p i = false) (hq : qhit H p k = true) : quantH H p = (lowN k, highN k) := by
  have e : (List.range 8).find? (qhit H p) = some k := List.find?_range_eq_some.2 ⟨hq, by simpa using hk, fun j hj => by rw [h j hj]; rfl⟩
  unfold quantH; rw [e]
theorem quantH_none {H : List Int} {p : Int} (h : ∀ i, i < 8 → qhit H p i = false) : quantH H p = (0, 0) := by
  have e : (List.range 8).find? (qhit H p) = none := List.find?_range_eq_none.2 (fun j hj => by rw [h j hj]; rfl)
  unfold quantH; rw [e]
theorem quantN_not {s : Sk} {p : Int} (h : s.ok = false) : quantN s p = (0, 0) := by unfold quantN; rw [if_neg (by rw [h]; simp)]
theorem quantN_out {s : Sk} {p : Int} (h : ¬ (1 ≤ p ∧ p ≤ 1000)) : quantN s p = (0, 0) := by unfold quantN; rw [if_neg (fun e => h e.2)]
theorem quantN_in {s : Sk} {p : Int} (h : s.ok = true) (h1 : 1 ≤ p) (h2 : p ≤ 1000) : quantN s p = quantH s.hist p := by unfold quantN; rw [if_pos ⟨h, h1, h2⟩]
theorem qhit_none {H : List Int} {p : Int} {j : Nat} (h : ¬ 0 < H[j]?.getD 0) : qhit H p j = false := by unfold qhit; rw [dec_false h]; rfl
theorem qhit_low {H : List Int} {p : Int} {j : Nat} (h : ¬ p * up H 8 ≤ up H (j + 1) * 1000) : qhit H p j = false := by unfold qhit; rw [dec_false h]; simp
theorem qhit_yes {H : List Int} {p : Int} {j : Nat} (h : 0 < H[j]?.getD 0) (k : p * up H 8 ≤ up H (j + 1) * 1000) : qhit H p j = true := by unfold qhit; rw [dec_true h, dec_true k]; rfl
theorem quantN_zero {s : Sk} {p : Int} (h : s.ok = true) (h0 : s.count = 0) : quantN s p = (0, 0) := by
  by_cases q : 1 ≤ p ∧ p ≤ 1000
  · rw [quantN_in h q.1 q.2]
    refine quantH_none fun i _ => qhit_none ?_
    by_cases hk : i < s.hist.length
    · rw [List.getElem?_eq_getElem hk]
      have := zeroHist h h0 _ (List.getElem_mem hk)
      simp [this]
    · rw [List.getElem?_eq_none (by omega)]; simp
  · exact quantN_out q
theorem prod_range {p A : Int} (h1 : 1 ≤ p) (h2 : p ≤ 1000) (h3 : 0 ≤ A) (h4 : A ≤ 8000000000) : 0 ≤ p * A ∧ p * A ≤ 8000000000000 := by
  refine ⟨Int.mul_nonneg (by omega) h3, ?_⟩
  have a := Int.mul_le_mul_of_nonneg_right h2 h3
  omega
theorem high_any (k : Int) (w : World) (h0 : 0 ≤ k) (h1 : k ≤ 7) : Calls Try.prog 60 #[.int .i64 k] w fun e w' => e = .returned (.int .i64 (highN k)) ∧ w' = w := by
  by_cases q : k = 7
  · subst q
    go_enter Try.func60, Try.ntmps60
    go_wp2
    go_ret
    exact ⟨rfl, rfl⟩
  · have qb : (k == 7) = false := by simpa using q
    have HV : Hid (highN k = lowN (k + 1) - 1) := by show _ = _; unfold highN; rw [if_neg q]
    have HB : Hid (-1 ≤ lowN (k + 1) ∧ lowN (k + 1) ≤ 262144) := by show _ ∧ _; unfold lowN; (repeat' split) <;> omega
    clear q
    go_enter Try.func60, Try.ntmps60
    go_wp2_with fail
    refine (lowImpl_any _ _).mono ?_
    rintro e w1 ⟨rfl, hw1⟩
    have hw1' := hw1.symm
    subst hw1'
    clear hw1
    obtain ⟨y, hy⟩ : ∃ y, y = lowN (k + 1) := ⟨_, rfl⟩
    rw [← hy] at HV HB ⊢
    have y0 := HB.out.1
    have y1 := HB.out.2
    clear hy
    go_wp2
    go_ret
    rw [HV.out]
    exact ⟨rfl, rfl⟩
set_option maxHeartbeats 1000000 in
theorem inBuckets_any (ys : List Int) (w : World) (hy : ys.length = 28) (hH : Hin ((ys.drop 4).take 8)) :
    Calls Try.prog 58 #[.agg (tc ys)] w fun e w' => e = .returned (.int .i64 (up ((ys.drop 4).take 8) 8)) ∧ Below w.heap.size w w' := by
  have HY : Hid (ys.length = 28) := hy
  have HT : Hid (Blk (w.alloc (.cells (tc ys) 66)) w.heap.size (tc ys) 66 ∧ Below w.heap.size w (w.alloc (.cells (tc ys) 66))) := ⟨Blk.made _ _ _, (Below.refl _ _).alloc (Nat.le_refl _) _⟩
  clear hy
  go_enter Try.func58, Try.ntmps58
  go_wp2_with (first | go_skip | (with_reducible refine stopLoad 62 rfl ?_))
  refine load_part 62 w.heap.size 4 8 ys 66 _ HT.out.1 rfl rfl rfl Try.underlying62 rfl (by kernel_rfl) (by rw [HY.out]; omega) ?_
  obtain ⟨R, hR⟩ : ∃ R, R = (ys.drop 4).take 8 := ⟨_, rfl⟩
  rw [← hR] at hH ⊢
  have HR : Hid (Hin R) := hH
  have HE : Hid (R = (ys.drop 4).take 8) := hR
  clear hH hR
  go_wp2
  go_loop [3, 8] (fun c i => ∃ (k : Nat) (m : Int), k ≤ 8 ∧ i = .int .i64 k ∧ c = .int .i64 m ∧ 0 ≤ m ∧ m ≤ 8000000000 ∧ Hid (m = up R k)) (fun _ i => 8 - (intOf i).toNat)
  case atStart => exact ⟨0, 0, by omega, rfl, rfl, by omega, by omega, (up_zero R).symm⟩
  case round =>
    obtain ⟨k, m, hk, rfl, rfl, m0, m8, HM⟩ := hrel
    by_cases hlt : k < 8
    · obtain ⟨x, hx⟩ : ∃ x, x = R[k]?.getD 0 := ⟨_, rfl⟩
      have hi : ∀ w, (Instr.index 62 (.agg (tc R)) (.int .i64 k)).run Try.prog w = .ok (.int .i64 x) w := fun w => by
        rw [hx]; exact run_index_int w 62 3 R 8 k HR.out.1 hlt Try.underlying62 Try.underlying3 (fun _ => by simp)
      have hu : up R (k + 1) = m + x := by rw [up_succ (by rw [HR.out.1]; exact hlt), ← hx, ← HM.out]
      have HU : Hid (m + x = up R (k + 1)) := hu.symm
      have b1 : 0 ≤ m + x := by have := (HR.out.up (k + 1)).1; omega
      have b2 : m + x ≤ 8000000000 := by have := (HR.out.up (k + 1)).2.2; omega
      have b3 : 0 ≤ x := by rw [hx]; exact (HR.out.at k).1
      clear hx hu
      go_wp2
      go_round
      case rel => exact ⟨k + 1, m + x, by omega, by go_num, by go_num, b1, b2, HU⟩
      case measure => simp [intOf]; omega
    · obtain rfl : k = 8 := by omega
      simp only [Int.cast_ofNat_Int]
      go_wp2
      go_ret
      rw [← HE.out]
      exact ⟨ret_int HM.out, HT.out.2⟩
set_option maxHeartbeats 1000000 in
theorem l4Sum_any (b off cap : Nat) (H : List Int) (w : World) (hH : Hin H) (hc : ∀ i, i < 8 → w.cell? ⟨b, off + i, none⟩ = some (.int .i64 (H[i]?.getD 0))) :
    Calls Try.prog 61 #[.slice (some ⟨b, off, none⟩) 8 cap] w fun e w' => e = .returned (.int .i64 (up H 8)) ∧ w' = w := by
  have HR : Hid (Hin H) := hH
  have HC : Hid (∀ i, i < 8 → w.cell? ⟨b, off + i, none⟩ = some (.int .i64 (H[i]?.getD 0))) := hc
  clear hH hc
  go_enter Try.func61, Try.ntmps61
  go_wp2
  go_loop [3, 4] (fun c i => ∃ (k : Nat) (m : Int), k ≤ 8 ∧ i = .int .i64 k ∧ c = .int .i64 m ∧ 0 ≤ m ∧ m ≤ 8000000000 ∧ Hid (m = up H k)) (fun _ i => 8 - (intOf i).toNat)
  case atStart => exact ⟨0, 0, by omega, rfl, rfl, by omega, by omega, (up_zero H).symm⟩
  case round =>
    obtain ⟨k, m, hk, rfl, rfl, m0, m8, HM⟩ := hrel
    by_cases hlt : k < 8
    · obtain ⟨x, hx⟩ : ∃ x, x = H[k]?.getD 0 := ⟨_, rfl⟩
      have hi : w.cell? ⟨b, off + k, none⟩ = some (.int .i64 x) := by rw [hx]; exact HC.out k hlt
      have hu : up H (k + 1) = m + x := by rw [up_succ (by rw [HR.out.1]; exact hlt), ← hx, ← HM.out]
      have HU : Hid (m + x = up H (k + 1)) := hu.symm
      have b1 : 0 ≤ m + x := by have := (HR.out.up (k + 1)).1; omega
      have b2 : m + x ≤ 8000000000 := by have := (HR.out.up (k + 1)).2.2; omega
      have b3 : 0 ≤ x := by rw [hx]; exact (HR.out.at k).1
      clear hx hu
      go_wp2
      go_round
      case rel => exact ⟨k + 1, m + x, by omega, by go_num, by go_num, b1, b2, HU⟩
      case measure => simp [intOf]; omega
    · obtain rfl : k = 8 := by omega
      simp only [Int.cast_ofNat_Int]
      go_wp2
      go_ret
      exact ⟨ret_int HM.out, rfl⟩
end Go.Proofs.Ytlapdamopclojaa
