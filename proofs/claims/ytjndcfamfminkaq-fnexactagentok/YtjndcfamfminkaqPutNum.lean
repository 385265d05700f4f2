/- The walks through PutNum, the program's and the model's. No statement of the seat is proved here. -/
import Derived.Test.YtjndcfamfminkaqBase
import Derived.Test.YtjndcfamfminkaqNumMath
import Derived.Test.YtjndcfamfminkaqInOf
namespace Go.Proofs.Ytjndcfamfminkaq
open Go.RowKit

theorem grow_step {B : Nat} {w wr w1 : World} {o : Obj} {v v' : Value} {acc : List Int} {x : Int} (hB : B ≤ wr.heap.size)
    (hown : wr.ownsRow B 5 1 v acc.length (acc.map (Value.int .u8))) (hbel : Below B w wr)
    (hown' : w1.ownsRow B 5 1 v' (acc.length + 1) (acc.map (Value.int .u8) ++ [.int .u8 x])) (hgrow : (wr.alloc o).grownBy w1 v.ownBlock) :
    w1.ownsRow B 5 1 v' (acc ++ [x]).length ((acc ++ [x]).map (Value.int .u8)) ∧ Below B w w1 := by
  refine ⟨by simpa using hown', (hbel.alloc hB o).grown hgrow (by simp; omega) (fun j hj => (hown.lt j hj).1)⟩

set_option maxRecDepth 200000 in
set_option maxHeartbeats 400000 in
theorem putImpl_any (n : Int) (w : World) (h0 : -9223372036854775808 ≤ n) (h1 : n ≤ 9223372036854775807) : Calls Try.prog 95 #[.int .i64 n] w fun e w' =>
    ∃ v, e = .returned v ∧ w'.ownsRow w.heap.size 5 1 v (encOf n).length ((encOf n).map (Value.int .u8)) ∧ Below w.heap.size w w' := by
  obtain ⟨i0, hi, hz0, hz1, hz2⟩ := info_parts Try.info5
  by_cases hr : 0 ≤ n ∧ n ≤ 2147483647
  · obtain ⟨hn0, hn1⟩ := hr
    obtain ⟨N, rfl⟩ := Int.eq_ofNat_of_zero_le hn0
    have HE : Hid (encOf (N : Int) = encN N) := by show encOf (N : Int) = encN N; rw [encOf, if_pos ⟨hn0, hn1⟩]; rfl
    have hN : N ≤ 2147483647 := by omega
    have hd1 : decide ((N : Int) < 0) = false := by simp
    have hd2 : decide (2147483647 < (N : Int)) = false := by simp; omega
    clear h0 h1 hn0 hn1
    go_enter Try.func95, Try.ntmps95
    go_wp2
    clear hd1 hd2
    go_loopw [0, 3] (fun s v wr => ∃ (m : Int) (acc : List Int), 0 ≤ m ∧ m ≤ 2147483647 ∧ s = .int .i64 m ∧ wr.ownsRow w.heap.size 5 1 v acc.length (acc.map (Value.int .u8)) ∧ Hid (acc ++ encN m.toNat = encN N) ∧ Below w.heap.size w wr) (fun s _ _ => (intOf s).toNat)
    case atStart => exact ⟨(N : Int), [], by omega, by omega, rfl, World.ownsRow_nil _ _ _ _, rfl, Below.refl _ _⟩
    case round =>
      obtain ⟨m, acc, hm0, hm, rfl, hown, HA, hbel⟩ := hrel
      have hacc := enc_acc HA.out hN
      have hsz := hbel.size
      by_cases hbig : 128 ≤ m
      · go_wp2_with (first
          | (at_builtin; (refine wpList_append_own _ rfl _ _ 27 rfl w.heap.size 5 i0 (.int .u8 0) 1 1 Try.underlying27 hi hz0 hz1 hz2 rfl (by decide) _ _ _ rfl (hown.alloc _) ⟨wr.heap.size, 0, none⟩ 1 1 [.int .u8 (m % 128 + 128)] rfl rfl ?c1 ?c2 ?c3 ?c4 ?c5 ?_)))
        case c1 => exact cell_one_new _ _ _
        case c2 => intro u hu; simp at hu; subst hu; rfl
        case c3 => unfold maxLen; omega
        case c4 => omega
        case c5 => simp; omega
        intro v' w1 hown' hgrow _
        have R := grow_step (by omega) hown hbel hown' hgrow
        clear hown' hgrow hown hbel
        go_wp2
        go_roundw
        case rel => exact ⟨m / 128, acc ++ [m % 128 + 128], by omega, by omega, by go_num, R.1, enc_next hm0 HA.out hbig, R.2⟩
        case measure => simp [intOf]; omega
      · have hbi : m < 128 := by omega
        clear hbig
        go_wp2_with (first
          | (at_builtin; (refine wpList_append_own _ rfl _ _ 27 rfl w.heap.size 5 i0 (.int .u8 0) 1 1 Try.underlying27 hi hz0 hz1 hz2 rfl (by decide) _ _ _ rfl (hown.alloc _) ⟨wr.heap.size, 0, none⟩ 1 1 [.int .u8 m] rfl rfl ?d1 ?d2 ?d3 ?d4 ?d5 ?_)))
        case d1 => exact cell_one_new _ _ _
        case d2 => intro u hu; simp at hu; subst hu; rfl
        case d3 => unfold maxLen; omega
        case d4 => omega
        case d5 => simp; omega
        intro v' w1 hown' hgrow _
        have R := grow_step (by omega) hown hbel hown' hgrow
        rw [enc_last hm0 HA.out hbi, ← HE.out] at R
        clear hown' hgrow hown hbel
        go_wp2
        go_ret
        exact ⟨_, rfl, R.1, R.2⟩
  · have HE : Hid (encOf n = []) := by show encOf n = []; rw [encOf, if_neg hr]
    by_cases hn : n < 0
    · go_enter Try.func95, Try.ntmps95
      go_wp2
      go_ret
      exact ⟨_, rfl, by rw [HE.out]; exact World.ownsRow_nil _ _ _ _, Below.refl _ _⟩
    · have hn' : decide (n < 0) = false := by simpa using hn
      have hn2 : 2147483647 < n := by omega
      go_enter Try.func95, Try.ntmps95
      go_wp2
      go_ret
      exact ⟨_, rfl, by rw [HE.out]; exact World.ownsRow_nil _ _ _ _, Below.refl _ _⟩

set_option maxRecDepth 200000 in
set_option maxHeartbeats 400000 in
theorem putSpec_any (n : Int) (w : World) (h0 : -9223372036854775808 ≤ n) (h1 : n ≤ 9223372036854775807) : Calls Try.prog 91 #[.int .i64 n] w fun e w' =>
    ∃ v, e = .returned v ∧ w'.ownsRow w.heap.size 5 1 v (encOf n).length ((encOf n).map (Value.int .u8)) ∧ Below w.heap.size w w' := by
  obtain ⟨i0, hi, hz0, hz1, hz2⟩ := info_parts Try.info5
  by_cases hr : 0 ≤ n ∧ n ≤ 2147483647
  · obtain ⟨hn0, hn1⟩ := hr
    obtain ⟨N, rfl⟩ := Int.eq_ofNat_of_zero_le hn0
    have HE : Hid (encOf (N : Int) = encN N) := by show encOf (N : Int) = encN N; rw [encOf, if_pos ⟨hn0, hn1⟩]; rfl
    have hN : N ≤ 2147483647 := by omega
    have hd1 : decide (0 ≤ (N : Int) ∧ (N : Int) ≤ 2147483647) = true := by rw [decide_eq_true_iff]; exact ⟨hn0, hn1⟩
    have hstart := World.ownsRow_lit (base := w.heap.size) (e := 5) (size := 1) w #[] 0 (Nat.le_refl _) (by unfold maxLen; omega) rfl
    clear h0 h1 hn0 hn1
    go_enter Try.func91, Try.ntmps91
    go_wp2_with (go_at_call 82; refine (l1In_any _ _ _ _).mono ?_; rintro e w' ⟨rfl, rfl⟩; rw [hd1])
    clear hd1
    go_loopw [0, 3] (fun s v wr => ∃ (m : Int) (acc : List Int), 0 ≤ m ∧ m ≤ 2147483647 ∧ s = .int .i64 m ∧ wr.ownsRow w.heap.size 5 1 v acc.length (acc.map (Value.int .u8)) ∧ Hid (acc ++ encN m.toNat = encN N) ∧ Below w.heap.size w wr) (fun s _ _ => (intOf s).toNat)
    case atStart => exact ⟨(N : Int), [], by omega, by omega, rfl, by simpa using hstart, rfl, (Below.refl _ _).alloc (Nat.le_refl _) _⟩
    case round =>
      obtain ⟨m, acc, hm0, hm, rfl, hown, HA, hbel⟩ := hrel
      have hacc := enc_acc HA.out hN
      have hsz := hbel.size
      by_cases hbig : 128 ≤ m
      · go_wp2_with (first
          | (at_builtin; (refine wpList_append_own _ rfl _ _ 27 rfl w.heap.size 5 i0 (.int .u8 0) 1 1 Try.underlying27 hi hz0 hz1 hz2 rfl (by decide) _ _ _ rfl (hown.alloc _) ⟨wr.heap.size, 0, none⟩ 1 1 [.int .u8 (m % 128 + 128)] rfl rfl ?c1 ?c2 ?c3 ?c4 ?c5 ?_)))
        case c1 => exact cell_one_new _ _ _
        case c2 => intro u hu; simp at hu; subst hu; rfl
        case c3 => unfold maxLen; omega
        case c4 => omega
        case c5 => simp; omega
        intro v' w1 hown' hgrow _
        have R := grow_step (by omega) hown hbel hown' hgrow
        clear hown' hgrow hown hbel
        go_wp2
        go_roundw
        case rel => exact ⟨m / 128, acc ++ [m % 128 + 128], by omega, by omega, by go_num, R.1, enc_next hm0 HA.out hbig, R.2⟩
        case measure => simp [intOf]; omega
      · have hbi : m < 128 := by omega
        clear hbig
        go_wp2_with (first
          | (at_builtin; (refine wpList_append_own _ rfl _ _ 27 rfl w.heap.size 5 i0 (.int .u8 0) 1 1 Try.underlying27 hi hz0 hz1 hz2 rfl (by decide) _ _ _ rfl (hown.alloc _) ⟨wr.heap.size, 0, none⟩ 1 1 [.int .u8 m] rfl rfl ?d1 ?d2 ?d3 ?d4 ?d5 ?_)))
        case d1 => exact cell_one_new _ _ _
        case d2 => intro u hu; simp at hu; subst hu; rfl
        case d3 => unfold maxLen; omega
        case d4 => omega
        case d5 => simp; omega
        intro v' w1 hown' hgrow _
        have R := grow_step (by omega) hown hbel hown' hgrow
        rw [enc_last hm0 HA.out hbi, ← HE.out] at R
        clear hown' hgrow hown hbel
        go_wp2
        go_ret
        exact ⟨_, rfl, R.1, R.2⟩
  · have HE : Hid (encOf n = []) := by show encOf n = []; rw [encOf, if_neg hr]
    have hd1 : decide (0 ≤ n ∧ n ≤ 2147483647) = false := by rw [decide_eq_false_iff_not]; exact hr
    have hstart := World.ownsRow_lit (base := w.heap.size) (e := 5) (size := 1) w #[] 0 (Nat.le_refl _) (by unfold maxLen; omega) rfl
    clear hr
    go_enter Try.func91, Try.ntmps91
    go_wp2_with (go_at_call 82; refine (l1In_any _ _ _ _).mono ?_; rintro e w' ⟨rfl, rfl⟩; rw [hd1])
    go_ret
    exact ⟨_, rfl, by rw [HE.out]; simpa using hstart, (Below.refl _ _).alloc (Nat.le_refl _) _⟩

set_option maxRecDepth 200000 in
/-- Of a number that is not to be written: nothing. -/
theorem putImpl_nil (n : Int) (w : World) (hr : ¬ (0 ≤ n ∧ n ≤ 2147483647)) : Calls Try.prog 95 #[.int .i64 n] w fun e w' => e = .returned (.slice none 0 0) ∧ w' = w := by
  by_cases hn : n < 0
  · go_enter Try.func95, Try.ntmps95
    go_wp2
    go_ret
    exact ⟨rfl, rfl⟩
  · have hn' : decide (n < 0) = false := by simpa using hn
    have hn2 : 2147483647 < n := by omega
    go_enter Try.func95, Try.ntmps95
    go_wp2
    go_ret
    exact ⟨rfl, rfl⟩
end Go.Proofs.Ytjndcfamfminkaq
