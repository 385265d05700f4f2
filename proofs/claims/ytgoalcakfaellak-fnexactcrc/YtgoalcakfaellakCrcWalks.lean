/- The walks through the two check sums (the model's and the program's), through the copying and the comparing of byte slices. No statement of the seat is proved here. -/
import Derived.Test.YtgoalcakfaellakBase
import Derived.Test.YtgoalcakfaellakCrcMath
namespace Go.Proofs.Ytgoalcakfaellak
open Go.RowKit

set_option maxRecDepth 100000 in
set_option maxHeartbeats 400000 in
theorem halved_any (x : Int) (w : World) (hx : W32 x) : Calls Try.prog 31 #[.int .u32 x] w fun e w' => e = .returned (.int .u32 (it32 8 x)) ∧ w' = w := by
  go_enter Try.func31, Try.ntmps31
  go_wp2
  go_loop [0, 4] (fun s i => ∃ (k : Nat) (y : Int), k ≤ 8 ∧ 0 ≤ y ∧ y < 4294967296 ∧ i = .int .i64 k ∧ s = .int .u32 y ∧ Hid (y = it32 k x)) (fun _ i => 8 - (intOf i).toNat)
  case atStart => exact ⟨0, x, by omega, hx.1, hx.2, rfl, rfl, rfl⟩
  case round =>
    obtain ⟨k, y, hk, hy0, hy1, rfl, rfl, HY⟩ := hrel
    by_cases hlt : k < 8
    · by_cases ho : y % 2 = 1
      · go_wp2
        go_round
        case rel => exact ⟨k + 1, _, by omega, (odd32 HY.out hy0 hy1 ho).1, (odd32 HY.out hy0 hy1 ho).2.1, by go_num, rfl, (odd32 HY.out hy0 hy1 ho).2.2⟩
        case measure => simp [intOf]; omega
      · have hob : (y % 2 == 1) = false := by simpa using ho
        go_wp2
        go_round
        case rel => exact ⟨k + 1, _, by omega, (even32 HY.out hy0 hy1 ho).1, (even32 HY.out hy0 hy1 ho).2.1, by go_num, rfl, (even32 HY.out hy0 hy1 ho).2.2⟩
        case measure => simp [intOf]; omega
    · obtain rfl : k = 8 := by omega
      go_wp2
      go_ret
      exact ⟨ret_int HY.out, rfl⟩

set_option maxRecDepth 100000 in
set_option maxHeartbeats 400000 in
theorem crcImpl_any (a : Option Addr) (len cap : Nat) (zs : List Int) (w : World) (h : RdB w a len zs) (hlen : len ≤ 1048576) :
    Calls Try.prog 24 #[.slice a len cap] w fun e w' => e = .returned (.int .i64 (bits .xor .i64 (crc64 zs) 4294967295)) ∧ w' = w := by
  rcases h.cells with h0 | ⟨b, off, rfl, hc⟩
  · subst h0
    have hz : zs = [] := List.eq_nil_of_length_eq_zero h.length
    subst hz
    clear h
    go_enter Try.func24, Try.ntmps24
    go_wp2
    refine wp_loop_rounds 1 ?_
    rw [rounds_succ]
    go_wp2
    go_ret
    exact ⟨ret_int (by decide +kernel), rfl⟩
  · have HL : Hid (zs.length = len) := h.length
    have Hr : Hid (∀ n ∈ zs, 0 ≤ n ∧ n ≤ 255) := h.range
    clear h
    go_enter Try.func24, Try.ntmps24
    go_wp2
    go_loop [3, 8] (fun s i => ∃ (k : Nat) (y : Int), k ≤ len ∧ i = .int .i64 k ∧ s = .int .u32 y ∧ Hid (y = crc32 (zs.take k))) (fun _ i => len - (intOf i).toNat)
    case atStart => exact ⟨0, _, by omega, rfl, rfl, rfl⟩
    case round =>
      obtain ⟨k, y, hk, rfl, rfl, HY⟩ := hrel
      by_cases hlt : k < len
      · have hck := hc k hlt
        have hb := getD_range Hr.out k
        have hy := crc_same _ (take_range Hr.out k)
        rw [← hy.1, ← HY.out] at hy
        obtain ⟨_, hy0, hy1⟩ := hy
        go_wp2_with (go_at_call 31; refine (halved_any _ _ (xor_w y _ ⟨hy0, hy1⟩ ⟨hb.1, by omega⟩)).mono ?_; rintro e w' ⟨rfl, rfl⟩)
        go_round
        case rel => exact ⟨k + 1, _, by omega, by go_num, rfl, step32 (by rw [HL.out]; exact hlt) HY.out⟩
        case measure => simp [intOf]; omega
      · obtain rfl : k = len := by omega
        have hy := crc_same _ (take_range Hr.out k)
        rw [← hy.1, ← HY.out] at hy
        obtain ⟨_, hy0, hy1⟩ := hy
        have hx := xor_w y 4294967295 ⟨hy0, hy1⟩ ⟨by decide, by decide⟩
        obtain ⟨hx0, hx1⟩ := hx
        go_wp2
        go_ret
        exact ⟨ret_int (by rw [HY.out, List.take_of_length_le (by rw [HL.out]; exact Nat.le_refl _)]; exact (end_same zs Hr.out).1), rfl⟩

set_option maxRecDepth 100000 in
set_option maxHeartbeats 800000 in
theorem crcSpec_any (a : Option Addr) (len cap : Nat) (zs : List Int) (w : World) (h : RdB w a len zs) (hlen : len ≤ 1048576) :
    Calls Try.prog 23 #[.slice a len cap] w fun e w' => e = .returned (.int .i64 (bits .xor .i64 (crc64 zs) 4294967295)) ∧ w' = w := by
  rcases h.cells with h0 | ⟨b, off, rfl, hc⟩
  · subst h0
    have hz : zs = [] := List.eq_nil_of_length_eq_zero h.length
    subst hz
    clear h
    go_enter Try.func23, Try.ntmps23
    go_wp2
    refine wp_loop_rounds 1 ?_
    rw [rounds_succ]
    go_wp2
    go_ret
    exact ⟨ret_int (by decide +kernel), rfl⟩
  · have HL : Hid (zs.length = len) := h.length
    have Hr : Hid (∀ n ∈ zs, 0 ≤ n ∧ n ≤ 255) := h.range
    clear h
    go_enter Try.func23, Try.ntmps23
    go_wp2
    go_loop [3, 4] (fun s i => ∃ (k : Nat) (y : Int), k ≤ len ∧ i = .int .i64 k ∧ s = .int .i64 y ∧ Hid (y = crc64 (zs.take k))) (fun _ i => len - (intOf i).toNat)
    case atStart => exact ⟨0, _, by omega, rfl, rfl, rfl⟩
    case round =>
      obtain ⟨k, y, hk, rfl, rfl, HY⟩ := hrel
      have hy := (crc_same _ (take_range Hr.out k)).2
      rw [← HY.out] at hy
      obtain ⟨hy0, hy1⟩ := hy
      by_cases hlt : k < len
      · have hck := hc k hlt
        have hb := getD_range Hr.out k
        go_wp2
        go_loop [3, 5] (fun s i => ∃ (j : Nat) (u : Int), j ≤ 8 ∧ 0 ≤ u ∧ u < 4294967296 ∧ i = .int .i64 j ∧ s = .int .i64 u ∧ Hid (u = it64 j (bits .xor .i64 y (zs[k]?.getD 0)))) (fun _ i => 8 - (intOf i).toNat)
        case atStart => exact ⟨0, _, by omega, (xor_same y _ ⟨hy0, hy1⟩ ⟨hb.1, by omega⟩).2.1, (xor_same y _ ⟨hy0, hy1⟩ ⟨hb.1, by omega⟩).2.2, rfl, rfl, rfl⟩
        case round =>
          obtain ⟨j, u, hj, hu0, hu1, rfl, rfl, HU⟩ := hrel
          by_cases hj8 : j < 8
          · by_cases ho : u % 2 = 1
            · go_wp2
              go_round
              case rel => exact ⟨j + 1, _, by omega, (odd64 HU.out hu0 hu1 ho).1, (odd64 HU.out hu0 hu1 ho).2.1, by go_num, rfl, (odd64 HU.out hu0 hu1 ho).2.2⟩
              case measure => simp [intOf]; omega
            · have hob : (u % 2 == 1) = false := by simpa using ho
              go_wp2
              go_round
              case rel => exact ⟨j + 1, _, by omega, (even64 HU.out hu0 hu1 ho).1, (even64 HU.out hu0 hu1 ho).2.1, by go_num, rfl, (even64 HU.out hu0 hu1 ho).2.2⟩
              case measure => simp [intOf]; omega
          · obtain rfl : j = 8 := by omega
            go_wp2
            go_round
            case rel => exact ⟨k + 1, _, by omega, by go_num, rfl, step64 (by rw [HL.out]; exact hlt) HY.out HU.out⟩
            case measure => simp [intOf]; omega
      · obtain rfl : k = len := by omega
        go_wp2
        go_ret
        exact ⟨ret_int (by rw [HY.out, List.take_of_length_le (by rw [HL.out]; exact Nat.le_refl _)]), rfl⟩
end Go.Proofs.Ytgoalcakfaellak
