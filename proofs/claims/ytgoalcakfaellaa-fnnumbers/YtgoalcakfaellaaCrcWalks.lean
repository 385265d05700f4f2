/- The walks through the two check sums (the model's and the program's), through the copying and the comparing of byte slices. No statement of the seat is proved here. -/
import Derived.Test.YtgoalcakfaellaaBase
import Derived.Test.YtgoalcakfaellaaCrcMath
namespace Go.Proofs.Ytgoalcakfaellaa
open Go.RowKit

set_option maxRecDepth 100000 in
set_option maxHeartbeats 400000 in
theorem halved_any (x : Int) (w : World) (hx : W32 x) : Calls Try.prog 20 #[.int .u32 x] w fun e w' => e = .returned (.int .u32 (it32 8 x)) ∧ w' = w := by
  go_enter Try.func20, Try.ntmps20
  go_wp2
  go_loop [0, 4] (fun s i => ∃ (k : Nat) (y : Int), k ≤ 8 ∧ 0 ≤ y ∧ y < 4294967296 ∧ i = .int .i64 k ∧ s = .int .u32 y ∧ Hid (y = it32 k x)) (fun _ i => 8 - (intOf i).toNat)
  case atStart => exact ⟨0, x, by omega, hx.1, hx.2, rfl, rfl, rfl⟩
  case round =>
    obtain ⟨k, y, hk, hy0, hy1, rfl, rfl, HY⟩ := hrel
    by_cases hlt : k < 8
    · by_cases ho : y % 2 = 1
      · go_wp2
        go_round
        case rel => exact ⟨k + 1, _, by omega, (odd32 HY.out hy0 hy1 ho).1, (odd32 HY.out hy0 hy1 ho).2.1, by go_num, rfl, (odd32 HY.out hy0 hy1 ho).2.2⟩
        case measure => simp [intOf]; omega
      · have hob : (y % 2 == 1) = false := by simpa using ho
        go_wp2
        go_round
        case rel => exact ⟨k + 1, _, by omega, (even32 HY.out hy0 hy1 ho).1, (even32 HY.out hy0 hy1 ho).2.1, by go_num, rfl, (even32 HY.out hy0 hy1 ho).2.2⟩
        case measure => simp [intOf]; omega
    · obtain rfl : k = 8 := by omega
      go_wp2
      go_ret
      exact ⟨ret_int HY.out, rfl⟩

set_option maxRecDepth 100000 in
set_option maxHeartbeats 400000 in
theorem crcImpl_any (a : Option Addr) (len cap : Nat) (zs : List Int) (w : World) (h : RdB w a len zs) (hlen : len ≤ 1048576) :
    Calls Try.prog 13 #[.slice a len cap] w fun e w' => e = .returned (.int .i64 (bits .xor .i64 (crc64 zs) 4294967295)) ∧ w' = w := by
  rcases h.cells with h0 | ⟨b, off, rfl, hc⟩
  · subst h0
    have hz : zs = [] := List.eq_nil_of_length_eq_zero h.length
    subst hz
    clear h
    go_enter Try.func13, Try.ntmps13
    go_wp2
    refine wp_loop_rounds 1 ?_
    rw [rounds_succ]
    go_wp2
    go_ret
    exact ⟨ret_int (by decide +kernel), rfl⟩
  · have HL : Hid (zs.length = len) := h.length
    have Hr : Hid (∀ n ∈ zs, 0 ≤ n ∧ n ≤ 255) := h.range
    clear h
    go_enter Try.func13, Try.ntmps13
    go_wp2
    go_loop [3, 8] (fun s i => ∃ (k : Nat) (y : Int), k ≤ len ∧ i = .int .i64 k ∧ s = .int .u32 y ∧ Hid (y = crc32 (zs.take k))) (fun _ i => len - (intOf i).toNat)
    case atStart => exact ⟨0, _, by omega, rfl, rfl, rfl⟩
    case round =>
      obtain ⟨k, y, hk, rfl, rfl, HY⟩ := hrel
      by_cases hlt : k < len
      · have hck := hc k hlt
        have hb := getD_range Hr.out k
        have hy := crc_same _ (take_range Hr.out k)
        rw [← hy.1, ← HY.out] at hy
        obtain ⟨_, hy0, hy1⟩ := hy
        go_wp2_with (go_at_call 20; refine (halved_any _ _ (xor_w y _ ⟨hy0, hy1⟩ ⟨hb.1, by omega⟩)).mono ?_; rintro e w' ⟨rfl, rfl⟩)
        go_round
        case rel => exact ⟨k + 1, _, by omega, by go_num, rfl, step32 (by rw [HL.out]; exact hlt) HY.out⟩
        case measure => simp [intOf]; omega
      · obtain rfl : k = len := by omega
        have hy := crc_same _ (take_range Hr.out k)
        rw [← hy.1, ← HY.out] at hy
        obtain ⟨_, hy0, hy1⟩ := hy
        have hx := xor_w y 4294967295 ⟨hy0, hy1⟩ ⟨by decide, by decide⟩
        obtain ⟨hx0, hx1⟩ := hx
        go_wp2
        go_ret
        exact ⟨ret_int (by rw [HY.out, List.take_of_length_le (by rw [HL.out]; exact Nat.le_refl _)]; exact (end_same zs Hr.out).1), rfl⟩

end Go.Proofs.Ytgoalcakfaellaa
