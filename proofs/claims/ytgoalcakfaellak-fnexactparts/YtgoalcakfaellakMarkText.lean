/- The walk through the helper of the laws that writes a number's mark as a text. No statement of the seat is proved here. -/
import Derived.Test.YtgoalcakfaellakBase
import Derived.Laws.BytesArg
namespace Go.Proofs.Ytgoalcakfaellak
open Go.RowKit

/-- The decimal digits of k ahead of acc. -/
def dtext (k : Nat) (acc : List UInt8) : List UInt8 := if k = 0 then acc else dtext (k / 10) (UInt8.ofNat (48 + k % 10) :: acc)
  termination_by k
  decreasing_by omega
def mtext (k : Nat) : ByteArray := ⟨(109 :: dtext k []).toArray⟩

theorem dtext_zero (acc : List UInt8) : dtext 0 acc = acc := by rw [dtext, if_pos rfl]
theorem dtext_pos (q : Int) (h : 0 < q) (acc : List UInt8) : dtext q.toNat acc = dtext (q / 10).toNat (UInt8.ofNat (48 + q % 10).toNat :: acc) := by
  obtain ⟨n, rfl⟩ := Int.eq_ofNat_of_zero_le (Int.le_of_lt h)
  rw [dtext, if_neg (by omega)]
  rw [show (((n : Int)) / 10).toNat = n / 10 by omega, show (48 + (n : Int) % 10).toNat = 48 + n % 10 by omega]
  rfl
theorem cat1 (x : Int) (acc : List UInt8) : strOfNums [x] ++ (⟨acc.toArray⟩ : ByteArray) = ⟨(UInt8.ofNat x.toNat :: acc).toArray⟩ := by
  apply ByteArray.ext
  simp [strOfNums, ByteArray.data_append]
theorem cat2 (c : UInt8) (acc : List UInt8) : (⟨#[c]⟩ : ByteArray) ++ (⟨acc.toArray⟩ : ByteArray) = ⟨(c :: acc).toArray⟩ := by
  apply ByteArray.ext
  simp [ByteArray.data_append]
theorem size_list (acc : List UInt8) : (⟨acc.toArray⟩ : ByteArray).size = acc.length := by simp [ByteArray.size]
theorem cell_only (w : World) (x : Int) (t : TypeId) : ∀ i, i < 1 → (w.alloc (.cells #[.int .u8 x] t)).cell? ⟨w.heap.size, 0 + i, none⟩ = some (.int .u8 ([x].getD i 0)) := by
  intro i hi
  obtain rfl : i = 0 := by omega
  simp [go_sem]

set_option maxHeartbeats 400000 in
theorem markText_any (k : Nat) (w : World) (hk0 : 0 < k) (hk : k ≤ 1000000000000) :
    Calls Try.prog 30 #[.int .i64 k] w fun e w' => e = .returned (.string (mtext k)) ∧ Below w.heap.size w w' := by
  have hd : decide ((k : Int) ≤ 0) = false := by simp; omega
  have hki : (k : Int) ≤ 1000000000000 := by omega
  have Hk : Hid (k ≤ 1000000000000) := hk
  clear hk
  go_enter Try.func30, Try.ntmps30
  go_wp2
  clear hd
  go_loopw [0, 3] (fun s t wr => ∃ (q : Int) (acc : List UInt8), 0 ≤ q ∧ q + acc.length ≤ k ∧ s = .int .i64 q ∧ t = .string ⟨acc.toArray⟩ ∧ Hid (dtext q.toNat acc = dtext k []) ∧ Below w.heap.size w wr) (fun s _ _ => (intOf s).toNat)
  case atStart => exact ⟨(k : Int), [], by omega, by simp, rfl, rfl, rfl, Below.refl _ _⟩
  case round =>
    obtain ⟨q, acc, hq0, hq, rfl, rfl, HD, hb⟩ := hrel
    have hsz := hb.size
    by_cases hpos : 0 < q
    · have kc := fun c : Nat => run_convert_bytes_arg (P := Try.prog) (wr.alloc (.cells #[.int .u8 (48 + q % 10)] 5)) 22 5 Try.underlying22 Try.underlying5 wr.heap.size 0 1 c [48 + q % 10] rfl (cell_only wr _ _) 9 Try.underlying9
      have hadd := fun wx : World => run_string_add_sum (P := Try.prog) wx (strOfNums [48 + q % 10]) ⟨acc.toArray⟩ (by rw [strOfNums_size, size_list]; simp; omega)
      simp only [cat1] at hadd
      rw [dtext_pos q hpos acc] at HD
      go_wp2
      go_roundw
      case rel => exact ⟨q / 10, UInt8.ofNat (48 + q % 10).toNat :: acc, by omega, by simp; omega, by go_num, rfl, HD, hb.alloc hsz _⟩
      case measure => simp [intOf]; omega
    · obtain rfl : q = 0 := by omega
      have HD' : Hid (acc = dtext k []) := by show acc = dtext k []; rw [← HD.out]; exact (dtext_zero acc).symm
      have hadd := fun wx : World => run_string_add_sum (P := Try.prog) wx ⟨#[109]⟩ ⟨acc.toArray⟩ (by rw [size_list]; show 1 + acc.length ≤ _; omega)
      simp only [cat2] at hadd
      go_wp2
      go_ret
      exact ⟨by rw [HD'.out]; rfl, hb⟩
end Go.Proofs.Ytgoalcakfaellak
