/- The walks through Digits, the program's and the model's. No statement of the seat is proved here. -/
import Derived.Test.YtjiciigaeeibgaoDoorBase
import Derived.Test.YtjiciigaeeibgaoDoorShelf
import Derived.Laws.BytesArg
import Derived.Lib.LaidTab
namespace Go.Proofs.YtjiciigaeeibgaoDoor
open Go.RowKit Go.Sort

/-- The decimal digits of m ahead of acc. -/
def dig (m : Nat) (acc : List UInt8) : List UInt8 := if m = 0 then acc else dig (m / 10) (UInt8.ofNat (48 + m % 10) :: acc)
  termination_by m
  decreasing_by omega
theorem dig_zero (acc : List UInt8) : dig 0 acc = acc := by rw [dig, if_pos rfl]
theorem dig_dec (m : Nat) : ∀ acc, 0 < m → dig m acc = Lib.decDigits m ++ acc := by
  induction m using Nat.strongRecOn with
  | _ m ih =>
    intro acc hm
    rw [dig, if_neg (by omega), Lib.decDigits]
    by_cases h : m < 10
    · rw [dif_pos h, show m / 10 = 0 by omega, dig_zero, show m % 10 = m by omega]; rfl
    · rw [dif_neg h, ih (m / 10) (by omega) _ (by omega)]; simp
theorem dig_step (q : Int) (h : 0 < q) (acc : List UInt8) : dig q.toNat acc = dig (q / 10).toNat (UInt8.ofNat (48 + q % 10).toNat :: acc) := by
  obtain ⟨n, rfl⟩ := Int.eq_ofNat_of_zero_le (Int.le_of_lt h)
  rw [dig, if_neg (by omega)]
  rw [show (((n : Int)) / 10).toNat = n / 10 by omega, show (48 + (n : Int) % 10).toNat = 48 + n % 10 by omega]
  rfl
theorem cat1 (x : Int) (acc : List UInt8) : strOfNums [x] ++ (⟨acc.toArray⟩ : ByteArray) = ⟨(UInt8.ofNat x.toNat :: acc).toArray⟩ := by
  apply ByteArray.ext
  simp [strOfNums, ByteArray.data_append]
theorem cat2 (c : UInt8) (acc : List UInt8) : (⟨#[c]⟩ : ByteArray) ++ (⟨acc.toArray⟩ : ByteArray) = ⟨(c :: acc).toArray⟩ := by
  apply ByteArray.ext
  simp [ByteArray.data_append]
theorem ret_text {a b : List UInt8} (h : a = b) : Ending.returned (.string ⟨a.toArray⟩) = .returned (.string ⟨b.toArray⟩) := by rw [h]
theorem size_list (acc : List UInt8) : (⟨acc.toArray⟩ : ByteArray).size = acc.length := by simp [ByteArray.size]
theorem cell_only (w : World) (x : Int) (t : TypeId) : ∀ i, i < 1 → (w.alloc (.cells #[.int .u8 x] t)).cell? ⟨w.heap.size, 0 + i, none⟩ = some (.int .u8 ([x].getD i 0)) := by
  intro i hi
  obtain rfl : i = 0 := by omega
  simp [go_sem]
theorem dig_len (m : Nat) : ∀ acc, acc.length ≤ (dig m acc).length := by
  induction m using Nat.strongRecOn with
  | _ m ih =>
    intro acc
    rw [dig]
    split
    · exact Nat.le_refl _
    · have := ih (m / 10) (by omega) (UInt8.ofNat (48 + m % 10) :: acc)
      simp only [List.length_cons] at this
      omega
theorem dig_small (k : Nat) : ∀ m acc, m < 10 ^ k → (dig m acc).length ≤ acc.length + k := by
  induction k with
  | zero => intro m acc h; rw [show m = 0 by simpa using h, dig_zero]; exact Nat.le_refl _
  | succ k ih =>
    intro m acc h
    rw [dig]
    split
    · omega
    · have := ih (m / 10) (UInt8.ofNat (48 + m % 10) :: acc) (by rw [Nat.pow_succ] at h; omega)
      simp only [List.length_cons] at this
      omega
theorem acc_small {m M : Nat} {acc : List UInt8} (h : dig m acc = dig M []) (hM : M ≤ 9223372036854775808) : acc.length ≤ 20 := by
  have h1 := dig_len m acc
  have h2 := dig_small 20 M [] (by have : (10 : Nat) ^ 20 = 100000000000000000000 := by decide
                                   omega)
  rw [h] at h1
  simp at h2
  omega
theorem itoa_pos (n : Int) (h : 0 < n) : dig n.toNat [] = Lib.itoa n := by
  rw [dig_dec _ _ (by omega), Lib.itoa, if_neg (by omega)]; simp
theorem itoa_neg (n : Int) (h : n < 0) : (45 : UInt8) :: dig (-n).toNat [] = Lib.itoa n := by
  rw [dig_dec _ _ (by omega), Lib.itoa, if_pos h, show n.natAbs = (-n).toNat by omega]; simp

set_option maxHeartbeats 400000 in
theorem digPos (n : Int) (w : World) (h0 : 0 < n) (h1 : n ≤ 9223372036854775807) :
    Calls Tryd.prog 9 #[.int .i64 n] w fun e w' => e = .returned (.string ⟨(Lib.itoa n).toArray⟩) ∧ Below w.heap.size w w' := by
  have hd : (n == 0) = false := by simp; omega
  have hl : decide (n < 0) = false := by simp; omega
  have HF : Hid (dig n.toNat [] = Lib.itoa n) := itoa_pos n h0
  go_enter Tryd.func9, Tryd.ntmps9
  go_wp2
  clear hd hl
  go_loopw [0, 4] (fun s t wr => ∃ (q : Int) (acc : List UInt8), 0 ≤ q ∧ q ≤ n ∧ s = .int .i64 q ∧ t = .string ⟨acc.toArray⟩ ∧ Hid (dig q.toNat acc = dig n.toNat []) ∧ Below w.heap.size w wr) (fun s _ _ => (intOf s).toNat)
  case atStart => exact ⟨n, [], by omega, by omega, rfl, rfl, rfl, Below.refl _ _⟩
  case round =>
    obtain ⟨q, acc, hq0, hq, rfl, rfl, HD, hb⟩ := hrel
    have hsz := hb.size
    have hacc := acc_small HD.out (by omega)
    by_cases hpos : 0 < q
    · have kc := fun c : Nat => run_convert_bytes_arg (P := Tryd.prog) (wr.alloc (.cells #[.int .u8 (48 + q % 10)] 5)) 38 5 Tryd.underlying38 Tryd.underlying5 wr.heap.size 0 1 c [48 + q % 10] rfl (cell_only wr _ _) 9 Tryd.underlying9
      have hadd := fun wx : World => run_string_add_sum (P := Tryd.prog) wx (strOfNums [48 + q % 10]) ⟨acc.toArray⟩ (by rw [strOfNums_size, size_list]; simp; omega)
      simp only [cat1] at hadd
      rw [dig_step q hpos acc] at HD
      have hne : (q != 0) = true := by simp; omega
      have hm0 : 0 ≤ q % 10 := by omega
      have hm9 : q % 10 ≤ 9 := by omega
      go_wp2
      go_roundw
      case rel => exact ⟨q / 10, UInt8.ofNat (48 + q % 10).toNat :: acc, by omega, by omega, by go_num, rfl, HD, hb.alloc hsz _⟩
      case measure => simp [intOf]; omega
    · obtain rfl : q = 0 := by omega
      have HD' : Hid (acc = Lib.itoa n) := by show acc = Lib.itoa n; rw [← HF.out, ← HD.out]; exact (dig_zero acc).symm
      go_wp2
      go_ret
      exact ⟨ret_text HD'.out, hb⟩

set_option maxHeartbeats 400000 in
theorem digNeg (n : Int) (w : World) (h0 : n < 0) (h1 : -9223372036854775808 ≤ n) :
    Calls Tryd.prog 9 #[.int .i64 n] w fun e w' => e = .returned (.string ⟨(Lib.itoa n).toArray⟩) ∧ Below w.heap.size w w' := by
  have hd : (n == 0) = false := by simp; omega
  have hl : decide (n < 0) = true := by simp; omega
  have HF : Hid ((45 : UInt8) :: dig (-n).toNat [] = Lib.itoa n) := itoa_neg n h0
  go_enter Tryd.func9, Tryd.ntmps9
  go_wp2
  clear hd hl
  go_loopw [0, 4] (fun s t wr => ∃ (q : Int) (acc : List UInt8), q ≤ 0 ∧ n ≤ q ∧ s = .int .i64 q ∧ t = .string ⟨acc.toArray⟩ ∧ Hid (dig (-q).toNat acc = dig (-n).toNat []) ∧ Below w.heap.size w wr) (fun s _ _ => (-(intOf s)).toNat)
  case atStart => exact ⟨n, [], by omega, by omega, rfl, rfl, rfl, Below.refl _ _⟩
  case round =>
    obtain ⟨q, acc, hq0, hq, rfl, rfl, HD, hb⟩ := hrel
    have hsz := hb.size
    have hacc := acc_small HD.out (by omega)
    by_cases hpos : q < 0
    · obtain ⟨r, hr⟩ : ∃ r, r = (-q) % 10 := ⟨_, rfl⟩
      obtain ⟨t, ht⟩ : ∃ t, t = (-q) / 10 := ⟨_, rfl⟩
      have hm : q.tmod 10 = -r := by rw [hr, show q = -(-q) by omega, Int.neg_tmod, Int.tmod_eq_emod_of_nonneg (by omega)]; omega
      have hq' : q.tdiv 10 = -t := by rw [ht, show q = -(-q) by omega, Int.neg_tdiv, Int.tdiv_eq_ediv_of_nonneg (by omega)]; omega
      have hr0 : 0 ≤ r := by omega
      have hr9 : r ≤ 9 := by omega
      have ht0 : 0 ≤ t := by omega
      have htq : t + 1 ≤ -q := by omega
      have kc := fun c : Nat => run_convert_bytes_arg (P := Tryd.prog) (wr.alloc (.cells #[.int .u8 (48 + r)] 5)) 38 5 Tryd.underlying38 Tryd.underlying5 wr.heap.size 0 1 c [48 + r] rfl (cell_only wr _ _) 9 Tryd.underlying9
      have hadd := fun wx : World => run_string_add_sum (P := Tryd.prog) wx (strOfNums [48 + r]) ⟨acc.toArray⟩ (by rw [strOfNums_size, size_list]; simp; omega)
      simp only [cat1] at hadd
      rw [dig_step (-q) (by omega) acc, ← hr, ← ht] at HD
      have hne : (q != 0) = true := by simp; omega
      clear hr ht
      by_cases hr1 : r = 0
      · subst hr1
        have hm' : q.tmod 10 = 0 := by rw [hm]; rfl
        have kc0 := fun c : Nat => run_convert_bytes_arg (P := Tryd.prog) (wr.alloc (.cells #[.int .u8 48] 5)) 38 5 Tryd.underlying38 Tryd.underlying5 wr.heap.size 0 1 c [48] rfl (cell_only wr _ _) 9 Tryd.underlying9
        have hadd0 := fun wx : World => run_string_add_sum (P := Tryd.prog) wx (strOfNums [48]) ⟨acc.toArray⟩ (by rw [strOfNums_size, size_list]; simp; omega)
        simp only [cat1] at hadd0
        clear hm kc hadd
        go_wp2
        go_roundw
        case rel => exact ⟨-t, UInt8.ofNat (48 + (0 : Int)).toNat :: acc, by omega, by omega, by go_num, rfl, by rw [Int.neg_neg]; exact HD, hb.alloc hsz _⟩
        case measure => simp [intOf]; omega
      · have hlt : decide (-r < 0) = true := by simp; omega
        go_wp2
        go_roundw
        case rel => exact ⟨-t, UInt8.ofNat (48 + r).toNat :: acc, by omega, by omega, by go_num, rfl, by rw [Int.neg_neg]; exact HD, hb.alloc hsz _⟩
        case measure => simp [intOf]; omega
    · obtain rfl : q = 0 := by omega
      have HD' : Hid ((45 : UInt8) :: acc = Lib.itoa n) := by show (45 : UInt8) :: acc = Lib.itoa n; rw [← HF.out, ← HD.out]; exact congrArg _ (dig_zero acc).symm
      have hadd := fun wx : World => run_string_add_sum (P := Tryd.prog) wx ⟨#[45]⟩ ⟨acc.toArray⟩ (by rw [size_list]; show 1 + acc.length ≤ _; omega)
      simp only [cat2] at hadd
      go_wp2
      go_ret
      exact ⟨ret_text HD'.out, hb⟩

theorem digSpec_any (n : Int) (w : World) (h0 : -9223372036854775808 ≤ n) (h1 : n ≤ 9223372036854775807) :
    Calls Tryd.prog 9 #[.int .i64 n] w fun e w' => e = .returned (.string ⟨(Lib.itoa n).toArray⟩) ∧ Below w.heap.size w w' := by
  by_cases hz : n = 0
  · subst hz
    go_enter Tryd.func9, Tryd.ntmps9
    go_wp2
    go_ret
    exact ⟨ret_text (a := [48]) (by rw [Lib.itoa, if_neg (by omega)]; exact (Lib.decDigits_one (i := 0) (by omega)).symm), Below.refl _ _⟩
  · by_cases hp : 0 < n
    · exact digPos n w hp h1
    · exact digNeg n w (by omega) h0

theorem below_grow (w : World) (k : Nat) (os : Array Obj) : Below w.heap.size w (grow (w.drewN k) os) := by
  refine ⟨rfl, rfl, rfl, ?_, fun j hj => ?_⟩
  · show w.heap.size ≤ (w.heap ++ os).size
    simp
  · show (w.heap ++ os)[j]? = w.heap[j]?
    exact Array.getElem?_append_left hj
/-- The program's Digits, where the library's table holds what its initialiser lays. -/
theorem digImpl_any (n : Int) (w : World) (h0 : -9223372036854775808 ≤ n) (h1 : n ≤ 9223372036854775807) (htab : Lib.TabIs Tryd.prog w "internal/strconv.uint64pow10" .u64 Lib.pow10Tab) :
    Calls Tryd.prog 15 #[.int .i64 n] w fun e w' => e = .returned (.string ⟨(Lib.itoa n).toArray⟩) ∧ Below w.heap.size w w' := by
  have Ht : Hid (Lib.TabIs Tryd.prog w "internal/strconv.uint64pow10" .u64 Lib.pow10Tab) := htab
  clear htab
  go_enter Tryd.func15, Tryd.ntmps15
  go_wp2_with fail
  refine (Tryd.strconv_Itoa n h0 h1 _ Ht.out).mono ?_
  rintro e w1 ⟨rfl, k, os, rfl⟩
  go_wp2
  go_ret
  exact ⟨rfl, below_grow _ _ _⟩
/-- The table stays as it was. -/
theorem tab_below {w w' : World} {name : String} {k : IntKind} {zs : List Int} {g : Nat} (hg : Tryd.prog.globalNamed name = some g) (h : Lib.TabIs Tryd.prog w name k zs) (hb : Below w.heap.size w w') : Lib.TabIs Tryd.prog w' name k zs := by
  have hl : g < w.heap.size := by
    have h' := h
    unfold Lib.TabIs World.var? at h'
    rw [hg] at h'
    rcases Nat.lt_or_ge g w.heap.size with hlt | hge
    · exact hlt
    · rw [Option.bind_some, Array.getElem?_eq_none hge] at h'
      cases h'
  exact var?_below hb hg hl h
end Go.Proofs.YtjiciigaeeibgaoDoor
