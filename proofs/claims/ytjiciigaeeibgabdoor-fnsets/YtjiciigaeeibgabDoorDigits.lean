/- The walks through Digits, the program's and the model's. No statement of the seat is proved here. -/
import Derived.Test.YtjiciigaeeibgabDoorBase
import Derived.Test.YtjiciigaeeibgabDoorShelf
import Derived.Laws.BytesArg
import Derived.Lib.LaidTab
namespace Go.Proofs.YtjiciigaeeibgabDoor
open Go.RowKit Go.Sort

/-- The decimal digits of m ahead of acc. -/
def dig (m : Nat) (acc : List UInt8) : List UInt8 := if m = 0 then acc else dig (m / 10) (UInt8.ofNat (48 + m % 10) :: acc)
  termination_by m
  decreasing_by omega
theorem dig_zero (acc : List UInt8) : dig 0 acc = acc := by rw [dig, if_pos rfl]
theorem dig_dec (m : Nat) : ∀ acc, 0 < m → dig m acc = Lib.decDigits m ++ acc := by
  induction m using Nat.strongRecOn with
  | _ m ih =>
    intro acc hm
    rw [dig, if_neg (by omega), Lib.decDigits]
    by_cases h : m < 10
    · rw [dif_pos h, show m / 10 = 0 by omega, dig_zero, show m % 10 = m by omega]; rfl
    · rw [dif_neg h, ih (m / 10) (by omega) _ (by omega)]; simp
theorem dig_step (q : Int) (h : 0 < q) (acc : List UInt8) : dig q.toNat acc = dig (q / 10).toNat (UInt8.ofNat (48 + q % 10).toNat :: acc) := by
  obtain ⟨n, rfl⟩ := Int.eq_ofNat_of_zero_le (Int.le_of_lt h)
  rw [dig, if_neg (by omega)]
  rw [show (((n : Int)) / 10).toNat = n / 10 by omega, show (48 + (n : Int) % 10).toNat = 48 + n % 10 by omega]
  rfl
theorem cat1 (x : Int) (acc : List UInt8) : strOfNums [x] ++ (⟨acc.toArray⟩ : ByteArray) = ⟨(UInt8.ofNat x.toNat :: acc).toArray⟩ := by
  apply ByteArray.ext
  simp [strOfNums, ByteArray.data_append]
theorem cat2 (c : UInt8) (acc : List UInt8) : (⟨#[c]⟩ : ByteArray) ++ (⟨acc.toArray⟩ : ByteArray) = ⟨(c :: acc).toArray⟩ := by
  apply ByteArray.ext
  simp [ByteArray.data_append]
theorem ret_text {a b : List UInt8} (h : a = b) : Ending.returned (.string ⟨a.toArray⟩) = .returned (.string ⟨b.toArray⟩) := by rw [h]
theorem size_list (acc : List UInt8) : (⟨acc.toArray⟩ : ByteArray).size = acc.length := by simp [ByteArray.size]
theorem cell_only (w : World) (x : Int) (t : TypeId) : ∀ i, i < 1 → (w.alloc (.cells #[.int .u8 x] t)).cell? ⟨w.heap.size, 0 + i, none⟩ = some (.int .u8 ([x].getD i 0)) := by
  intro i hi
  obtain rfl : i = 0 := by omega
  simp [go_sem]
theorem dig_len (m : Nat) : ∀ acc, acc.length ≤ (dig m acc).length := by
  induction m using Nat.strongRecOn with
  | _ m ih =>
    intro acc
    rw [dig]
    split
    · exact Nat.le_refl _
    · have := ih (m / 10) (by omega) (UInt8.ofNat (48 + m % 10) :: acc)
      simp only [List.length_cons] at this
      omega
theorem dig_small (k : Nat) : ∀ m acc, m < 10 ^ k → (dig m acc).length ≤ acc.length + k := by
  induction k with
  | zero => intro m acc h; rw [show m = 0 by simpa using h, dig_zero]; exact Nat.le_refl _
  | succ k ih =>
    intro m acc h
    rw [dig]
    split
    · omega
    · have := ih (m / 10) (UInt8.ofNat (48 + m % 10) :: acc) (by rw [Nat.pow_succ] at h; omega)
      simp only [List.length_cons] at this
      omega
theorem acc_small {m M : Nat} {acc : List UInt8} (h : dig m acc = dig M []) (hM : M ≤ 9223372036854775808) : acc.length ≤ 20 := by
  have h1 := dig_len m acc
  have h2 := dig_small 20 M [] (by have : (10 : Nat) ^ 20 = 100000000000000000000 := by decide
                                   omega)
  rw [h] at h1
  simp at h2
  omega
theorem itoa_pos (n : Int) (h : 0 < n) : dig n.toNat [] = Lib.itoa n := by
  rw [dig_dec _ _ (by omega), Lib.itoa, if_neg (by omega)]; simp
theorem itoa_neg (n : Int) (h : n < 0) : (45 : UInt8) :: dig (-n).toNat [] = Lib.itoa n := by
  rw [dig_dec _ _ (by omega), Lib.itoa, if_pos h, show n.natAbs = (-n).toNat by omega]; simp

theorem below_grow (w : World) (k : Nat) (os : Array Obj) : Below w.heap.size w (grow (w.drewN k) os) := by
  refine ⟨rfl, rfl, rfl, ?_, fun j hj => ?_⟩
  · show w.heap.size ≤ (w.heap ++ os).size
    simp
  · show (w.heap ++ os)[j]? = w.heap[j]?
    exact Array.getElem?_append_left hj
/-- The program's Digits, where the library's table holds what its initialiser lays. -/
theorem digImpl_any (n : Int) (w : World) (h0 : -9223372036854775808 ≤ n) (h1 : n ≤ 9223372036854775807) (htab : Lib.TabIs Tryd.prog w "internal/strconv.uint64pow10" .u64 Lib.pow10Tab) :
    Calls Tryd.prog 41 #[.int .i64 n] w fun e w' => e = .returned (.string ⟨(Lib.itoa n).toArray⟩) ∧ Below w.heap.size w w' := by
  have Ht : Hid (Lib.TabIs Tryd.prog w "internal/strconv.uint64pow10" .u64 Lib.pow10Tab) := htab
  clear htab
  go_enter Tryd.func41, Tryd.ntmps41
  go_wp2_with fail
  refine (Tryd.strconv_Itoa n h0 h1 _ Ht.out).mono ?_
  rintro e w1 ⟨rfl, k, os, rfl⟩
  go_wp2
  go_ret
  exact ⟨rfl, below_grow _ _ _⟩
/-- The table stays as it was. -/
theorem tab_below {w w' : World} {name : String} {k : IntKind} {zs : List Int} {g : Nat} (hg : Tryd.prog.globalNamed name = some g) (h : Lib.TabIs Tryd.prog w name k zs) (hb : Below w.heap.size w w') : Lib.TabIs Tryd.prog w' name k zs := by
  have hl : g < w.heap.size := by
    have h' := h
    unfold Lib.TabIs World.var? at h'
    rw [hg] at h'
    rcases Nat.lt_or_ge g w.heap.size with hlt | hge
    · exact hlt
    · rw [Option.bind_some, Array.getElem?_eq_none hge] at h'
      cases h'
  exact var?_below hb hg hl h
end Go.Proofs.YtjiciigaeeibgabDoor
