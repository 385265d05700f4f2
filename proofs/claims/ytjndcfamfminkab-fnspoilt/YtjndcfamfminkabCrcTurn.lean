/- A byte that is another one turns the check sum: over lists of whole numbers. No statement of the seat is proved here. -/
import Derived.Test.YtjndcfamfminkabCrcMath
namespace Go.Proofs.Ytjndcfamfminkab
open Go.RowKit
theorem top_bit (x : Nat) (h : x < 2147483648) : 2147483648 ≤ x ^^^ 3988292384 := by
  have h1 : (x ^^^ 3988292384).testBit 31 = true := by
    rw [Nat.testBit_xor, Nat.testBit_lt_two_pow (show x < 2 ^ 31 by simpa using h)]
    decide
  exact Nat.ge_two_pow_of_testBit h1
theorem xor_inj {a b c : Nat} (h : a ^^^ c = b ^^^ c) : a = b := by
  have h2 : (a ^^^ c) ^^^ c = (b ^^^ c) ^^^ c := by rw [h]
  simpa [Nat.xor_assoc] using h2
theorem hb_inj {x y : Int} (hx : W32 x) (hy : W32 y) (h : hb64 x = hb64 y) : x = y := by
  obtain ⟨x1, x2⟩ := hx
  obtain ⟨y1, y2⟩ := hy
  obtain ⟨x, rfl⟩ := Int.eq_ofNat_of_zero_le x1
  obtain ⟨y, rfl⟩ := Int.eq_ofNat_of_zero_le y1
  have ex : ((x : Int) / 2) = ((x / 2 : Nat) : Int) := by omega
  have ey : ((y : Int) / 2) = ((y / 2 : Nat) : Int) := by omega
  have tx := top_bit (x / 2) (by omega)
  have ty := top_bit (y / 2) (by omega)
  have kx := xor64 (x / 2) 3988292384 (by omega) (by omega)
  have ky := xor64 (y / 2) 3988292384 (by omega) (by omega)
  unfold hb64 at h
  rw [ex, ey] at h
  have e3 : ((3988292384 : Nat) : Int) = 3988292384 := rfl
  rw [e3] at kx ky
  rw [kx, ky] at h
  split at h <;> split at h
  · have := xor_inj (Int.ofNat.inj h)
    omega
  · omega
  · omega
  · omega
theorem it_inj (k : Nat) {x y : Int} (hx : W32 x) (hy : W32 y) (h : it64 k x = it64 k y) : x = y := by
  induction k with
  | zero => exact h
  | succ k ih => exact ih (hb_inj (it_same k x hx).2 (it_same k y hy).2 h)
theorem xor_inj64 {a b c : Int} (ha : W32 a) (hb : W32 b) (hc : W32 c) (h : bits .xor .i64 a c = bits .xor .i64 b c) : a = b := by
  obtain ⟨a1, a2⟩ := ha
  obtain ⟨b1, b2⟩ := hb
  obtain ⟨c1, c2⟩ := hc
  obtain ⟨a, rfl⟩ := Int.eq_ofNat_of_zero_le a1
  obtain ⟨b, rfl⟩ := Int.eq_ofNat_of_zero_le b1
  obtain ⟨c, rfl⟩ := Int.eq_ofNat_of_zero_le c1
  rw [xor64 a c (by omega) (by omega), xor64 b c (by omega) (by omega)] at h
  rw [xor_inj (Int.ofNat.inj h)]
theorem xor_comm64 (a b : Int) (ha : W32 a) (hb : W32 b) : bits .xor .i64 a b = bits .xor .i64 b a := by
  obtain ⟨a1, a2⟩ := ha
  obtain ⟨b1, b2⟩ := hb
  obtain ⟨a, rfl⟩ := Int.eq_ofNat_of_zero_le a1
  obtain ⟨b, rfl⟩ := Int.eq_ofNat_of_zero_le b1
  rw [xor64 a b (by omega) (by omega), xor64 b a (by omega) (by omega), Nat.xor_comm]
theorem fold_inj (l : List Int) (hl : ∀ n ∈ l, 0 ≤ n ∧ n ≤ 255) {x y : Int} (hx : W32 x) (hy : W32 y)
    (h : l.foldl (fun x b => it64 8 (bits .xor .i64 x b)) x = l.foldl (fun x b => it64 8 (bits .xor .i64 x b)) y) : x = y := by
  induction l generalizing x y with
  | nil => exact h
  | cons b l ih =>
    have hb := hl b (by simp)
    have hw : W32 b := ⟨hb.1, by omega⟩
    have h1 := (xor_same x b hx hw).2
    have h2 := (xor_same y b hy hw).2
    have := ih (fun n hn => hl n (by simp [hn])) (it_same 8 _ h1).2 (it_same 8 _ h2).2 h
    exact xor_inj64 hx hy hw (it_inj 8 h1 h2 this)
theorem crc_turns (l r : List Int) (hl : ∀ n ∈ l, 0 ≤ n ∧ n ≤ 255) (hr : ∀ n ∈ r, 0 ≤ n ∧ n ≤ 255) (b c : Int) (hb : 0 ≤ b ∧ b ≤ 255) (hc : 0 ≤ c ∧ c ≤ 255) (hne : ¬ b = c) : ¬ crc64 (l ++ b :: r) = crc64 (l ++ c :: r) := by
  intro h
  simp only [crc64, List.foldl_append, List.foldl_cons] at h
  have hx := (crc_same l hl).2
  have hwb : W32 b := ⟨hb.1, by omega⟩
  have hwc : W32 c := ⟨hc.1, by omega⟩
  unfold crc64 at hx
  generalize l.foldl (fun x b => it64 8 (bits .xor .i64 x b)) 4294967295 = x at hx h
  have h1 := (xor_same x b hx hwb).2
  have h2 := (xor_same x c hx hwc).2
  have := it_inj 8 h1 h2 (fold_inj r hr (it_same 8 _ h1).2 (it_same 8 _ h2).2 h)
  rw [xor_comm64 x b hx hwb, xor_comm64 x c hx hwc] at this
  exact hne (xor_inj64 hwb hwc hx this)
/-- A byte that is another one turns the check sum. -/
theorem crc_set (zs : List Int) (hz : ∀ n ∈ zs, 0 ≤ n ∧ n ≤ 255) (i : Nat) (hi : i < zs.length) (c : Int) (hc : 0 ≤ c ∧ c ≤ 255) (hne : ¬ zs[i]?.getD 0 = c) :
    ¬ bits .xor .i64 (crc64 (zs.set i c)) 4294967295 = bits .xor .i64 (crc64 zs) 4294967295 := by
  have e1 : zs = zs.take i ++ zs[i]?.getD 0 :: zs.drop (i + 1) := by
    rw [List.getElem?_eq_getElem hi]
    show zs = zs.take i ++ zs[i] :: zs.drop (i + 1)
    rw [← List.drop_eq_getElem_cons hi, List.take_append_drop]
  have e2 : zs.set i c = zs.take i ++ c :: zs.drop (i + 1) := by
    rw [List.set_eq_take_append_cons_drop, if_pos hi]
  have ht : ∀ n ∈ zs.take i, 0 ≤ n ∧ n ≤ 255 := fun n hn => hz n (List.mem_of_mem_take hn)
  have hd : ∀ n ∈ zs.drop (i + 1), 0 ≤ n ∧ n ≤ 255 := fun n hn => hz n (List.mem_of_mem_drop hn)
  have hb : 0 ≤ zs[i]?.getD 0 ∧ zs[i]?.getD 0 ≤ 255 := by rw [List.getElem?_eq_getElem hi]; exact hz _ (List.getElem_mem hi)
  have hset : ∀ n ∈ zs.set i c, 0 ≤ n ∧ n ≤ 255 := by
    rw [e2]
    intro n hn
    rcases List.mem_append.1 hn with h | h
    · exact ht n h
    · rcases List.mem_cons.1 h with rfl | h
      · exact hc
      · exact hd n h
  intro h
  have hx := xor_inj64 (crc_same _ hset).2 (crc_same _ hz).2 ⟨by decide, by decide⟩ h
  rw [e2] at hx
  conv at hx => rhs; rw [e1]
  exact crc_turns _ _ ht hd c (zs[i]?.getD 0) hc hb (fun e => hne e.symm) hx
end Go.Proofs.Ytjndcfamfminkab
