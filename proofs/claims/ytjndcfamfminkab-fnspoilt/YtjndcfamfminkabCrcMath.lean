/- The check sum of chapter 1 over whole numbers: one step of it on 32 bits and on 64 bits is the same number. No statement of the seat is proved here. -/
import Derived.WalkKit
import Derived.Laws.BitsAllLaws
namespace Go.Proofs.Ytjndcfamfminkab
open Go.RowKit

/-- Half, and, where it was odd, exclusive or with the number of the check sum: on 64 bits with a sign; on 32 bits without one. -/
def hb64 (x : Int) : Int := if x % 2 = 1 then bits .xor .i64 (x / 2) 3988292384 else x / 2
def hb32 (x : Int) : Int := if x % 2 = 1 then bits .xor .u32 (x / 2) 3988292384 else x / 2
def it64 : Nat → Int → Int | 0, x => x | k + 1, x => hb64 (it64 k x)
def it32 : Nat → Int → Int | 0, x => x | k + 1, x => hb32 (it32 k x)
def crc64 (l : List Int) : Int := l.foldl (fun x b => it64 8 (bits .xor .i64 x b)) 4294967295
def crc32 (l : List Int) : Int := l.foldl (fun x b => it32 8 (bits .xor .u32 x b)) 4294967295

def W32 (x : Int) : Prop := 0 ≤ x ∧ x < 4294967296

theorem xor32 (a b : Nat) (ha : a < 4294967296) (hb : b < 4294967296) : bits .xor .u32 (a : Int) (b : Int) = ((a ^^^ b : Nat) : Int) := u32_xor_nat a b ha hb
theorem xor_lt (a b : Nat) (ha : a < 4294967296) (hb : b < 4294967296) : a ^^^ b < 4294967296 := Nat.xor_lt_two_pow (n := 32) ha hb
theorem ofInt_i64 (a : Nat) (ha : a < 4294967296) : (BitVec.ofInt 64 (a : Int)).toNat = a := by
  rw [BitVec.toNat_ofInt]; omega
theorem xor64 (a b : Nat) (ha : a < 4294967296) (hb : b < 4294967296) : bits .xor .i64 (a : Int) (b : Int) = ((a ^^^ b : Nat) : Int) := by
  have hx := xor_lt a b ha hb
  have e : ((BitVec.ofInt 64 (a : Int)) ^^^ (BitVec.ofInt 64 (b : Int))).toNat = a ^^^ b := by
    rw [BitVec.toNat_xor, ofInt_i64 a ha, ofInt_i64 b hb]
  show IntKind.i64.wrap (((BitVec.ofInt 64 (a : Int)) ^^^ (BitVec.ofInt 64 (b : Int))).toNat : Int) = _
  rw [e]
  generalize a ^^^ b = c at *
  simp [IntKind.wrap, IntKind.bits, IntKind.signed]
  omega
theorem xor_same (a b : Int) (ha : W32 a) (hb : W32 b) : bits .xor .u32 a b = bits .xor .i64 a b ∧ W32 (bits .xor .i64 a b) := by
  obtain ⟨a1, a2⟩ := ha
  obtain ⟨b1, b2⟩ := hb
  obtain ⟨a, rfl⟩ := Int.eq_ofNat_of_zero_le a1
  obtain ⟨b, rfl⟩ := Int.eq_ofNat_of_zero_le b1
  have h1 : a < 4294967296 := by omega
  have h2 : b < 4294967296 := by omega
  have h3 := xor_lt a b h1 h2
  rw [xor32 a b h1 h2, xor64 a b h1 h2]
  exact ⟨rfl, by omega, by omega⟩
theorem hb_same (x : Int) (h : W32 x) : hb32 x = hb64 x ∧ W32 (hb64 x) := by
  have h2 : W32 (x / 2) := ⟨by have := h.1; omega, by have := h.2; have := h.1; omega⟩
  have h3 := xor_same (x / 2) 3988292384 h2 ⟨by decide, by decide⟩
  unfold hb32 hb64
  split
  · exact h3
  · exact ⟨rfl, h2⟩
theorem it_same (k : Nat) (x : Int) (h : W32 x) : it32 k x = it64 k x ∧ W32 (it64 k x) := by
  induction k with
  | zero => exact ⟨rfl, h⟩
  | succ k ih =>
    have := hb_same _ ih.2
    exact ⟨by show hb32 (it32 k x) = hb64 (it64 k x); rw [ih.1]; exact this.1, this.2⟩
theorem crc_same_from (l : List Int) (hl : ∀ n ∈ l, 0 ≤ n ∧ n ≤ 255) (x : Int) (hx : W32 x) :
    l.foldl (fun x b => it32 8 (bits .xor .u32 x b)) x = l.foldl (fun x b => it64 8 (bits .xor .i64 x b)) x ∧ W32 (l.foldl (fun x b => it64 8 (bits .xor .i64 x b)) x) := by
  induction l generalizing x with
  | nil => exact ⟨rfl, hx⟩
  | cons b l ih =>
    have hb := hl b (by simp)
    have h1 := xor_same x b hx ⟨hb.1, by omega⟩
    have h2 := it_same 8 _ h1.2
    have h3 := ih (fun n hn => hl n (by simp [hn])) _ h2.2
    simp only [List.foldl_cons, h1.1, h2.1]
    exact h3
theorem crc_same (l : List Int) (hl : ∀ n ∈ l, 0 ≤ n ∧ n ≤ 255) : crc32 l = crc64 l ∧ W32 (crc64 l) := crc_same_from l hl _ ⟨by decide, by decide⟩
theorem crc64_snoc (l : List Int) (b : Int) : crc64 (l ++ [b]) = it64 8 (bits .xor .i64 (crc64 l) b) := by simp [crc64, List.foldl_append]
theorem crc32_snoc (l : List Int) (b : Int) : crc32 (l ++ [b]) = it32 8 (bits .xor .u32 (crc32 l) b) := by simp [crc32, List.foldl_append]
theorem end_same (l : List Int) (hl : ∀ n ∈ l, 0 ≤ n ∧ n ≤ 255) : bits .xor .u32 (crc32 l) 4294967295 = bits .xor .i64 (crc64 l) 4294967295 ∧ W32 (bits .xor .i64 (crc64 l) 4294967295) := by
  have h := crc_same l hl
  rw [h.1]
  exact xor_same _ _ h.2 ⟨by decide, by decide⟩
theorem take_range {l : List Int} (hl : ∀ n ∈ l, 0 ≤ n ∧ n ≤ 255) (k : Nat) : ∀ n ∈ l.take k, 0 ≤ n ∧ n ≤ 255 := fun n hn => hl n (List.mem_of_mem_take hn)
theorem odd32 {k : Nat} {x y : Int} (H : y = it32 k x) (h0 : 0 ≤ y) (h1 : y < 4294967296) (ho : y % 2 = 1) : 0 ≤ bits .xor .u32 (y / 2) 3988292384 ∧ bits .xor .u32 (y / 2) 3988292384 < 4294967296 ∧ bits .xor .u32 (y / 2) 3988292384 = it32 (k + 1) x := by
  have hs := hb_same y ⟨h0, h1⟩
  have e : hb32 y = bits .xor .u32 (y / 2) 3988292384 := by unfold hb32; rw [if_pos ho]
  rw [← e]
  exact ⟨by rw [hs.1]; exact hs.2.1, by rw [hs.1]; exact hs.2.2, by rw [H]; rfl⟩
theorem even32 {k : Nat} {x y : Int} (H : y = it32 k x) (h0 : 0 ≤ y) (h1 : y < 4294967296) (ho : ¬ y % 2 = 1) : 0 ≤ y / 2 ∧ y / 2 < 4294967296 ∧ y / 2 = it32 (k + 1) x := by
  have e : hb32 y = y / 2 := by unfold hb32; rw [if_neg ho]
  exact ⟨by omega, by omega, by rw [← e, H]; rfl⟩
theorem odd64 {k : Nat} {x y : Int} (H : y = it64 k x) (h0 : 0 ≤ y) (h1 : y < 4294967296) (ho : y % 2 = 1) : 0 ≤ bits .xor .i64 (y / 2) 3988292384 ∧ bits .xor .i64 (y / 2) 3988292384 < 4294967296 ∧ bits .xor .i64 (y / 2) 3988292384 = it64 (k + 1) x := by
  have hs := hb_same y ⟨h0, h1⟩
  have e : hb64 y = bits .xor .i64 (y / 2) 3988292384 := by unfold hb64; rw [if_pos ho]
  rw [← e]
  exact ⟨hs.2.1, hs.2.2, by rw [H]; rfl⟩
theorem even64 {k : Nat} {x y : Int} (H : y = it64 k x) (h0 : 0 ≤ y) (h1 : y < 4294967296) (ho : ¬ y % 2 = 1) : 0 ≤ y / 2 ∧ y / 2 < 4294967296 ∧ y / 2 = it64 (k + 1) x := by
  have e : hb64 y = y / 2 := by unfold hb64; rw [if_neg ho]
  exact ⟨by omega, by omega, by rw [← e, H]; rfl⟩
theorem xor_w (a b : Int) (ha : W32 a) (hb : W32 b) : W32 (bits .xor .u32 a b) := by
  have := xor_same a b ha hb
  rw [this.1]; exact this.2
theorem takes (zs : List Int) (k : Nat) (hk : k < zs.length) : zs.take (k + 1) = zs.take k ++ [zs[k]?.getD 0] := by
  rw [List.take_add_one, List.getElem?_eq_getElem hk]; rfl
theorem step32 {zs : List Int} {k : Nat} {y : Int} (hk : k < zs.length) (H : y = crc32 (zs.take k)) : it32 8 (bits .xor .u32 y (zs[k]?.getD 0)) = crc32 (zs.take (k + 1)) := by
  rw [takes zs k hk, crc32_snoc, ← H]
theorem step64 {zs : List Int} {k : Nat} {y u : Int} (hk : k < zs.length) (H : y = crc64 (zs.take k)) (HU : u = it64 8 (bits .xor .i64 y (zs[k]?.getD 0))) : u = crc64 (zs.take (k + 1)) := by
  rw [takes zs k hk, crc64_snoc, ← H]; exact HU
end Go.Proofs.Ytjndcfamfminkab
