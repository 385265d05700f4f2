/- Several texts of mine, laid together. No statement of the seat is proved here. -/
import Derived.Test.YtjndcfamfminkaqFrNums
import Derived.Test.YtjndcfamfminkaqReadNum
import Derived.WalkKit
import Derived.Laws.BitsAllLaws
import Derived.Test.YtjndcfamfminkaqBase
import Derived.Lib.SlBytesConst
import Derived.ArgAppend
import Derived.Test.YtjndcfamfminkaqTallyS
import Derived.Test.YtjndcfamfminkaqSkLaw
import Derived.Test.YtjndcfamfminkaqItHelp2
import Derived.Test.YtjndcfamfminkaqFrData
import Derived.Test.YtjndcfamfminkaqItModel
import Derived.Test.YtjndcfamfminkaqNumMath
import Derived.Deep.RegionLawGrows
/- The walk through the model's l7Get. No statement of the seat is proved here. -/
namespace Go.Proofs.Ytjndcfamfminkaq
open Go.RowKit
/-- So many numbers, one behind the other, from that place on; and the place behind them. -/
def getTo (zs : List Int) (p : Int) : Nat → Option (List Int × Int)
  | 0 => some ([], p)
  | k + 1 => match getTo zs p k with
    | none => none
    | some (l, q) => match res zs q with
      | none => none
      | some (n, u) => some (l ++ [n], q + u)
theorem getTo_none {zs : List Int} {p : Int} {k : Nat} (h : getTo zs p k = none) : ∀ {m : Nat}, k ≤ m → getTo zs p m = none
  | 0, hm => by obtain rfl : k = 0 := by omega
                exact h
  | m + 1, hm => by
    by_cases e : k = m + 1
    · subst e; exact h
    · rw [getTo, getTo_none h (m := m) (by omega)]
theorem getTo_len {zs : List Int} {p : Int} : ∀ {k : Nat} {l : List Int} {q : Int}, getTo zs p k = some (l, q) → l.length = k
  | 0, l, q, h => by
    rw [getTo] at h
    cases h
    rfl
  | k + 1, l, q, h => by
    rw [getTo] at h
    split at h
    · cases h
    · rename_i l' q' e
      split at h
      · cases h
      · cases h
        rw [List.length_append, getTo_len e]
        rfl
theorem cell_one7 (w : World) (x : Value) (t : TypeId) : ∀ j u, [x][j]? = some u → (w.alloc (.cells #[x] t)).cell? ((⟨w.heap.size, 0, none⟩ : Addr).add j) = some u
  | 0, u, hx => by
    obtain rfl : x = u := by simpa using hx
    simp [Addr.add]
  | j + 1, u, hx => by simp at hx
set_option maxRecDepth 100000 in
set_option maxHeartbeats 4000000 in
theorem l7Get_any (a : Option Addr) (len cap : Nat) (p : Int) (m : Nat) (zs : List Int) (w : World) (h : RdB w a len zs) (hlen : len ≤ 1048576) (hm : m ≤ 1048576) :
    Calls Try.prog 52 #[.slice a len cap, .int .i64 p, .int .i64 m] w fun e w' => (∃ v l q, e = .returned (.tuple #[v, .int .i64 q, .bool (getTo zs p m).isSome]) ∧ w'.ownsRow w.heap.size 3 1 v l.length (l.map (Value.int .i64)) ∧ (getTo zs p m).getD ([], 0) = (l, q)) ∧ Below w.heap.size w w' := by
  obtain ⟨i0, hi, hz0, hz1, hz2⟩ := info_parts infoInt
  have HR : Hid (RdB w a len zs) := h
  clear h
  go_enter Try.func52, Try.ntmps52
  go_wp2
  go_loopw [1, 9, 10] (fun at_ v i wr => ∃ (k : Nat) (l : List Int) (q : Int), k ≤ m ∧ i = .int .i64 k ∧ at_ = .int .i64 q ∧ Hid (getTo zs p k = some (l, q)) ∧ Hid (wr.ownsRow w.heap.size 3 1 v l.length (l.map (Value.int .i64)) ∧ Below w.heap.size w wr)) (fun _ _ i _ => m - (intOf i).toNat)
  case atStart => exact ⟨0, [], p, by omega, rfl, rfl, rfl, own_empty w _, (Below.refl _ _).alloc (Nat.le_refl _) _⟩
  case round =>
    obtain ⟨k, l, q, hk, rfl, rfl, HG, HO⟩ := hrel
    by_cases hlt : k < m
    · have hI : (k : Int) < (m : Int) := by omega
      have hll := getTo_len HG.out
      go_wp2_with fail
      refine (getSpec_any a len cap q zs _ (HR.out.below HO.out.2) hlen).mono ?_
      rintro e w1 ⟨rfl, hw1⟩
      have hw1' := hw1.symm
      subst hw1'
      clear hw1
      obtain ⟨r, hr⟩ : ∃ r, r = res zs q := ⟨_, rfl⟩
      rw [← hr]
      have HRes : Hid (r = res zs q) := hr
      clear hr
      rcases r with _ | ⟨n, u⟩
      · have HV : Hid (getTo zs p m = none) := getTo_none (k := k + 1) (by rw [getTo, HG.out]; simp only; rw [← HRes.out]) (by omega)
        have HE : Hid ((wr.alloc (.cells #[] 3)).ownsRow wr.heap.size 3 1 (.slice (some ⟨wr.heap.size, 0, none⟩) 0 0) 0 []) := own_empty wr _
        simp only [out3]
        go_wp2
        go_ret3
        rw [HV.out]
        exact ⟨⟨_, [], 0, rfl, own_mono7 HE.out HO.out.2.size, rfl⟩, Below.next HO.out.2 ((Below.refl _ _).alloc (Nat.le_refl _) _)⟩
      · have HG2 : Hid (getTo zs p (k + 1) = some (l ++ [n], q + u)) := by show _ = _; rw [getTo, HG.out]; simp only; rw [← HRes.out]
        simp only [out3]
        obtain ⟨q2, hq2⟩ : ∃ q2, q2 = q + (u : Int) := ⟨_, rfl⟩
        rw [← hq2] at HG2 ⊢
        clear hq2
        go_wp2_with (with_reducible refine stopAppend rfl ?_)
        refine Stop.intro (wpList_append_own _ rfl _ _ 22 rfl w.heap.size 3 i0 (.int .i64 0) 1 8 Try.underlying22 hi hz0 hz1 hz2 rfl (by decide) _ _ _ rfl (HO.out.1.alloc _) ⟨wr.heap.size, 0, none⟩ 1 1 [.int .i64 n] rfl rfl (cell_one7 _ _ _) (by intro u hu; simp at hu; subst hu; rfl) (by unfold maxLen; omega) (by omega) (by have := HO.out.2.size; simp; omega) ?_)
        intro v2 w2 hown hgrow _
        have hal : Below w.heap.size w (wr.alloc (.cells #[.int .i64 n] 3)) := Below.allocW _ HO.out.2 (Nat.le_refl _)
        have hb2 : Below w.heap.size w w2 := hal.grown hgrow hal.size (fun g hg => (HO.out.1.lt g hg).1)
        have HO2 : Hid (w2.ownsRow w.heap.size 3 1 v2 (l ++ [n]).length ((l ++ [n]).map (Value.int .i64)) ∧ Below w.heap.size w w2) := by
          refine ⟨?_, hb2⟩
          rw [List.length_append, List.map_append]
          exact hown
        clear hown hgrow hal hb2 HO HG
        go_wp2
        go_roundw
        case rel => exact ⟨k + 1, l ++ [n], q2, by omega, by go_num, by rfl, HG2, HO2⟩
        case measure => simp [intOf]; omega
    · obtain rfl : k = m := by omega
      go_wp2
      go_ret3
      rw [HG.out]
      exact ⟨⟨_, l, q, rfl, HO.out.1, rfl⟩, HO.out.2⟩
end Go.Proofs.Ytjndcfamfminkaq
/- The walk through the model's SketchBytes. No statement of the seat is proved here. -/
namespace Go.Proofs.Ytjndcfamfminkaq
open Go.RowKit
def Sk.bytes (s : Sk) : List Int := if s.ok = true then putAll s.nums else []
set_option maxRecDepth 100000 in
set_option maxHeartbeats 4000000 in
theorem sketchBytesSpec_any (v : Value) (s : Sk) (F : List Nat) (w : World) (h : RdSk w v s F) (hw : s.wide) :
    Calls Try.prog 10 #[v] w fun e w' => ∃ u, e = .returned u ∧ w'.ownsRow w.heap.size 5 1 u s.bytes.length (s.bytes.map (Value.int .u8)) ∧ Below w.heap.size w w' := by
  obtain ⟨cs, rfl, hc7⟩ : ∃ cs, v = .agg cs ∧ cs.size = 7 := by
    obtain ⟨a1, n1, c1, a2, n2, c2, a3, n3, c3, F1, F2, F3, rfl, _⟩ := h
    exact ⟨_, rfl, rfl⟩
  have HH : Hid (RdSk w (.agg cs) s F ∧ s.wide) := ⟨h, hw⟩
  have HT : Hid (Blk (w.alloc (.cells cs 29)) w.heap.size cs 29 ∧ Below w.heap.size w (w.alloc (.cells cs 29))) := ⟨Blk.made _ _ _, (Below.refl _ _).alloc (Nat.le_refl _) _⟩
  have hsz : (Try.prog.info? 29).map (·.size) = some cs.size := by rw [hc7]; exact infoSkI
  clear h hw
  go_enter Try.func10, Try.ntmps10
  go_wp2_with (first | go_skip | (with_reducible refine stopLoad 29 rfl ?_))
  refine load_known 29 w.heap.size cs 29 _ HT.out.1 rfl rfl rfl Try.underlying29 rfl hsz ?_
  go_wp2_with fail
  refine (okSpec_any _ s F _ (HH.out.1.below HT.out.2) HH.out.2).mono ?_
  rintro e w1 ⟨rfl, hb1⟩
  have HT1 : Hid (Blk w1 w.heap.size cs 29 ∧ Below w.heap.size w w1) := ⟨HT.out.1.below hb1, Below.next HT.out.2 hb1⟩
  obtain ⟨d, hd⟩ : ∃ d, d = s.ok := ⟨_, rfl⟩
  rw [← hd]
  have HD : Hid (d = s.ok) := hd
  clear hb1 HT hd
  cases d
  · have HV : Hid (s.bytes = []) := by show _ = _; unfold Sk.bytes; rw [← HD.out]; rfl
    have HE : Hid ((w1.alloc (.cells #[] 5)).ownsRow w1.heap.size 5 1 (.slice (some ⟨w1.heap.size, 0, none⟩) 0 0) 0 []) := own_empty w1 _
    go_wp2
    go_ret
    rw [HV.out]
    exact ⟨_, rfl, own_mono7 HE.out HT1.out.2.size, Below.next HT1.out.2 ((Below.refl _ _).alloc (Nat.le_refl _) _)⟩
  have HL : Hid (s.lens7 ∧ (∀ x ∈ s.nums, InN x) ∧ s.bytes = putAll s.nums) := ⟨(Sk.ok_lens HD.out.symm).1, (Sk.ok_lens HD.out.symm).2, by unfold Sk.bytes; rw [← HD.out]; rfl⟩
  go_wp2_with (first | go_skip | (with_reducible refine stopLoad 29 rfl ?_))
  refine load_known 29 w.heap.size cs 29 _ HT1.out.1 rfl rfl rfl Try.underlying29 rfl hsz ?_
  go_wp2_with fail
  refine (l7Nums_any _ s F _ (HH.out.1.below HT1.out.2) HL.out.1).mono ?_
  rintro e w2 ⟨u, rfl, hown, hb2⟩
  obtain ⟨a, cap, G, rfl, hr, _⟩ := rdI_of_own hown
  have HR2 : Hid (RdI w2 a s.nums.length s.nums G ∧ Below w.heap.size w w2) := ⟨hr, Below.next HT1.out.2 hb2⟩
  have hn : s.nums.length = 28 := by
    have e : s.numsTo 2 = s.nums := by
      unfold Sk.numsTo Sk.nums
      rw [List.take_of_length_le (by rw [HL.out.1.rows]; omega)]
    rw [← e, numsTo_len HL.out.1 (by omega)]
  clear hown hb2 hr
  rw [hn] at HR2 ⊢
  have HP : Hid ((∀ x ∈ s.nums, InN x) ∧ s.bytes = putAll s.nums) := HL.out.2
  clear HL hn
  generalize s.nums = N at HR2 HP
  go_wp2_with fail
  refine (l7Put_any a 28 cap N G _ HR2.out.1 HP.out.1 (by omega)).mono ?_
  rintro e w3 ⟨u3, rfl, hown, hb3⟩
  have h3 : w3.ownsRow w.heap.size 5 1 u3 s.bytes.length (s.bytes.map (Value.int .u8)) := by
    rw [HP.out.2]
    exact own_mono7 hown HR2.out.2.size
  have HR3 : Hid (w3.ownsRow w.heap.size 5 1 u3 s.bytes.length (s.bytes.map (Value.int .u8)) ∧ Below w.heap.size w w3) := ⟨h3, Below.next HR2.out.2 hb3⟩
  clear hown hb3 h3
  go_wp2
  go_ret
  exact ⟨_, rfl, HR3.out⟩
end Go.Proofs.Ytjndcfamfminkaq
/- The check sum of chapter 1 over whole numbers: one step of it on 32 bits and on 64 bits is the same number. No statement of the seat is proved here. -/
namespace Go.Proofs.Ytjndcfamfminkaq
open Go.RowKit

/-- Half, and, where it was odd, exclusive or with the number of the check sum: on 64 bits with a sign; on 32 bits without one. -/
def hb64 (x : Int) : Int := if x % 2 = 1 then bits .xor .i64 (x / 2) 3988292384 else x / 2
def hb32 (x : Int) : Int := if x % 2 = 1 then bits .xor .u32 (x / 2) 3988292384 else x / 2
def it64 : Nat → Int → Int | 0, x => x | k + 1, x => hb64 (it64 k x)
def it32 : Nat → Int → Int | 0, x => x | k + 1, x => hb32 (it32 k x)
def crc64 (l : List Int) : Int := l.foldl (fun x b => it64 8 (bits .xor .i64 x b)) 4294967295
def crc32 (l : List Int) : Int := l.foldl (fun x b => it32 8 (bits .xor .u32 x b)) 4294967295

def W32 (x : Int) : Prop := 0 ≤ x ∧ x < 4294967296

theorem xor32 (a b : Nat) (ha : a < 4294967296) (hb : b < 4294967296) : bits .xor .u32 (a : Int) (b : Int) = ((a ^^^ b : Nat) : Int) := u32_xor_nat a b ha hb
theorem xor_lt (a b : Nat) (ha : a < 4294967296) (hb : b < 4294967296) : a ^^^ b < 4294967296 := Nat.xor_lt_two_pow (n := 32) ha hb
theorem ofInt_i64 (a : Nat) (ha : a < 4294967296) : (BitVec.ofInt 64 (a : Int)).toNat = a := by
  rw [BitVec.toNat_ofInt]; omega
theorem xor64 (a b : Nat) (ha : a < 4294967296) (hb : b < 4294967296) : bits .xor .i64 (a : Int) (b : Int) = ((a ^^^ b : Nat) : Int) := by
  have hx := xor_lt a b ha hb
  have e : ((BitVec.ofInt 64 (a : Int)) ^^^ (BitVec.ofInt 64 (b : Int))).toNat = a ^^^ b := by
    rw [BitVec.toNat_xor, ofInt_i64 a ha, ofInt_i64 b hb]
  show IntKind.i64.wrap (((BitVec.ofInt 64 (a : Int)) ^^^ (BitVec.ofInt 64 (b : Int))).toNat : Int) = _
  rw [e]
  generalize a ^^^ b = c at *
  simp [IntKind.wrap, IntKind.bits, IntKind.signed]
  omega
theorem xor_same (a b : Int) (ha : W32 a) (hb : W32 b) : bits .xor .u32 a b = bits .xor .i64 a b ∧ W32 (bits .xor .i64 a b) := by
  obtain ⟨a1, a2⟩ := ha
  obtain ⟨b1, b2⟩ := hb
  obtain ⟨a, rfl⟩ := Int.eq_ofNat_of_zero_le a1
  obtain ⟨b, rfl⟩ := Int.eq_ofNat_of_zero_le b1
  have h1 : a < 4294967296 := by omega
  have h2 : b < 4294967296 := by omega
  have h3 := xor_lt a b h1 h2
  rw [xor32 a b h1 h2, xor64 a b h1 h2]
  exact ⟨rfl, by omega, by omega⟩
theorem hb_same (x : Int) (h : W32 x) : hb32 x = hb64 x ∧ W32 (hb64 x) := by
  have h2 : W32 (x / 2) := ⟨by have := h.1; omega, by have := h.2; have := h.1; omega⟩
  have h3 := xor_same (x / 2) 3988292384 h2 ⟨by decide, by decide⟩
  unfold hb32 hb64
  split
  · exact h3
  · exact ⟨rfl, h2⟩
theorem it_same (k : Nat) (x : Int) (h : W32 x) : it32 k x = it64 k x ∧ W32 (it64 k x) := by
  induction k with
  | zero => exact ⟨rfl, h⟩
  | succ k ih =>
    have := hb_same _ ih.2
    exact ⟨by show hb32 (it32 k x) = hb64 (it64 k x); rw [ih.1]; exact this.1, this.2⟩
theorem crc_same_from (l : List Int) (hl : ∀ n ∈ l, 0 ≤ n ∧ n ≤ 255) (x : Int) (hx : W32 x) :
    l.foldl (fun x b => it32 8 (bits .xor .u32 x b)) x = l.foldl (fun x b => it64 8 (bits .xor .i64 x b)) x ∧ W32 (l.foldl (fun x b => it64 8 (bits .xor .i64 x b)) x) := by
  induction l generalizing x with
  | nil => exact ⟨rfl, hx⟩
  | cons b l ih =>
    have hb := hl b (by simp)
    have h1 := xor_same x b hx ⟨hb.1, by omega⟩
    have h2 := it_same 8 _ h1.2
    have h3 := ih (fun n hn => hl n (by simp [hn])) _ h2.2
    simp only [List.foldl_cons, h1.1, h2.1]
    exact h3
theorem crc_same (l : List Int) (hl : ∀ n ∈ l, 0 ≤ n ∧ n ≤ 255) : crc32 l = crc64 l ∧ W32 (crc64 l) := crc_same_from l hl _ ⟨by decide, by decide⟩
theorem crc64_snoc (l : List Int) (b : Int) : crc64 (l ++ [b]) = it64 8 (bits .xor .i64 (crc64 l) b) := by simp [crc64, List.foldl_append]
theorem crc32_snoc (l : List Int) (b : Int) : crc32 (l ++ [b]) = it32 8 (bits .xor .u32 (crc32 l) b) := by simp [crc32, List.foldl_append]
theorem end_same (l : List Int) (hl : ∀ n ∈ l, 0 ≤ n ∧ n ≤ 255) : bits .xor .u32 (crc32 l) 4294967295 = bits .xor .i64 (crc64 l) 4294967295 ∧ W32 (bits .xor .i64 (crc64 l) 4294967295) := by
  have h := crc_same l hl
  rw [h.1]
  exact xor_same _ _ h.2 ⟨by decide, by decide⟩
theorem take_range {l : List Int} (hl : ∀ n ∈ l, 0 ≤ n ∧ n ≤ 255) (k : Nat) : ∀ n ∈ l.take k, 0 ≤ n ∧ n ≤ 255 := fun n hn => hl n (List.mem_of_mem_take hn)
theorem odd32 {k : Nat} {x y : Int} (H : y = it32 k x) (h0 : 0 ≤ y) (h1 : y < 4294967296) (ho : y % 2 = 1) : 0 ≤ bits .xor .u32 (y / 2) 3988292384 ∧ bits .xor .u32 (y / 2) 3988292384 < 4294967296 ∧ bits .xor .u32 (y / 2) 3988292384 = it32 (k + 1) x := by
  have hs := hb_same y ⟨h0, h1⟩
  have e : hb32 y = bits .xor .u32 (y / 2) 3988292384 := by unfold hb32; rw [if_pos ho]
  rw [← e]
  exact ⟨by rw [hs.1]; exact hs.2.1, by rw [hs.1]; exact hs.2.2, by rw [H]; rfl⟩
theorem even32 {k : Nat} {x y : Int} (H : y = it32 k x) (h0 : 0 ≤ y) (h1 : y < 4294967296) (ho : ¬ y % 2 = 1) : 0 ≤ y / 2 ∧ y / 2 < 4294967296 ∧ y / 2 = it32 (k + 1) x := by
  have e : hb32 y = y / 2 := by unfold hb32; rw [if_neg ho]
  exact ⟨by omega, by omega, by rw [← e, H]; rfl⟩
theorem odd64 {k : Nat} {x y : Int} (H : y = it64 k x) (h0 : 0 ≤ y) (h1 : y < 4294967296) (ho : y % 2 = 1) : 0 ≤ bits .xor .i64 (y / 2) 3988292384 ∧ bits .xor .i64 (y / 2) 3988292384 < 4294967296 ∧ bits .xor .i64 (y / 2) 3988292384 = it64 (k + 1) x := by
  have hs := hb_same y ⟨h0, h1⟩
  have e : hb64 y = bits .xor .i64 (y / 2) 3988292384 := by unfold hb64; rw [if_pos ho]
  rw [← e]
  exact ⟨hs.2.1, hs.2.2, by rw [H]; rfl⟩
theorem even64 {k : Nat} {x y : Int} (H : y = it64 k x) (h0 : 0 ≤ y) (h1 : y < 4294967296) (ho : ¬ y % 2 = 1) : 0 ≤ y / 2 ∧ y / 2 < 4294967296 ∧ y / 2 = it64 (k + 1) x := by
  have e : hb64 y = y / 2 := by unfold hb64; rw [if_neg ho]
  exact ⟨by omega, by omega, by rw [← e, H]; rfl⟩
theorem xor_w (a b : Int) (ha : W32 a) (hb : W32 b) : W32 (bits .xor .u32 a b) := by
  have := xor_same a b ha hb
  rw [this.1]; exact this.2
theorem takes (zs : List Int) (k : Nat) (hk : k < zs.length) : zs.take (k + 1) = zs.take k ++ [zs[k]?.getD 0] := by
  rw [List.take_add_one, List.getElem?_eq_getElem hk]; rfl
theorem step32 {zs : List Int} {k : Nat} {y : Int} (hk : k < zs.length) (H : y = crc32 (zs.take k)) : it32 8 (bits .xor .u32 y (zs[k]?.getD 0)) = crc32 (zs.take (k + 1)) := by
  rw [takes zs k hk, crc32_snoc, ← H]
theorem step64 {zs : List Int} {k : Nat} {y u : Int} (hk : k < zs.length) (H : y = crc64 (zs.take k)) (HU : u = it64 8 (bits .xor .i64 y (zs[k]?.getD 0))) : u = crc64 (zs.take (k + 1)) := by
  rw [takes zs k hk, crc64_snoc, ← H]; exact HU
end Go.Proofs.Ytjndcfamfminkaq
/- The walks through the two check sums (the model's and the program's), through the copying and the comparing of byte slices. No statement of the seat is proved here. -/
namespace Go.Proofs.Ytjndcfamfminkaq
open Go.RowKit

set_option maxRecDepth 100000 in
set_option maxHeartbeats 400000 in
theorem halved_any (x : Int) (w : World) (hx : W32 x) : Calls Try.prog 122 #[.int .u32 x] w fun e w' => e = .returned (.int .u32 (it32 8 x)) ∧ w' = w := by
  go_enter Try.func122, Try.ntmps122
  go_wp2
  go_loop [0, 4] (fun s i => ∃ (k : Nat) (y : Int), k ≤ 8 ∧ 0 ≤ y ∧ y < 4294967296 ∧ i = .int .i64 k ∧ s = .int .u32 y ∧ Hid (y = it32 k x)) (fun _ i => 8 - (intOf i).toNat)
  case atStart => exact ⟨0, x, by omega, hx.1, hx.2, rfl, rfl, rfl⟩
  case round =>
    obtain ⟨k, y, hk, hy0, hy1, rfl, rfl, HY⟩ := hrel
    by_cases hlt : k < 8
    · by_cases ho : y % 2 = 1
      · go_wp2
        go_round
        case rel => exact ⟨k + 1, _, by omega, (odd32 HY.out hy0 hy1 ho).1, (odd32 HY.out hy0 hy1 ho).2.1, by go_num, rfl, (odd32 HY.out hy0 hy1 ho).2.2⟩
        case measure => simp [intOf]; omega
      · have hob : (y % 2 == 1) = false := by simpa using ho
        go_wp2
        go_round
        case rel => exact ⟨k + 1, _, by omega, (even32 HY.out hy0 hy1 ho).1, (even32 HY.out hy0 hy1 ho).2.1, by go_num, rfl, (even32 HY.out hy0 hy1 ho).2.2⟩
        case measure => simp [intOf]; omega
    · obtain rfl : k = 8 := by omega
      go_wp2
      go_ret
      exact ⟨ret_int HY.out, rfl⟩

set_option maxRecDepth 100000 in
set_option maxHeartbeats 400000 in
theorem crcImpl_any (a : Option Addr) (len cap : Nat) (zs : List Int) (w : World) (h : RdB w a len zs) (hlen : len ≤ 1048576) :
    Calls Try.prog 106 #[.slice a len cap] w fun e w' => e = .returned (.int .i64 (bits .xor .i64 (crc64 zs) 4294967295)) ∧ w' = w := by
  rcases h.cells with h0 | ⟨b, off, rfl, hc⟩
  · subst h0
    have hz : zs = [] := List.eq_nil_of_length_eq_zero h.length
    subst hz
    clear h
    go_enter Try.func106, Try.ntmps106
    go_wp2
    refine wp_loop_rounds 1 ?_
    rw [rounds_succ]
    go_wp2
    go_ret
    exact ⟨ret_int (by decide +kernel), rfl⟩
  · have HL : Hid (zs.length = len) := h.length
    have Hr : Hid (∀ n ∈ zs, 0 ≤ n ∧ n ≤ 255) := h.range
    clear h
    go_enter Try.func106, Try.ntmps106
    go_wp2
    go_loop [3, 8] (fun s i => ∃ (k : Nat) (y : Int), k ≤ len ∧ i = .int .i64 k ∧ s = .int .u32 y ∧ Hid (y = crc32 (zs.take k))) (fun _ i => len - (intOf i).toNat)
    case atStart => exact ⟨0, _, by omega, rfl, rfl, rfl⟩
    case round =>
      obtain ⟨k, y, hk, rfl, rfl, HY⟩ := hrel
      by_cases hlt : k < len
      · have hck := hc k hlt
        have hb := getD_range Hr.out k
        have hy := crc_same _ (take_range Hr.out k)
        rw [← hy.1, ← HY.out] at hy
        obtain ⟨_, hy0, hy1⟩ := hy
        go_wp2_with (go_at_call 122; refine (halved_any _ _ (xor_w y _ ⟨hy0, hy1⟩ ⟨hb.1, by omega⟩)).mono ?_; rintro e w' ⟨rfl, rfl⟩)
        go_round
        case rel => exact ⟨k + 1, _, by omega, by go_num, rfl, step32 (by rw [HL.out]; exact hlt) HY.out⟩
        case measure => simp [intOf]; omega
      · obtain rfl : k = len := by omega
        have hy := crc_same _ (take_range Hr.out k)
        rw [← hy.1, ← HY.out] at hy
        obtain ⟨_, hy0, hy1⟩ := hy
        have hx := xor_w y 4294967295 ⟨hy0, hy1⟩ ⟨by decide, by decide⟩
        obtain ⟨hx0, hx1⟩ := hx
        go_wp2
        go_ret
        exact ⟨ret_int (by rw [HY.out, List.take_of_length_le (by rw [HL.out]; exact Nat.le_refl _)]; exact (end_same zs Hr.out).1), rfl⟩

set_option maxRecDepth 100000 in
set_option maxHeartbeats 800000 in
theorem crcSpec_any (a : Option Addr) (len cap : Nat) (zs : List Int) (w : World) (h : RdB w a len zs) (hlen : len ≤ 1048576) :
    Calls Try.prog 102 #[.slice a len cap] w fun e w' => e = .returned (.int .i64 (bits .xor .i64 (crc64 zs) 4294967295)) ∧ w' = w := by
  rcases h.cells with h0 | ⟨b, off, rfl, hc⟩
  · subst h0
    have hz : zs = [] := List.eq_nil_of_length_eq_zero h.length
    subst hz
    clear h
    go_enter Try.func102, Try.ntmps102
    go_wp2
    refine wp_loop_rounds 1 ?_
    rw [rounds_succ]
    go_wp2
    go_ret
    exact ⟨ret_int (by decide +kernel), rfl⟩
  · have HL : Hid (zs.length = len) := h.length
    have Hr : Hid (∀ n ∈ zs, 0 ≤ n ∧ n ≤ 255) := h.range
    clear h
    go_enter Try.func102, Try.ntmps102
    go_wp2
    go_loop [3, 4] (fun s i => ∃ (k : Nat) (y : Int), k ≤ len ∧ i = .int .i64 k ∧ s = .int .i64 y ∧ Hid (y = crc64 (zs.take k))) (fun _ i => len - (intOf i).toNat)
    case atStart => exact ⟨0, _, by omega, rfl, rfl, rfl⟩
    case round =>
      obtain ⟨k, y, hk, rfl, rfl, HY⟩ := hrel
      have hy := (crc_same _ (take_range Hr.out k)).2
      rw [← HY.out] at hy
      obtain ⟨hy0, hy1⟩ := hy
      by_cases hlt : k < len
      · have hck := hc k hlt
        have hb := getD_range Hr.out k
        go_wp2
        go_loop [3, 5] (fun s i => ∃ (j : Nat) (u : Int), j ≤ 8 ∧ 0 ≤ u ∧ u < 4294967296 ∧ i = .int .i64 j ∧ s = .int .i64 u ∧ Hid (u = it64 j (bits .xor .i64 y (zs[k]?.getD 0)))) (fun _ i => 8 - (intOf i).toNat)
        case atStart => exact ⟨0, _, by omega, (xor_same y _ ⟨hy0, hy1⟩ ⟨hb.1, by omega⟩).2.1, (xor_same y _ ⟨hy0, hy1⟩ ⟨hb.1, by omega⟩).2.2, rfl, rfl, rfl⟩
        case round =>
          obtain ⟨j, u, hj, hu0, hu1, rfl, rfl, HU⟩ := hrel
          by_cases hj8 : j < 8
          · by_cases ho : u % 2 = 1
            · go_wp2
              go_round
              case rel => exact ⟨j + 1, _, by omega, (odd64 HU.out hu0 hu1 ho).1, (odd64 HU.out hu0 hu1 ho).2.1, by go_num, rfl, (odd64 HU.out hu0 hu1 ho).2.2⟩
              case measure => simp [intOf]; omega
            · have hob : (u % 2 == 1) = false := by simpa using ho
              go_wp2
              go_round
              case rel => exact ⟨j + 1, _, by omega, (even64 HU.out hu0 hu1 ho).1, (even64 HU.out hu0 hu1 ho).2.1, by go_num, rfl, (even64 HU.out hu0 hu1 ho).2.2⟩
              case measure => simp [intOf]; omega
          · obtain rfl : j = 8 := by omega
            go_wp2
            go_round
            case rel => exact ⟨k + 1, _, by omega, by go_num, rfl, step64 (by rw [HL.out]; exact hlt) HY.out HU.out⟩
            case measure => simp [intOf]; omega
      · obtain rfl : k = len := by omega
        go_wp2
        go_ret
        exact ⟨ret_int (by rw [HY.out, List.take_of_length_le (by rw [HL.out]; exact Nat.le_refl _)]), rfl⟩
end Go.Proofs.Ytjndcfamfminkaq
/- The walk through the model's l7Sum. No statement of the seat is proved here. -/
namespace Go.Proofs.Ytjndcfamfminkaq
open Go.RowKit
def crcOf (zs : List Int) : Int := bits .xor .i64 (crc64 zs) 4294967295
def sumOf (zs : List Int) : List Int := [crcOf zs / 16777216, crcOf zs / 65536 % 256, crcOf zs / 256 % 256, crcOf zs % 256]
theorem crcOf_range (zs : List Int) (h : ∀ x ∈ zs, 0 ≤ x ∧ x ≤ 255) : 0 ≤ crcOf zs ∧ crcOf zs < 4294967296 := (end_same zs h).2
set_option maxRecDepth 100000 in
set_option maxHeartbeats 4000000 in
theorem l7Sum_any (a : Option Addr) (len cap : Nat) (zs : List Int) (w : World) (h : RdB w a len zs) (hlen : len ≤ 1048576) :
    Calls Try.prog 61 #[.slice a len cap] w fun e w' => e = .returned (.slice (some ⟨w.heap.size, 0, none⟩) 4 4) ∧ w' = w.alloc (.cells ((sumOf zs).map (Value.int .u8)).toArray 5) := by
  have HR : Hid (RdB w a len zs) := h
  have hc := crcOf_range zs h.range
  clear h
  go_enter Try.func61, Try.ntmps61
  go_wp2_with fail
  refine (crcSpec_any a len cap zs _ HR.out hlen).mono ?_
  rintro e w1 ⟨rfl, hw1⟩
  have hw1' := hw1.symm
  subst hw1'
  clear hw1
  obtain ⟨c, hcc⟩ : ∃ c, c = crcOf zs := ⟨_, rfl⟩
  rw [show bits .xor .i64 (crc64 zs) 4294967295 = c from hcc.symm]
  rw [← hcc] at hc
  have HC : Hid (c = crcOf zs) := hcc
  clear hcc
  obtain ⟨N, rfl⟩ := Int.eq_ofNat_of_zero_le hc.1
  go_wp2
  go_ret
  refine ⟨rfl, ?_⟩
  unfold sumOf
  rw [← HC.out]
  rfl
end Go.Proofs.Ytjndcfamfminkaq
/- What a right frame's numbers are, and its bytes. No statement of the seat is proved here. -/
namespace Go.Proofs.Ytjndcfamfminkaq
open Go.RowKit
structure Fr.Right (x : Fr) : Prop where
  kind : 0 ≤ x.kind ∧ x.kind ≤ 3
  agent : 0 ≤ x.agent ∧ x.agent ≤ 2
  epoch : 0 ≤ x.epoch ∧ x.epoch ≤ 1000
  granted : 0 ≤ x.granted ∧ x.granted ≤ 60
  ok : x.taken.ok = true
  span : ∀ k, k < x.taken.length → 1 ≤ (x.taken.at k).1 ∧ (x.taken.at k).1 ≤ (x.taken.at k).2 ∧ (x.taken.at k).2 ≤ 60
  many : x.taken.length ≤ 30
  item : if x.kind = 1 then x.item.ok = true else x.item = It.zero
theorem Sp.taken_at {ps : Sp} (h : ps.taken = true) (k : Nat) (hk : k < ps.length) : 1 ≤ (ps.at k).1 ∧ (ps.at k).2 ≤ 60 := by
  unfold Sp.taken at h
  rw [List.all_eq_true] at h
  exact of_decide_eq_true (h k (List.mem_range.mpr hk))
theorem Sp.taken_lo {ps : Sp} (h : ps.ok = true) (ht : ps.taken = true) : ∀ k, k < ps.length → (2 * k + 1 : Int) ≤ (ps.at k).1
  | 0, hk => by have := Sp.taken_at ht 0 hk; omega
  | k + 1, hk => by
    have i := Sp.taken_lo h ht k (by omega)
    have a := (Sp.okAt_parts (Sp.ok_at h k (by omega))).1
    have b := (Sp.okAt_parts (Sp.ok_at h (k + 1) hk)).2 (by omega)
    rw [Nat.add_sub_cancel] at b
    omega
theorem Sp.taken_many {ps : Sp} (h : ps.ok = true) (ht : ps.taken = true) : ps.length ≤ 30 := by
  by_cases q : ps.length ≤ 30
  · exact q
  · have a := Sp.taken_lo h ht 30 (by omega)
    have b := Sp.taken_at ht 30 (by omega)
    have c := (Sp.okAt_parts (Sp.ok_at h 30 (by omega))).1
    omega
theorem Fr.ok_right {x : Fr} (h : x.ok = true) : x.Right := by
  unfold Fr.ok at h
  simp only [Bool.and_eq_true, decide_eq_true_eq] at h
  obtain ⟨⟨⟨⟨⟨⟨h1, h2⟩, h3⟩, h4⟩, h5⟩, h6⟩, h7⟩ := h
  refine ⟨h1, h2, h3, h4, h5, fun k hk => ?_, Sp.taken_many h5 h6, ?_⟩
  · have a := Sp.taken_at h6 k hk
    have b := (Sp.okAt_parts (Sp.ok_at h5 k hk)).1
    exact ⟨a.1, b.2.1, a.2⟩
  · by_cases q : x.kind = 1
    · rw [if_pos q] at h7 ⊢
      exact h7
    · rw [if_neg q] at h7 ⊢
      exact of_decide_eq_true h7
def Fr.bodyTo (x : Fr) (k : Nat) : List Int := [87, 82] ++ putAll [x.kind, x.agent, x.epoch, x.granted, (x.taken.length : Int)] ++ putAll (flat (x.taken.take k))
def Fr.body (x : Fr) : List Int := [87, 82] ++ putAll [x.kind, x.agent, x.epoch, x.granted, (x.taken.length : Int)] ++ putAll (flat x.taken) ++ (if x.kind = 1 then putAll [x.item.seq, x.item.cls, x.item.key, x.item.window] ++ x.item.sk.bytes else [])
def Fr.bytes (x : Fr) : List Int := if x.ok = true then x.body ++ sumOf x.body else []
theorem bodyTo_succ {x : Fr} {k : Nat} (hk : k < x.taken.length) : x.bodyTo (k + 1) = x.bodyTo k ++ putAll [(x.taken.at k).1, (x.taken.at k).2] := by
  unfold Fr.bodyTo
  rw [show x.taken.take (k + 1) = x.taken.take k ++ [x.taken.at k] from by rw [List.take_add_one, List.getElem?_eq_getElem hk]; simp [Sp.at, List.getElem?_eq_getElem hk], flat_append, putAll_app]
  simp [flat]
theorem bodyTo_len (x : Fr) (k : Nat) : (x.bodyTo k).length ≤ 27 + 10 * k := by
  unfold Fr.bodyTo
  have a := putAll_len [x.kind, x.agent, x.epoch, x.granted, (x.taken.length : Int)]
  have b := putAll_len (flat (x.taken.take k))
  rw [flat_length, List.length_take] at b
  simp only [List.length_append, List.length_cons, List.length_nil] at a ⊢
  omega
theorem Sk.bytes_len (s : Sk) : s.bytes.length ≤ 140 := by
  unfold Sk.bytes
  split
  · rename_i h
    have l := (Sk.ok_lens h).1
    have a := putAll_len s.nums
    have e : s.numsTo 2 = s.nums := by
      unfold Sk.numsTo Sk.nums
      rw [List.take_of_length_le (by rw [l.rows]; omega)]
    rw [← e, numsTo_len l (by omega)] at a
    rw [← e]
    omega
  · simp
theorem Sk.bytes_range (s : Sk) : ∀ x ∈ s.bytes, 0 ≤ x ∧ x ≤ 255 := by
  unfold Sk.bytes
  split
  · exact putAll_range _
  · intro x hx; cases hx
theorem Fr.body_range (x : Fr) : ∀ y ∈ x.body, 0 ≤ y ∧ y ≤ 255 := by
  intro y hy
  unfold Fr.body at hy
  simp only [List.mem_append, List.mem_cons, List.not_mem_nil, or_false] at hy
  rcases hy with ((hy | hy) | hy) | hy
  · rcases hy with rfl | rfl <;> omega
  · exact putAll_range _ y hy
  · exact putAll_range _ y hy
  · split at hy
    · rcases List.mem_append.1 hy with hy | hy
      · exact putAll_range _ y hy
      · exact Sk.bytes_range _ y hy
    · cases hy
theorem Fr.body_len {x : Fr} (h : x.Right) : x.body.length ≤ 487 := by
  have a := bodyTo_len x x.taken.length
  have b := putAll_len [x.item.seq, x.item.cls, x.item.key, x.item.window]
  have c := x.item.sk.bytes_len
  have d := h.many
  have e : x.body = x.bodyTo x.taken.length ++ (if x.kind = 1 then putAll [x.item.seq, x.item.cls, x.item.key, x.item.window] ++ x.item.sk.bytes else []) := by
    unfold Fr.body Fr.bodyTo
    rw [List.take_length]
  rw [e, List.length_append]
  simp only [List.length_cons, List.length_nil] at b
  split
  · rw [List.length_append]; omega
  · simp only [List.length_nil]; omega
end Go.Proofs.Ytjndcfamfminkaq
/- The walk through the model's l7Body. No statement of the seat is proved here. -/
namespace Go.Proofs.Ytjndcfamfminkaq
open Go.RowKit
theorem rd_lit7 (w : World) (zs : List Int) (t : TypeId) (hz : 0 < zs.length) : RdI (w.alloc (.cells (zs.map (Value.int .i64)).toArray t)) (some ⟨w.heap.size, 0, none⟩) zs.length zs [w.heap.size] :=
  ⟨rfl, .inr ⟨w.heap.size, 0, hz, rfl, rfl, fun i hi => by rw [Nat.zero_add, (Blk.made w _ t).cell i]; simp [hi]⟩⟩
theorem putAll_pos {a : Int} {l : List Int} (h : InN a) : 0 < (putAll (a :: l)).length := by
  have e : putAll (a :: l) = encOf a ++ putAll l := by simp [putAll]
  have p := encOf_pos h
  rw [e, List.length_append]
  omega
/-- Bytes that grow beside a box. -/
structure ByteSt (w : World) (cs : Array Value) (t : TypeId) (v : Value) (xs : List Int) (W : World) : Prop where
  box : Blk W w.heap.size cs t
  own : W.ownsRow (w.heap.size + 1) 5 1 v xs.length (xs.map (Value.int .u8))
  bel : Below w.heap.size w W
theorem ByteSt.size {w W : World} {cs : Array Value} {t : TypeId} {v : Value} {xs : List Int} (h : ByteSt w cs t v xs W) : w.heap.size + 1 ≤ W.heap.size := h.box.lt
theorem ByteSt.below {w W W' : World} {cs : Array Value} {t : TypeId} {v : Value} {xs : List Int} (h : ByteSt w cs t v xs W) (b : Below W.heap.size W W') : ByteSt w cs t v xs W' := ⟨h.box.below b, ownsRow_below h.own b, Below.next h.bel b⟩
theorem ByteSt.app {w W W' : World} {cs : Array Value} {t : TypeId} {v v' : Value} {xs ys : List Int} {m : Nat} (h : ByteSt w cs t v xs W) (hm : ys.length = m) (hown : W'.ownsRow (w.heap.size + 1) 5 1 v' (xs.length + m) (xs.map (Value.int .u8) ++ ys.map (Value.int .u8))) (hg : W.grownBy W' v.ownBlock) : ByteSt w cs t v' (xs ++ ys) W' := by
  have b : Below (w.heap.size + 1) W W' := (Below.refl _ _).grown hg h.size (fun g e => (h.own.lt g e).1)
  refine ⟨h.box.agree (b.block _ (Nat.lt_succ_self _)), ?_, h.bel.trans (b.mono (by omega))⟩
  rw [List.length_append, List.map_append, hm]
  exact hown
def BoxS (w : World) (A : Array Value) (t : TypeId) (W : World) : Prop := Blk W w.heap.size A t ∧ Below w.heap.size w W
theorem boxS_below {w : World} {A : Array Value} {t : TypeId} {W W' : World} (h : BoxS w A t W) (b : Below W.heap.size W W') : BoxS w A t W' := ⟨h.1.below b, Below.next h.2 b⟩
theorem lead7 (w : World) (A C : Array Value) (t e : TypeId) (m : Nat × Nat) (o : Obj) : BoxS w A t (((w.alloc (.cells A t)).alloc (.cells C e m)).alloc o) ∧ ∀ j, (((w.alloc (.cells A t)).alloc (.cells C e m)).alloc o).cell? ⟨w.heap.size + 1, j, none⟩ = C[j]? := by
  have b1 : Below (w.alloc (.cells A t)).heap.size (w.alloc (.cells A t)) ((w.alloc (.cells A t)).alloc (.cells C e m)) := (Below.refl _ _).alloc (Nat.le_refl _) _
  have b2 : Below ((w.alloc (.cells A t)).alloc (.cells C e m)).heap.size ((w.alloc (.cells A t)).alloc (.cells C e m)) (((w.alloc (.cells A t)).alloc (.cells C e m)).alloc o) := (Below.refl _ _).alloc (Nat.le_refl _) _
  have s1 : BoxS w A t (w.alloc (.cells A t)) := ⟨Blk.made _ _ _, (Below.refl _ _).alloc (Nat.le_refl _) _⟩
  refine ⟨boxS_below (boxS_below s1 b1) b2, fun j => ?_⟩
  have hs : (w.alloc (.cells A t)).heap.size = w.heap.size + 1 := by simp
  have hg : ((w.alloc (.cells A t)).alloc (.cells C e m)).heap[w.heap.size + 1]? = some (.cells C e m) := by rw [← hs]; exact heap_alloc_new _ _
  have hk := b2.block (w.heap.size + 1) (by simp)
  rw [hg] at hk
  simp only [World.cell?, hk]
  rfl
set_option maxRecDepth 100000 in
set_option maxHeartbeats 8000000 in
theorem l7Body_any (v : Value) (x : Fr) (F G : List Nat) (w : World) (h : RdFr w v x F G) (hx : x.Right) (hw : x.item.sk.wide) :
    Calls Try.prog 60 #[v] w fun e w' => ∃ u, e = .returned u ∧ w'.ownsRow w.heap.size 5 1 u x.body.length (x.body.map (Value.int .u8)) ∧ Below w.heap.size w w' := by
  obtain ⟨i0, hi, hz0, hz1, hz2⟩ := info_parts Try.info5
  obtain ⟨b, l, c, a1, n1, c1, a2, n2, c2, a3, n3, c3, rfl, hp, hr, _⟩ := h
  have HX : Hid (x.Right ∧ x.item.sk.wide ∧ RdSk w (.agg #[.int .i64 x.item.sk.count, .int .i64 x.item.sk.sum, .int .i64 x.item.sk.min, .int .i64 x.item.sk.max, .slice a1 n1 c1, .slice a2 n2 c2, .slice a3 n3 c3]) x.item.sk G) := ⟨hx, hw, by obtain ⟨_, _, _, _, _, _, _, _, _, e, q⟩ := hr; simp only [Value.agg.injEq] at e; cases e; exact q⟩
  have HP : Hid (RdP w b l x.taken F ∧ x.taken.length = l) := ⟨hp, hp.length⟩
  have hl : l ≤ 30 := by rw [← hp.length]; exact hx.many
  have HN5 : Hid (∀ z ∈ [x.kind, x.agent, x.epoch, x.granted, (l : Int)], InN z) := by
    intro z hz
    simp only [List.mem_cons, List.not_mem_nil, or_false] at hz
    have h1 := hx.kind
    have h2 := hx.agent
    have h3 := hx.epoch
    have h4 := hx.granted
    unfold InN
    rcases hz with rfl | rfl | rfl | rfl | rfl <;> omega
  have kc : (convert 27 27 (.slice (some ⟨w.heap.size + 1, 0, none⟩) 2 2)).run Try.prog ((w.alloc (.cells #[.int .i64 x.kind, .int .i64 x.agent, .int .i64 x.epoch, .int .i64 x.granted, .slice b l c, .int .i64 x.item.seq, .int .i64 x.item.cls, .int .i64 x.item.key, .int .i64 x.item.window, .int .i64 x.item.sk.count, .int .i64 x.item.sk.sum, .int .i64 x.item.sk.min, .int .i64 x.item.sk.max, .slice a1 n1 c1, .slice a2 n2 c2, .slice a3 n3 c3] 51)).alloc (.cells #[.int .u8 87, .int .u8 82] 5)) = .ok (.slice (some ⟨w.heap.size + 1, 0, none⟩) 2 2) ((w.alloc (.cells #[.int .i64 x.kind, .int .i64 x.agent, .int .i64 x.epoch, .int .i64 x.granted, .slice b l c, .int .i64 x.item.seq, .int .i64 x.item.cls, .int .i64 x.item.key, .int .i64 x.item.window, .int .i64 x.item.sk.count, .int .i64 x.item.sk.sum, .int .i64 x.item.sk.min, .int .i64 x.item.sk.max, .slice a1 n1 c1, .slice a2 n2 c2, .slice a3 n3 c3] 51)).alloc (.cells #[.int .u8 87, .int .u8 82] 5 (2, 3))) := by
    have e := Lib.run_convert_bytes_const (P := Try.prog) (w.alloc (.cells #[.int .i64 x.kind, .int .i64 x.agent, .int .i64 x.epoch, .int .i64 x.granted, .slice b l c, .int .i64 x.item.seq, .int .i64 x.item.cls, .int .i64 x.item.key, .int .i64 x.item.window, .int .i64 x.item.sk.count, .int .i64 x.item.sk.sum, .int .i64 x.item.sk.min, .int .i64 x.item.sk.max, .slice a1 n1 c1, .slice a2 n2 c2, .slice a3 n3 c3] 51)) 27 5 #[.int .u8 87, .int .u8 82] 2 2 Try.underlying27 Try.underlying5
    have s : (w.alloc (.cells #[.int .i64 x.kind, .int .i64 x.agent, .int .i64 x.epoch, .int .i64 x.granted, .slice b l c, .int .i64 x.item.seq, .int .i64 x.item.cls, .int .i64 x.item.key, .int .i64 x.item.window, .int .i64 x.item.sk.count, .int .i64 x.item.sk.sum, .int .i64 x.item.sk.min, .int .i64 x.item.sk.max, .slice a1 n1 c1, .slice a2 n2 c2, .slice a3 n3 c3] 51)).heap.size = w.heap.size + 1 := by simp
    rw [s] at e
    exact e
  clear hp hr hx hw
  go_enter Try.func60, Try.ntmps60
  go_wp2_with fail
  refine (l7Put_any (some ⟨w.heap.size + 1 + 1, 0, none⟩) 5 _ [x.kind, x.agent, x.epoch, x.granted, (l : Int)] [w.heap.size + 1 + 1] _ ?rd HN5.out (by omega)).mono ?_
  case rd =>
    have e := rd_lit7 ((w.alloc (.cells #[.int .i64 x.kind, .int .i64 x.agent, .int .i64 x.epoch, .int .i64 x.granted, .slice b l c, .int .i64 x.item.seq, .int .i64 x.item.cls, .int .i64 x.item.key, .int .i64 x.item.window, .int .i64 x.item.sk.count, .int .i64 x.item.sk.sum, .int .i64 x.item.sk.min, .int .i64 x.item.sk.max, .slice a1 n1 c1, .slice a2 n2 c2, .slice a3 n3 c3] 51)).alloc (.cells #[.int .u8 87, .int .u8 82] 5 (2, 3))) [x.kind, x.agent, x.epoch, x.granted, (l : Int)] 3 (by simp)
    simpa using e
  rintro e w1 ⟨v1, rfl, hown1, hb1⟩
  obtain ⟨g1, cap1, hv1, _⟩ := own_shape7 hown1 (putAll_pos (HN5.out _ (List.mem_cons_self ..)))
  have hv1' := hv1.symm
  subst hv1'
  have HE : Hid (∀ j u, ((putAll [x.kind, x.agent, x.epoch, x.granted, (l : Int)]).map (Value.int .u8))[j]? = some u → w1.cell? ((⟨g1, 0, none⟩ : Addr).add j) = some u) := own_news hown1
  have L := lead7 w #[.int .i64 x.kind, .int .i64 x.agent, .int .i64 x.epoch, .int .i64 x.granted, .slice b l c, .int .i64 x.item.seq, .int .i64 x.item.cls, .int .i64 x.item.key, .int .i64 x.item.window, .int .i64 x.item.sk.count, .int .i64 x.item.sk.sum, .int .i64 x.item.sk.min, .int .i64 x.item.sk.max, .slice a1 n1 c1, .slice a2 n2 c2, .slice a3 n3 c3] #[.int .u8 87, .int .u8 82] 51 5 (2, 3) (.cells #[.int .i64 x.kind, .int .i64 x.agent, .int .i64 x.epoch, .int .i64 x.granted, .int .i64 (l : Int)] 3)
  have HS2 : Hid (BoxS w #[.int .i64 x.kind, .int .i64 x.agent, .int .i64 x.epoch, .int .i64 x.granted, .slice b l c, .int .i64 x.item.seq, .int .i64 x.item.cls, .int .i64 x.item.key, .int .i64 x.item.window, .int .i64 x.item.sk.count, .int .i64 x.item.sk.sum, .int .i64 x.item.sk.min, .int .i64 x.item.sk.max, .slice a1 n1 c1, .slice a2 n2 c2, .slice a3 n3 c3] 51 w1 ∧ ∀ b, (some ⟨w.heap.size + 1, 0, none⟩ : Option Addr) = some b → ∀ j u, [Value.int .u8 87, .int .u8 82][j]? = some u → w1.cell? (b.add j) = some u) := by
    refine ⟨boxS_below L.1 hb1, fun b hb j u hj => ?_⟩
    cases hb
    have q := L.2 j
    have q1 : (w1.cell? ⟨w.heap.size + 1, j, none⟩) = some u := by
      rw [hb1.cell (p := ⟨w.heap.size + 1, j, none⟩) (by simp), q]
      simpa using hj
    rw [show (⟨w.heap.size + 1, 0, none⟩ : Addr).add j = ⟨w.heap.size + 1, j, none⟩ from by cases j <;> simp [Addr.add]]
    exact q1
  have hq := putAll_len [x.kind, x.agent, x.epoch, x.granted, (l : Int)]
  have hq0 : 0 < (putAll [x.kind, x.agent, x.epoch, x.granted, (l : Int)]).length := putAll_pos (HN5.out _ (List.mem_cons_self ..))
  simp only [List.length_cons, List.length_nil] at hq
  clear hown1 hb1 hv1 HN5 L kc
  go_wp2_with (with_reducible refine stopAppend rfl ?_)
  refine Stop.intro (wpList_append_grows _ rfl _ _ 27 rfl 5 i0 (.int .u8 0) 1 1 Try.underlying27 hi hz0 hz1 hz2 rfl (by decide) (some ⟨w.heap.size + 1, 0, none⟩) 2 2 [.int .u8 87, .int .u8 82] rfl (by intro h; cases h) rfl HS2.out.2 ⟨g1, 0, none⟩ (putAll [x.kind, x.agent, x.epoch, x.granted, (l : Int)]).length cap1 ((putAll [x.kind, x.agent, x.epoch, x.granted, (l : Int)]).map (Value.int .u8)) rfl (by simp) HE.out (u8_one _) (by omega) (by unfold maxLen; omega) (by omega) ?_)
  intro v2 w2 hown hgrow
  have HS3 : Hid (ByteSt w #[.int .i64 x.kind, .int .i64 x.agent, .int .i64 x.epoch, .int .i64 x.granted, .slice b l c, .int .i64 x.item.seq, .int .i64 x.item.cls, .int .i64 x.item.key, .int .i64 x.item.window, .int .i64 x.item.sk.count, .int .i64 x.item.sk.sum, .int .i64 x.item.sk.min, .int .i64 x.item.sk.max, .slice a1 n1 c1, .slice a2 n2 c2, .slice a3 n3 c3] 51 v2 (x.bodyTo 0) w2) := by
    have e : x.bodyTo 0 = [87, 82] ++ putAll [x.kind, x.agent, x.epoch, x.granted, (l : Int)] := by unfold Fr.bodyTo; rw [HP.out.2]; simp [flat, putAll]
    show ByteSt _ _ _ _ _ _
    rw [e]
    have b : Below w1.heap.size w1 w2 := (Below.refl _ _).grown hgrow (Nat.le_refl _) (fun g e => by cases e)
    refine ⟨HS2.out.1.1.below b, ?_, Below.next HS2.out.1.2 b⟩
    rw [List.length_append, List.map_append]
    exact own_mono7 hown HS2.out.1.1.lt
  clear hown hgrow HS2 HE hq hq0
  go_wp2
  go_loopw [3, 4] (fun v i wr => ∃ (k : Nat), k ≤ l ∧ i = .int .i64 k ∧ Hid (ByteSt w #[.int .i64 x.kind, .int .i64 x.agent, .int .i64 x.epoch, .int .i64 x.granted, .slice b l c, .int .i64 x.item.seq, .int .i64 x.item.cls, .int .i64 x.item.key, .int .i64 x.item.window, .int .i64 x.item.sk.count, .int .i64 x.item.sk.sum, .int .i64 x.item.sk.min, .int .i64 x.item.sk.max, .slice a1 n1 c1, .slice a2 n2 c2, .slice a3 n3 c3] 51 v (x.bodyTo k) wr)) (fun _ i _ => l - (intOf i).toNat)
  case atStart => exact ⟨0, by omega, rfl, HS3⟩
  case round =>
    clear HS3
    obtain ⟨k, hk, rfl, HQ⟩ := hrel
    have k4 := HQ.out.box.cell 4
    have k0 := HQ.out.box.cell 0
    simp only [aT, aS, aZ] at k4 k0
    by_cases hlt : k < l
    · rcases HP.out.1.cells with ⟨h0, _, _⟩ | ⟨b0, off, _, hb0, _, hc⟩
      · omega
      have hb0' := hb0.symm
      subst hb0'
      clear hb0
      obtain ⟨p, hp⟩ : ∃ p, p = (x.taken.at k).1 := ⟨_, rfl⟩
      obtain ⟨q, hq⟩ : ∃ p, p = (x.taken.at k).2 := ⟨_, rfl⟩
      have e := hc k hlt
      have e1 : w.cell? ⟨b0, off + k * 2, none⟩ = some (.int .i64 p) := by rw [hp]; exact e.1
      have e2 : w.cell? ⟨b0, off + k * 2 + 1, none⟩ = some (.int .i64 q) := by rw [hq]; exact e.2
      have hbw : b0 < w.heap.size := World.block_lt_of_cell? _ _ e1
      have HV : Hid (p = (x.taken.at k).1 ∧ q = (x.taken.at k).2 ∧ k < x.taken.length) := ⟨hp, hq, by rw [HP.out.2]; exact hlt⟩
      have HI : Hid (∀ z ∈ [p, q], InN z) := by
        intro z hz
        have s := HX.out.1.span k HV.out.2.2
        rw [← hp, ← hq] at s
        simp only [List.mem_cons, List.not_mem_nil, or_false] at hz
        unfold InN
        rcases hz with rfl | rfl <;> omega
      have HC : Hid (∀ W, BoxS w #[.int .i64 x.kind, .int .i64 x.agent, .int .i64 x.epoch, .int .i64 x.granted, .slice (some ⟨b0, off, none⟩) l c, .int .i64 x.item.seq, .int .i64 x.item.cls, .int .i64 x.item.key, .int .i64 x.item.window, .int .i64 x.item.sk.count, .int .i64 x.item.sk.sum, .int .i64 x.item.sk.min, .int .i64 x.item.sk.max, .slice a1 n1 c1, .slice a2 n2 c2, .slice a3 n3 c3] 51 W → W.cell? ⟨w.heap.size, 4, none⟩ = some (.slice (some ⟨b0, off, none⟩) l c) ∧ W.cell? ⟨b0, off + k * 2, none⟩ = some (.int .i64 p) ∧ W.cell? ⟨b0, off + k * 2 + 1, none⟩ = some (.int .i64 q)) := fun W h => ⟨by rw [h.1.cell]; rfl, (h.2.cell (by exact hbw)).trans e1, (h.2.cell (by exact hbw)).trans e2⟩
      have hI : (k : Int) < (l : Int) := by omega
      clear e e1 e2 hbw hp hq hc
      go_wp2
      clear k4 k0
      have HQ2 : Hid (ByteSt w #[.int .i64 x.kind, .int .i64 x.agent, .int .i64 x.epoch, .int .i64 x.granted, .slice (some ⟨b0, off, none⟩) l c, .int .i64 x.item.seq, .int .i64 x.item.cls, .int .i64 x.item.key, .int .i64 x.item.window, .int .i64 x.item.sk.count, .int .i64 x.item.sk.sum, .int .i64 x.item.sk.min, .int .i64 x.item.sk.max, .slice a1 n1 c1, .slice a2 n2 c2, .slice a3 n3 c3] 51 u3 (x.bodyTo k) wr.drew) := HQ.out.below (Below.refl _ _).drew
      have HS : Hid (BoxS w #[.int .i64 x.kind, .int .i64 x.agent, .int .i64 x.epoch, .int .i64 x.granted, .slice (some ⟨b0, off, none⟩) l c, .int .i64 x.item.seq, .int .i64 x.item.cls, .int .i64 x.item.key, .int .i64 x.item.window, .int .i64 x.item.sk.count, .int .i64 x.item.sk.sum, .int .i64 x.item.sk.min, .int .i64 x.item.sk.max, .slice a1 n1 c1, .slice a2 n2 c2, .slice a3 n3 c3] 51 wr.drew) := ⟨HQ2.out.box, HQ2.out.bel⟩
      clear HQ
      refine wp_region_held (S := BoxS w #[.int .i64 x.kind, .int .i64 x.agent, .int .i64 x.epoch, .int .i64 x.granted, .slice (some ⟨b0, off, none⟩) l c, .int .i64 x.item.seq, .int .i64 x.item.cls, .int .i64 x.item.key, .int .i64 x.item.window, .int .i64 x.item.sk.count, .int .i64 x.item.sk.sum, .int .i64 x.item.sk.min, .int .i64 x.item.sk.max, .slice a1 n1 c1, .slice a2 n2 c2, .slice a3 n3 c3] 51) (by kernel_rfl) ?_
      change wpAnyH _ _ _ _ _ _ _ _ (World.drew _)
      generalize wr.drew = Y at HQ2 HS ⊢
      refine takeH (o := ?o1) 0 (u3) ?h1 ?r1
      case h1 => simp only [aT, aZ]; rfl
      refine ⟨_, by simp [Act.put]; rfl, by kernel_rfl, by kernel_rfl, by kernel_rfl, fun _ _ _ h => h, (.inl ⟨rfl, fun W _ => by go_simp⟩), HS.out, ?_⟩
      refine takeH (o := ?o2) 1 (.pointer (some ⟨w.heap.size, 4, none⟩)) ?h2 ?r2
      case h2 => simp only [aT, aS, aZ]; rfl
      refine ⟨_, by simp [Act.put]; rfl, by kernel_rfl, by kernel_rfl, by kernel_rfl, fun _ _ _ h => h, (.inl ⟨rfl, fun W _ => by go_simp⟩), HS.out, ?_⟩
      refine takeH (o := ?o3) 2 (.slice (some ⟨b0, off, none⟩) l c) ?h3 ?r3
      case h3 => simp only [aT, aS, aZ]; rfl
      refine ⟨_, by simp [Act.put]; rfl, by kernel_rfl, by kernel_rfl, by kernel_rfl, fun _ _ _ h => h, (.inl ⟨rfl, fun W hW => by have c := (HC.out W hW).1; go_simp⟩), HS.out, ?_⟩
      refine takeH (o := ?o4) 3 (.int .i64 k) ?h4 ?r4
      case h4 => simp only [aT, aS, aZ]; rfl
      refine ⟨_, by simp [Act.put]; rfl, by kernel_rfl, by kernel_rfl, by kernel_rfl, fun _ _ _ h => h, (.inl ⟨rfl, fun W _ => by go_simp⟩), HS.out, ?_⟩
      refine takeH (o := ?o5) 4 (.pointer (some ⟨b0, off + k * 2, none⟩)) ?h5 ?r5
      case h5 => simp only [aT, aS, aZ]; rfl
      refine ⟨_, by simp [Act.put]; rfl, by kernel_rfl, by kernel_rfl, by kernel_rfl, fun _ _ _ h => h, (.inl ⟨rfl, fun W _ => by go_simp⟩), HS.out, ?_⟩
      refine takeH (o := ?o6) 5 (.pointer (some ⟨b0, off + k * 2, none⟩)) ?h6 ?r6
      case h6 => simp only [aT, aS, aZ]; rfl
      refine ⟨_, by simp [Act.put]; rfl, by kernel_rfl, by kernel_rfl, by kernel_rfl, fun _ _ _ h => h, (.inl ⟨rfl, fun W _ => by go_simp⟩), HS.out, ?_⟩
      refine takeH (o := ?o7) 6 (.int .i64 p) ?h7 ?r7
      case h7 => simp only [aT, aS, aZ]; rfl
      refine ⟨_, by simp [Act.put]; rfl, by kernel_rfl, by kernel_rfl, by kernel_rfl, fun _ _ _ h => h, (.inl ⟨rfl, fun W hW => by have c := (HC.out W hW).2.1; go_simp⟩), HS.out, ?_⟩
      refine takeH (o := ?o8) 7 (.pointer (some ⟨w.heap.size, 4, none⟩)) ?h8 ?r8
      case h8 => simp only [aT, aS, aZ]; rfl
      refine ⟨_, by simp [Act.put]; rfl, by kernel_rfl, by kernel_rfl, by kernel_rfl, fun _ _ _ h => h, (.inl ⟨rfl, fun W _ => by go_simp⟩), HS.out, ?_⟩
      refine takeH (o := ?o9) 8 (.slice (some ⟨b0, off, none⟩) l c) ?h9 ?r9
      case h9 => simp only [aT, aS, aZ]; rfl
      refine ⟨_, by simp [Act.put]; rfl, by kernel_rfl, by kernel_rfl, by kernel_rfl, fun _ _ _ h => h, (.inl ⟨rfl, fun W hW => by have c := (HC.out W hW).1; go_simp⟩), HS.out, ?_⟩
      refine takeH (o := ?o10) 9 (.int .i64 k) ?h10 ?r10
      case h10 => simp only [aT, aS, aZ]; rfl
      refine ⟨_, by simp [Act.put]; rfl, by kernel_rfl, by kernel_rfl, by kernel_rfl, fun _ _ _ h => h, (.inl ⟨rfl, fun W _ => by go_simp⟩), HS.out, ?_⟩
      refine takeH (o := ?o11) 10 (.pointer (some ⟨b0, off + k * 2, none⟩)) ?h11 ?r11
      case h11 => simp only [aT, aS, aZ]; rfl
      refine ⟨_, by simp [Act.put]; rfl, by kernel_rfl, by kernel_rfl, by kernel_rfl, fun _ _ _ h => h, (.inl ⟨rfl, fun W _ => by go_simp⟩), HS.out, ?_⟩
      refine takeH (o := ?o12) 11 (.pointer (some ⟨b0, off + k * 2 + 1, none⟩)) ?h12 ?r12
      case h12 => simp only [aT, aS, aZ]; rfl
      refine ⟨_, by simp [Act.put]; rfl, by kernel_rfl, by kernel_rfl, by kernel_rfl, fun _ _ _ h => h, (.inl ⟨rfl, fun W _ => by go_simp⟩), HS.out, ?_⟩
      refine takeH (o := ?o13) 12 (.int .i64 q) ?h13 ?r13
      case h13 => simp only [aT, aS, aZ]; rfl
      refine ⟨_, by simp [Act.put]; rfl, by kernel_rfl, by kernel_rfl, by kernel_rfl, fun _ _ _ h => h, (.inl ⟨rfl, fun W hW => by have c := (HC.out W hW).2.2; go_simp⟩), HS.out, ?_⟩
      refine onlyH (o := ?o14) 13 (by kernel_rfl) ?h14 ?r14
      case h14 => simp only [aT, aS, aZ]; rfl
      intro K hK
      refine op_turn (.slice (some ⟨Y.heap.size, 0, none⟩) 2 2) (Y.alloc (.cells #[.int .i64 p, .int .i64 q] 3)) rfl (by go_simp) ⟨_, by simp [Act.put]; rfl, hK _ _ ⟨boxS_below HS.out ((Below.refl _ _).alloc (Nat.le_refl _) _), ?_⟩⟩
      have HLit : Hid (RdI (Y.alloc (.cells #[.int .i64 p, .int .i64 q] 3)) (some ⟨Y.heap.size, 0, none⟩) 2 [p, q] [Y.heap.size]) := by
        have e := rd_lit7 Y [p, q] 3 (by simp)
        show RdI _ _ _ _ _
        simpa using e
      have HS : Hid (BoxS w #[.int .i64 x.kind, .int .i64 x.agent, .int .i64 x.epoch, .int .i64 x.granted, .slice (some ⟨b0, off, none⟩) l c, .int .i64 x.item.seq, .int .i64 x.item.cls, .int .i64 x.item.key, .int .i64 x.item.window, .int .i64 x.item.sk.count, .int .i64 x.item.sk.sum, .int .i64 x.item.sk.min, .int .i64 x.item.sk.max, .slice a1 n1 c1, .slice a2 n2 c2, .slice a3 n3 c3] 51 (Y.alloc (.cells #[.int .i64 p, .int .i64 q] 3))) := boxS_below HS.out ((Below.refl _ _).alloc (Nat.le_refl _) _)
      have HQ2 : Hid (ByteSt w #[.int .i64 x.kind, .int .i64 x.agent, .int .i64 x.epoch, .int .i64 x.granted, .slice (some ⟨b0, off, none⟩) l c, .int .i64 x.item.seq, .int .i64 x.item.cls, .int .i64 x.item.key, .int .i64 x.item.window, .int .i64 x.item.sk.count, .int .i64 x.item.sk.sum, .int .i64 x.item.sk.min, .int .i64 x.item.sk.max, .slice a1 n1 c1, .slice a2 n2 c2, .slice a3 n3 c3] 51 u3 (x.bodyTo k) (Y.alloc (.cells #[.int .i64 p, .int .i64 q] 3))) := HQ2.out.below ((Below.refl _ _).alloc (Nat.le_refl _) _)
      clear hK HC
      generalize Y.alloc (.cells #[.int .i64 p, .int .i64 q] 3) = Z at HLit HS HQ2 ⊢
      refine onlyH (o := ?o15) 14 (by kernel_rfl) ?h15 ?r15
      case h15 => simp only [aT, aS, aZ]; rfl
      intro K hK
      refine op_call1 41 _ _ Try.f41 (fun v w' => ∃ g cap, v = .slice (some ⟨g, 0, none⟩) (putAll [p, q]).length cap ∧ (∀ j u, ((putAll [p, q]).map (Value.int .u8))[j]? = some u → w'.cell? ((⟨g, 0, none⟩ : Addr).add j) = some u) ∧ Below Z.heap.size Z w') rfl rfl Try.func41 (by kernel_rfl) (by kernel_rfl) ((l7Put_any _ 2 2 [p, q] _ Z HLit.out HI.out (by omega)).mono (by
        rintro e w' ⟨v1, rfl, o1, b1⟩
        obtain ⟨g1, cap1, hv1, _⟩ := own_shape7 o1 (putAll_pos (HI.out _ (List.mem_cons_self ..)))
        subst hv1
        exact ⟨_, rfl, g1, cap1, rfl, own_news o1, b1⟩)) ?_
      rintro _ Z2 ⟨g1, cap1, rfl, hn1, bz⟩
      refine ⟨_, by simp [Act.put]; rfl, hK _ _ ⟨boxS_below HS.out bz, ?_⟩⟩
      have HE : Hid (∀ j u, ((putAll [p, q]).map (Value.int .u8))[j]? = some u → Z2.cell? ((⟨g1, 0, none⟩ : Addr).add j) = some u) := hn1
      have HQ3 : Hid (ByteSt w #[.int .i64 x.kind, .int .i64 x.agent, .int .i64 x.epoch, .int .i64 x.granted, .slice (some ⟨b0, off, none⟩) l c, .int .i64 x.item.seq, .int .i64 x.item.cls, .int .i64 x.item.key, .int .i64 x.item.window, .int .i64 x.item.sk.count, .int .i64 x.item.sk.sum, .int .i64 x.item.sk.min, .int .i64 x.item.sk.max, .slice a1 n1 c1, .slice a2 n2 c2, .slice a3 n3 c3] 51 u3 (x.bodyTo k) Z2) := HQ2.out.below bz
      have hq1 := putAll_len [p, q]
      have hq2 := bodyTo_len x k
      have hq3 : 0 < (putAll [p, q]).length := putAll_pos (HI.out _ (List.mem_cons_self ..))
      simp only [List.length_cons, List.length_nil] at hq1
      clear hK bz hn1 HS HQ2 HLit HI
      refine onlyH (o := ?o16) 15 (by kernel_rfl) ?h16 ?r16
      case h16 => simp only [aT, aS, aZ]; rfl
      intro K hK
      refine op_append Z2 rfl _ _ 27 rfl (w.heap.size + 1) 5 i0 (.int .u8 0) 1 1 Try.underlying27 hi hz0 hz1 hz2 rfl (by decide) _ _ _ rfl HQ3.out.own ⟨g1, 0, none⟩ (putAll [p, q]).length cap1 ((putAll [p, q]).map (Value.int .u8)) rfl (by simp) HE.out (u8_one _) hq3 (by unfold maxLen; omega) (by omega) HQ3.out.size _ rfl ?_
      intro g4 cp4 Z3 hown hgrow _ _
      obtain ⟨m4, hm4⟩ : ∃ m, m = (x.bodyTo k).length + (putAll [p, q]).length := ⟨_, rfl⟩
      have HQ4 : Hid (ByteSt w #[.int .i64 x.kind, .int .i64 x.agent, .int .i64 x.epoch, .int .i64 x.granted, .slice (some ⟨b0, off, none⟩) l c, .int .i64 x.item.seq, .int .i64 x.item.cls, .int .i64 x.item.key, .int .i64 x.item.window, .int .i64 x.item.sk.count, .int .i64 x.item.sk.sum, .int .i64 x.item.sk.min, .int .i64 x.item.sk.max, .slice a1 n1 c1, .slice a2 n2 c2, .slice a3 n3 c3] 51 (.slice (some ⟨g4, 0, none⟩) m4 cp4) (x.bodyTo (k + 1)) Z3) := by
        show ByteSt _ _ _ _ _ _
        rw [bodyTo_succ HV.out.2.2, ← HV.out.1, ← HV.out.2.1, hm4]
        exact HQ3.out.app rfl hown hgrow
      rw [← hm4]
      refine ⟨_, by simp [Act.put]; rfl, hK _ _ ⟨⟨HQ4.out.box, HQ4.out.bel⟩, ?_⟩⟩
      clear hK hown hgrow hq1 hq2 hq3 hm4 HQ3 HE HV
      refine onlyH (o := ?o17) 16 (by kernel_rfl) ?h17 ?r17
      case h17 => simp only [aT, aS, aZ]; rfl
      intro K hK
      refine op_value (.slice (some ⟨g4, 0, none⟩) m4 cp4) rfl (by go_simp) ⟨_, by simp [Act.put]; rfl, hK _ _ ⟨⟨HQ4.out.box, HQ4.out.bel⟩, ?_⟩⟩
      clear hK
      refine wpAnyH_done (by kernel_rfl) ?_ _
      go_wp2
      go_roundw
      case rel => exact ⟨k + 1, by omega, by go_num, HQ4⟩
      case measure => simp [intOf]; omega
    · obtain rfl : l = k := by omega
      have HBT : Hid (x.bodyTo l = [87, 82] ++ putAll [x.kind, x.agent, x.epoch, x.granted, (x.taken.length : Int)] ++ putAll (flat x.taken)) := by
        show _ = _
        unfold Fr.bodyTo
        rw [List.take_of_length_le (by rw [HP.out.2]; omega)]
      have hq2 := bodyTo_len x l
      by_cases h1 : x.kind = 1
      rotate_left
      · have e1 : (x.kind == 1) = false := by simpa using h1
        have HV : Hid (x.body = x.bodyTo l) := by show _ = _; rw [HBT.out]; unfold Fr.body; rw [if_neg h1, List.append_nil]
        clear h1
        go_wp2
        go_ret
        rw [HV.out]
        exact ⟨_, rfl, own_mono7 HQ.out.own (by omega), HQ.out.bel⟩
      have e1 : (x.kind == 1) = true := by simpa using h1
      have hok : x.item.ok = true := by have := HX.out.1.item; rw [if_pos h1] at this; exact this
      have HN4 : Hid (∀ z ∈ [x.item.seq, x.item.cls, x.item.key, x.item.window], InN z) := by
        intro z hz
        unfold It.ok placeOk at hok
        simp only [Bool.and_eq_true, decide_eq_true_eq] at hok
        simp only [List.mem_cons, List.not_mem_nil, or_false] at hz
        unfold InN
        rcases hz with rfl | rfl | rfl | rfl <;> omega
      have HSK : Hid (0 < x.item.sk.bytes.length) := by
        unfold It.ok at hok
        simp only [Bool.and_eq_true] at hok
        show 0 < _
        unfold Sk.bytes
        rw [if_pos hok.2]
        exact putAll_pos ((Sk.ok_lens hok.2).2 _ (by unfold Sk.nums; simp))
      have HV : Hid (x.body = x.bodyTo l ++ putAll [x.item.seq, x.item.cls, x.item.key, x.item.window] ++ x.item.sk.bytes) := by show _ = _; rw [HBT.out]; unfold Fr.body; rw [if_pos h1]; simp only [List.append_assoc]
      have k5 := HQ.out.box.cell 5
      have k6 := HQ.out.box.cell 6
      have k7 := HQ.out.box.cell 7
      have k8 := HQ.out.box.cell 8
      simp only [aT, aS, aZ] at k5 k6 k7 k8
      clear h1 hok HBT
      go_wp2_with fail
      refine (l7Put_any (some ⟨wr.heap.size, 0, none⟩) 4 _ [x.item.seq, x.item.cls, x.item.key, x.item.window] [wr.heap.size] _ ?rd HN4.out (by omega)).mono ?_
      case rd =>
        have e := rd_lit7 wr [x.item.seq, x.item.cls, x.item.key, x.item.window] 3 (by simp)
        simpa using e
      rintro e w3 ⟨v3, rfl, hown3, hb3⟩
      obtain ⟨g3, cap3, hv3, _⟩ := own_shape7 hown3 (putAll_pos (HN4.out _ (List.mem_cons_self ..)))
      have hv3' := hv3.symm
      subst hv3'
      have HE : Hid (∀ j u, ((putAll [x.item.seq, x.item.cls, x.item.key, x.item.window]).map (Value.int .u8))[j]? = some u → w3.cell? ((⟨g3, 0, none⟩ : Addr).add j) = some u) := own_news hown3
      have HQ3 : Hid (ByteSt w #[.int .i64 x.kind, .int .i64 x.agent, .int .i64 x.epoch, .int .i64 x.granted, .slice b l c, .int .i64 x.item.seq, .int .i64 x.item.cls, .int .i64 x.item.key, .int .i64 x.item.window, .int .i64 x.item.sk.count, .int .i64 x.item.sk.sum, .int .i64 x.item.sk.min, .int .i64 x.item.sk.max, .slice a1 n1 c1, .slice a2 n2 c2, .slice a3 n3 c3] 51 u3 (x.bodyTo l) w3) := (HQ.out.below ((Below.refl _ _).alloc (Nat.le_refl _) _)).below hb3
      have hq1 := putAll_len [x.item.seq, x.item.cls, x.item.key, x.item.window]
      simp only [List.length_cons, List.length_nil] at hq1
      clear hown3 hb3 hv3 HQ k5 k6 k7 k8 k4 k0 HN4
      go_wp2_with (with_reducible refine stopAppend rfl ?_)
      refine Stop.intro (wpList_append_own _ rfl _ _ 27 rfl (w.heap.size + 1) 5 i0 (.int .u8 0) 1 1 Try.underlying27 hi hz0 hz1 hz2 rfl (by decide) _ _ _ rfl HQ3.out.own ⟨g3, 0, none⟩ (putAll [x.item.seq, x.item.cls, x.item.key, x.item.window]).length cap3 ((putAll [x.item.seq, x.item.cls, x.item.key, x.item.window]).map (Value.int .u8)) rfl (by simp) HE.out (u8_one _) (by unfold maxLen; omega) (by omega) HQ3.out.size ?_)
      intro v4 w4 hown hgrow _
      have HQ4 : Hid (ByteSt w #[.int .i64 x.kind, .int .i64 x.agent, .int .i64 x.epoch, .int .i64 x.granted, .slice b l c, .int .i64 x.item.seq, .int .i64 x.item.cls, .int .i64 x.item.key, .int .i64 x.item.window, .int .i64 x.item.sk.count, .int .i64 x.item.sk.sum, .int .i64 x.item.sk.min, .int .i64 x.item.sk.max, .slice a1 n1 c1, .slice a2 n2 c2, .slice a3 n3 c3] 51 v4 (x.bodyTo l ++ putAll [x.item.seq, x.item.cls, x.item.key, x.item.window]) w4) := HQ3.out.app rfl hown hgrow
      clear hown hgrow HQ3 HE
      go_wp2_with (first | go_skip | (with_reducible refine stopLoad 29 rfl ?_))
      refine load_cut 29 w.heap.size 9 7 _ #[.int .i64 x.item.sk.count, .int .i64 x.item.sk.sum, .int .i64 x.item.sk.min, .int .i64 x.item.sk.max, .slice a1 n1 c1, .slice a2 n2 c2, .slice a3 n3 c3] 51 _ HQ4.out.box rfl rfl rfl Try.underlying29 rfl infoSkI (by simp) rfl ?_
      go_wp2_with fail
      refine (sketchBytesSpec_any _ x.item.sk G _ (HX.out.2.2.below HQ4.out.bel) HX.out.2.1).mono ?_
      rintro e w5 ⟨v5, rfl, hown5, hb5⟩
      obtain ⟨g5, cap5, hv5, _⟩ := own_shape7 hown5 HSK.out
      have hv5' := hv5.symm
      subst hv5'
      have HE : Hid (∀ j u, (x.item.sk.bytes.map (Value.int .u8))[j]? = some u → w5.cell? ((⟨g5, 0, none⟩ : Addr).add j) = some u) := own_news hown5
      have HQ5 : Hid (ByteSt w #[.int .i64 x.kind, .int .i64 x.agent, .int .i64 x.epoch, .int .i64 x.granted, .slice b l c, .int .i64 x.item.seq, .int .i64 x.item.cls, .int .i64 x.item.key, .int .i64 x.item.window, .int .i64 x.item.sk.count, .int .i64 x.item.sk.sum, .int .i64 x.item.sk.min, .int .i64 x.item.sk.max, .slice a1 n1 c1, .slice a2 n2 c2, .slice a3 n3 c3] 51 v4 (x.bodyTo l ++ putAll [x.item.seq, x.item.cls, x.item.key, x.item.window]) w5) := HQ4.out.below hb5
      have hq3 := x.item.sk.bytes_len
      have hq4 : (x.bodyTo l ++ putAll [x.item.seq, x.item.cls, x.item.key, x.item.window]).length ≤ 10000 := by rw [List.length_append]; omega
      clear hown5 hb5 hv5 HQ4
      go_wp2_with (with_reducible refine stopAppend rfl ?_)
      refine Stop.intro (wpList_append_own _ rfl _ _ 27 rfl (w.heap.size + 1) 5 i0 (.int .u8 0) 1 1 Try.underlying27 hi hz0 hz1 hz2 rfl (by decide) _ _ _ rfl HQ5.out.own ⟨g5, 0, none⟩ x.item.sk.bytes.length cap5 (x.item.sk.bytes.map (Value.int .u8)) rfl (by simp) HE.out (u8_one _) (by unfold maxLen; omega) (by omega) HQ5.out.size ?_)
      intro v6 w6 hown hgrow _
      have HQ6 : Hid (ByteSt w #[.int .i64 x.kind, .int .i64 x.agent, .int .i64 x.epoch, .int .i64 x.granted, .slice b l c, .int .i64 x.item.seq, .int .i64 x.item.cls, .int .i64 x.item.key, .int .i64 x.item.window, .int .i64 x.item.sk.count, .int .i64 x.item.sk.sum, .int .i64 x.item.sk.min, .int .i64 x.item.sk.max, .slice a1 n1 c1, .slice a2 n2 c2, .slice a3 n3 c3] 51 v6 (x.bodyTo l ++ putAll [x.item.seq, x.item.cls, x.item.key, x.item.window] ++ x.item.sk.bytes) w6) := HQ5.out.app rfl hown hgrow
      clear hown hgrow HQ5 HE hq1 hq2 hq3 hq4
      go_wp2
      go_ret
      rw [HV.out]
      exact ⟨_, rfl, own_mono7 HQ6.out.own (by omega), HQ6.out.bel⟩
end Go.Proofs.Ytjndcfamfminkaq
/- The walk through the helper of the laws that compares two byte slices. No statement of the seat is proved here. -/
namespace Go.Proofs.Ytjndcfamfminkaq
open Go.RowKit

theorem eq_step {xs ys : List Int} {k : Nat} (hl : xs.length = ys.length) (hk : k < xs.length) (h : xs.take k = ys.take k) (he : xs[k]?.getD 0 = ys[k]?.getD 0) : xs.take (k + 1) = ys.take (k + 1) := by
  rw [take_succ' xs k hk, take_succ' ys k (by omega), h, he]
theorem ne_of_at {xs ys : List Int} {k : Nat} (he : ¬ xs[k]?.getD 0 = ys[k]?.getD 0) : decide (xs = ys) = false := by
  rw [decide_eq_false_iff_not]; intro e; subst e; exact he rfl
theorem eq_end {xs ys : List Int} {k : Nat} (hx : xs.length = k) (hy : ys.length = k) (h : xs.take k = ys.take k) : decide (xs = ys) = true := by
  rw [decide_eq_true_iff]
  rw [List.take_of_length_le (Nat.le_of_eq hx), List.take_of_length_le (Nat.le_of_eq hy)] at h
  exact h

set_option maxRecDepth 200000 in
set_option maxHeartbeats 400000 in
theorem eqByteS_any (a b : Option Addr) (la lb ca cb : Nat) (xs ys : List Int) (w : World) (ha : RdB w a la xs) (hb : RdB w b lb ys) (hla : la ≤ 140737488355328) (hlb : lb ≤ 140737488355328) :
    Calls Try.prog 13 #[.slice a la ca, .slice b lb cb] w fun e w' => e = .returned (.bool (decide (xs = ys))) ∧ Below w.heap.size w w' := by
  have Hx : Hid (xs.length = la) := ha.length
  have Hy : Hid (ys.length = lb) := hb.length
  by_cases hl : la = lb
  · subst hl
    have hbne : ((la : Int) != (la : Int)) = false := by simp
    by_cases h0 : la = 0
    · subst h0
      have ex : xs = [] := List.eq_nil_of_length_eq_zero ha.length
      have ey : ys = [] := List.eq_nil_of_length_eq_zero hb.length
      clear ha hb
      go_enter Try.func13, Try.ntmps13
      go_wp2
      refine wp_loop_rounds 1 ?_
      rw [rounds_succ]
      go_wp2
      go_ret
      exact ⟨ret_bool (by rw [ex, ey]; rfl), Below.refl _ _⟩
    · obtain ⟨b1, o1, rfl, hc1⟩ : ∃ b off, a = some ⟨b, off, none⟩ ∧ ∀ i, i < la → w.cell? ⟨b, off + i, none⟩ = some (.int .u8 (xs.getD i 0)) := by
        rcases ha.cells with h | h
        · exact absurd h h0
        · exact h
      obtain ⟨b2, o2, rfl, hc2⟩ : ∃ b' off, b = some ⟨b', off, none⟩ ∧ ∀ i, i < la → w.cell? ⟨b', off + i, none⟩ = some (.int .u8 (ys.getD i 0)) := by
        rcases hb.cells with h | h
        · exact absurd h h0
        · exact h
      have hb1 : b1 < w.heap.size := World.block_lt_of_cell? _ _ (hc1 0 (by omega))
      have hb2 : b2 < w.heap.size := World.block_lt_of_cell? _ _ (hc2 0 (by omega))
      clear ha hb
      go_enter Try.func13, Try.ntmps13
      go_wp2
      go_loopw [5] (fun i wr => ∃ k : Nat, k ≤ la ∧ i = .int .i64 k ∧ Hid (xs.take k = ys.take k) ∧ Below w.heap.size w wr) (fun i _ => la - (intOf i).toNat)
      case atStart => exact ⟨0, by omega, rfl, rfl, Below.refl _ _⟩
      case round =>
        obtain ⟨k, hk, rfl, HT, hbel⟩ := hrel
        by_cases hlt : k < la
        · have d1 : wr.cell? ⟨b1, o1 + k, none⟩ = some (.int .u8 (xs.getD k 0)) := (hbel.cell (by exact hb1)).trans (hc1 k hlt)
          have d2 : wr.cell? ⟨b2, o2 + k, none⟩ = some (.int .u8 (ys.getD k 0)) := (hbel.cell (by exact hb2)).trans (hc2 k hlt)
          by_cases he : xs[k]?.getD 0 = ys[k]?.getD 0
          · have hne : (xs[k]?.getD 0 != ys[k]?.getD 0) = false := by simp [he]
            have HE : Hid (xs[k]?.getD 0 = ys[k]?.getD 0) := he
            clear he hc1 hc2
            go_wp2
            go_region
            all_goals (try go_wp2)
            all_goals
              go_roundw
              case rel => exact ⟨k + 1, by omega, by go_num, eq_step (by rw [Hx.out, Hy.out]) (by rw [Hx.out]; exact hlt) HT.out HE.out, by repeat (first | exact hbel | apply Below.drew)⟩
              case measure => simp [intOf]; omega
          · have hne : (xs[k]?.getD 0 != ys[k]?.getD 0) = true := by simp [he]
            have HE : Hid (¬ xs[k]?.getD 0 = ys[k]?.getD 0) := he
            clear he hc1 hc2
            go_wp2
            go_region
            all_goals (try go_wp2)
            all_goals
              go_ret
              exact ⟨ret_bool (ne_of_at HE.out).symm, by repeat (first | exact hbel | apply Below.drew)⟩
        · obtain rfl : k = la := by omega
          go_wp2
          go_ret
          exact ⟨ret_bool (eq_end Hx.out Hy.out HT.out).symm, hbel⟩
  · have hbne : ((la : Int) != (lb : Int)) = true := by simp; omega
    have e : decide (xs = ys) = false := by
      rw [decide_eq_false_iff_not]; intro e; subst e; exact hl (Hx.out.symm.trans Hy.out)
    clear ha hb
    go_enter Try.func13, Try.ntmps13
    go_wp2
    go_ret
    exact ⟨ret_bool e.symm, Below.refl _ _⟩

theorem rd_own {w : World} {base n : Nat} {v : Value} {xs : List Int} (h : w.ownsRow base 5 1 v n (xs.map (Value.int .u8))) (hr : ∀ x ∈ xs, 0 ≤ x ∧ x ≤ 255) : ∃ a cap, v = .slice a n cap ∧ RdB w a n xs := by
  rcases h.2 with ⟨h1, h2⟩ | ⟨g, cap, cur, h1, _⟩
  · subst h2
    have : xs = [] := List.eq_nil_of_length_eq_zero (by simpa using h.1)
    subst this
    exact ⟨none, 0, h1, RdB.nil⟩
  · subst h1
    exact ⟨_, cap, rfl, RdB.of_own h hr⟩
set_option maxRecDepth 200000 in
theorem eqOwn_any (v v' : Value) (base base' n n' : Nat) (xs ys : List Int) (w : World) (h : w.ownsRow base 5 1 v n (xs.map (Value.int .u8))) (h' : w.ownsRow base' 5 1 v' n' (ys.map (Value.int .u8)))
    (hr : ∀ x ∈ xs, 0 ≤ x ∧ x ≤ 255) (hr' : ∀ x ∈ ys, 0 ≤ x ∧ x ≤ 255) (hn : n ≤ 140737488355328) (hn' : n' ≤ 140737488355328) :
    Calls Try.prog 13 #[v, v'] w fun e w' => e = .returned (.bool (decide (xs = ys))) ∧ Below w.heap.size w w' := by
  obtain ⟨a, cap, rfl, R⟩ := rd_own h hr
  obtain ⟨a', cap', rfl, R'⟩ := rd_own h' hr'
  exact eqByteS_any a a' n n' cap cap' xs ys w R R' hn hn'
end Go.Proofs.Ytjndcfamfminkaq
/- The walk through the model's FrameBytes. No statement of the seat is proved here. -/
namespace Go.Proofs.Ytjndcfamfminkaq
open Go.RowKit
theorem sumOf_len (zs : List Int) : (sumOf zs).length = 4 := rfl
theorem sumOf_range (zs : List Int) (h : ∀ x ∈ zs, 0 ≤ x ∧ x ≤ 255) : ∀ x ∈ sumOf zs, 0 ≤ x ∧ x ≤ 255 := by
  intro x hx
  have r := crcOf_range zs h
  unfold sumOf at hx
  simp only [List.mem_cons, List.not_mem_nil, or_false] at hx
  rcases hx with rfl | rfl | rfl | rfl <;> omega
theorem Fr.bytes_range (x : Fr) : ∀ y ∈ x.bytes, 0 ≤ y ∧ y ≤ 255 := by
  unfold Fr.bytes
  split
  · intro y hy
    rcases List.mem_append.1 hy with hy | hy
    · exact x.body_range y hy
    · exact sumOf_range _ x.body_range y hy
  · intro y hy; cases hy
theorem Fr.bytes_len (x : Fr) : x.bytes.length ≤ 491 := by
  unfold Fr.bytes
  split
  · rename_i h
    have := Fr.body_len (Fr.ok_right h)
    rw [List.length_append, sumOf_len]
    omega
  · simp
theorem infoFrB7 : (Try.prog.info? 51).map (·.size) = some 16 := by kernel_rfl
set_option maxRecDepth 100000 in
set_option maxHeartbeats 4000000 in
theorem frameBytesSpec_any (v : Value) (x : Fr) (F G : List Nat) (w : World) (h : RdFr w v x F G) (hw : x.item.sk.wide) (hl : x.taken.length ≤ 140737488355328) :
    Calls Try.prog 23 #[v] w fun e w' => ∃ u, e = .returned u ∧ w'.ownsRow w.heap.size 5 1 u x.bytes.length (x.bytes.map (Value.int .u8)) ∧ Below w.heap.size w w' := by
  obtain ⟨i0, hi, hz0, hz1, hz2⟩ := info_parts Try.info5
  obtain ⟨cs, rfl, hc⟩ : ∃ cs, v = .agg cs ∧ cs.size = 16 := by
    obtain ⟨b, l, c, a1, n1, c1, a2, n2, c2, a3, n3, c3, rfl, _⟩ := h
    exact ⟨_, rfl, rfl⟩
  have HH : Hid (RdFr w (.agg cs) x F G ∧ x.item.sk.wide ∧ x.taken.length ≤ 140737488355328) := ⟨h, hw, hl⟩
  have HT : Hid (Blk (w.alloc (.cells cs 51)) w.heap.size cs 51 ∧ Below w.heap.size w (w.alloc (.cells cs 51))) := ⟨Blk.made _ _ _, (Below.refl _ _).alloc (Nat.le_refl _) _⟩
  have hsz : (Try.prog.info? 51).map (·.size) = some cs.size := by rw [hc]; exact infoFrB7
  clear h hw hl
  go_enter Try.func23, Try.ntmps23
  go_wp2_with (first | go_skip | (with_reducible refine stopLoad 51 rfl ?_))
  refine load_known 51 w.heap.size cs 51 _ HT.out.1 rfl rfl rfl Try.underlying51 rfl hsz ?_
  go_wp2_with fail
  refine (frameOkSpec_any _ x F G _ (HH.out.1.below HT.out.2) HH.out.2.1 HH.out.2.2).mono ?_
  rintro e w1 ⟨rfl, hb1⟩
  have HT1 : Hid (Blk w1 w.heap.size cs 51 ∧ Below w.heap.size w w1) := ⟨HT.out.1.below hb1, Below.next HT.out.2 hb1⟩
  obtain ⟨d, hd⟩ : ∃ d, d = x.ok := ⟨_, rfl⟩
  rw [← hd]
  have HD : Hid (d = x.ok) := hd
  clear hb1 HT hd
  cases d
  · have HV : Hid (x.bytes = []) := by show _ = _; unfold Fr.bytes; rw [← HD.out]; rfl
    have HE : Hid ((w1.alloc (.cells #[] 5)).ownsRow w1.heap.size 5 1 (.slice (some ⟨w1.heap.size, 0, none⟩) 0 0) 0 []) := own_empty w1 _
    go_wp2
    go_ret
    rw [HV.out]
    exact ⟨_, rfl, own_mono7 HE.out HT1.out.2.size, Below.next HT1.out.2 ((Below.refl _ _).alloc (Nat.le_refl _) _)⟩
  have HV : Hid (x.bytes = x.body ++ sumOf x.body) := by show _ = _; unfold Fr.bytes; rw [← HD.out]; rfl
  have hlen := Fr.body_len (Fr.ok_right HD.out.symm)
  go_wp2_with (first | go_skip | (with_reducible refine stopLoad 51 rfl ?_))
  refine load_known 51 w.heap.size cs 51 _ HT1.out.1 rfl rfl rfl Try.underlying51 rfl hsz ?_
  go_wp2_with fail
  refine (l7Body_any _ x F G _ (HH.out.1.below HT1.out.2) (Fr.ok_right HD.out.symm) HH.out.2.1).mono ?_
  rintro e w2 ⟨u, rfl, hown, hb2⟩
  have HRG : Hid (∀ y ∈ x.body, 0 ≤ y ∧ y ≤ 255) := x.body_range
  generalize x.body = B at hown hlen HV HRG
  obtain ⟨a, cap, rfl, hr⟩ := rd_own hown HRG.out
  have HB2 : Hid (w2.ownsRow w1.heap.size 5 1 (.slice a B.length cap) B.length (B.map (Value.int .u8)) ∧ RdB w2 a B.length B ∧ Below w1.heap.size w1 w2) := ⟨hown, hr, hb2⟩
  clear hown hr hb2
  go_wp2_with fail
  refine (l7Sum_any a B.length cap B _ HB2.out.2.1 (by omega)).mono ?_
  rintro e w3 ⟨rfl, hw3⟩
  have HC3 : Hid (∀ j u, ((sumOf B).map (Value.int .u8))[j]? = some u → w3.cell? ((⟨w2.heap.size, 0, none⟩ : Addr).add j) = some u) := by
    intro j u hj
    rw [show (⟨w2.heap.size, 0, none⟩ : Addr).add j = ⟨w2.heap.size, j, none⟩ from by cases j <;> simp [Addr.add], hw3, (Blk.made w2 _ _).cell j]
    simpa using hj
  have b3 : Below w2.heap.size w2 w3 := by rw [hw3]; exact (Below.refl _ _).alloc (Nat.le_refl _) _
  have HB3 : Hid (w3.ownsRow w1.heap.size 5 1 (.slice a B.length cap) B.length (B.map (Value.int .u8)) ∧ Below w1.heap.size w1 w3) := ⟨ownsRow_below HB2.out.1 b3, Below.next HB2.out.2.2 b3⟩
  clear hw3 b3 HB2
  go_wp2_with (with_reducible refine stopAppend rfl ?_)
  refine Stop.intro (wpList_append_own _ rfl _ _ 27 rfl w1.heap.size 5 i0 (.int .u8 0) 1 1 Try.underlying27 hi hz0 hz1 hz2 rfl (by decide) _ _ _ rfl HB3.out.1 ⟨w2.heap.size, 0, none⟩ 4 4 ((sumOf B).map (Value.int .u8)) rfl (by simp [sumOf_len]) HC3.out (u8_one _) (by unfold maxLen; omega) (by omega) HB3.out.2.size ?_)
  intro v4 w4 hown hgrow _
  have h4 : w4.ownsRow w.heap.size 5 1 v4 x.bytes.length (x.bytes.map (Value.int .u8)) := by
    rw [HV.out, List.length_append, List.map_append, sumOf_len]
    exact own_mono7 hown HT1.out.2.size
  have HB4 : Hid (w4.ownsRow w.heap.size 5 1 v4 x.bytes.length (x.bytes.map (Value.int .u8)) ∧ Below w.heap.size w w4) := ⟨h4, Below.next HT1.out.2 (HB3.out.2.grown hgrow HB3.out.2.size (fun g hg => (HB3.out.1.lt g hg).1))⟩
  clear hown hgrow h4 HB3 HC3
  go_wp2
  go_ret
  exact ⟨_, rfl, HB4.out⟩
end Go.Proofs.Ytjndcfamfminkaq
/- What is written is read as it was: the numbers of a frame. No statement of the seat is proved here. -/
namespace Go.Proofs.Ytjndcfamfminkaq
open Go.RowKit
theorem dg_enc7 (m : Nat) : ∀ (k : Nat) (X : Int) (rest : List Int), k + (encN m).length ≤ 5 → (k = 0 ∨ 0 < m) → X + (m : Int) * 128 ^ k ≤ 2147483647 → dg (encN m ++ rest) k X = some (X + (m : Int) * 128 ^ k, k + (encN m).length) := by
  induction m using encN.induct with
  | case1 m h =>
    intro k X rest hk h0 hm
    rw [encN_small m h] at hk ⊢
    have e : (m : Int) % 128 = m := by omega
    simp only [List.cons_append, List.nil_append, dg, e]
    rw [if_neg (by simp at hk; omega), if_pos (by omega), if_neg (by omega)]
    rfl
  | case2 m h ih =>
    intro k X rest hk h0 hm
    rw [encN_big m h] at hk ⊢
    simp only [List.length_cons] at hk
    have e1 : ((m : Int) % 128 + 128) % 128 = (m : Int) % 128 := by omega
    have e2 : X + (m : Int) % 128 * 128 ^ k + ((m / 128 : Nat) : Int) * 128 ^ (k + 1) = X + (m : Int) * 128 ^ k := by
      have : (m : Int) = (m : Int) % 128 + 128 * ((m / 128 : Nat) : Int) := by omega
      rw [Int.pow_succ]
      generalize (128 : Int) ^ k = p
      generalize ((m / 128 : Nat) : Int) = d at *
      generalize (m : Int) % 128 = c at *
      rw [this, Int.add_mul, Int.mul_comm p 128, ← Int.mul_assoc, Int.mul_comm d 128]
      omega
    simp only [List.cons_append, dg, e1]
    rw [if_neg (by omega), if_neg (by omega)]
    rw [ih (k + 1) _ rest (by omega) (.inr (by omega)) (by rw [e2]; exact hm), e2]
    simp only [List.length_cons]
    congr 2; omega
theorem res_enc7 (pre rest : List Int) (n : Int) (h0 : 0 ≤ n) (h1 : n ≤ 2147483647) : res (pre ++ encOf n ++ rest) (pre.length : Int) = some (n, (encOf n).length) := by
  obtain ⟨m, rfl⟩ := Int.eq_ofNat_of_zero_le h0
  have e : encOf (m : Int) = encN m := by rw [encOf, if_pos ⟨h0, h1⟩]; rfl
  rw [e]
  unfold res
  rw [if_pos ⟨by omega, by simp; omega⟩]
  rw [show ((pre.length : Int)).toNat = pre.length by omega, List.append_assoc, List.drop_left]
  have hl := encN_len m (by omega)
  have := dg_enc7 m 0 0 rest (by omega) (.inl rfl) (by omega)
  rw [this]
  simp

theorem getTo_putAll (pre : List Int) : ∀ (zs rest : List Int), (∀ z ∈ zs, InN z) → ∀ k, k ≤ zs.length → getTo (pre ++ putAll zs ++ rest) (pre.length : Int) k = some (zs.take k, (pre.length : Int) + ((putAll (zs.take k)).length : Int))
  | zs, rest, hz, 0, _ => by simp [getTo, putAll]
  | zs, rest, hz, k + 1, hk => by
    have hkl : k < zs.length := by omega
    rw [getTo, getTo_putAll pre zs rest hz k (by omega)]
    have e0 : zs = zs.take k ++ zs.getD k 0 :: zs.drop (k + 1) := by
      rw [List.getD_eq_getElem?_getD, List.getElem?_eq_getElem hkl]
      simp
    have e : pre ++ putAll zs ++ rest = (pre ++ putAll (zs.take k)) ++ encOf (zs.getD k 0) ++ (putAll (zs.drop (k + 1)) ++ rest) := by
      conv => lhs; rw [e0]
      rw [putAll_app]
      simp [putAll]
    have hi := hz _ (mem_getD (d := 0) hkl)
    have r := res_enc7 (pre ++ putAll (zs.take k)) (putAll (zs.drop (k + 1)) ++ rest) (zs.getD k 0) hi.1 hi.2
    rw [← e, List.length_append, Int.natCast_add] at r
    simp only
    rw [r]
    simp only
    rw [putAll_take zs k hkl, List.length_append, take_snoc zs 0 k hkl, Int.natCast_add, Int.add_assoc]
/-- All of them. -/
theorem getTo_all (pre zs rest : List Int) (hz : ∀ z ∈ zs, InN z) {m : Nat} (hm : zs.length = m) : getTo (pre ++ putAll zs ++ rest) (pre.length : Int) m = some (zs, (pre.length : Int) + ((putAll zs).length : Int)) := by
  have e := getTo_putAll pre zs rest hz m (by omega)
  rw [List.take_of_length_le (by omega)] at e
  exact e
end Go.Proofs.Ytjndcfamfminkaq
/- What is read is what was written: numbers out of their bytes. No statement of the seat is proved here. -/
namespace Go.Proofs.Ytjndcfamfminkaq
open Go.RowKit
theorem dg_inv : ∀ (zs : List Int) (k : Nat) (X n : Int) (u : Nat), (∀ x ∈ zs, 0 ≤ x ∧ x ≤ 255) → dg zs k X = some (n, u) → ∃ m : Nat, n = X + (m : Int) * 128 ^ k ∧ u = k + (encN m).length ∧ zs.take (encN m).length = encN m ∧ (k = 0 ∨ 0 < m) ∧ n ≤ 2147483647
  | [], k, X, n, u, _, h => by simp [dg] at h
  | c :: r, k, X, n, u, hz, h => by
    have hc := hz c (List.mem_cons_self ..)
    obtain ⟨d, rfl⟩ := Int.eq_ofNat_of_zero_le hc.1
    rw [dg] at h
    by_cases h5 : k = 5
    · rw [if_pos h5] at h; cases h
    rw [if_neg h5] at h
    by_cases h1 : (d : Int) < 128
    · rw [if_pos h1] at h
      by_cases h2 : (0 < k ∧ (d : Int) = 0) ∨ 2147483647 < X + (d : Int) % 128 * 128 ^ k
      · rw [if_pos h2] at h; cases h
      · rw [if_neg h2] at h
        have e : (d : Int) % 128 = d := by omega
        rw [e] at h h2
        cases h
        refine ⟨d, rfl, ?_, ?_, ?_, ?_⟩
        · rw [encN_small d (by omega)]; rfl
        · rw [encN_small d (by omega)]; rfl
        · by_cases q : k = 0
          · exact .inl q
          · refine .inr ?_
            by_cases z : d = 0
            · exact absurd (.inl ⟨by omega, by omega⟩) h2
            · omega
        · exact Int.not_lt.1 (fun q => h2 (.inr q))
    · rw [if_neg h1] at h
      obtain ⟨m, e1, e2, e3, e4, e5⟩ := dg_inv r (k + 1) _ n u (fun x hx => hz x (List.mem_cons_of_mem _ hx)) h
      have hm : 0 < m := by rcases e4 with q | q; omega; exact q
      have hd : (d : Int) % 128 = (d : Int) - 128 := by omega
      have hM : encN ((d - 128) + 128 * m) = (d : Int) :: encN m := by
        rw [encN_big _ (by omega)]
        congr 1
        · omega
        · congr 1; omega
      refine ⟨(d - 128) + 128 * m, ?_, ?_, ?_, .inr (by omega), e5⟩
      · rw [e1, hd, Int.pow_succ]
        have e : (((d - 128) + 128 * m : Nat) : Int) = ((d : Int) - 128) + 128 * (m : Int) := by omega
        rw [e]
        generalize (128 : Int) ^ k = p
        rw [Int.add_mul, Int.mul_comm p 128, ← Int.mul_assoc, Int.mul_comm (m : Int) 128, Int.add_assoc]
      · rw [hM, List.length_cons, e2]; omega
      · rw [hM, List.length_cons, List.take_succ_cons, e3]
theorem res_inv {zs : List Int} {p n : Int} {u : Nat} (hz : ∀ x ∈ zs, 0 ≤ x ∧ x ≤ 255) (h : res zs p = some (n, u)) : 0 ≤ p ∧ InN n ∧ u = (encOf n).length ∧ p.toNat + u ≤ zs.length ∧ (zs.drop p.toNat).take u = encOf n := by
  unfold res at h
  by_cases hp : 0 ≤ p ∧ p ≤ zs.length
  · rw [if_pos hp] at h
    obtain ⟨m, e1, e2, e3, _, e5⟩ := dg_inv _ 0 0 n u (fun x hx => hz x (List.mem_of_mem_drop hx)) h
    have en : n = m := by rw [e1, Int.pow_zero]; omega
    have hN : InN n := ⟨by omega, e5⟩
    have ee : encOf n = encN m := by
      unfold encOf
      rw [if_pos (show 0 ≤ n ∧ n ≤ 2147483647 from hN), en, Int.toNat_natCast]
    refine ⟨hp.1, hN, by rw [ee]; omega, ?_, by rw [ee, e2, Nat.zero_add]; exact e3⟩
    have l := congrArg List.length e3
    rw [List.length_take, List.length_drop] at l
    omega
  · rw [if_neg hp] at h; cases h
theorem getTo_inv {zs : List Int} (hz : ∀ x ∈ zs, 0 ≤ x ∧ x ≤ 255) {p : Nat} (hp : p ≤ zs.length) : ∀ {k : Nat} {l : List Int} {q : Int}, getTo zs p k = some (l, q) → (∀ x ∈ l, InN x) ∧ q = ((p + (putAll l).length : Nat) : Int) ∧ p + (putAll l).length ≤ zs.length ∧ (zs.drop p).take (putAll l).length = putAll l
  | 0, l, q, h => by
    rw [getTo] at h
    cases h
    refine ⟨(fun x hx => by cases hx), (by simp [putAll]), (by simpa [putAll] using hp), (by simp [putAll])⟩
  | k + 1, l, q, h => by
    rw [getTo] at h
    split at h
    · cases h
    · rename_i l' q' e
      obtain ⟨i1, i2, i3, i4⟩ := getTo_inv hz hp e
      split at h
      · cases h
      · rename_i n u e'
        cases h
        obtain ⟨_, r2, r3, r4, r5⟩ := res_inv hz e'
        have ep : putAll (l' ++ [n]) = putAll l' ++ encOf n := by rw [putAll_app]; simp [putAll]
        have eq : q'.toNat = p + (putAll l').length := by omega
        rw [eq] at r4 r5
        rw [ep, List.length_append, ← r3]
        refine ⟨?_, by omega, by omega, ?_⟩
        · intro x hx
          rcases List.mem_append.1 hx with hx | hx
          · exact i1 x hx
          · obtain rfl : x = n := by simpa using hx
            exact r2
        · rw [List.take_add, i4, List.drop_drop, r5]
theorem putAll_nil_of {l : List Int} (h : ∀ x ∈ l, InN x) (e : (putAll l).length = 0) : l = [] := by
  cases l with
  | nil => rfl
  | cons a l =>
    have q := encOf_pos (h a (List.mem_cons_self ..))
    have : putAll (a :: l) = encOf a ++ putAll l := by simp [putAll]
    rw [this, List.length_append] at e
    omega
/-- Reading from the front: all of them. -/
theorem getTo_front (l rest : List Int) (h : ∀ x ∈ l, InN x) {m : Nat} (hm : l.length = m) : getTo (putAll l ++ rest) 0 m = some (l, ((putAll l).length : Int)) := by
  have e := getTo_all [] l rest h hm
  simpa using e
theorem putAll_inj {l m : List Int} (hl : ∀ x ∈ l, InN x) (hm : ∀ x ∈ m, InN x) (e : putAll l = putAll m) : l = m := by
  rcases Nat.le_total l.length m.length with q | q
  · have a := getTo_putAll [] m [] hm l.length q
    have b := getTo_front l [] hl rfl
    simp only [List.nil_append, List.append_nil, List.length_nil] at a b
    rw [← e] at a
    have c := a.symm.trans b
    simp only [Option.some.injEq, Prod.mk.injEq] at c
    obtain ⟨c1, c2⟩ := c
    have d : putAll m = putAll (m.take l.length) ++ putAll (m.drop l.length) := by rw [← putAll_app, List.take_append_drop]
    have f : (putAll (m.drop l.length)).length = 0 := by
      have := congrArg List.length d
      rw [List.length_append, ← e, c1] at this
      omega
    have g := putAll_nil_of (fun x hx => hm x (List.mem_of_mem_drop hx)) f
    rw [← List.take_append_drop l.length m, g, c1, List.append_nil]
  · have a := getTo_putAll [] l [] hl m.length q
    have b := getTo_front m [] hm rfl
    simp only [List.nil_append, List.append_nil, List.length_nil] at a b
    rw [e] at a
    have c := a.symm.trans b
    simp only [Option.some.injEq, Prod.mk.injEq] at c
    obtain ⟨c1, c2⟩ := c
    have d : putAll l = putAll (l.take m.length) ++ putAll (l.drop m.length) := by rw [← putAll_app, List.take_append_drop]
    have f : (putAll (l.drop m.length)).length = 0 := by
      have := congrArg List.length d
      rw [List.length_append, e, c1] at this
      omega
    have g := putAll_nil_of (fun x hx => hl x (List.mem_of_mem_drop hx)) f
    rw [← List.take_append_drop m.length l, g, c1, List.append_nil]
/-- These bytes are those numbers, and nothing else; or they are no numbers. -/
def AllIs (zs l : List Int) (d : Bool) : Prop := if d = true then zs = putAll l ∧ ∀ x ∈ l, InN x else l = [] ∧ ∀ m, (∀ x ∈ m, InN x) → zs ≠ putAll m
theorem all_here {zs l : List Int} (hz : ∀ x ∈ zs, 0 ≤ x ∧ x ≤ 255) {k : Nat} (h : getTo zs 0 k = some (l, (zs.length : Int))) : AllIs zs l true := by
  obtain ⟨h1, h2, _, h4⟩ := getTo_inv (p := 0) hz (Nat.zero_le _) (by simpa using h)
  rw [List.drop_zero] at h4
  refine (if_pos rfl).mpr ⟨?_, h1⟩
  rw [List.take_of_length_le (by omega)] at h4
  exact h4
theorem res_end (zs : List Int) : res zs (zs.length : Int) = none := by
  unfold res
  rw [if_pos ⟨by omega, by omega⟩, Int.toNat_natCast, List.drop_length]
  rfl
theorem all_none {zs l : List Int} {k : Nat} {q : Int} (h : getTo zs 0 k = some (l, q)) (hr : res zs q = none) (hq : ¬ q = zs.length) : AllIs zs [] false := by
  refine (if_neg (by simp)).mpr ⟨rfl, fun m hm e => ?_⟩
  have a := getTo_front m [] hm rfl
  rw [List.append_nil, ← e] at a
  rcases Nat.lt_trichotomy m.length k with q1 | q1 | q1
  · have b : getTo zs 0 (m.length + 1) = none := by rw [getTo, a]; simp only; rw [res_end]
    rw [getTo_none b (by omega)] at h
    cases h
  · rw [q1, h] at a
    cases a
    exact hq rfl
  · have b : getTo zs 0 (k + 1) = none := by rw [getTo, h]; simp only; rw [hr]
    rw [getTo_none b (by omega)] at a
    cases a
/-! ### summaries -/
def SkIs (zs : List Int) (s : Sk) (d : Bool) : Prop := if d = true then s.ok = true ∧ zs = s.bytes else s = Sk.zero ∧ ∀ t : Sk, t.ok = true → zs ≠ t.bytes
theorem Sk.nums_len {s : Sk} (h : s.lens7) : s.nums.length = 28 := by
  have e : s.numsTo 2 = s.nums := by
    unfold Sk.numsTo Sk.nums
    rw [List.take_of_length_le (by rw [h.rows]; omega)]
  rw [← e, numsTo_len h (by omega)]
theorem Sk.bytes_ok {s : Sk} (h : s.ok = true) : s.bytes = putAll s.nums := by unfold Sk.bytes; rw [if_pos h]
end Go.Proofs.Ytjndcfamfminkaq
/- What is read is what was written: summaries and frames out of their numbers. No statement of the seat is proved here. -/
namespace Go.Proofs.Ytjndcfamfminkaq
open Go.RowKit
theorem skOf_lens {l : List Int} (h : l.length = 28) : (skOf l).lens7 := by
  refine ⟨by simp [skOf]; omega, by simp [skOf]; omega, rfl, fun z hz => ?_⟩
  simp only [skOf, List.mem_cons, List.not_mem_nil, or_false] at hz
  rcases hz with rfl | rfl <;> (simp; omega)
theorem skOf_nums {l : List Int} (h : l.length = 28) : (skOf l).nums = l := by
  unfold Sk.nums skOf
  conv => rhs; rw [split28 h]
  have e : (l.drop 20).take 8 = (l.drop 20).take 4 ++ (l.drop 24).take 4 := by
    rw [show (8 : Nat) = 4 + 4 from rfl, List.take_add, List.drop_drop]
  rw [e]
  simp
theorem nums_skOf {s : Sk} (h : s.lens7) : skOf s.nums = s := by
  obtain ⟨c, u, mi, ma, hi, re, ro⟩ := s
  obtain ⟨h1, h2, h3, h4⟩ := h
  simp only at h1 h2 h3 h4
  match hi, re, ro, h1, h2, h3, h4 with
  | [_, _, _, _, _, _, _, _], [_, _, _, _, _, _, _, _], [r1, r2], _, _, _, h4 =>
    have q1 := h4 r1 (by simp)
    have q2 := h4 r2 (by simp)
    match r1, r2, q1, q2 with
    | [_, _, _, _], [_, _, _, _], _, _ => rfl
theorem Sk.nums_inj {s t : Sk} (hs : s.lens7) (ht : t.lens7) (e : s.nums = t.nums) : s = t := by rw [← nums_skOf hs, ← nums_skOf ht, e]
theorem Sk.bytes_inj {s t : Sk} (hs : s.ok = true) (ht : t.ok = true) (e : s.bytes = t.bytes) : s = t := by
  rw [Sk.bytes_ok hs, Sk.bytes_ok ht] at e
  exact Sk.nums_inj (Sk.ok_lens hs).1 (Sk.ok_lens ht).1 (putAll_inj (Sk.ok_lens hs).2 (Sk.ok_lens ht).2 e)
theorem SkIs.unique {zs : List Int} {s t : Sk} {c d : Bool} (h : SkIs zs s c) (k : SkIs zs t d) : s = t ∧ c = d := by
  unfold SkIs at h k
  cases c <;> cases d <;> simp only [if_true, Bool.false_eq_true, if_false] at h k
  · exact ⟨h.1.trans k.1.symm, rfl⟩
  · exact absurd k.2 (h.2 t k.1)
  · exact absurd h.2 (k.2 s h.1)
  · exact ⟨Sk.bytes_inj h.1 k.1 (h.2.symm.trans k.2), rfl⟩
theorem skIs_yes {zs l : List Int} (hl : l.length = 28) (he : zs = putAll l) (hok : (skOf l).ok = true) : SkIs zs (skOf l) true :=
  (if_pos rfl).mpr ⟨hok, by rw [Sk.bytes_ok hok, skOf_nums hl]; exact he⟩
theorem skIs_bad {zs l : List Int} (hn : ∀ x ∈ l, InN x) (he : zs = putAll l) (hok : (skOf l).ok = false) : SkIs zs Sk.zero false := by
  refine (if_neg (by simp)).mpr ⟨rfl, fun t ht e => ?_⟩
  rw [he, Sk.bytes_ok ht] at e
  have := putAll_inj hn (Sk.ok_lens ht).2 e
  rw [this, nums_skOf (Sk.ok_lens ht).1, ht] at hok
  cases hok
theorem skIs_long {zs l : List Int} (hl : ¬ l.length = 28) (hn : ∀ x ∈ l, InN x) (he : zs = putAll l) : SkIs zs Sk.zero false := by
  refine (if_neg (by simp)).mpr ⟨rfl, fun t ht e => ?_⟩
  rw [he, Sk.bytes_ok ht] at e
  have := putAll_inj hn (Sk.ok_lens ht).2 e
  rw [this] at hl
  exact hl (Sk.nums_len (Sk.ok_lens ht).1)
theorem skIs_no {zs : List Int} (h : ∀ m, (∀ x ∈ m, InN x) → zs ≠ putAll m) : SkIs zs Sk.zero false :=
  (if_neg (by simp)).mpr ⟨rfl, fun t ht e => h t.nums (Sk.ok_lens ht).2 (by rw [e, Sk.bytes_ok ht])⟩
/-- The model's way: 28 numbers are read. -/
theorem skIs_get {zs : List Int} {t : Sk} (ht : t.ok = true) (e : zs = t.bytes) : getTo zs 0 28 = some (t.nums, (zs.length : Int)) := by
  have a := getTo_front t.nums [] (Sk.ok_lens ht).2 (Sk.nums_len (Sk.ok_lens ht).1)
  rw [List.append_nil, ← Sk.bytes_ok ht, ← e] at a
  exact a
theorem skIs_getNone {zs : List Int} (h : getTo zs 0 28 = none) : SkIs zs Sk.zero false :=
  (if_neg (by simp)).mpr ⟨rfl, fun t ht e => by rw [skIs_get ht e] at h; cases h⟩
theorem skIs_getOff {zs l : List Int} {q : Int} (h : getTo zs 0 28 = some (l, q)) (hq : ¬ q = zs.length) : SkIs zs Sk.zero false :=
  (if_neg (by simp)).mpr ⟨rfl, fun t ht e => by rw [skIs_get ht e] at h; cases h; exact hq rfl⟩
theorem skIs_getAll {zs l : List Int} (hz : ∀ x ∈ zs, 0 ≤ x ∧ x ≤ 255) (h : getTo zs 0 28 = some (l, (zs.length : Int))) : zs = putAll l ∧ (∀ x ∈ l, InN x) ∧ l.length = 28 := by
  have a := all_here hz h
  unfold AllIs at a
  rw [if_pos rfl] at a
  exact ⟨a.1, a.2, getTo_len h⟩
/-! ### frames -/
def Fr.numbers (x : Fr) : List Int := [x.kind, x.agent, x.epoch, x.granted, (x.taken.length : Int)] ++ flat x.taken ++ (if x.kind = 1 then [x.item.seq, x.item.cls, x.item.key, x.item.window] ++ x.item.sk.nums else [])
theorem It.ok_nums {x : It} (h : x.ok = true) : (1 ≤ x.seq ∧ x.seq ≤ 60) ∧ (0 ≤ x.cls ∧ x.cls ≤ 1) ∧ InN x.key ∧ InN x.window ∧ x.sk.ok = true := by
  unfold It.ok placeOk at h
  simp only [Bool.and_eq_true, decide_eq_true_eq] at h
  unfold InN
  obtain ⟨⟨⟨h1, h2⟩, h3, h4⟩, h5⟩ := h
  refine ⟨h1, h2, ⟨by omega, by omega⟩, ⟨by omega, by omega⟩, h5⟩
theorem flat_mem {P : Int → Prop} : ∀ {ps : Sp}, (∀ p ∈ ps, P p.1 ∧ P p.2) → ∀ x ∈ flat ps, P x
  | [], _, x, hx => by cases hx
  | p :: ps, h, x, hx => by
    rcases List.mem_cons.1 hx with rfl | hx
    · exact (h p (List.mem_cons_self ..)).1
    rcases List.mem_cons.1 hx with rfl | hx
    · exact (h p (List.mem_cons_self ..)).2
    · exact flat_mem (fun q hq => h q (List.mem_cons_of_mem _ hq)) x hx
theorem Fr.right_spans {x : Fr} (h : x.Right) : ∀ y ∈ flat x.taken, InN y := by
  refine flat_mem (fun p hp => ?_)
  obtain ⟨k, hk, rfl⟩ := List.getElem_of_mem hp
  have a := h.span k hk
  have e : x.taken.at k = x.taken[k] := by unfold Sp.at; rw [List.getElem?_eq_getElem hk]; rfl
  rw [e] at a
  unfold InN
  omega
theorem Fr.right_numbers {x : Fr} (h : x.Right) : ∀ y ∈ x.numbers, InN y := by
  intro y hy
  unfold Fr.numbers at hy
  rcases List.mem_append.1 hy with hy | hy
  · rcases List.mem_append.1 hy with hy | hy
    · have a := h.kind; have b := h.agent; have c := h.epoch; have d := h.granted; have e := h.many
      simp only [List.mem_cons, List.not_mem_nil, or_false] at hy
      unfold InN
      rcases hy with rfl | rfl | rfl | rfl | rfl <;> omega
    · exact Fr.right_spans h y hy
  · have i := h.item
    by_cases q : x.kind = 1
    · rw [if_pos q] at hy i
      obtain ⟨a, b, c, d, e⟩ := It.ok_nums i
      rcases List.mem_append.1 hy with hy | hy
      · simp only [List.mem_cons, List.not_mem_nil, or_false] at hy
        unfold InN at *
        rcases hy with rfl | rfl | rfl | rfl <;> omega
      · exact (Sk.ok_lens e).2 y hy
    · rw [if_neg q] at hy; cases hy
theorem Fr.body_numbers {x : Fr} (h : x.Right) : x.body = [87, 82] ++ putAll x.numbers := by
  unfold Fr.body Fr.numbers
  have i := h.item
  by_cases q : x.kind = 1
  · rw [if_pos q] at i
    simp only [if_pos q]
    rw [putAll_app, putAll_app, putAll_app, Sk.bytes_ok (It.ok_nums i).2.2.2.2]
    simp only [List.append_assoc]
  · simp only [if_neg q, List.append_nil]
    rw [putAll_app]
    simp only [List.append_assoc]
theorem Fr.numbers_inj {x y : Fr} (hx : x.Right) (hy : y.Right) (e : x.numbers = y.numbers) : x = y := by
  unfold Fr.numbers at e
  simp only [List.cons_append, List.nil_append, List.cons.injEq] at e
  obtain ⟨e1, e2, e3, e4, e5, e6⟩ := e
  have el : (flat x.taken).length = (flat y.taken).length := by rw [flat_length, flat_length]; omega
  obtain ⟨e7, e8⟩ := List.append_inj e6 el
  have et : x.taken = y.taken := flat_inj e7
  have ix := hx.item
  have iy := hy.item
  rw [← e1] at iy e8
  by_cases q : x.kind = 1
  · rw [if_pos q] at ix iy
    rw [if_pos q, if_pos q] at e8
    simp only [List.cons.injEq] at e8
    obtain ⟨f1, f2, f3, f4, f5⟩ := e8
    exact Fr.eq_of e1 e2 e3 e4 et (It.eq_of f1 f2 f3 f4 (Sk.nums_inj (Sk.ok_lens (It.ok_nums ix).2.2.2.2).1 (Sk.ok_lens (It.ok_nums iy).2.2.2.2).1 f5))
  · rw [if_neg q] at ix iy
    exact Fr.eq_of e1 e2 e3 e4 et (ix.trans iy.symm)
def Fr.zero : Fr := ⟨0, 0, 0, 0, [], It.zero⟩
/-- These bytes are that frame's; or they are no frame's. -/
def FrIs (zs : List Int) (f : Fr) (d : Bool) : Prop := if d = true then f.ok = true ∧ zs = f.bytes else f = Fr.zero ∧ ∀ g : Fr, g.ok = true → zs ≠ g.bytes
theorem Fr.bytes_ok {x : Fr} (h : x.ok = true) : x.bytes = x.body ++ sumOf x.body := by unfold Fr.bytes; rw [if_pos h]
theorem app4_inj {a b c d : List Int} (hc : c.length = 4) (hd : d.length = 4) (e : a ++ c = b ++ d) : a = b ∧ c = d := by
  refine List.append_inj e ?_
  have := congrArg List.length e
  rw [List.length_append, List.length_append] at this
  omega
theorem Fr.bytes_inj {x y : Fr} (hx : x.ok = true) (hy : y.ok = true) (e : x.bytes = y.bytes) : x = y := by
  rw [Fr.bytes_ok hx, Fr.bytes_ok hy] at e
  have b := (app4_inj (sumOf_len _) (sumOf_len _) e).1
  rw [Fr.body_numbers (Fr.ok_right hx), Fr.body_numbers (Fr.ok_right hy)] at b
  exact Fr.numbers_inj (Fr.ok_right hx) (Fr.ok_right hy) (putAll_inj (Fr.right_numbers (Fr.ok_right hx)) (Fr.right_numbers (Fr.ok_right hy)) (List.append_cancel_left b))
theorem FrIs.unique {zs : List Int} {s t : Fr} {c d : Bool} (h : FrIs zs s c) (k : FrIs zs t d) : s = t ∧ c = d := by
  unfold FrIs at h k
  cases c <;> cases d <;> simp only [if_true, Bool.false_eq_true, if_false] at h k
  · exact ⟨h.1.trans k.1.symm, rfl⟩
  · exact absurd k.2 (h.2 t k.1)
  · exact absurd h.2 (k.2 s h.1)
  · exact ⟨Fr.bytes_inj h.1 k.1 (h.2.symm.trans k.2), rfl⟩
/-- These numbers are that frame's; or they are no frame's. -/
def FrN (l : List Int) (f : Fr) (d : Bool) : Prop := if d = true then f.ok = true ∧ l = f.numbers else f = Fr.zero ∧ ∀ g : Fr, g.ok = true → l ≠ g.numbers
theorem frIs_ne {zs : List Int} (h : ∀ g : Fr, g.ok = true → zs ≠ g.bytes) : FrIs zs Fr.zero false := (if_neg (by simp)).mpr ⟨rfl, h⟩
theorem frIs_yes {zs : List Int} {f : Fr} (h : f.ok = true) (e : zs = f.bytes) : FrIs zs f true := (if_pos rfl).mpr ⟨h, e⟩
/-- What the program reads: a body with its sum, the sign ahead, and numbers. -/
theorem frIs_of {body l : List Int} {f : Fr} {d : Bool} (hl : ∀ x ∈ l, InN x) (h : FrN l f d) (hb : body = [87, 82] ++ putAll l) : FrIs (body ++ sumOf body) f d := by
  unfold FrN at h
  cases d <;> simp only [if_true, Bool.false_eq_true, if_false] at h
  · rw [h.1]
    refine frIs_ne (fun g hg e => ?_)
    rw [Fr.bytes_ok hg] at e
    have b := (app4_inj (sumOf_len _) (sumOf_len _) e).1
    rw [hb, Fr.body_numbers (Fr.ok_right hg)] at b
    exact h.2 g hg (putAll_inj hl (Fr.right_numbers (Fr.ok_right hg)) (List.append_cancel_left b))
  · refine frIs_yes h.1 ?_
    have b : body = f.body := by rw [hb, Fr.body_numbers (Fr.ok_right h.1), h.2]
    rw [Fr.bytes_ok h.1, b]
theorem frIs_noNums {body r : List Int} (hb : body = [87, 82] ++ r) (h : ∀ m, (∀ x ∈ m, InN x) → r ≠ putAll m) : FrIs (body ++ sumOf body) Fr.zero false := by
  refine frIs_ne (fun g hg e => ?_)
  rw [Fr.bytes_ok hg] at e
  have b := (app4_inj (sumOf_len _) (sumOf_len _) e).1
  rw [hb, Fr.body_numbers (Fr.ok_right hg)] at b
  exact h g.numbers (Fr.right_numbers (Fr.ok_right hg)) (List.append_cancel_left b)
theorem frIs_noSign {body : List Int} (h : ∀ r, body ≠ [87, 82] ++ r) : FrIs (body ++ sumOf body) Fr.zero false := by
  refine frIs_ne (fun g hg e => ?_)
  rw [Fr.bytes_ok hg] at e
  have b := (app4_inj (sumOf_len _) (sumOf_len _) e).1
  exact h _ (b.trans (Fr.body_numbers (Fr.ok_right hg)))
theorem frIs_noSum {body s : List Int} (hs : s.length = 4) (h : ¬ s = sumOf body) : FrIs (body ++ s) Fr.zero false := by
  refine frIs_ne (fun g hg e => ?_)
  rw [Fr.bytes_ok hg] at e
  have b := app4_inj hs (sumOf_len _) e
  exact h (by rw [b.2, b.1])
theorem Fr.bytes_min {x : Fr} (h : x.ok = true) : 7 ≤ x.bytes.length := by
  rw [Fr.bytes_ok h, Fr.body_numbers (Fr.ok_right h), List.length_append, List.length_append, sumOf_len]
  have e : x.numbers = x.kind :: x.numbers.tail := by unfold Fr.numbers; rfl
  have k := (Fr.ok_right h).kind
  have p := putAll_pos (a := x.kind) (l := x.numbers.tail) ⟨by omega, by omega⟩
  rw [← e] at p
  simp only [List.length_cons, List.length_nil]
  omega
end Go.Proofs.Ytjndcfamfminkaq
/- What is read is no longer than it may be. No statement of the seat is proved here. -/
namespace Go.Proofs.Ytjndcfamfminkaq
open Go.RowKit
theorem Var.only' {W W' : World} {lo hi g lo' hi' : Nat} {cs : Array Value} {s : Sk} {F G : List Nat} (h : Var W lo hi g cs s F) (o : Only G W W') (kl : ∀ b ∈ G, b < hi') (kg : ∀ b ∈ G, lo' ≤ b) (hd : hi ≤ lo' ∨ hi' ≤ lo) : Var W' lo hi g cs s F := by
  have ap : ∀ b ∈ F, b ∉ G := fun b hb hg => by have := h.lt b hb; have := h.own.ge b hb; have := kl b hg; have := kg b hg; omega
  exact ⟨h.blk.agree (o.block g h.blk.lt (fun hg => by have := h.ge; have := h.glt; have := kl g hg; have := kg g hg; omega)), h.rd.agree (o.agree h.rd.lt ap), h.sz, h.own.agree (o.agree h.rd.lt ap), h.lt, h.ge, h.glt, h.apart⟩
theorem ok_size {s : Sk} (h : s.ok = true) : s.size = 26 := by
  have l := (Sk.ok_lens h).1
  unfold Sk.size sumLen
  rw [two_rows7 l.rows, l.hist, l.regs]
  have r1 := l.row (s.rows.getD 0 []) (mem_getD (d := []) (by rw [l.rows]; omega))
  have r2 := l.row (s.rows.getD 1 []) (mem_getD (d := []) (by rw [l.rows]; omega))
  simp only [List.map_cons, List.map_nil, List.sum_cons, List.sum_nil, List.length_cons, List.length_nil, r1, r2]
  omega
theorem zero_size : Sk.zero.size = 0 := by simp [Sk.size, Sk.zero, sumLen]
theorem skIs_size {zs : List Int} {s : Sk} {d : Bool} (h : SkIs zs s d) : s.size ≤ 1048576 := by
  unfold SkIs at h
  cases d <;> simp only [if_true, Bool.false_eq_true, if_false] at h
  · rw [h.1, zero_size]; omega
  · rw [ok_size h.1]; omega
theorem Fr.ok_sizes {f : Fr} (h : f.ok = true) : f.taken.length + f.item.sk.size ≤ 56 := by
  have r := Fr.ok_right h
  have m := r.many
  have i := r.item
  by_cases q : f.kind = 1
  · rw [if_pos q] at i
    rw [ok_size (It.ok_nums i).2.2.2.2]
    omega
  · rw [if_neg q] at i
    rw [i, show It.zero.sk = Sk.zero from rfl, zero_size]
    omega
theorem frIs_size {zs : List Int} {f : Fr} {d : Bool} (h : FrIs zs f d) : f.taken.length + f.item.sk.size ≤ 1048576 := by
  unfold FrIs at h
  cases d <;> simp only [if_true, Bool.false_eq_true, if_false] at h
  · rw [h.1, show Fr.zero.item.sk = Sk.zero from rfl, zero_size]
    simp [Fr.zero]
  · have := Fr.ok_sizes h.1
    omega
end Go.Proofs.Ytjndcfamfminkaq
/- Items and entries that came in. No statement of the seat is proved here. -/
namespace Go.Proofs.Ytjndcfamfminkaq
open Go.RowKit Go.WideShapes Go.ChangeShapes Go.ChangeAt Go.Deep
set_option maxRecDepth 100000 in
set_option maxHeartbeats 1000000 in
theorem open_item {H : Type} {enc : TypeId × Value → H} {W : World} {base : Nat} {v : Value} {d : DataW H} {p : List MemPlace} (hv : Value.okWide Try.prog W .any base 42 v) (h : DataW.Trod enc Try.prog W 0 (fun _ => true) true 42 v d p) :
    ∃ x F, RdIt W v x F ∧ x.sk.vast := by
  obtain ⟨cs, rfl, hsz⟩ := okWide_struct Try.underlying42 hv
  have hC : Try.prog.cellsOf 42 = 11 := by kernel_rfl
  have c3 : Try.prog.cellsOf 3 = 1 := by kernel_rfl
  have c7 : Try.prog.cellsOf 25 = 7 := by kernel_rfl
  rw [hC] at hsz
  obtain ⟨l⟩ := cs
  match l, hsz with
  | [e0, e1, e2, e3, e4, e5, e6, e7, e8, e9, e10], _ =>
    obtain ⟨fuel, hf⟩ := h
    obtain ⟨xs, n, _, _, _, hlen, hx⟩ := DataW.trod_struct Try.underlying42 hf
    match xs, hlen with
    | [y0, y1, y2, y3, y4], _ =>
      have g0 := hx 0 _ rfl
      have g1 := hx 1 _ rfl
      have g2 := hx 2 _ rfl
      have g3 := hx 3 _ rfl
      have g4 := hx 4 _ rfl
      simp [Value.cells, c3, c7] at g0 g1 g2 g3 g4
      obtain ⟨i0, q0, _, _⟩ := DataW.trod_int Try.underlying3 g0
      obtain ⟨i1, q1, _, _⟩ := DataW.trod_int Try.underlying3 g1
      obtain ⟨i2, q2, _, _⟩ := DataW.trod_int Try.underlying3 g2
      obtain ⟨i3, q3, _, _⟩ := DataW.trod_int Try.underlying3 g3
      simp at q0 q1 q2 q3
      subst q0 q1 q2 q3
      obtain ⟨s, F, hr, hv7⟩ := open_sk7 (e0 := e4) (e1 := e5) (e2 := e6) (e3 := e7) (e4 := e8) (e5 := e9) (e6 := e10) ⟨_, g4⟩
      obtain ⟨a1, n1, c1, a2, n2, c2, a3, n3, c3', ev⟩ := hr.cells7
      simp only [Value.agg.injEq] at ev
      cases ev
      exact ⟨⟨i0, i1, i2, i3, s⟩, F, ⟨a1, n1, c1, a2, n2, c2, a3, n3, c3', rfl, hr⟩, hv7⟩
end Go.Proofs.Ytjndcfamfminkaq
/- The walks through the helpers of the laws over frames. No statement of the seat is proved here. -/
namespace Go.Proofs.Ytjndcfamfminkaq
open Go.RowKit
theorem infoFrI : (Try.prog.info? 51).map (·.size) = some 16 := by kernel_rfl
set_option maxRecDepth 200000 in
set_option maxHeartbeats 2000000 in
theorem toFrame_any (v : Value) (x : Fr) (F0 G0 : List Nat) (w : World) (h : RdFr w v x F0 G0) (hf : x.item.sk.fits) (hp : x.taken.length ≤ 1048576) :
    Calls Try.prog 24 #[v] w fun e w' => NewFr w x e w' := by
  obtain ⟨b, l, c, a1, n1, c1, a2, n2, c2, a3, n3, c3, rfl, hpd, hr, _⟩ := h
  have HR : Hid (RdIt w (.agg #[.int .i64 x.item.seq, .int .i64 x.item.cls, .int .i64 x.item.key, .int .i64 x.item.window, .int .i64 x.item.sk.count, .int .i64 x.item.sk.sum, .int .i64 x.item.sk.min, .int .i64 x.item.sk.max, .slice a1 n1 c1, .slice a2 n2 c2, .slice a3 n3 c3]) x.item G0 ∧ x.item.sk.fits) := ⟨hr, hf⟩
  have HP : Hid (RdP w b l x.taken F0 ∧ l ≤ 1048576) := ⟨hpd, by rw [← hpd.length]; exact hp⟩
  clear hr hf hpd hp
  go_enter Try.func24, Try.ntmps24
  go_wp2_with fail
  have T0 := Three.made w #[.int .i64 x.kind, .int .i64 x.agent, .int .i64 x.epoch, .int .i64 x.granted, .slice b l c, .int .i64 x.item.seq, .int .i64 x.item.cls, .int .i64 x.item.key, .int .i64 x.item.window, .int .i64 x.item.sk.count, .int .i64 x.item.sk.sum, .int .i64 x.item.sk.min, .int .i64 x.item.sk.max, .slice a1 n1 c1, .slice a2 n2 c2, .slice a3 n3 c3] 44 #[.int .i64 0, .int .i64 0, .int .i64 0, .int .i64 0, .slice none 0 0, .int .i64 0, .int .i64 0, .int .i64 0, .int .i64 0, .int .i64 0, .int .i64 0, .int .i64 0, .int .i64 0, .slice none 0 0, .slice none 0 0, .slice none 0 0] #[.int .i64 x.kind, .int .i64 x.agent, .int .i64 x.epoch, .int .i64 x.granted, .slice none 0 0, .int .i64 0, .int .i64 0, .int .i64 0, .int .i64 0, .int .i64 0, .int .i64 0, .int .i64 0, .int .i64 0, .slice none 0 0, .slice none 0 0, .slice none 0 0] 51
  refine (toSpanS_any b l c x.taken F0 _ (HP.out.1.below T0.bel) HP.out.2).mono ?_
  rintro e w1 ⟨b', l', c', F, rfl, p1, q1, hb1, hcap⟩
  have HCAP : Hid (Capd b' l' c') := hcap
  clear hcap
  have HT1 : Hid (Three w _ _ _ _ _ w1) := T0.below hb1
  have HF1 : Hid (RdP w1 b' l' x.taken F ∧ Own (w.heap.size + 3) w1 F) := ⟨p1, q1.mono T0.size⟩
  have c12 := HT1.out.loc.cell 4
  have f12 := HT1.out.loc.frozen 4
  simp only [aT, aS, aZ] at c12
  clear T0 hb1 p1 q1 HP
  go_wp2_with (first | go_skip | (with_reducible refine stopLoad 42 rfl ?_))
  have nl1 : w.heap.size + 1 + 1 ∉ F := fun hx => by have := HF1.out.2.ge _ hx; omega
  have HT2 : Hid (Three w _ _ _ _ _ (w1.setCell ⟨w.heap.size + 1 + 1, 4, none⟩ (.slice b' l' c'))) := HT1.out.set 4 (.slice b' l' c')
  have HF2 : Hid (RdP (w1.setCell ⟨w.heap.size + 1 + 1, 4, none⟩ (.slice b' l' c')) b' l' x.taken F ∧ Own (w.heap.size + 3) (w1.setCell ⟨w.heap.size + 1 + 1, 4, none⟩ (.slice b' l' c')) F) := ⟨HF1.out.1.agree (.set nl1 4 (.slice b' l' c')), HF1.out.2.agree (.set nl1 4 (.slice b' l' c'))⟩
  obtain ⟨w2, hw2⟩ : ∃ W, W = w1.setCell ⟨w.heap.size + 1 + 1, 4, none⟩ (.slice b' l' c') := ⟨_, rfl⟩
  rw [← hw2] at HT2 HF2 ⊢
  clear hw2 nl1 c12 f12 HT1 HF1
  refine load_cut 42 w.heap.size 5 11 _ #[.int .i64 x.item.seq, .int .i64 x.item.cls, .int .i64 x.item.key, .int .i64 x.item.window, .int .i64 x.item.sk.count, .int .i64 x.item.sk.sum, .int .i64 x.item.sk.min, .int .i64 x.item.sk.max, .slice a1 n1 c1, .slice a2 n2 c2, .slice a3 n3 c3] 44 _ HT2.out.box rfl rfl rfl Try.underlying42 rfl infoItL7 (by simp) rfl ?_
  go_wp2_with fail
  refine (toItem_any _ x.item G0 _ (HR.out.1.below HT2.out.bel) HR.out.2).mono ?_
  rintro e w3 ⟨v1, G, rfl, r1, o1, hb3⟩
  obtain ⟨b1, m1, d1, b2, m2, d2, b3, m3, d3, rfl⟩ := r1.cells11
  have HT3 : Hid (Three w _ _ _ _ _ w3) := HT2.out.below hb3
  have HG : Hid (RdIt w3 (.agg #[.int .i64 x.item.seq, .int .i64 x.item.cls, .int .i64 x.item.key, .int .i64 x.item.window, .int .i64 x.item.sk.count, .int .i64 x.item.sk.sum, .int .i64 x.item.sk.min, .int .i64 x.item.sk.max, .slice b1 m1 d1, .slice b2 m2 d2, .slice b3 m3 d3]) x.item G ∧ Own (w.heap.size + 3) w3 G ∧ RdP w3 b' l' x.taken F ∧ Own (w.heap.size + 3) w3 F ∧ ∀ b ∈ F, b ∉ G) := ⟨r1, o1.mono HT2.out.size, HF2.out.1.below hb3, HF2.out.2.below HF2.out.1.lt hb3, fun b hb hg => by have := HF2.out.1.lt b hb; have := o1.ge b hg; omega⟩
  clear hb3 r1 o1 HR HT2 HF2
  go_wp2_with (first | go_skip | (with_reducible refine stopStore 49 rfl ?_))
  refine store_cut 49 (w.heap.size + 1 + 1) 5 _ #[.int .i64 x.item.seq, .int .i64 x.item.cls, .int .i64 x.item.key, .int .i64 x.item.window, .int .i64 x.item.sk.count, .int .i64 x.item.sk.sum, .int .i64 x.item.sk.min, .int .i64 x.item.sk.max, .slice b1 m1 d1, .slice b2 m2 d2, .slice b3 m3 d3] #[.int .i64 x.kind, .int .i64 x.agent, .int .i64 x.epoch, .int .i64 x.granted, .slice b' l' c', .int .i64 x.item.seq, .int .i64 x.item.cls, .int .i64 x.item.key, .int .i64 x.item.window, .int .i64 x.item.sk.count, .int .i64 x.item.sk.sum, .int .i64 x.item.sk.min, .int .i64 x.item.sk.max, .slice b1 m1 d1, .slice b2 m2 d2, .slice b3 m3 d3] 51 HT3.out.loc rfl rfl rfl rfl infoItA7 (by simp) (one11 ..) (by simp [cutIn]) ?_
  obtain ⟨E, hE⟩ : ∃ E : Array Value, E = #[.int .i64 x.kind, .int .i64 x.agent, .int .i64 x.epoch, .int .i64 x.granted, .slice b' l' c', .int .i64 x.item.seq, .int .i64 x.item.cls, .int .i64 x.item.key, .int .i64 x.item.window, .int .i64 x.item.sk.count, .int .i64 x.item.sk.sum, .int .i64 x.item.sk.min, .int .i64 x.item.sk.max, .slice b1 m1 d1, .slice b2 m2 d2, .slice b3 m3 d3] := ⟨_, rfl⟩
  rw [← hE]
  have HE : Hid (E = #[.int .i64 x.kind, .int .i64 x.agent, .int .i64 x.epoch, .int .i64 x.granted, .slice b' l' c', .int .i64 x.item.seq, .int .i64 x.item.cls, .int .i64 x.item.key, .int .i64 x.item.window, .int .i64 x.item.sk.count, .int .i64 x.item.sk.sum, .int .i64 x.item.sk.min, .int .i64 x.item.sk.max, .slice b1 m1 d1, .slice b2 m2 d2, .slice b3 m3 d3]) := hE
  have hE10 : E.size = 16 := by rw [hE]; rfl
  have hEone : E.all (·.oneCell') = true := by rw [hE]; simp [Value.oneCell']
  have HB2 : Hid (Blk (w3.setRow (w.heap.size + 1 + 1) E) (w.heap.size + 1 + 1) E 51) := HT3.out.loc.setRow
  have HB3 : Hid (Blk (w3.setRow (w.heap.size + 1 + 1) E) (w.heap.size + 1) _ 51) := HT3.out.res.setRowOther (by omega)
  clear hE
  go_wp2_with (first | go_skip | (with_reducible refine stopLoad 51 rfl ?_))
  refine load_known 51 (w.heap.size + 1 + 1) E 51 _ HB2.out rfl rfl rfl Try.underlying51 rfl (by rw [hE10]; exact infoFrI) ?_
  go_wp2_with (first | go_skip | (with_reducible refine stopStore 51 rfl ?_))
  refine store_known 51 (w.heap.size + 1) _ E 51 HB3.out rfl rfl rfl rfl (by rw [hE10]; exact infoFrI) (by rw [hE10]; rfl) hEone ?_
  have HB4 : Hid (Blk ((w3.setRow (w.heap.size + 1 + 1) E).setRow (w.heap.size + 1) E) (w.heap.size + 1) E 51) := HB3.out.setRow
  have nr : w.heap.size + 1 ∉ G := fun hx => by have := HG.out.2.1.ge _ hx; omega
  have nl : w.heap.size + 1 + 1 ∉ G := fun hx => by have := HG.out.2.1.ge _ hx; omega
  have mr : w.heap.size + 1 ∉ F := fun hx => by have := HG.out.2.2.2.1.ge _ hx; omega
  have ml : w.heap.size + 1 + 1 ∉ F := fun hx => by have := HG.out.2.2.2.1.ge _ hx; omega
  obtain ⟨w4, hw4⟩ : ∃ W, W = (w3.setRow (w.heap.size + 1 + 1) E).setRow (w.heap.size + 1) E := ⟨_, rfl⟩
  have HF : Hid (RdIt w4 (.agg #[.int .i64 x.item.seq, .int .i64 x.item.cls, .int .i64 x.item.key, .int .i64 x.item.window, .int .i64 x.item.sk.count, .int .i64 x.item.sk.sum, .int .i64 x.item.sk.min, .int .i64 x.item.sk.max, .slice b1 m1 d1, .slice b2 m2 d2, .slice b3 m3 d3]) x.item G ∧ RdP w4 b' l' x.taken F ∧ Own w.heap.size w4 F ∧ Own w.heap.size w4 G ∧ (∀ b ∈ F, b ∉ G) ∧ Below w.heap.size w w4) := by
    rw [hw4]
    exact ⟨(HG.out.1.agree (Agree.row nl E)).agree (Agree.row nr E), (HG.out.2.2.1.agree (Agree.row ml E)).agree (Agree.row mr E), ((HG.out.2.2.2.1.agree (Agree.row ml E)).agree (Agree.row mr E)).mono (by omega), ((HG.out.2.1.agree (Agree.row nl E)).agree (Agree.row nr E)).mono (by omega), HG.out.2.2.2.2, below_setRow (below_setRow HT3.out.bel (by omega) _) (by omega) _⟩
  rw [← hw4] at HB4 ⊢
  clear HB2 HB3 HG HT3 nr nl mr ml hw4
  go_wp2
  refine bodyPost_ret (results_cell_row Try.results24 _ _ (w.heap.size + 1) _ _ (0, 0) _ rfl HB4.out Try.underlying51 rfl (by rw [hE10]; exact infoFrI)) rfl ?_
  exact ⟨_, F, G, rfl, ⟨b', l', c', b1, m1, d1, b2, m2, d2, b3, m3, d3, by rw [HE.out], HF.out.2.1, HF.out.1, HCAP.out⟩, HF.out.2.2.1, HF.out.2.2.2.1, HF.out.2.2.2.2.1, HF.out.2.2.2.2.2⟩
set_option maxRecDepth 200000 in
set_option maxHeartbeats 2000000 in
theorem szFrame_vast (v : Value) (x : Fr) (F G : List Nat) (left : Int) (w : World) (h : RdFr w v x F G) (hw : x.item.sk.vast) (hids : x.taken.length ≤ 9223372036854775807) (hl0 : 0 ≤ left) (hl1 : left ≤ 1048576) :
    Calls Try.prog 22 #[v, .int .i64 left] w fun e w' => (∃ r, e = .returned (.int .i64 r) ∧ r ≤ left ∧ (0 ≤ r → r = left - x.taken.length - x.item.sk.size ∧ (x.taken.length : Int) ≤ left ∧ x.item.sk.size ≤ left) ∧ (r < 0 → left < x.taken.length + x.item.sk.size)) ∧ Below w.heap.size w w' := by
  obtain ⟨b, l, c, a1, n1, c1, a2, n2, c2, a3, n3, c3, rfl, hpd, hr, _⟩ := h
  have HR : Hid (RdIt w (.agg #[.int .i64 x.item.seq, .int .i64 x.item.cls, .int .i64 x.item.key, .int .i64 x.item.window, .int .i64 x.item.sk.count, .int .i64 x.item.sk.sum, .int .i64 x.item.sk.min, .int .i64 x.item.sk.max, .slice a1 n1 c1, .slice a2 n2 c2, .slice a3 n3 c3]) x.item G ∧ x.item.sk.vast) := ⟨hr, hw⟩
  have HL : Hid (x.taken.length = l) := hpd.length
  have HB : Hid (Below w.heap.size w (w.alloc (.cells #[.int .i64 x.kind, .int .i64 x.agent, .int .i64 x.epoch, .int .i64 x.granted, .slice b l c, .int .i64 x.item.seq, .int .i64 x.item.cls, .int .i64 x.item.key, .int .i64 x.item.window, .int .i64 x.item.sk.count, .int .i64 x.item.sk.sum, .int .i64 x.item.sk.min, .int .i64 x.item.sk.max, .slice a1 n1 c1, .slice a2 n2 c2, .slice a3 n3 c3] 44)) ∧ Blk (w.alloc (.cells #[.int .i64 x.kind, .int .i64 x.agent, .int .i64 x.epoch, .int .i64 x.granted, .slice b l c, .int .i64 x.item.seq, .int .i64 x.item.cls, .int .i64 x.item.key, .int .i64 x.item.window, .int .i64 x.item.sk.count, .int .i64 x.item.sk.sum, .int .i64 x.item.sk.min, .int .i64 x.item.sk.max, .slice a1 n1 c1, .slice a2 n2 c2, .slice a3 n3 c3] 44)) w.heap.size #[.int .i64 x.kind, .int .i64 x.agent, .int .i64 x.epoch, .int .i64 x.granted, .slice b l c, .int .i64 x.item.seq, .int .i64 x.item.cls, .int .i64 x.item.key, .int .i64 x.item.window, .int .i64 x.item.sk.count, .int .i64 x.item.sk.sum, .int .i64 x.item.sk.min, .int .i64 x.item.sk.max, .slice a1 n1 c1, .slice a2 n2 c2, .slice a3 n3 c3] 44) := ⟨Below.allocW _ (Below.refl _ _) (Nat.le_refl _), Blk.made _ _ _⟩
  have HN : Hid (0 ≤ x.item.sk.size) := by unfold Sk.size; have := sumLen_nonneg x.item.sk.rows; show _ ≤ _; omega
  have hln : l ≤ 9223372036854775807 := by rw [← hpd.length]; exact hids
  clear hr hw hpd hids
  go_enter Try.func22, Try.ntmps22
  go_wp2_with fail
  refine (szSpanS_vast b l c left _ hln hl0 hl1).mono ?_
  rintro e w1 ⟨⟨r, rfl, ra, rb, rc⟩, hw1⟩
  have hw1' := hw1.symm
  subst hw1'
  clear hw1
  by_cases q : r < 0
  · have HV : Hid (left < (x.taken.length : Int) + x.item.sk.size) := by have := rc q; have := HL.out; have := HN.out; show _ < _; omega
    clear ra rb rc
    go_wp2
    go_ret
    exact ⟨⟨-1, rfl, by omega, by omega, fun _ => HV.out⟩, HB.out.1⟩
  have hr0 : 0 ≤ r := by omega
  have HV : Hid (r = left - l ∧ r ≤ left) := ⟨rb hr0, ra⟩
  have hr1 : r ≤ 1048576 := by omega
  clear ra rb rc q
  go_wp2_with (first | go_skip | (with_reducible refine stopLoad 42 rfl ?_))
  refine load_cut 42 w.heap.size 5 11 _ #[.int .i64 x.item.seq, .int .i64 x.item.cls, .int .i64 x.item.key, .int .i64 x.item.window, .int .i64 x.item.sk.count, .int .i64 x.item.sk.sum, .int .i64 x.item.sk.min, .int .i64 x.item.sk.max, .slice a1 n1 c1, .slice a2 n2 c2, .slice a3 n3 c3] 44 _ HB.out.2 rfl rfl rfl Try.underlying42 rfl infoItL7 (by simp) rfl ?_
  go_wp2_with fail
  refine (szItem_vast _ x.item G r _ (HR.out.1.below HB.out.1) HR.out.2 hr0 hr1).mono ?_
  rintro e w2 ⟨⟨s, rfl, sa, sb, sc⟩, hb1⟩
  have HB1 : Hid (Below w.heap.size w w2) := Below.next HB.out.1 hb1
  have HS : Hid (s ≤ r ∧ (0 ≤ s → s = r - x.item.sk.size) ∧ (s < 0 → r < x.item.sk.size)) := ⟨sa, sb, sc⟩
  clear hb1 sa sb sc
  by_cases q : s < 0
  · go_wp2
    go_ret
    exact ⟨⟨-1, rfl, by omega, by omega, fun _ => by have := HS.out.2.2 q; have := HV.out; have := HL.out; omega⟩, HB1.out⟩
  · go_wp2
    go_ret
    exact ⟨⟨s, rfl, by have := HS.out; have := HV.out; omega, fun hs => by have := HS.out.2.1 hs; have := HV.out; have := HL.out; have := HN.out; omega, fun hs => by omega⟩, HB1.out⟩
set_option maxRecDepth 200000 in
set_option maxHeartbeats 4000000 in
theorem eqFrame_any (v u : Value) (x y : Fr) (F F' G G' : List Nat) (w : World) (h : RdFr w v x F F') (k : RdFr w u y G G') (hw : x.item.sk.wide) (kw : y.item.sk.wide) (hl : x.taken.length ≤ 140737488355328) (kl : y.taken.length ≤ 140737488355328) :
    Calls Try.prog 26 #[v, u] w fun e w' => e = .returned (.bool (decide (x = y))) ∧ Below w.heap.size w w' := by
  obtain ⟨p, l, g, a1, n1, c1, a2, n2, c2, a3, n3, c3, rfl, px, hx, _⟩ := h
  obtain ⟨q, k, j, b1, m1, d1, b2, m2, d2, b3, m3, d3, rfl, py, hy, _⟩ := k
  have HPX : Hid (RdP w p l x.taken F ∧ RdP w q k y.taken G ∧ l ≤ 140737488355328 ∧ k ≤ 140737488355328) := ⟨px, py, by rw [← px.length]; exact hl, by rw [← py.length]; exact kl⟩
  clear px py hl kl
  have HR : Hid (RdIt w (.agg #[.int .i64 x.item.seq, .int .i64 x.item.cls, .int .i64 x.item.key, .int .i64 x.item.window, .int .i64 x.item.sk.count, .int .i64 x.item.sk.sum, .int .i64 x.item.sk.min, .int .i64 x.item.sk.max, .slice a1 n1 c1, .slice a2 n2 c2, .slice a3 n3 c3]) x.item F' ∧ x.item.sk.wide) := ⟨hx, hw⟩
  have HY : Hid (RdIt w (.agg #[.int .i64 y.item.seq, .int .i64 y.item.cls, .int .i64 y.item.key, .int .i64 y.item.window, .int .i64 y.item.sk.count, .int .i64 y.item.sk.sum, .int .i64 y.item.sk.min, .int .i64 y.item.sk.max, .slice b1 m1 d1, .slice b2 m2 d2, .slice b3 m3 d3]) y.item G' ∧ y.item.sk.wide) := ⟨hy, kw⟩
  have HT : Hid (Two w #[.int .i64 x.kind, .int .i64 x.agent, .int .i64 x.epoch, .int .i64 x.granted, .slice p l g, .int .i64 x.item.seq, .int .i64 x.item.cls, .int .i64 x.item.key, .int .i64 x.item.window, .int .i64 x.item.sk.count, .int .i64 x.item.sk.sum, .int .i64 x.item.sk.min, .int .i64 x.item.sk.max, .slice a1 n1 c1, .slice a2 n2 c2, .slice a3 n3 c3] #[.int .i64 y.kind, .int .i64 y.agent, .int .i64 y.epoch, .int .i64 y.granted, .slice q k j, .int .i64 y.item.seq, .int .i64 y.item.cls, .int .i64 y.item.key, .int .i64 y.item.window, .int .i64 y.item.sk.count, .int .i64 y.item.sk.sum, .int .i64 y.item.sk.min, .int .i64 y.item.sk.max, .slice b1 m1 d1, .slice b2 m2 d2, .slice b3 m3 d3] 51 ((w.alloc (.cells #[.int .i64 x.kind, .int .i64 x.agent, .int .i64 x.epoch, .int .i64 x.granted, .slice p l g, .int .i64 x.item.seq, .int .i64 x.item.cls, .int .i64 x.item.key, .int .i64 x.item.window, .int .i64 x.item.sk.count, .int .i64 x.item.sk.sum, .int .i64 x.item.sk.min, .int .i64 x.item.sk.max, .slice a1 n1 c1, .slice a2 n2 c2, .slice a3 n3 c3] 51)).alloc (.cells #[.int .i64 y.kind, .int .i64 y.agent, .int .i64 y.epoch, .int .i64 y.granted, .slice q k j, .int .i64 y.item.seq, .int .i64 y.item.cls, .int .i64 y.item.key, .int .i64 y.item.window, .int .i64 y.item.sk.count, .int .i64 y.item.sk.sum, .int .i64 y.item.sk.min, .int .i64 y.item.sk.max, .slice b1 m1 d1, .slice b2 m2 d2, .slice b3 m3 d3] 51))) := Two.made ..
  clear hx hy hw kw
  go_enter Try.func26, Try.ntmps26
  by_cases h0 : x.kind = y.kind
  rotate_left
  · have e0 : (x.kind != y.kind) = true := by simpa using h0
    have HV : Hid (decide (x = y) = false) := dec_false (fun e => h0 (by rw [e]))
    clear h0
    go_wp2
    go_ret
    exact ⟨ret_bool HV.out.symm, HT.out.bel⟩
  have e0 : (x.kind != y.kind) = false := by simpa using h0
  have H0 : Hid (x.kind = y.kind) := h0
  clear h0
  by_cases h1 : x.agent = y.agent
  rotate_left
  · have e1 : (x.agent != y.agent) = true := by simpa using h1
    have HV : Hid (decide (x = y) = false) := dec_false (fun e => h1 (by rw [e]))
    clear h1
    go_wp2
    go_ret
    exact ⟨ret_bool HV.out.symm, HT.out.bel⟩
  have e1 : (x.agent != y.agent) = false := by simpa using h1
  have H1 : Hid (x.agent = y.agent) := h1
  clear h1
  by_cases h2 : x.epoch = y.epoch
  rotate_left
  · have e2 : (x.epoch != y.epoch) = true := by simpa using h2
    have HV : Hid (decide (x = y) = false) := dec_false (fun e => h2 (by rw [e]))
    clear h2
    go_wp2
    go_ret
    exact ⟨ret_bool HV.out.symm, HT.out.bel⟩
  have e2 : (x.epoch != y.epoch) = false := by simpa using h2
  have H2 : Hid (x.epoch = y.epoch) := h2
  clear h2
  by_cases h3 : x.granted = y.granted
  rotate_left
  · have e3 : (x.granted != y.granted) = true := by simpa using h3
    have HV : Hid (decide (x = y) = false) := dec_false (fun e => h3 (by rw [e]))
    clear h3
    go_wp2
    go_ret
    exact ⟨ret_bool HV.out.symm, HT.out.bel⟩
  have e3 : (x.granted != y.granted) = false := by simpa using h3
  have H3 : Hid (x.granted = y.granted) := h3
  clear h3
  go_wp2_with fail
  refine (eqSpanS_any p q l k g j x.taken y.taken F G _ (HPX.out.1.below HT.out.bel) (HPX.out.2.1.below HT.out.bel) HPX.out.2.2.1 HPX.out.2.2.2).mono ?_
  rintro e w1 ⟨rfl, hb1⟩
  have HT1 : Hid (Two w #[.int .i64 x.kind, .int .i64 x.agent, .int .i64 x.epoch, .int .i64 x.granted, .slice p l g, .int .i64 x.item.seq, .int .i64 x.item.cls, .int .i64 x.item.key, .int .i64 x.item.window, .int .i64 x.item.sk.count, .int .i64 x.item.sk.sum, .int .i64 x.item.sk.min, .int .i64 x.item.sk.max, .slice a1 n1 c1, .slice a2 n2 c2, .slice a3 n3 c3] #[.int .i64 y.kind, .int .i64 y.agent, .int .i64 y.epoch, .int .i64 y.granted, .slice q k j, .int .i64 y.item.seq, .int .i64 y.item.cls, .int .i64 y.item.key, .int .i64 y.item.window, .int .i64 y.item.sk.count, .int .i64 y.item.sk.sum, .int .i64 y.item.sk.min, .int .i64 y.item.sk.max, .slice b1 m1 d1, .slice b2 m2 d2, .slice b3 m3 d3] 51 w1) := HT.out.below hb1
  obtain ⟨d, hd⟩ : ∃ d, d = decide (x.taken = y.taken) := ⟨_, rfl⟩
  rw [← hd]
  have HD : Hid (d = decide (x.taken = y.taken)) := hd
  clear hb1 HT hd
  cases d
  · have HV : Hid (decide (x = y) = false) := dec_false (fun e => by have := HD.out.symm; rw [decide_eq_false_iff_not] at this; exact this (by rw [e]))
    go_wp2
    go_ret
    exact ⟨ret_bool HV.out.symm, HT1.out.bel⟩
  have HI : Hid (x.taken = y.taken) := by show x.taken = y.taken; exact of_decide_eq_true HD.out.symm
  go_wp2_with (first | go_skip | (with_reducible refine stopLoad 49 rfl ?_))
  refine load_cut 49 w.heap.size 5 11 _ #[.int .i64 x.item.seq, .int .i64 x.item.cls, .int .i64 x.item.key, .int .i64 x.item.window, .int .i64 x.item.sk.count, .int .i64 x.item.sk.sum, .int .i64 x.item.sk.min, .int .i64 x.item.sk.max, .slice a1 n1 c1, .slice a2 n2 c2, .slice a3 n3 c3] 51 _ HT1.out.fst rfl rfl rfl Try.underlying49 rfl infoItA7 (by simp) rfl ?_
  go_wp2_with (first | go_skip | (with_reducible refine stopLoad 49 rfl ?_))
  refine load_cut 49 (w.heap.size + 1) 5 11 _ #[.int .i64 y.item.seq, .int .i64 y.item.cls, .int .i64 y.item.key, .int .i64 y.item.window, .int .i64 y.item.sk.count, .int .i64 y.item.sk.sum, .int .i64 y.item.sk.min, .int .i64 y.item.sk.max, .slice b1 m1 d1, .slice b2 m2 d2, .slice b3 m3 d3] 51 _ HT1.out.snd rfl rfl rfl Try.underlying49 rfl infoItA7 (by simp) rfl ?_
  go_wp2_with fail
  refine (eqItem_any _ _ x.item y.item F' G' _ (HR.out.1.below HT1.out.bel) (HY.out.1.below HT1.out.bel) HR.out.2 HY.out.2).mono ?_
  rintro e w2 ⟨rfl, hb2⟩
  have HB2 : Hid (Below w.heap.size w w2) := Below.next HT1.out.bel hb2
  obtain ⟨f, hf⟩ : ∃ d, d = decide (x.item = y.item) := ⟨_, rfl⟩
  rw [← hf]
  have HF : Hid (f = decide (x.item = y.item)) := hf
  clear hb2 hf
  cases f
  · have HV : Hid (decide (x = y) = false) := dec_false (fun e => by have := HF.out.symm; rw [decide_eq_false_iff_not] at this; exact this (by rw [e]))
    go_wp2
    go_ret
    exact ⟨ret_bool HV.out.symm, HB2.out⟩
  have HV : Hid (decide (x = y) = true) := dec_true (Fr.eq_of H0.out H1.out H2.out H3.out HI.out (of_decide_eq_true HF.out.symm))
  go_wp2
  go_ret
  exact ⟨ret_bool HV.out.symm, HB2.out⟩
end Go.Proofs.Ytjndcfamfminkaq
/- Frames that came in. No statement of the seat is proved here. -/
namespace Go.Proofs.Ytjndcfamfminkaq
open Go.RowKit Go.WideShapes Go.ChangeShapes Go.ChangeAt Go.Deep
set_option maxRecDepth 100000 in
set_option maxHeartbeats 1000000 in
theorem open_it11 {H : Type} {enc : TypeId × Value → H} {W : World} {e0 e1 e2 e3 e4 e5 e6 e7 e8 e9 e10 : Value} {d : DataW H} {p : List MemPlace} (h : DataW.Trod enc Try.prog W 0 (fun _ => true) true 42 (.agg ⟨[e0, e1, e2, e3, e4, e5, e6, e7, e8, e9, e10]⟩) d p) :
    ∃ x F, RdIt W (.agg ⟨[e0, e1, e2, e3, e4, e5, e6, e7, e8, e9, e10]⟩) x F ∧ x.sk.vast := by
  have c3 : Try.prog.cellsOf 3 = 1 := by kernel_rfl
  have c7 : Try.prog.cellsOf 25 = 7 := by kernel_rfl
  obtain ⟨fuel, hf⟩ := h
  obtain ⟨xs, n, _, _, _, hlen, hx⟩ := DataW.trod_struct Try.underlying42 hf
  match xs, hlen with
  | [y0, y1, y2, y3, y4], _ =>
    have g0 := hx 0 _ rfl
    have g1 := hx 1 _ rfl
    have g2 := hx 2 _ rfl
    have g3 := hx 3 _ rfl
    have g4 := hx 4 _ rfl
    simp [Value.cells, c3, c7] at g0 g1 g2 g3 g4
    obtain ⟨i0, q0, _, _⟩ := DataW.trod_int Try.underlying3 g0
    obtain ⟨i1, q1, _, _⟩ := DataW.trod_int Try.underlying3 g1
    obtain ⟨i2, q2, _, _⟩ := DataW.trod_int Try.underlying3 g2
    obtain ⟨i3, q3, _, _⟩ := DataW.trod_int Try.underlying3 g3
    simp at q0 q1 q2 q3
    subst q0 q1 q2 q3
    obtain ⟨s, F, hr, hv7⟩ := open_sk7 (e0 := e4) (e1 := e5) (e2 := e6) (e3 := e7) (e4 := e8) (e5 := e9) (e6 := e10) ⟨_, g4⟩
    obtain ⟨a1, n1, c1, a2, n2, c2, a3, n3, c3', ev⟩ := hr.cells7
    simp only [Value.agg.injEq] at ev
    cases ev
    exact ⟨⟨i0, i1, i2, i3, s⟩, F, ⟨a1, n1, c1, a2, n2, c2, a3, n3, c3', rfl, hr⟩, hv7⟩
set_option maxRecDepth 100000 in
set_option maxHeartbeats 1000000 in
theorem open_frame {H : Type} {enc : TypeId × Value → H} {W : World} {base : Nat} {v : Value} {d : DataW H} {p : List MemPlace} (hv : Value.okWide Try.prog W .any base 44 v) (h : DataW.Trod enc Try.prog W 0 (fun _ => true) true 44 v d p) :
    ∃ x F G, RdFr W v x F G ∧ x.item.sk.vast ∧ x.taken.length ≤ 9223372036854775807 := by
  obtain ⟨cs, rfl, hsz⟩ := okWide_struct Try.underlying44 hv
  have hC : Try.prog.cellsOf 44 = 16 := by kernel_rfl
  have c3 : Try.prog.cellsOf 3 = 1 := by kernel_rfl
  have c4 : Try.prog.cellsOf 40 = 1 := by kernel_rfl
  have c7 : Try.prog.cellsOf 42 = 11 := by kernel_rfl
  rw [hC] at hsz
  obtain ⟨l⟩ := cs
  match l, hsz with
  | [e0, e1, e2, e3, e4, e5, e6, e7, e8, e9, e10, e11, e12, e13, e14, e15], _ =>
    obtain ⟨fuel, hf⟩ := h
    obtain ⟨xs, n, _, _, _, hlen, hx⟩ := DataW.trod_struct Try.underlying44 hf
    match xs, hlen with
    | [y0, y1, y2, y3, y4, y5], _ =>
      have g0 := hx 0 _ rfl
      have g1 := hx 1 _ rfl
      have g2' := hx 2 _ rfl
      have g3' := hx 3 _ rfl
      have g2 := hx 4 _ rfl
      have g3 := hx 5 _ rfl
      simp [Value.cells, c3, c4, c7] at g0 g1 g2' g3' g2 g3
      clear hx
      obtain ⟨i0, q0, _, _⟩ := DataW.trod_int Try.underlying3 g0
      obtain ⟨i1, q1, _, _⟩ := DataW.trod_int Try.underlying3 g1
      obtain ⟨i2, q2, _, _⟩ := DataW.trod_int Try.underlying3 g2'
      obtain ⟨i3, q3, _, _⟩ := DataW.trod_int Try.underlying3 g3'
      simp at q0 q1 q2 q3
      subst q0 q1 q2 q3
      obtain ⟨s, G, hr, hv7⟩ := open_it11 (e0 := e5) (e1 := e6) (e2 := e7) (e3 := e8) (e4 := e9) (e5 := e10) (e6 := e11) (e7 := e12) (e8 := e13) (e9 := e14) (e10 := e15) ⟨_, g3⟩
      obtain ⟨a1, n1, c1, a2, n2, c2', a3, n3, c3', ev⟩ := hr.cells11
      simp only [Value.agg.injEq] at ev
      cases ev
      have c2 : Try.prog.cellsOf 127 = 2 := by kernel_rfl
      obtain ⟨b, l, c, ps, F, rfl, hp, hb, hcp⟩ : ∃ a len cap ps F, e4 = .slice a len cap ∧ RdP W a len ps F ∧ len ≤ 9223372036854775807 ∧ Capd a len cap := by
        rcases open_slice_pairs Try.underlying40 Try.underlying127 c2 rfl rfl c3 c3 g2 with ⟨q, _⟩ | ⟨x, len, cap, m, n, V0, V1, D0, D1, P0, P1, q, _, hl, hm, hmm, _, hx⟩
        · simp at q
          subst q
          exact ⟨none, 0, 0, [], [], rfl, RdP.nil, by omega, fun _ => rfl, Nat.le_refl _⟩
        · simp at q
          subst q
          have hm2 : m = cap := by rw [hmm]; simp
          subst hm2
          have hb : len ≤ 9223372036854775807 := by unfold maxLen at hm; omega
          have ints : ∀ i, i < m → ∃ y z : Int, V0 i = .int .i64 y ∧ V1 i = .int .i64 z ∧ (Lit.int .i64 y).wf = true ∧ (Lit.int .i64 z).wf = true := fun i hi => by
            obtain ⟨_, _, h3, h4⟩ := hx i hi
            obtain ⟨y, q0, _, w0⟩ := DataW.trod_int Try.underlying3 h3
            obtain ⟨z, q1, _, w1⟩ := DataW.trod_int Try.underlying3 h4
            simp at q0 q1
            exact ⟨y, z, q0, q1, w0, w1⟩
          have hN : ∀ i, i < m → V0 i = .int .i64 (intOf (V0 i)) ∧ V1 i = .int .i64 (intOf (V1 i)) ∧ Fit64 (intOf (V0 i)) ∧ Fit64 (intOf (V1 i)) := fun i hi => by
            obtain ⟨y, z, e0, e1, w0, w1⟩ := ints i hi
            rw [e0, e1]
            exact ⟨rfl, rfl, int_wf w0, int_wf w1⟩
          by_cases h0 : len = 0
          · subst h0
            exact ⟨_, 0, _, [], [], rfl, RdP.nil, by omega, fun e => (by cases e), hl⟩
          · obtain ⟨b, off, rfl⟩ := sp_addr (hx 0 (by omega)).1
            refine ⟨_, len, m, (List.range len).map fun i => (intOf (V0 i), intOf (V1 i)), [b], rfl, rdP_mk _ (by simp) (by omega) (fun i hi => ?_), hb, fun e => (by cases e), hl⟩
            · rw [flat_range len _ _ i hi]
              have h1 := (hx i (by omega)).1
              have h2 := (hx i (by omega)).2.1
              rw [sp_add] at h1 h2
              rw [(hN i (by omega)).1] at h1
              rw [(hN i (by omega)).2.1] at h2
              exact ⟨h1, by rw [show off + i * 2 + 1 = off + (i * 2 + 1) by omega]; exact h2⟩
      exact ⟨⟨i0, i1, i2, i3, ps, s⟩, F, G, ⟨b, l, c, a1, n1, c1, a2, n2, c2', a3, n3, c3', rfl, hp, hr, hcp⟩, hv7, by rw [hp.length]; exact hb⟩
end Go.Proofs.Ytjndcfamfminkaq
/- What the laws over items and entries share. No statement of the seat is proved here. -/
namespace Go.Proofs.Ytjndcfamfminkaq
open Go.RowKit Go.WideShapes Go.ChangeShapes Go.ChangeAt
theorem RdIt.cells {w : World} {v : Value} {x : It} {F : List Nat} (h : RdIt w v x F) : ∃ cs : Array Value, v = .agg cs ∧ cs.size = 11 ∧ cs.all (·.oneCell') = true := by
  obtain ⟨a1, n1, c1, a2, n2, c2, a3, n3, c3, rfl, _⟩ := h
  exact ⟨_, rfl, rfl, by simp [Value.oneCell']⟩
/-- An entry's value that can be read; F: its blocks. -/
def RdE (w : World) (v : Value) (x : En) (F : List Nat) : Prop := ∃ F1 F2, F = F1 ++ F2 ∧ RdEn w v x F1 F2
theorem RdE.agree {w w' : World} {v : Value} {x : En} {F : List Nat} (h : RdE w v x F) (ha : Agree w w' F) : RdE w' v x F := by
  obtain ⟨F1, F2, rfl, h⟩ := h
  exact ⟨F1, F2, rfl, h.agree (fun b hb => ha b (List.mem_append_left _ hb)) (fun b hb => ha b (List.mem_append_right _ hb))⟩
theorem RdE.lt {w : World} {v : Value} {x : En} {F : List Nat} (h : RdE w v x F) : ∀ b ∈ F, b < w.heap.size := by
  obtain ⟨F1, F2, rfl, h⟩ := h
  exact fun b hb => (List.mem_append.1 hb).elim (h.lt1 b) (h.lt2 b)
theorem RdE.below {w w' : World} {v : Value} {x : En} {F : List Nat} (h : RdE w v x F) (hb : Below w.heap.size w w') : RdE w' v x F := h.agree (.below hb h.lt)
theorem RdE.cells {w : World} {v : Value} {x : En} {F : List Nat} (h : RdE w v x F) : ∃ cs : Array Value, v = .agg cs ∧ cs.size = 10 ∧ cs.all (·.oneCell') = true := by
  obtain ⟨F1, F2, rfl, b, l, c, a1, n1, c1, a2, n2, c2, a3, n3, c3, rfl, _⟩ := h
  exact ⟨_, rfl, rfl, by simp [Value.oneCell']⟩
def It.vast (x : It) : Prop := x.sk.vast
def It.fits (x : It) : Prop := x.sk.fits
def It.wide (x : It) : Prop := x.sk.wide
theorem It.fits.wide {x : It} (h : x.fits) : x.wide := Sk.fits.wide h
def En.vast (x : En) : Prop := x.sk.vast ∧ x.ids.length ≤ 9223372036854775807
def En.fits (x : En) : Prop := x.sk.fits ∧ x.ids.length ≤ 1048576
def En.wide (x : En) : Prop := x.sk.wide ∧ x.ids.length ≤ 1048576
theorem En.fits.wide {x : En} (h : x.fits) : x.wide := ⟨h.1.wide, h.2⟩
theorem It.fits_of {x : It} {r left : Int} (h : r = left - x.sk.size) (h0 : 0 ≤ r) (hl : left ≤ 1048576) : x.fits := Sk.fits_of (by omega)
theorem En.fits_of {x : En} {r left : Int} (h : r = left - x.ids.length - x.sk.size ∧ (x.ids.length : Int) ≤ left ∧ x.sk.size ≤ left) (_h0 : 0 ≤ r) (hl : left ≤ 1048576) : x.fits := ⟨Sk.fits_of (by omega), by omega⟩
theorem itSize {cs : Array Value} (h : cs.size = 11) : (Try.prog.info? 49).map (·.size) = some cs.size := by rw [h]; kernel_rfl
theorem litSize {cs : Array Value} (h : cs.size = 11) : (Try.prog.info? 42).map (·.size) = some cs.size := by rw [h]; kernel_rfl
def ItTwo (g : Nat) (cs : Array Value) (k : Nat) (ds : Array Value) (W : World) : Prop := Blk W g cs 42 ∧ Blk W k ds 49
end Go.Proofs.Ytjndcfamfminkaq
/- What the laws over frames share. No statement of the seat is proved here. -/
namespace Go.Proofs.Ytjndcfamfminkaq
open Go.RowKit Go.WideShapes Go.ChangeShapes Go.ChangeAt
/-- A frame's value that can be read; F: its blocks. -/
def RdF (w : World) (v : Value) (x : Fr) (F : List Nat) : Prop := ∃ F1 F2, F = F1 ++ F2 ∧ RdFr w v x F1 F2
theorem RdF.agree {w w' : World} {v : Value} {x : Fr} {F : List Nat} (h : RdF w v x F) (ha : Agree w w' F) : RdF w' v x F := by
  obtain ⟨F1, F2, rfl, h⟩ := h
  exact ⟨F1, F2, rfl, h.agree (fun b hb => ha b (List.mem_append_left _ hb)) (fun b hb => ha b (List.mem_append_right _ hb))⟩
theorem RdF.lt {w : World} {v : Value} {x : Fr} {F : List Nat} (h : RdF w v x F) : ∀ b ∈ F, b < w.heap.size := by
  obtain ⟨F1, F2, rfl, h⟩ := h
  exact fun b hb => (List.mem_append.1 hb).elim (h.lt1 b) (h.lt2 b)
theorem RdF.below {w w' : World} {v : Value} {x : Fr} {F : List Nat} (h : RdF w v x F) (hb : Below w.heap.size w w') : RdF w' v x F := h.agree (.below hb h.lt)
theorem RdF.cells {w : World} {v : Value} {x : Fr} {F : List Nat} (h : RdF w v x F) : ∃ cs : Array Value, v = .agg cs ∧ cs.size = 16 ∧ cs.all (·.oneCell') = true := by
  obtain ⟨F1, F2, rfl, b, l, c, a1, n1, c1, a2, n2, c2, a3, n3, c3, rfl, _⟩ := h
  exact ⟨_, rfl, rfl, by simp [Value.oneCell']⟩
def Fr.vast (x : Fr) : Prop := x.item.sk.vast ∧ x.taken.length ≤ 9223372036854775807
def Fr.fits (x : Fr) : Prop := x.item.sk.fits ∧ x.taken.length ≤ 1048576
def Fr.wide (x : Fr) : Prop := x.item.sk.wide ∧ x.taken.length ≤ 1048576
theorem Fr.fits.wide {x : Fr} (h : x.fits) : x.wide := ⟨h.1.wide, h.2⟩
theorem Fr.fits_of {x : Fr} {r left : Int} (h : r = left - x.taken.length - x.item.sk.size ∧ (x.taken.length : Int) ≤ left ∧ x.item.sk.size ≤ left) (_h0 : 0 ≤ r) (hl : left ≤ 1048576) : x.fits := ⟨Sk.fits_of (by omega), by omega⟩
theorem frSize {cs : Array Value} (h : cs.size = 16) : (Try.prog.info? 51).map (·.size) = some cs.size := by rw [h]; kernel_rfl
theorem lfrSize {cs : Array Value} (h : cs.size = 16) : (Try.prog.info? 44).map (·.size) = some cs.size := by rw [h]; kernel_rfl
def FrTwo (g : Nat) (cs : Array Value) (k : Nat) (ds : Array Value) (W : World) : Prop := Blk W g cs 44 ∧ Blk W k ds 51
set_option maxRecDepth 200000 in
theorem toF_any (v : Value) (x : Fr) (F : List Nat) (w : World) (h : RdF w v x F) (hf : x.fits) :
    Calls Try.prog 24 #[v] w fun e w' => ∃ v' G, e = .returned v' ∧ RdF w' v' x G ∧ Own w.heap.size w' G ∧ Below w.heap.size w w' := by
  obtain ⟨F1, F2, rfl, h⟩ := h
  refine (toFrame_any v x F1 F2 w h hf.1 hf.2).mono ?_
  rintro e w' ⟨v', F', G', he, hr, ho, ho', hd, hb⟩
  exact ⟨v', F' ++ G', he, ⟨F', G', rfl, hr⟩, ho.app ho' hd, hb⟩
set_option maxRecDepth 100000 in
theorem open_F {H : Type} {enc : TypeId × Value → H} {W : World} {base : Nat} {v : Value} {d : DataW H} {p : List MemPlace} (hv : Value.okWide Try.prog W .any base 44 v) (h : DataW.Trod enc Try.prog W 0 (fun _ => true) true 44 v d p) :
    ∃ x F, RdF W v x F ∧ x.vast := by
  obtain ⟨x, F, G, h1, h2, h3⟩ := open_frame hv h
  exact ⟨x, F ++ G, ⟨F, G, rfl, h1⟩, h2, h3⟩
set_option maxRecDepth 200000 in
theorem szF_vast (v : Value) (x : Fr) (F : List Nat) (left : Int) (w : World) (h : RdF w v x F) (hw : x.vast) (hl0 : 0 ≤ left) (hl1 : left ≤ 1048576) :
    Calls Try.prog 22 #[v, .int .i64 left] w fun e w' => (∃ r, e = .returned (.int .i64 r) ∧ r ≤ left ∧ (0 ≤ r → r = left - x.taken.length - x.item.sk.size ∧ (x.taken.length : Int) ≤ left ∧ x.item.sk.size ≤ left) ∧ (r < 0 → left < x.taken.length + x.item.sk.size)) ∧ Below w.heap.size w w' := by
  obtain ⟨F1, F2, rfl, h⟩ := h
  exact szFrame_vast v x F1 F2 left w h hw.1 hw.2 hl0 hl1
set_option maxRecDepth 200000 in
theorem eqF_any (v u : Value) (x y : Fr) (F G : List Nat) (w : World) (h : RdF w v x F) (k : RdF w u y G) (hw : x.wide) (kw : y.wide) :
    Calls Try.prog 26 #[v, u] w fun e w' => e = .returned (.bool (decide (x = y))) ∧ Below w.heap.size w w' := by
  obtain ⟨F1, F2, rfl, h⟩ := h
  obtain ⟨G1, G2, rfl, k⟩ := k
  exact eqFrame_any v u x y F1 F2 G1 G2 w h k hw.1 kw.1 (by have := hw.2; omega) (by have := kw.2; omega)
end Go.Proofs.Ytjndcfamfminkaq
/- Entries and items that are marked; an entry in a variable of the law's own. No statement of the seat is proved here. -/
namespace Go.Proofs.Ytjndcfamfminkaq
open Go.RowKit
/-- The pairs that a marked set bears. -/
def markP (k : Int) (n : Nat) : Sp := (List.range n).map fun i : Nat => (k + 2 * (i : Int), k + 2 * (i : Int) + 1)
theorem flat_markP (k : Int) (n : Nat) : flat (markP k n) = marksI k (2 * n) := by
  induction n with
  | zero => rfl
  | succ n ih =>
    have e : markP k (n + 1) = markP k n ++ [(k + 2 * (n : Int), k + 2 * (n : Int) + 1)] := by unfold markP; rw [List.range_succ, List.map_append]; rfl
    rw [e, flat_append, ih, show 2 * (n + 1) = 2 * n + 1 + 1 by omega, marksI, marksI, List.append_assoc]
    have e1 : k + ((2 * n : Nat) : Int) = k + 2 * (n : Int) := by omega
    have e2 : k + ((2 * n + 1 : Nat) : Int) = k + 2 * (n : Int) + 1 := by omega
    rw [e1, e2]
    rfl
theorem markP_length (k : Int) (n : Nat) : (markP k n).length = n := by unfold markP; simp
def En.many (x : En) : Int := 2 * x.ids.length + x.sk.many
def En.marked (k : Int) (x : En) : En := ⟨x.key, x.window, markP k x.ids.length, x.sk.marked (k + 2 * x.ids.length)⟩
structure MarkedE (B : Nat) (w : World) (v : Value) (k : Int) (x : En) (F : List Nat) (w' : World) : Prop where
  rd : RdE w' v (x.marked k) F
  own : Own B w' F
  only : Only F w w'
theorem Sk.many_nonneg (s : Sk) : 0 ≤ s.many := by
  have := sumLen_nonneg s.rows
  unfold Sk.many
  omega
theorem Sk.size_nonneg (s : Sk) : 0 ≤ s.size := by
  have h0 := sumLen_nonneg s.rows
  unfold Sk.size
  omega
theorem En.fits_sz {x : En} (h : x.ids.length + x.sk.size ≤ 1048576) : x.fits := by
  have := Sk.size_nonneg x.sk
  exact ⟨Sk.fits_of (by omega), by omega⟩
theorem En.many_fits {x : En} (h : x.ids.length + x.sk.size ≤ 1048576) : 0 ≤ x.many ∧ x.many ≤ 4194304 := by
  have h1 := Sk.many_nonneg x.sk
  have h2 : x.sk.many ≤ x.sk.size := by
    have h0 := sumLen_nonneg x.sk.rows
    unfold Sk.size Sk.many
    omega
  unfold En.many
  omega
set_option maxRecDepth 200000 in
set_option maxHeartbeats 1000000 in
theorem markIt_any (B : Nat) (v : Value) (x : It) (F : List Nat) (k : Int) (w : World) (h : RdIt w v x F) (ho : Own B w F) (hw : x.wide) (hk0 : 0 ≤ k) (hk1 : k + x.sk.many ≤ 1000000000000) :
    Calls Try.prog 70 #[v, .int .i64 k] w fun e w' => e = .returned (.int .i64 (k + x.sk.many)) ∧ (∃ y, RdIt w' v y F) ∧ Own B w' F ∧ Only F w w' := by
  obtain ⟨a1, n1, c1, a2, n2, c2, a3, n3, c3, rfl, hr⟩ := h
  have hm0 := Sk.many_nonneg x.sk
  have HM : Hid (k + x.sk.many ≤ 1000000000000 ∧ 0 ≤ x.sk.many) := ⟨hk1, hm0⟩
  have HW : Hid (x.sk.wide) := hw
  have HB : Hid (Below w.heap.size w (w.alloc (.cells #[.int .i64 x.seq, .int .i64 x.cls, .int .i64 x.key, .int .i64 x.window, .int .i64 x.sk.count, .int .i64 x.sk.sum, .int .i64 x.sk.min, .int .i64 x.sk.max, .slice a1 n1 c1, .slice a2 n2 c2, .slice a3 n3 c3] 49)) ∧ Blk (w.alloc (.cells #[.int .i64 x.seq, .int .i64 x.cls, .int .i64 x.key, .int .i64 x.window, .int .i64 x.sk.count, .int .i64 x.sk.sum, .int .i64 x.sk.min, .int .i64 x.sk.max, .slice a1 n1 c1, .slice a2 n2 c2, .slice a3 n3 c3] 49)) w.heap.size #[.int .i64 x.seq, .int .i64 x.cls, .int .i64 x.key, .int .i64 x.window, .int .i64 x.sk.count, .int .i64 x.sk.sum, .int .i64 x.sk.min, .int .i64 x.sk.max, .slice a1 n1 c1, .slice a2 n2 c2, .slice a3 n3 c3] 49) := ⟨(Below.refl _ _).alloc (Nat.le_refl _) _, Blk.made _ _ _⟩
  have HR : Hid (RdSk w (.agg #[.int .i64 x.sk.count, .int .i64 x.sk.sum, .int .i64 x.sk.min, .int .i64 x.sk.max, .slice a1 n1 c1, .slice a2 n2 c2, .slice a3 n3 c3]) x.sk F ∧ Own B w F) := ⟨hr, ho⟩
  clear hr ho hw hk1 hm0
  go_enter Try.func70, Try.ntmps70
  go_wp2_with (first | go_skip | (with_reducible refine stopLoad 29 rfl ?_))
  refine load_cutw 29 w.heap.size 4 7 _ #[.int .i64 x.sk.count, .int .i64 x.sk.sum, .int .i64 x.sk.min, .int .i64 x.sk.max, .slice a1 n1 c1, .slice a2 n2 c2, .slice a3 n3 c3] 49 _ HB.out.2 rfl rfl rfl Try.underlying29 rfl infoSkI (by simp) rfl ?_
  go_wp2_with fail
  refine (markSketch_any B _ x.sk F k _ (HR.out.1.below HB.out.1) (HR.out.2.below HR.out.1.lt HB.out.1) HW.out hk0 HM.out.1).mono ?_
  rintro e w2 ⟨rfl, m2⟩
  have H2 : Hid (RdSk w2 (.agg #[.int .i64 x.sk.count, .int .i64 x.sk.sum, .int .i64 x.sk.min, .int .i64 x.sk.max, .slice a1 n1 c1, .slice a2 n2 c2, .slice a3 n3 c3]) (x.sk.marked k) F ∧ Own B w2 F ∧ Only F w w2) := ⟨m2.rd, m2.own, (Only.of_below HB.out.1).trans m2.only⟩
  clear m2
  obtain ⟨y2, hy2⟩ : ∃ y, y = k + x.sk.many := ⟨_, rfl⟩
  rw [← hy2]
  have HY2 : Hid (y2 = k + x.sk.many) := hy2
  clear hy2
  go_wp2
  go_ret
  exact ⟨ret_int HY2.out, ⟨⟨x.seq, x.cls, x.key, x.window, x.sk.marked k⟩, a1, n1, c1, a2, n2, c2, a3, n3, c3, rfl, H2.out.1⟩, H2.out.2.1, H2.out.2.2⟩
end Go.Proofs.Ytjndcfamfminkaq
/- Frames that are marked; a frame in a variable of the law's own. No statement of the seat is proved here. -/
namespace Go.Proofs.Ytjndcfamfminkaq
open Go.RowKit
def It.marked (k : Int) (x : It) : It := { x with sk := x.sk.marked k }
structure MarkedIt (B : Nat) (w : World) (v : Value) (k : Int) (x : It) (F : List Nat) (w' : World) : Prop where
  rd : RdIt w' v (x.marked k) F
  own : Own B w' F
  only : Only F w w'
set_option maxRecDepth 200000 in
set_option maxHeartbeats 1000000 in
theorem markItem_any (B : Nat) (v : Value) (x : It) (F : List Nat) (k : Int) (w : World) (h : RdIt w v x F) (ho : Own B w F) (hw : x.wide) (hk0 : 0 ≤ k) (hk1 : k + x.sk.many ≤ 1000000000000) :
    Calls Try.prog 70 #[v, .int .i64 k] w fun e w' => e = .returned (.int .i64 (k + x.sk.many)) ∧ MarkedIt B w v k x F w' := by
  obtain ⟨a1, n1, c1, a2, n2, c2, a3, n3, c3, rfl, hr⟩ := h
  have hm0 := Sk.many_nonneg x.sk
  have HM : Hid (k + x.sk.many ≤ 1000000000000 ∧ 0 ≤ x.sk.many) := ⟨hk1, hm0⟩
  have HW : Hid (x.sk.wide) := hw
  have HB : Hid (Below w.heap.size w (w.alloc (.cells #[.int .i64 x.seq, .int .i64 x.cls, .int .i64 x.key, .int .i64 x.window, .int .i64 x.sk.count, .int .i64 x.sk.sum, .int .i64 x.sk.min, .int .i64 x.sk.max, .slice a1 n1 c1, .slice a2 n2 c2, .slice a3 n3 c3] 49)) ∧ Blk (w.alloc (.cells #[.int .i64 x.seq, .int .i64 x.cls, .int .i64 x.key, .int .i64 x.window, .int .i64 x.sk.count, .int .i64 x.sk.sum, .int .i64 x.sk.min, .int .i64 x.sk.max, .slice a1 n1 c1, .slice a2 n2 c2, .slice a3 n3 c3] 49)) w.heap.size #[.int .i64 x.seq, .int .i64 x.cls, .int .i64 x.key, .int .i64 x.window, .int .i64 x.sk.count, .int .i64 x.sk.sum, .int .i64 x.sk.min, .int .i64 x.sk.max, .slice a1 n1 c1, .slice a2 n2 c2, .slice a3 n3 c3] 49) := ⟨(Below.refl _ _).alloc (Nat.le_refl _) _, Blk.made _ _ _⟩
  have HR : Hid (RdSk w (.agg #[.int .i64 x.sk.count, .int .i64 x.sk.sum, .int .i64 x.sk.min, .int .i64 x.sk.max, .slice a1 n1 c1, .slice a2 n2 c2, .slice a3 n3 c3]) x.sk F ∧ Own B w F) := ⟨hr, ho⟩
  clear hr ho hw hk1 hm0
  go_enter Try.func70, Try.ntmps70
  go_wp2_with (first | go_skip | (with_reducible refine stopLoad 29 rfl ?_))
  refine load_cutw 29 w.heap.size 4 7 _ #[.int .i64 x.sk.count, .int .i64 x.sk.sum, .int .i64 x.sk.min, .int .i64 x.sk.max, .slice a1 n1 c1, .slice a2 n2 c2, .slice a3 n3 c3] 49 _ HB.out.2 rfl rfl rfl Try.underlying29 rfl infoSkI (by simp) rfl ?_
  go_wp2_with fail
  refine (markSketch_any B _ x.sk F k _ (HR.out.1.below HB.out.1) (HR.out.2.below HR.out.1.lt HB.out.1) HW.out hk0 HM.out.1).mono ?_
  rintro e w2 ⟨rfl, m2⟩
  have H2 : Hid (RdSk w2 (.agg #[.int .i64 x.sk.count, .int .i64 x.sk.sum, .int .i64 x.sk.min, .int .i64 x.sk.max, .slice a1 n1 c1, .slice a2 n2 c2, .slice a3 n3 c3]) (x.sk.marked k) F ∧ Own B w2 F ∧ Only F w w2) := ⟨m2.rd, m2.own, (Only.of_below HB.out.1).trans m2.only⟩
  clear m2
  obtain ⟨y2, hy2⟩ : ∃ y, y = k + x.sk.many := ⟨_, rfl⟩
  rw [← hy2]
  have HY2 : Hid (y2 = k + x.sk.many) := hy2
  clear hy2
  go_wp2
  go_ret
  exact ⟨ret_int HY2.out, ⟨⟨a1, n1, c1, a2, n2, c2, a3, n3, c3, rfl, H2.out.1⟩, H2.out.2.1, H2.out.2.2⟩⟩
set_option maxRecDepth 200000 in
set_option maxHeartbeats 1000000 in
theorem heldItem_any (v : Value) (x : It) (F : List Nat) (k : Int) (w : World) (h : RdIt w v (x.marked k) F) (hw : x.wide) (hk0 : 0 ≤ k) (hk1 : k + x.sk.many ≤ 1000000000000) :
    Calls Try.prog 75 #[v, .int .i64 k] w fun e w' => e = .returned (.int .i64 (k + x.sk.many)) ∧ Below w.heap.size w w' := by
  obtain ⟨a1, n1, c1, a2, n2, c2, a3, n3, c3, rfl, hr⟩ := h
  have hr' : RdSk w (.agg #[.int .i64 x.sk.count, .int .i64 x.sk.sum, .int .i64 x.sk.min, .int .i64 x.sk.max, .slice a1 n1 c1, .slice a2 n2 c2, .slice a3 n3 c3]) (x.sk.marked k) F := hr
  have hm0 := Sk.many_nonneg x.sk
  have HM : Hid (k + x.sk.many ≤ 1000000000000 ∧ 0 ≤ x.sk.many) := ⟨hk1, hm0⟩
  have HR : Hid (RdSk w (.agg #[.int .i64 x.sk.count, .int .i64 x.sk.sum, .int .i64 x.sk.min, .int .i64 x.sk.max, .slice a1 n1 c1, .slice a2 n2 c2, .slice a3 n3 c3]) (x.sk.marked k) F ∧ x.sk.wide) := ⟨hr', hw⟩
  have HB : Hid (Below w.heap.size w (w.alloc (.cells #[.int .i64 x.seq, .int .i64 x.cls, .int .i64 x.key, .int .i64 x.window, .int .i64 x.sk.count, .int .i64 x.sk.sum, .int .i64 x.sk.min, .int .i64 x.sk.max, .slice a1 n1 c1, .slice a2 n2 c2, .slice a3 n3 c3] 49)) ∧ Blk (w.alloc (.cells #[.int .i64 x.seq, .int .i64 x.cls, .int .i64 x.key, .int .i64 x.window, .int .i64 x.sk.count, .int .i64 x.sk.sum, .int .i64 x.sk.min, .int .i64 x.sk.max, .slice a1 n1 c1, .slice a2 n2 c2, .slice a3 n3 c3] 49)) w.heap.size #[.int .i64 x.seq, .int .i64 x.cls, .int .i64 x.key, .int .i64 x.window, .int .i64 x.sk.count, .int .i64 x.sk.sum, .int .i64 x.sk.min, .int .i64 x.sk.max, .slice a1 n1 c1, .slice a2 n2 c2, .slice a3 n3 c3] 49) := ⟨(Below.refl _ _).alloc (Nat.le_refl _) _, Blk.made _ _ _⟩
  clear hr hr' hw hk1 hm0
  show Calls _ _ #[.agg #[.int .i64 x.seq, .int .i64 x.cls, .int .i64 x.key, .int .i64 x.window, .int .i64 x.sk.count, .int .i64 x.sk.sum, .int .i64 x.sk.min, .int .i64 x.sk.max, .slice a1 n1 c1, .slice a2 n2 c2, .slice a3 n3 c3], .int .i64 k] w _
  go_enter Try.func75, Try.ntmps75
  go_wp2_with (first | go_skip | (with_reducible refine stopLoad 29 rfl ?_))
  refine load_cutw 29 w.heap.size 4 7 _ #[.int .i64 x.sk.count, .int .i64 x.sk.sum, .int .i64 x.sk.min, .int .i64 x.sk.max, .slice a1 n1 c1, .slice a2 n2 c2, .slice a3 n3 c3] 49 _ HB.out.2 rfl rfl rfl Try.underlying29 rfl infoSkI (by simp) rfl ?_
  go_wp2_with fail
  refine (heldSketch_any _ x.sk F k _ (HR.out.1.below HB.out.1) HR.out.2 hk0 HM.out.1).mono ?_
  rintro e w2 ⟨rfl, b2⟩
  have HB2 : Hid (Below w.heap.size w w2) := Below.next HB.out.1 b2
  clear b2
  obtain ⟨y2, hy2⟩ : ∃ y, y = k + x.sk.many := ⟨_, rfl⟩
  rw [← hy2]
  have HY2 : Hid (y2 = k + x.sk.many) := hy2
  have y20 : 0 ≤ y2 := by have := HM.out; omega
  clear hy2
  go_wp2
  go_ret
  exact ⟨ret_int HY2.out, HB2.out⟩
def Fr.many (x : Fr) : Int := 2 * x.taken.length + x.item.sk.many
def Fr.marked (k : Int) (x : Fr) : Fr := ⟨x.kind, x.agent, x.epoch, x.granted, markP k x.taken.length, x.item.marked (k + 2 * x.taken.length)⟩
structure MarkedF (B : Nat) (w : World) (v : Value) (k : Int) (x : Fr) (F : List Nat) (w' : World) : Prop where
  rd : RdF w' v (x.marked k) F
  own : Own B w' F
  only : Only F w w'
theorem Fr.fits_sz {x : Fr} (h : x.taken.length + x.item.sk.size ≤ 1048576) : x.fits := by
  have := Sk.size_nonneg x.item.sk
  exact ⟨Sk.fits_of (by omega), by omega⟩
theorem Fr.many_fits {x : Fr} (h : x.taken.length + x.item.sk.size ≤ 1048576) : 0 ≤ x.many ∧ x.many ≤ 4194304 := by
  have h1 := Sk.many_nonneg x.item.sk
  have h2 : x.item.sk.many ≤ x.item.sk.size := by
    have h0 := sumLen_nonneg x.item.sk.rows
    unfold Sk.size Sk.many
    omega
  unfold Fr.many
  omega
set_option maxRecDepth 200000 in
set_option maxHeartbeats 1000000 in
theorem markF_any (B : Nat) (v : Value) (x : Fr) (F : List Nat) (k : Int) (w : World) (h : RdF w v x F) (ho : Own B w F) (hw : x.wide) (hk0 : 0 ≤ k) (hk1 : k + x.many ≤ 1000000000000) :
    Calls Try.prog 27 #[v, .int .i64 k] w fun e w' => e = .returned (.int .i64 (k + x.many)) ∧ MarkedF B w v k x F w' := by
  obtain ⟨F1, F2, rfl, b, l, c, a1, n1, c1, a2, n2, c2, a3, n3, c3, rfl, hp, hr, hcp⟩ := h
  obtain ⟨cs, hcs⟩ : ∃ cs : Array Value, cs = #[.int .i64 x.kind, .int .i64 x.agent, .int .i64 x.epoch, .int .i64 x.granted, .slice b l c, .int .i64 x.item.seq, .int .i64 x.item.cls, .int .i64 x.item.key, .int .i64 x.item.window, .int .i64 x.item.sk.count, .int .i64 x.item.sk.sum, .int .i64 x.item.sk.min, .int .i64 x.item.sk.max, .slice a1 n1 c1, .slice a2 n2 c2, .slice a3 n3 c3] := ⟨_, rfl⟩
  have bw : Below w.heap.size w (w.alloc (.cells #[.int .i64 x.kind, .int .i64 x.agent, .int .i64 x.epoch, .int .i64 x.granted, .slice b l c, .int .i64 x.item.seq, .int .i64 x.item.cls, .int .i64 x.item.key, .int .i64 x.item.window, .int .i64 x.item.sk.count, .int .i64 x.item.sk.sum, .int .i64 x.item.sk.min, .int .i64 x.item.sk.max, .slice a1 n1 c1, .slice a2 n2 c2, .slice a3 n3 c3] 51)) := (Below.refl _ _).alloc (Nat.le_refl _) _
  have hm0 := Sk.many_nonneg x.item.sk
  have HM : Hid (x.many = 2 * (l : Int) + x.item.sk.many ∧ k + x.many ≤ 1000000000000 ∧ 0 ≤ x.item.sk.many) := ⟨by unfold Fr.many; rw [hp.length], hk1, hm0⟩
  have HW : Hid (x.item.sk.wide) := hw.1
  have hl : l ≤ 1048576 := by rw [← hp.length]; exact hw.2
  have HCP : Hid (Capd b l c) := hcp
  have HB : Hid (Below w.heap.size w (w.alloc (.cells #[.int .i64 x.kind, .int .i64 x.agent, .int .i64 x.epoch, .int .i64 x.granted, .slice b l c, .int .i64 x.item.seq, .int .i64 x.item.cls, .int .i64 x.item.key, .int .i64 x.item.window, .int .i64 x.item.sk.count, .int .i64 x.item.sk.sum, .int .i64 x.item.sk.min, .int .i64 x.item.sk.max, .slice a1 n1 c1, .slice a2 n2 c2, .slice a3 n3 c3] 51)) ∧ Blk (w.alloc (.cells #[.int .i64 x.kind, .int .i64 x.agent, .int .i64 x.epoch, .int .i64 x.granted, .slice b l c, .int .i64 x.item.seq, .int .i64 x.item.cls, .int .i64 x.item.key, .int .i64 x.item.window, .int .i64 x.item.sk.count, .int .i64 x.item.sk.sum, .int .i64 x.item.sk.min, .int .i64 x.item.sk.max, .slice a1 n1 c1, .slice a2 n2 c2, .slice a3 n3 c3] 51)) w.heap.size #[.int .i64 x.kind, .int .i64 x.agent, .int .i64 x.epoch, .int .i64 x.granted, .slice b l c, .int .i64 x.item.seq, .int .i64 x.item.cls, .int .i64 x.item.key, .int .i64 x.item.window, .int .i64 x.item.sk.count, .int .i64 x.item.sk.sum, .int .i64 x.item.sk.min, .int .i64 x.item.sk.max, .slice a1 n1 c1, .slice a2 n2 c2, .slice a3 n3 c3] 51) := ⟨bw, Blk.made _ _ _⟩
  have HR : Hid (RdP w b l x.taken F1 ∧ RdIt w (.agg #[.int .i64 x.item.seq, .int .i64 x.item.cls, .int .i64 x.item.key, .int .i64 x.item.window, .int .i64 x.item.sk.count, .int .i64 x.item.sk.sum, .int .i64 x.item.sk.min, .int .i64 x.item.sk.max, .slice a1 n1 c1, .slice a2 n2 c2, .slice a3 n3 c3]) x.item F2) := ⟨hp, hr⟩
  have HO : Hid (Own B w F1 ∧ Own B w F2 ∧ ∀ b ∈ F1, b ∉ F2) := ⟨ho.left, ho.right, ho.apart⟩
  clear hp hr ho hw hk1 hm0 bw hcs cs hcp
  go_enter Try.func27, Try.ntmps27
  go_wp2_with fail
  refine (markSpanS_any B b l c (flat x.taken) F1 k _ (HR.out.1.below HB.out.1).rd (HO.out.1.below HR.out.1.lt HB.out.1) hk0 (by have := HM.out; omega)).mono ?_
  rintro e w1 ⟨rfl, m1⟩
  have H1 : Hid (MarkedP B (w.alloc (.cells #[.int .i64 x.kind, .int .i64 x.agent, .int .i64 x.epoch, .int .i64 x.granted, .slice b l c, .int .i64 x.item.seq, .int .i64 x.item.cls, .int .i64 x.item.key, .int .i64 x.item.window, .int .i64 x.item.sk.count, .int .i64 x.item.sk.sum, .int .i64 x.item.sk.min, .int .i64 x.item.sk.max, .slice a1 n1 c1, .slice a2 n2 c2, .slice a3 n3 c3] 51)) b l k F1 w1) := m1
  have HX1 : Hid (Blk w1 w.heap.size #[.int .i64 x.kind, .int .i64 x.agent, .int .i64 x.epoch, .int .i64 x.granted, .slice b l c, .int .i64 x.item.seq, .int .i64 x.item.cls, .int .i64 x.item.key, .int .i64 x.item.window, .int .i64 x.item.sk.count, .int .i64 x.item.sk.sum, .int .i64 x.item.sk.min, .int .i64 x.item.sk.max, .slice a1 n1 c1, .slice a2 n2 c2, .slice a3 n3 c3] 51) := m1.only.blk HB.out.2 (fun hx => by have := HR.out.1.lt _ hx; omega)
  have a2' := m1.only.agree (fun b hb => Nat.lt_of_lt_of_le (HR.out.2.lt b hb) HB.out.1.size) (fun b hb hx => HO.out.2.2 b hx hb)
  have HR2 : Hid (RdIt w1 (.agg #[.int .i64 x.item.seq, .int .i64 x.item.cls, .int .i64 x.item.key, .int .i64 x.item.window, .int .i64 x.item.sk.count, .int .i64 x.item.sk.sum, .int .i64 x.item.sk.min, .int .i64 x.item.sk.max, .slice a1 n1 c1, .slice a2 n2 c2, .slice a3 n3 c3]) x.item F2 ∧ Own B w1 F2) := ⟨(HR.out.2.below HB.out.1).agree a2', (HO.out.2.1.below HR.out.2.lt HB.out.1).agree a2'⟩
  clear m1 a2'
  obtain ⟨y1, hy1⟩ : ∃ y, y = k + 2 * (l : Int) := ⟨_, rfl⟩
  rw [← hy1]
  have HY1 : Hid (y1 = k + 2 * (l : Int)) := hy1
  have y10 : 0 ≤ y1 := by omega
  clear hy1
  go_wp2_with (first | go_skip | (with_reducible refine stopLoad 49 rfl ?_))
  refine load_cutw 49 w.heap.size 5 11 _ #[.int .i64 x.item.seq, .int .i64 x.item.cls, .int .i64 x.item.key, .int .i64 x.item.window, .int .i64 x.item.sk.count, .int .i64 x.item.sk.sum, .int .i64 x.item.sk.min, .int .i64 x.item.sk.max, .slice a1 n1 c1, .slice a2 n2 c2, .slice a3 n3 c3] 51 _ HX1.out rfl rfl rfl Try.underlying49 rfl infoItA7 (by simp) rfl ?_
  go_wp2_with fail
  refine (markItem_any B _ x.item F2 y1 _ HR2.out.1 HR2.out.2 HW.out y10 (by have := HM.out; have := HY1.out; omega)).mono ?_
  rintro e w2 ⟨rfl, m2⟩
  have H2 : Hid (MarkedIt B w1 (.agg #[.int .i64 x.item.seq, .int .i64 x.item.cls, .int .i64 x.item.key, .int .i64 x.item.window, .int .i64 x.item.sk.count, .int .i64 x.item.sk.sum, .int .i64 x.item.sk.min, .int .i64 x.item.sk.max, .slice a1 n1 c1, .slice a2 n2 c2, .slice a3 n3 c3]) y1 x.item F2 w2) := m2
  clear m2
  obtain ⟨y2, hy2⟩ : ∃ y, y = y1 + x.item.sk.many := ⟨_, rfl⟩
  rw [← hy2]
  have HY2 : Hid (y2 = y1 + x.item.sk.many) := hy2
  clear hy2
  go_wp2
  go_ret
  have ag1 := H2.out.only.agree H1.out.rd.lt (fun b hb hx => HO.out.2.2 b hb hx)
  have hlen := HR.out.1.length
  refine ⟨ret_int (by have := HM.out; have := HY1.out; have := HY2.out; omega), ⟨⟨F1, F2, rfl, b, l, c, a1, n1, c1, a2, n2, c2, a3, n3, c3, rfl, ⟨by show (markP k x.taken.length).length = l; rw [markP_length]; exact hlen, ?_⟩, ?_, HCP.out⟩, ?_, ?_⟩⟩
  · show RdI w2 b (2 * l) (flat (markP k x.taken.length)) F1
    rw [flat_markP, hlen]
    exact H1.out.rd.agree ag1
  · show RdIt w2 _ (x.item.marked (k + 2 * x.taken.length)) F2
    rw [hlen, ← HY1.out]
    exact H2.out.rd
  · exact (H1.out.own.agree ag1).app H2.out.own HO.out.2.2
  · exact (((Only.of_below HB.out.1).trans (H1.out.only.mono (fun x hx => List.mem_append_left _ hx))).trans (H2.out.only.mono (fun x hx => List.mem_append_right _ hx)))
set_option maxRecDepth 200000 in
set_option maxHeartbeats 1000000 in
theorem heldF_any (v : Value) (x : Fr) (F : List Nat) (k : Int) (w : World) (h : RdF w v (x.marked k) F) (hw : x.wide) (hk0 : 0 ≤ k) (hk1 : k + x.many ≤ 1000000000000) :
    Calls Try.prog 30 #[v, .int .i64 k] w fun e w' => e = .returned (.int .i64 (k + x.many)) ∧ Below w.heap.size w w' := by
  obtain ⟨F1, F2, rfl, b, l, c, a1, n1, c1, a2, n2, c2, a3, n3, c3, rfl, hp, hr, hcp⟩ := h
  have hlen : x.taken.length = l := by have := hp.length; rw [← this]; exact (markP_length k x.taken.length).symm
  have hp' : RdI w b (2 * l) (marksI k (2 * l)) F1 := by have := hp.rd; rw [show (x.marked k).taken = markP k x.taken.length from rfl, flat_markP, hlen] at this; exact this
  have hr' : RdIt w (.agg #[.int .i64 x.item.seq, .int .i64 x.item.cls, .int .i64 x.item.key, .int .i64 x.item.window, .int .i64 x.item.sk.count, .int .i64 x.item.sk.sum, .int .i64 x.item.sk.min, .int .i64 x.item.sk.max, .slice a1 n1 c1, .slice a2 n2 c2, .slice a3 n3 c3]) (x.item.marked (k + 2 * l)) F2 := by have := hr; rw [show (x.marked k).item = x.item.marked (k + 2 * x.taken.length) from rfl, hlen] at this; exact this
  have hm0 := Sk.many_nonneg x.item.sk
  have HM : Hid (x.many = 2 * (l : Int) + x.item.sk.many ∧ k + x.many ≤ 1000000000000 ∧ 0 ≤ x.item.sk.many) := ⟨by unfold Fr.many; rw [hlen], hk1, hm0⟩
  have HW : Hid (x.item.sk.wide) := hw.1
  have hl : l ≤ 1048576 := by rw [← hlen]; exact hw.2
  have HB : Hid (Below w.heap.size w (w.alloc (.cells #[.int .i64 x.kind, .int .i64 x.agent, .int .i64 x.epoch, .int .i64 x.granted, .slice b l c, .int .i64 x.item.seq, .int .i64 x.item.cls, .int .i64 x.item.key, .int .i64 x.item.window, .int .i64 x.item.sk.count, .int .i64 x.item.sk.sum, .int .i64 x.item.sk.min, .int .i64 x.item.sk.max, .slice a1 n1 c1, .slice a2 n2 c2, .slice a3 n3 c3] 51)) ∧ Blk (w.alloc (.cells #[.int .i64 x.kind, .int .i64 x.agent, .int .i64 x.epoch, .int .i64 x.granted, .slice b l c, .int .i64 x.item.seq, .int .i64 x.item.cls, .int .i64 x.item.key, .int .i64 x.item.window, .int .i64 x.item.sk.count, .int .i64 x.item.sk.sum, .int .i64 x.item.sk.min, .int .i64 x.item.sk.max, .slice a1 n1 c1, .slice a2 n2 c2, .slice a3 n3 c3] 51)) w.heap.size #[.int .i64 x.kind, .int .i64 x.agent, .int .i64 x.epoch, .int .i64 x.granted, .slice b l c, .int .i64 x.item.seq, .int .i64 x.item.cls, .int .i64 x.item.key, .int .i64 x.item.window, .int .i64 x.item.sk.count, .int .i64 x.item.sk.sum, .int .i64 x.item.sk.min, .int .i64 x.item.sk.max, .slice a1 n1 c1, .slice a2 n2 c2, .slice a3 n3 c3] 51) := ⟨(Below.refl _ _).alloc (Nat.le_refl _) _, Blk.made _ _ _⟩
  have HR : Hid (RdI w b (2 * l) (marksI k (2 * l)) F1 ∧ RdIt w (.agg #[.int .i64 x.item.seq, .int .i64 x.item.cls, .int .i64 x.item.key, .int .i64 x.item.window, .int .i64 x.item.sk.count, .int .i64 x.item.sk.sum, .int .i64 x.item.sk.min, .int .i64 x.item.sk.max, .slice a1 n1 c1, .slice a2 n2 c2, .slice a3 n3 c3]) (x.item.marked (k + 2 * l)) F2) := ⟨hp', hr'⟩
  clear hp hr hw hk1 hm0 hp' hr' hcp
  show Calls _ _ #[.agg #[.int .i64 x.kind, .int .i64 x.agent, .int .i64 x.epoch, .int .i64 x.granted, .slice b l c, .int .i64 x.item.seq, .int .i64 x.item.cls, .int .i64 x.item.key, .int .i64 x.item.window, .int .i64 x.item.sk.count, .int .i64 x.item.sk.sum, .int .i64 x.item.sk.min, .int .i64 x.item.sk.max, .slice a1 n1 c1, .slice a2 n2 c2, .slice a3 n3 c3], .int .i64 k] w _
  go_enter Try.func30, Try.ntmps30
  go_wp2_with fail
  refine (heldSpanS_any b l c F1 k _ (HR.out.1.below HB.out.1) hk0 (by have := HM.out; omega)).mono ?_
  rintro e w1 ⟨rfl, b1⟩
  have HB1 : Hid (Below w.heap.size w w1 ∧ Blk w1 w.heap.size #[.int .i64 x.kind, .int .i64 x.agent, .int .i64 x.epoch, .int .i64 x.granted, .slice b l c, .int .i64 x.item.seq, .int .i64 x.item.cls, .int .i64 x.item.key, .int .i64 x.item.window, .int .i64 x.item.sk.count, .int .i64 x.item.sk.sum, .int .i64 x.item.sk.min, .int .i64 x.item.sk.max, .slice a1 n1 c1, .slice a2 n2 c2, .slice a3 n3 c3] 51) := ⟨Below.next HB.out.1 b1, HB.out.2.below b1⟩
  clear b1
  obtain ⟨y1, hy1⟩ : ∃ y, y = k + 2 * (l : Int) := ⟨_, rfl⟩
  rw [← hy1] at HR ⊢
  have HY1 : Hid (y1 = k + 2 * (l : Int)) := hy1
  have y10 : 0 ≤ y1 := by omega
  clear hy1
  go_wp2_with (first | go_skip | (with_reducible refine stopLoad 49 rfl ?_))
  refine load_cutw 49 w.heap.size 5 11 _ #[.int .i64 x.item.seq, .int .i64 x.item.cls, .int .i64 x.item.key, .int .i64 x.item.window, .int .i64 x.item.sk.count, .int .i64 x.item.sk.sum, .int .i64 x.item.sk.min, .int .i64 x.item.sk.max, .slice a1 n1 c1, .slice a2 n2 c2, .slice a3 n3 c3] 51 _ HB1.out.2 rfl rfl rfl Try.underlying49 rfl infoItA7 (by simp) rfl ?_
  go_wp2_with fail
  refine (heldItem_any _ x.item F2 y1 _ (HR.out.2.below HB1.out.1) HW.out y10 (by have := HM.out; have := HY1.out; omega)).mono ?_
  rintro e w2 ⟨rfl, b2⟩
  have HB2 : Hid (Below w.heap.size w w2) := Below.next HB1.out.1 b2
  clear b2
  obtain ⟨y2, hy2⟩ : ∃ y, y = y1 + x.item.sk.many := ⟨_, rfl⟩
  rw [← hy2]
  have HY2 : Hid (y2 = y1 + x.item.sk.many) := hy2
  have y20 : 0 ≤ y2 := by have := HM.out; omega
  clear hy2
  go_wp2
  go_ret
  exact ⟨ret_int (by have := HM.out; have := HY1.out; have := HY2.out; omega), HB2.out⟩
/-- An entry in a variable of the call's own: its struct lies in block g, its lists in memory between lo and hi. -/
structure VarF (W : World) (lo hi g : Nat) (cs : Array Value) (s : Fr) (F : List Nat) : Prop where
  blk : Blk W g cs 51
  rd : RdF W (.agg cs) s F
  sz : cs.size = 16
  own : Own lo W F
  lt : ∀ b ∈ F, b < hi
  ge : lo ≤ g
  glt : g < hi
  apart : g ∉ F
theorem VarF.below {W W' : World} {lo hi g : Nat} {cs : Array Value} {s : Fr} {F : List Nat} (h : VarF W lo hi g cs s F) (b : Below W.heap.size W W') : VarF W' lo hi g cs s F :=
  ⟨h.blk.below b, h.rd.below b, h.sz, h.own.below h.rd.lt b, h.lt, h.ge, h.glt, h.apart⟩
theorem VarF.fresh {w0 w1 W : World} {cs : Array Value} {s : Fr} {F : List Nat} (r : RdF w1 (.agg cs) s F) (o : Own w0.heap.size w1 F) (b : Below w0.heap.size w0 w1) (sz : cs.size = 16) (k : Blk W w1.heap.size cs 51) (b2 : Below w1.heap.size w1 W) : VarF W w0.heap.size W.heap.size w1.heap.size cs s F :=
  ⟨k, r.below b2, sz, o.below r.lt b2, fun x hx => by have := r.lt x hx; have := b2.size; omega, b.size, k.lt, fun hx => by have := r.lt _ hx; omega⟩
theorem VarF.only {W W' : World} {lo hi g lo' hi' g' : Nat} {cs ds : Array Value} {s t : Fr} {F G : List Nat} (h : VarF W lo hi g cs s F) (k : VarF W lo' hi' g' ds t G) (o : Only G W W') (hd : hi ≤ lo' ∨ hi' ≤ lo) : VarF W' lo hi g cs s F := by
  have d : ∀ b ∈ F, b ∉ G := fun b hb hg => by have := h.lt b hb; have := h.own.ge b hb; have := k.lt b hg; have := k.own.ge b hg; omega
  have e : g ∉ G := fun hg => by have := h.ge; have := h.glt; have := k.lt g hg; have := k.own.ge g hg; omega
  exact ⟨h.blk.agree (o.block g h.blk.lt e), h.rd.agree (o.agree h.rd.lt d), h.sz, h.own.agree (o.agree h.rd.lt d), h.lt, h.ge, h.glt, h.apart⟩
theorem VarF.only' {W W' : World} {lo hi g lo' hi' : Nat} {cs : Array Value} {s : Fr} {F G : List Nat} (h : VarF W lo hi g cs s F) (o : Only G W W') (kl : ∀ b ∈ G, b < hi') (kg : ∀ b ∈ G, lo' ≤ b) (hd : hi ≤ lo' ∨ hi' ≤ lo) : VarF W' lo hi g cs s F := by
  have d : ∀ b ∈ F, b ∉ G := fun b hb hg => by have := h.lt b hb; have := h.own.ge b hb; have := kl b hg; have := kg b hg; omega
  have e : g ∉ G := fun hg => by have := h.ge; have := h.glt; have := kl g hg; have := kg g hg; omega
  exact ⟨h.blk.agree (o.block g h.blk.lt e), h.rd.agree (o.agree h.rd.lt d), h.sz, h.own.agree (o.agree h.rd.lt d), h.lt, h.ge, h.glt, h.apart⟩
theorem VarF.keep {W W' : World} {lo' hi' g' : Nat} {ds : Array Value} {t : Fr} {G : List Nat} {b : Nat} {cs : Array Value} {ty : TypeId} (k : VarF W lo' hi' g' ds t G) (o : Only G W W') (h : Blk W b cs ty) (hb : b < lo') : Blk W' b cs ty :=
  h.agree (o.block b h.lt (fun hg => by have := k.own.ge b hg; omega))
theorem VarF.bel {w W W' : World} {lo' hi' g' : Nat} {ds : Array Value} {t : Fr} {G : List Nat} (k : VarF W lo' hi' g' ds t G) (o : Only G W W') (h : Below w.heap.size w W) (hb : w.heap.size ≤ lo') : Below w.heap.size w W' :=
  o.below h h.size (fun b hg => by have := k.own.ge b hg; omega)
theorem varF_stored {W : World} {lo g : Nat} {old rr : Array Value} {s : Fr} {X : List Nat} (k : Blk W g old 51) (r : RdF W (.agg rr) s X) (sz : rr.size = 16) (o : Own lo W X) (lt : ∀ b ∈ X, b < W.heap.size) (ge : lo ≤ g) (ap : g ∉ X) : VarF (W.setRow g rr) lo (W.setRow g rr).heap.size g rr s X := by
  have ag : Agree W (W.setRow g rr) X := fun b hb => setRow_other W _ b _ (fun e => ap (e ▸ hb))
  have hs : (W.setRow g rr).heap.size = W.heap.size := by simp
  exact ⟨k.setRow, r.agree ag, sz, o.agree ag, by rw [hs]; exact lt, ge, by rw [hs]; exact k.lt, ap⟩
theorem VarF.mark {W W' : World} {lo hi g : Nat} {cs : Array Value} {s : Fr} {F : List Nat} {k : Int} (h : VarF W lo hi g cs s F) (m : MarkedF lo W (.agg cs) k s F W') : VarF W' lo hi g cs (s.marked k) F :=
  ⟨h.blk.agree (m.only.block g h.blk.lt h.apart), m.rd, h.sz, m.own, h.lt, h.ge, h.glt, h.apart⟩
/-- The boxes of two arguments lie there. -/
def FrBoxes (g : Nat) (cs ds : Array Value) (W : World) : Prop := Blk W g cs 44 ∧ Blk W (g + 1) ds 44
theorem FrBoxes.below {g : Nat} {cs ds : Array Value} {W W' : World} (h : FrBoxes g cs ds W) (b : Below W.heap.size W W') : FrBoxes g cs ds W' := ⟨h.1.below b, h.2.below b⟩
theorem FrBoxes.setRow {g k : Nat} {cs ds es : Array Value} {W : World} (h : FrBoxes g cs ds W) (hk : g + 1 < k) : FrBoxes g cs ds (W.setRow k es) := ⟨h.1.setRowOther (by omega), h.2.setRowOther (by omega)⟩
end Go.Proofs.Ytjndcfamfminkaq
/- The walk through the helper of the laws that copies a byte slice. No statement of the seat is proved here. -/
namespace Go.Proofs.Ytjndcfamfminkaq
open Go.RowKit

/-- What a copy holds behind k rounds. -/
def half (zs : List Int) (k len : Nat) : List Int := zs.take k ++ List.replicate (len - k) 0
theorem half_zero (zs : List Int) (len : Nat) : half zs 0 len = List.replicate len 0 := by simp [half]
theorem half_end (zs : List Int) (len : Nat) (h : zs.length = len) : half zs len len = zs := by
  simp [half, List.take_of_length_le (Nat.le_of_eq h)]
theorem half_step (zs : List Int) (k len : Nat) (h : zs.length = len) (hk : k < len) : (half zs k len).set k (zs[k]?.getD 0) = half zs (k + 1) len := by
  unfold half
  have hkl : (zs.take k).length = k := by simp; omega
  rw [List.set_append_right k _ (by omega), hkl, Nat.sub_self, take_succ' zs k (by omega)]
  have e : List.replicate (len - k) (0 : Int) = 0 :: List.replicate (len - (k + 1)) 0 := by
    rw [show len - k = (len - (k + 1)) + 1 by omega]; rfl
  rw [e]
  simp
theorem half_map_step (zs : List Int) (k len : Nat) (h : zs.length = len) (hk : k < len) : ((half zs k len).map (Value.int .u8)).set k (.int .u8 (zs[k]?.getD 0)) = (half zs (k + 1) len).map (Value.int .u8) := by
  rw [← half_step zs k len h hk, List.map_set]

set_option maxRecDepth 200000 in
set_option maxHeartbeats 400000 in
theorem toByteS_any (a : Option Addr) (len cap : Nat) (zs : List Int) (w : World) (h : RdB w a len zs) (hlen : len ≤ 1048576) :
    Calls Try.prog 19 #[.slice a len cap] w fun e w' => e = .returned (.slice (some ⟨w.heap.size, 0, none⟩) len len) ∧
      w'.ownsRow w.heap.size 5 1 (.slice (some ⟨w.heap.size, 0, none⟩) len len) len (zs.map (Value.int .u8)) ∧ Below w.heap.size w w' := by
  obtain ⟨i0, hi, hz0, hz1, hz2⟩ := info_parts Try.info5
  have HL : Hid (zs.length = len) := h.length
  have hbase : w.heap.size ≤ w.heap.size := Nat.le_refl _
  rcases h.cells with h0 | ⟨b, off, rfl, hc⟩
  · subst h0
    have hz : zs = [] := List.eq_nil_of_length_eq_zero h.length
    subst hz
    clear h
    go_enter Try.func19, Try.ntmps19
    go_wp2_with (at_make; refine wpList_make_full _ rfl _ _ 27 rfl w.heap.size 5 i0 (.int .u8 0) 1 Try.underlying27 hi hz0 hz1 .i64 .i64 _ _ 0 rfl rfl (by simp) (by simp) (by omega) (by unfold maxLen; omega) (Nat.le_refl _) ?_; intro w1 hown hgrow)
    refine wp_loop_rounds 1 ?_
    rw [rounds_succ]
    go_wp2
    go_ret
    exact ⟨rfl, by simpa [Value.cells, toList_madeCells_one] using hown, (Below.refl _ _).grown hgrow (Nat.le_refl _) (fun k hk => by cases hk)⟩
  · have hb : 0 < len → b < w.heap.size := fun h0 => World.block_lt_of_cell? _ _ (hc 0 h0)
    clear h
    go_enter Try.func19, Try.ntmps19
    go_wp2_with (at_make; refine wpList_make_full _ rfl _ _ 27 rfl w.heap.size 5 i0 (.int .u8 0) 1 Try.underlying27 hi hz0 hz1 .i64 .i64 _ _ len rfl rfl rfl rfl (by rw [hz2]; omega) (by unfold maxLen; omega) (Nat.le_refl _) ?_; intro w1 hown hgrow)
    go_loopw [4] (fun i wr => ∃ k : Nat, k ≤ len ∧ i = .int .i64 k ∧ wr.ownsRow w.heap.size 5 1 (.slice (some ⟨w.heap.size, 0, none⟩) len len) len ((half zs k len).map (Value.int .u8)) ∧ Below w.heap.size w wr) (fun i _ => len - (intOf i).toNat)
    case atStart =>
      refine ⟨0, by omega, rfl, ?_, (Below.refl _ _).grown hgrow (Nat.le_refl _) (fun k hk => by cases hk)⟩
      rw [half_zero]
      simpa [Value.cells, toList_madeCells_one] using hown
    case round =>
      obtain ⟨k, hk, rfl, hown', hbel⟩ := hrel
      by_cases hlt : k < len
      · have hck : wr.cell? ⟨b, off + k, none⟩ = some (.int .u8 (zs.getD k 0)) := (hbel.cell (by exact hb (by omega))).trans (hc k hlt)
        obtain ⟨v0, hcg⟩ := own_some hown' k hlt
        have hcf := hown'.frozenAt k
        have R := hown'.stored k (.int .u8 (zs[k]?.getD 0))
        rw [half_map_step zs k len HL.out hlt] at R
        obtain ⟨R1, R2⟩ := R
        clear hown'
        go_wp2
        go_roundw
        case rel => exact ⟨k + 1, by omega, by go_num, R1, hbel.setCell (Nat.le_refl _) _⟩
        case measure => simp [intOf]; omega
      · obtain rfl : k = len := by omega
        rw [half_end zs k HL.out] at hown'
        go_wp2
        go_ret
        exact ⟨rfl, hown', hbel⟩
end Go.Proofs.Ytjndcfamfminkaq
/- The walks through the helpers that mark a byte slice and look whether the marks still stand. No statement of the seat is proved here. -/
namespace Go.Proofs.Ytjndcfamfminkaq
open Go.RowKit

theorem grownBy_trans {a b c : World} {row : Option Nat} (h : a.grownBy b row) (k : b.grownBy c row) : a.grownBy c row :=
  ⟨k.os.trans h.os, k.tape.trans h.tape, k.output.trans h.output, Nat.le_trans h.size k.size, fun j hj hr => (k.block j (Nat.lt_of_lt_of_le hj h.size) hr).trans (h.block j hj hr)⟩
theorem u8_conv (x : Int) : IntKind.u8.wrap x = x % 256 := by simp [IntKind.wrap, IntKind.bits, IntKind.signed]

set_option maxRecDepth 200000 in
set_option maxHeartbeats 400000 in
theorem markByteS_any (base n : Nat) (v : Value) (xs : List Value) (k : Int) (w : World) (hown : w.ownsRow base 5 1 v n xs) (hk0 : 0 ≤ k) (hk1 : k + n ≤ 1000000000000) :
    Calls Try.prog 16 #[v, .int .i64 k] w fun e w' => e = .returned (.int .i64 (k + n)) ∧ w'.ownsRow base 5 1 v n ((marks k n).map (Value.int .u8)) ∧ w.grownBy w' v.ownBlock := by
  have HX : Hid (xs.length = n) := by show xs.length = n; simpa using hown.1
  rcases hown.2 with ⟨rfl, rfl⟩ | ⟨g, cap, cur, rfl, hbg, _⟩
  · have hx : xs = [] := List.eq_nil_of_length_eq_zero HX.out
    subst hx
    go_enter Try.func16, Try.ntmps16
    go_wp2
    refine wp_loop_rounds 1 ?_
    rw [rounds_succ]
    go_wp2
    go_ret
    exact ⟨ret_int (by simp), hown, World.grownBy.refl _ _⟩
  · have HO : Hid (w.ownsRow base 5 1 (.slice (some ⟨g, 0, none⟩) n cap) n xs) := hown
    clear hown
    go_enter Try.func16, Try.ntmps16
    go_wp2
    go_loopw [1, 5] (fun q i wr => ∃ j : Nat, j ≤ n ∧ i = .int .i64 j ∧ q = .int .i64 (k + j) ∧ Hid (wr.ownsRow base 5 1 (.slice (some ⟨g, 0, none⟩) n cap) n (marked k j xs)) ∧ w.grownBy wr (some g)) (fun _ i _ => n - (intOf i).toNat)
    case atStart => exact ⟨0, by omega, rfl, by go_num, by show World.ownsRow _ _ _ _ _ _ _; rw [marked_zero]; exact HO.out, World.grownBy.refl _ _⟩
    case round =>
      obtain ⟨j, hj, rfl, rfl, HOj, hgr⟩ := hrel
      by_cases hlt : j < n
      · obtain ⟨v0, hcg⟩ := own_some HOj.out j hlt
        have hcf := HOj.out.frozenAt j
        have R := HOj.out.stored j (.int .u8 ((k + (j : Int)) % 256))
        rw [marked_step k j n xs HX.out hlt] at R
        have R1 : Hid ((wr.setCell ⟨g, j, none⟩ (.int .u8 ((k + (j : Int)) % 256))).ownsRow base 5 1 (.slice (some ⟨g, 0, none⟩) n cap) n (marked k (j + 1) xs)) := R.1
        have R2 := grownBy_trans hgr R.2
        clear R HOj hgr
        go_wp2
        go_roundw
        case rel => exact ⟨j + 1, by omega, by go_num, by go_num, R1, R2⟩
        case measure => simp [intOf]; omega
      · obtain rfl : j = n := by omega
        go_wp2
        go_ret
        exact ⟨rfl, by rw [← marked_end k j xs HX.out]; exact HOj.out, hgr⟩

set_option maxRecDepth 200000 in
set_option maxHeartbeats 400000 in
theorem heldByteS_any (base n : Nat) (v : Value) (k : Int) (w : World) (hown : w.ownsRow base 5 1 v n ((marks k n).map (Value.int .u8))) (hk0 : 0 ≤ k) (hk1 : k + n ≤ 1000000000000) :
    Calls Try.prog 17 #[v, .int .i64 k] w fun e w' => e = .returned (.int .i64 (k + n)) ∧ Below w.heap.size w w' := by
  rcases hown.2 with ⟨rfl, rfl⟩ | ⟨g, cap, cur, rfl, hbg, _⟩
  · clear hown
    go_enter Try.func17, Try.ntmps17
    go_wp2
    refine wp_loop_rounds 1 ?_
    rw [rounds_succ]
    go_wp2
    go_ret
    exact ⟨ret_int (by simp), Below.refl _ _⟩
  · have R := RdB.of_own hown (marks_range k n)
    have HC : Hid (∀ i, i < n → w.cell? ⟨g, i, none⟩ = some (.int .u8 ((k + (i : Int)) % 256))) := by
      intro i hi
      rcases R.cells with h0 | ⟨b, off, hb, hc⟩
      · omega
      · simp only [Option.some.injEq, Addr.mk.injEq, and_true] at hb
        obtain ⟨rfl, rfl⟩ := hb
        have := hc i hi
        rw [Nat.zero_add] at this
        rw [this, List.getD_eq_getElem?_getD, marks_at k n i hi]
    clear hown R
    go_enter Try.func17, Try.ntmps17
    go_wp2
    go_loop [1, 5] (fun q i => ∃ j : Nat, j ≤ n ∧ i = .int .i64 j ∧ q = .int .i64 (k + j)) (fun _ i => n - (intOf i).toNat)
    case atStart => exact ⟨0, by omega, rfl, by go_num⟩
    case round =>
      obtain ⟨j, hj, rfl, rfl⟩ := hrel
      by_cases hlt : j < n
      · have hcg := HC.out j hlt
        go_wp2
        go_round
        case rel => exact ⟨j + 1, by omega, by go_num, by go_num⟩
        case measure => simp [intOf]; omega
      · obtain rfl : j = n := by omega
        go_wp2
        go_ret
        exact ⟨rfl, Below.refl _ _⟩
end Go.Proofs.Ytjndcfamfminkaq
/- Rows of bytes that a call made, while others write. No statement of the seat is proved here. -/
namespace Go.Proofs.Ytjndcfamfminkaq
open Go.RowKit
/-- A row of bytes of the call's own, in memory between lo and hi. -/
structure RowB (W : World) (lo hi : Nat) (v : Value) (L : List Int) : Prop where
  own : W.ownsRow lo 5 1 v L.length (L.map (Value.int .u8))
  lt : ∀ g, v.ownBlock = some g → g < hi
theorem RowB.fresh {w0 w1 : World} {v : Value} {L : List Int} (h : w1.ownsRow w0.heap.size 5 1 v L.length (L.map (Value.int .u8))) : RowB w1 w0.heap.size w1.heap.size v L := ⟨h, fun g hg => (h.lt g hg).2⟩
theorem RowB.below {W W' : World} {lo hi : Nat} {v : Value} {L : List Int} (h : RowB W lo hi v L) (b : Below W.heap.size W W') : RowB W' lo hi v L := ⟨ownsRow_below h.own b, h.lt⟩
theorem ownsRow_only {w w' : World} {base e size n : Nat} {v : Value} {xs : List Value} {G : List Nat} (h : w.ownsRow base e size v n xs) (o : Only G w w') (hg : ∀ g, v.ownBlock = some g → g ∉ G) : w'.ownsRow base e size v n xs := by
  refine ⟨h.1, ?_⟩
  rcases h.2 with h' | ⟨g, cap, cur, h1, h2, h3, h4⟩
  · exact .inl h'
  · have e : v.ownBlock = some g := by rw [h1]; rfl
    exact .inr ⟨g, cap, cur, h1, h2, by rw [o.block g (h.lt g e).2 (hg g e)]; exact h3, h4⟩
theorem RowB.only' {W W' : World} {lo hi lo' hi' : Nat} {v : Value} {L : List Int} {G : List Nat} (h : RowB W lo hi v L) (o : Only G W W') (kl : ∀ b ∈ G, b < hi') (kg : ∀ b ∈ G, lo' ≤ b) (hd : hi ≤ lo' ∨ hi' ≤ lo) : RowB W' lo hi v L :=
  ⟨ownsRow_only h.own o (fun g hg hx => by have := h.lt g hg; have := (h.own.lt g hg).1; have := kl g hx; have := kg g hx; omega), h.lt⟩
theorem only_grown {a b : World} {row : Option Nat} (h : a.grownBy b row) : Only row.toList a b := ⟨h.os, h.tape, h.output, h.size, fun i hi hf => h.block i hi (fun e => hf (by rw [← e]; simp))⟩
theorem RowB.geRow {W : World} {lo hi : Nat} {v : Value} {L : List Int} (h : RowB W lo hi v L) : ∀ b ∈ v.ownBlock.toList, lo ≤ b := fun b hb => (h.own.lt b (by simpa using hb)).1
theorem RowB.ltRow {W : World} {lo hi : Nat} {v : Value} {L : List Int} (h : RowB W lo hi v L) : ∀ b ∈ v.ownBlock.toList, b < hi := fun b hb => h.lt b (by simpa using hb)
theorem Blk.only {W W' : World} {G : List Nat} {g lo : Nat} {cs : Array Value} {t : TypeId} (h : Blk W g cs t) (o : Only G W W') (kg : ∀ b ∈ G, lo ≤ b) (hg : g < lo) : Blk W' g cs t :=
  h.agree (o.block g h.lt (fun hb => by have := kg g hb; omega))
theorem Only.belowOf {F : List Nat} {w0 w w' : World} {lo : Nat} (o : Only F w w') (hb : Below w0.heap.size w0 w) (kg : ∀ b ∈ F, lo ≤ b) (hl : w0.heap.size ≤ lo) : Below w0.heap.size w0 w' :=
  o.below hb hb.size (fun b hx => by have := kg b hx; omega)
end Go.Proofs.Ytjndcfamfminkaq
/- What the model reads, in turn, of a frame's bytes. No statement of the seat is proved here. -/
namespace Go.Proofs.Ytjndcfamfminkaq
open Go.RowKit
def pairsTo (l : List Int) : Nat → Sp
  | 0 => []
  | k + 1 => pairsTo l k ++ [(l.getD (2 * k) 0, l.getD (2 * k + 1) 0)]
theorem pairsTo_len (l : List Int) : ∀ k, (pairsTo l k).length = k
  | 0 => rfl
  | k + 1 => by rw [pairsTo, List.length_append, pairsTo_len l k]; rfl
theorem pairsTo_flat : ∀ (ps : Sp) (k : Nat), k ≤ ps.length → pairsTo (flat ps) k = ps.take k
  | ps, 0, _ => by simp [pairsTo]
  | ps, k + 1, h => by
    rw [pairsTo, pairsTo_flat ps k (by omega), List.getD_eq_getElem?_getD, List.getD_eq_getElem?_getD, flat_lo, flat_hi, List.take_add_one, List.getElem?_eq_getElem (show k < ps.length by omega)]
    rfl
theorem pairsTo_all {ps : Sp} {n : Nat} (h : n = ps.length) : pairsTo (flat ps) n = ps := by
  rw [pairsTo_flat ps n (by omega), List.take_of_length_le (by omega)]
def headOf (g : Fr) : List Int := [g.kind, g.agent, g.epoch, g.granted, (g.taken.length : Int)]
def tailOf (g : Fr) : List Int := [g.item.seq, g.item.cls, g.item.key, g.item.window]
theorem headOf_in {g : Fr} (hg : g.ok = true) : ∀ x ∈ headOf g, InN x := fun x hx => Fr.right_numbers (Fr.ok_right hg) x (by
  unfold Fr.numbers
  exact List.mem_append_left _ (List.mem_append_left _ hx))
theorem frIs_noBody2 {B : List Int} (h : ∀ g : Fr, g.ok = true → B ≠ g.body) : FrIs (B ++ sumOf B) Fr.zero false := by
  refine frIs_ne (fun g hg e => ?_)
  rw [Fr.bytes_ok hg] at e
  exact h g hg (app4_inj (sumOf_len _) (sumOf_len _) e).1
theorem body_head {g : Fr} (hg : g.ok = true) : getTo g.body 2 5 = some (headOf g, 2 + ((putAll (headOf g)).length : Int)) := by
  have a := getTo_all [87, 82] (headOf g) (putAll (flat g.taken) ++ (if g.kind = 1 then putAll (tailOf g) ++ g.item.sk.bytes else [])) (headOf_in hg) (m := 5) rfl
  unfold Fr.body
  rw [List.append_assoc]
  exact a
theorem body_spans {g : Fr} (hg : g.ok = true) : getTo g.body (2 + ((putAll (headOf g)).length : Int)) (2 * g.taken.length) = some (flat g.taken, 2 + ((putAll (headOf g)).length : Int) + ((putAll (flat g.taken)).length : Int)) := by
  have a := getTo_all ([87, 82] ++ putAll (headOf g)) (flat g.taken) (if g.kind = 1 then putAll (tailOf g) ++ g.item.sk.bytes else []) (Fr.right_spans (Fr.ok_right hg)) (flat_length _)
  rw [List.length_append, Int.natCast_add] at a
  unfold Fr.body
  exact a
theorem body_item {g : Fr} (hg : g.ok = true) (hk : g.kind = 1) : getTo g.body (2 + ((putAll (headOf g)).length : Int) + ((putAll (flat g.taken)).length : Int)) 4 = some (tailOf g, 2 + ((putAll (headOf g)).length : Int) + ((putAll (flat g.taken)).length : Int) + ((putAll (tailOf g)).length : Int)) := by
  have i := (Fr.ok_right hg).item
  rw [if_pos hk] at i
  obtain ⟨i1, i2, i3, i4, _⟩ := It.ok_nums i
  have a := getTo_all ([87, 82] ++ putAll (headOf g) ++ putAll (flat g.taken)) (tailOf g) g.item.sk.bytes (by
    intro x hx
    unfold tailOf at hx
    simp only [List.mem_cons, List.not_mem_nil, or_false] at hx
    unfold InN at *
    rcases hx with rfl | rfl | rfl | rfl <;> omega) (m := 4) rfl
  rw [List.length_append, List.length_append, Int.natCast_add, Int.natCast_add] at a
  unfold Fr.body
  rw [if_pos hk, ← List.append_assoc]
  exact a
theorem body_rest {g : Fr} (hk : g.kind = 1) : g.body.drop (2 + (putAll (headOf g)).length + (putAll (flat g.taken)).length + (putAll (tailOf g)).length) = g.item.sk.bytes := by
  unfold Fr.body
  rw [if_pos hk, ← List.append_assoc]
  refine List.drop_left' ?_
  rw [List.length_append, List.length_append, List.length_append]
  rfl
/-- The head is not there. -/
theorem of_head {B : List Int} (h : getTo B 2 5 = none) : FrIs (B ++ sumOf B) Fr.zero false := frIs_noBody2 (fun g hg e => by
  rw [e, body_head hg] at h; cases h)
theorem of_many {B l : List Int} {p : Int} (h : getTo B 2 5 = some (l, p)) (hb : 100 < l.getD 4 0) : FrIs (B ++ sumOf B) Fr.zero false := frIs_noBody2 (fun g hg e => by
  rw [e, body_head hg] at h; cases h
  have := (Fr.ok_right hg).many
  have q : (headOf g).getD 4 0 = (g.taken.length : Int) := rfl
  omega)
/-- What a body with this head is. -/
theorem of_eq {B l : List Int} {p : Int} (h : getTo B 2 5 = some (l, p)) {g : Fr} (hg : g.ok = true) (e : B = g.body) : l = headOf g ∧ p = 2 + ((putAll (headOf g)).length : Int) := by
  rw [e, body_head hg] at h; cases h; exact ⟨rfl, rfl⟩
theorem of_spans {B l : List Int} {p : Int} {n : Nat} (h : getTo B 2 5 = some (l, p)) (hn : l.getD 4 0 = (n : Int)) (k : getTo B p (2 * n) = none) : FrIs (B ++ sumOf B) Fr.zero false := frIs_noBody2 (fun g hg e => by
  obtain ⟨rfl, rfl⟩ := of_eq h hg e
  have q : (headOf g).getD 4 0 = (g.taken.length : Int) := rfl
  obtain rfl : n = g.taken.length := by omega
  rw [e, body_spans hg] at k; cases k)
theorem of_eq2 {B l m : List Int} {p q : Int} {n : Nat} (h : getTo B 2 5 = some (l, p)) (hn : l.getD 4 0 = (n : Int)) (k : getTo B p (2 * n) = some (m, q)) {g : Fr} (hg : g.ok = true) (e : B = g.body) :
    l = headOf g ∧ n = g.taken.length ∧ m = flat g.taken ∧ q = 2 + ((putAll (headOf g)).length : Int) + ((putAll (flat g.taken)).length : Int) := by
  obtain ⟨rfl, rfl⟩ := of_eq h hg e
  have z : (headOf g).getD 4 0 = (g.taken.length : Int) := rfl
  obtain rfl : n = g.taken.length := by omega
  rw [e, body_spans hg] at k; cases k
  exact ⟨rfl, rfl, rfl, rfl⟩
theorem of_item {B l m : List Int} {p q : Int} {n : Nat} (h : getTo B 2 5 = some (l, p)) (hn : l.getD 4 0 = (n : Int)) (k : getTo B p (2 * n) = some (m, q)) (h1 : l.getD 0 0 = 1) (j : getTo B q 4 = none) : FrIs (B ++ sumOf B) Fr.zero false := frIs_noBody2 (fun g hg e => by
  obtain ⟨rfl, rfl, rfl, rfl⟩ := of_eq2 h hn k hg e
  have z : (headOf g).getD 0 0 = g.kind := rfl
  rw [e, body_item hg (by omega)] at j; cases j)
theorem of_eq3 {B l m t : List Int} {p q r : Int} {n : Nat} (h : getTo B 2 5 = some (l, p)) (hn : l.getD 4 0 = (n : Int)) (k : getTo B p (2 * n) = some (m, q)) (h1 : l.getD 0 0 = 1) (j : getTo B q 4 = some (t, r)) {g : Fr} (hg : g.ok = true) (e : B = g.body) :
    l = headOf g ∧ n = g.taken.length ∧ m = flat g.taken ∧ t = tailOf g ∧ B.drop r.toNat = g.item.sk.bytes ∧ g.kind = 1 := by
  obtain ⟨rfl, rfl, rfl, rfl⟩ := of_eq2 h hn k hg e
  have z : (headOf g).getD 0 0 = g.kind := rfl
  have hk : g.kind = 1 := by omega
  rw [e, body_item hg hk] at j; cases j
  refine ⟨rfl, rfl, rfl, rfl, ?_, hk⟩
  rw [e, ← body_rest hk]
  congr 1
theorem of_sketch {B l m t : List Int} {p q r : Int} {n : Nat} {s : Sk} (h : getTo B 2 5 = some (l, p)) (hn : l.getD 4 0 = (n : Int)) (k : getTo B p (2 * n) = some (m, q)) (h1 : l.getD 0 0 = 1) (j : getTo B q 4 = some (t, r)) (hs : SkIs (B.drop r.toNat) s false) : FrIs (B ++ sumOf B) Fr.zero false := frIs_noBody2 (fun g hg e => by
  obtain ⟨rfl, rfl, rfl, rfl, e5, hk⟩ := of_eq3 h hn k h1 j hg e
  have i := (Fr.ok_right hg).item
  rw [if_pos hk] at i
  unfold SkIs at hs
  rw [if_neg (by simp)] at hs
  exact hs.2 _ (It.ok_nums i).2.2.2.2 e5)
/-- All of it is read: it is that frame, or none. -/
theorem of_done {B l m t : List Int} {p q r : Int} {n : Nat} {s : Sk} (h : getTo B 2 5 = some (l, p)) (hn : l.getD 4 0 = (n : Int)) (k : getTo B p (2 * n) = some (m, q)) (h1 : l.getD 0 0 = 1) (j : getTo B q 4 = some (t, r)) (hs : SkIs (B.drop r.toNat) s true)
    {f : Fr} (hf : f = ⟨l.getD 0 0, l.getD 1 0, l.getD 2 0, l.getD 3 0, pairsTo m n, ⟨t.getD 0 0, t.getD 1 0, t.getD 2 0, t.getD 3 0, s⟩⟩) (hno : ¬ (f.ok = true ∧ f.bytes = B ++ sumOf B)) : FrIs (B ++ sumOf B) Fr.zero false := by
  refine frIs_ne (fun g hg e => hno ?_)
  have eb : B = g.body := by
    rw [Fr.bytes_ok hg] at e
    exact (app4_inj (sumOf_len _) (sumOf_len _) e).1
  obtain ⟨rfl, rfl, rfl, rfl, e5, hk⟩ := of_eq3 h hn k h1 j hg eb
  have i := (Fr.ok_right hg).item
  rw [if_pos hk] at i
  have es : s = g.item.sk := by
    unfold SkIs at hs
    rw [if_pos rfl] at hs
    exact Sk.bytes_inj hs.1 (It.ok_nums i).2.2.2.2 (hs.2.symm.trans e5)
  have ef : f = g := by
    rw [hf, pairsTo_all rfl, es]
    rfl
  rw [ef]
  exact ⟨hg, e.symm⟩
theorem of_done0 {B l m : List Int} {p q : Int} {n : Nat} (h : getTo B 2 5 = some (l, p)) (hn : l.getD 4 0 = (n : Int)) (k : getTo B p (2 * n) = some (m, q)) (h1 : ¬ l.getD 0 0 = 1)
    {f : Fr} (hf : f = ⟨l.getD 0 0, l.getD 1 0, l.getD 2 0, l.getD 3 0, pairsTo m n, It.zero⟩) (hno : ¬ (f.ok = true ∧ f.bytes = B ++ sumOf B)) : FrIs (B ++ sumOf B) Fr.zero false := by
  refine frIs_ne (fun g hg e => hno ?_)
  have eb : B = g.body := by
    rw [Fr.bytes_ok hg] at e
    exact (app4_inj (sumOf_len _) (sumOf_len _) e).1
  obtain ⟨rfl, rfl, rfl, rfl⟩ := of_eq2 h hn k hg eb
  have z : (headOf g).getD 0 0 = g.kind := rfl
  have hk : ¬ g.kind = 1 := by omega
  have i := (Fr.ok_right hg).item
  rw [if_neg hk] at i
  have ef : f = g := by
    rw [hf, pairsTo_all rfl, ← i]
    rfl
  rw [ef]
  exact ⟨hg, e.symm⟩
theorem of_good {B : List Int} {f : Fr} (hok : f.ok = true) (e : f.bytes = B ++ sumOf B) : FrIs (B ++ sumOf B) f true := frIs_yes hok e.symm
theorem of_short {zs : List Int} (h : zs.length < 6) : FrIs zs Fr.zero false := frIs_ne (fun g hg e => by
  have := Fr.bytes_min hg
  rw [← e] at this
  omega)
end Go.Proofs.Ytjndcfamfminkaq
/- What is read out of bytes, as a result; appends that grow, within a region. No statement of the seat is proved here. -/
namespace Go.Proofs.Ytjndcfamfminkaq
open Go.RowKit
def NewSk2 (w : World) (R : Sk → Bool → Prop) (e : Ending) (w' : World) : Prop := ∃ v s d F, e = .returned (.tuple #[v, .bool d]) ∧ RdSk w' v s F ∧ Own w.heap.size w' F ∧ Below w.heap.size w w' ∧ R s d
def NumHeld (b off : Nat) (x0 x1 x2 x3 : Int) (W : World) : Prop := W.cell? ⟨b, off, none⟩ = some (.int .i64 x0) ∧ W.cell? ⟨b, off + 1, none⟩ = some (.int .i64 x1) ∧ W.cell? ⟨b, off + 2, none⟩ = some (.int .i64 x2) ∧ W.cell? ⟨b, off + 3, none⟩ = some (.int .i64 x3)
theorem rdSk_zero7 (w : World) : RdSk w (.agg #[.int .i64 0, .int .i64 0, .int .i64 0, .int .i64 0, .slice none 0 0, .slice none 0 0, .slice none 0 0]) Sk.zero [] := ⟨none, 0, 0, none, 0, 0, none, 0, 0, [], [], [], rfl, ⟨rfl, .inl ⟨rfl, rfl⟩⟩, ⟨rfl, .inl ⟨rfl, rfl⟩⟩, ⟨rfl, .inl ⟨rfl, rfl⟩⟩, rfl⟩
theorem wide_skOf {l : List Int} (h : l.length = 28) : (skOf l).wide := by
  refine ⟨by simp [skOf]; omega, by simp [skOf]; omega, by simp [skOf], fun z hz => ?_⟩
  have := (skOf_lens h).row z hz
  omega
theorem RdI.numHeld {W : World} {b off n : Nat} {l : List Int} {F : List Nat} (h : RdI W (some ⟨b, off, none⟩) n l F) (hn : 4 ≤ n) : NumHeld b off (l.getD 0 0) (l.getD 1 0) (l.getD 2 0) (l.getD 3 0) W := by
  rcases h.cells with ⟨h0, _⟩ | ⟨b', off', _, e, _, hc⟩
  · omega
  · cases e
    exact ⟨hc 0 (by omega), hc 1 (by omega), hc 2 (by omega), hc 3 (by omega)⟩
/-- A part of a list that is read. -/
theorem RdI.part {W : World} {b off m : Nat} {l : List Int} {F : List Nat} (h : RdI W (some ⟨b, off, none⟩) m l F) {k n : Nat} (hkn : k + n ≤ m) (hn : 0 < n) : RdI W (some ⟨b, off + k, none⟩) n ((l.drop k).take n) F := by
  rcases h.cells with ⟨h0, _⟩ | ⟨b', off', _, e, hF, hc⟩
  · omega
  · cases e
    refine ⟨by have := h.length; simp; omega, .inr ⟨b, off + k, hn, rfl, hF, fun i hi => ?_⟩⟩
    rw [Nat.add_assoc, hc (k + i) (by omega)]
    simp [hi]
section
variable {P : Program} {ops : Array Oper} {Q : Exit → Act → World → Prop} {a : Act} {w : World} {o : Oper} {K : Act → World → Prop}
theorem op_grows (s x : Operand) (t : TypeId) (hg : o.guard = none) (hop : o.op = .call { callee := .builtin .append, args := #[s, x], argTypes := #[t, t] })
    (e : TypeId) (i : TypeInfo) (z : Value) (size bytes : Nat) (h1 : P.underlying t = some (.slice e)) (h2 : P.info? e = some i) (h3 : i.zero = some z) (h4 : i.size = size) (h5 : i.bytes = bytes) (h6 : z.cells.size = size) (h7 : 0 < size)
    (ao : Option Addr) (hs : a.eval s = .slice ao 0 0)
    (ad : Addr) (m c : Nat) (news : List Value) (hx : a.eval x = .slice (some ad) m c) (hn : news.length = m * size) (hc : ∀ j u, news[j]? = some u → w.cell? (ad.add j) = some u) (h1c : ∀ u ∈ news, u.oneCell' = true)
    (hm : 0 < m) (b1 : m ≤ maxLen) (b2 : m * bytes ≤ 140737488355328)
    (h : ∀ v' w', w'.ownsRow w.heap.size e size v' m news → Below w.heap.size w w' → ∃ a', a.put o.dst v' = a' ∧ K a' w') : if Region.wanted o (yielded ops a.tmps) = true then Oper.wp P o a w K Q else K (a.put o.dst undef) w := by
  refine step_append_grows hg s x t hop e i z size bytes h1 h2 h3 h4 h5 h6 h7 ao 0 0 [] hs (fun _ => ⟨rfl, rfl⟩) (by simp) (fun _ _ j u hj => by simp at hj) ad m c news hx hn hc h1c (by omega) (by omega) (by simpa using b2) ?_
  intro v' w' k1 k2
  obtain ⟨_, rfl, k3⟩ := h v' w' (by simpa using k1) ((Below.refl _ _).grown k2 (Nat.le_refl _) (fun g e => by cases e))
  exact k3
end
end Go.Proofs.Ytjndcfamfminkaq
