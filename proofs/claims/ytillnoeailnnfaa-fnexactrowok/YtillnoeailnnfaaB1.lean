/- Several texts of mine, laid together. No statement of the seat is proved here. -/
import Derived.Test.YtillnoeailnnfaaRwData
import Derived.Test.YtillnoeailnnfaaItAdd
import Derived.Test.YtillnoeailnnfaaSpCount
import Derived.Test.YtillnoeailnnfaaEnData
import Derived.Test.YtillnoeailnnfaaItHelp2
import Derived.Test.YtillnoeailnnfaaSpHelp
import Derived.Test.YtillnoeailnnfaaSkLaw
import Derived.Test.YtillnoeailnnfaaItLaw
import Derived.Test.YtillnoeailnnfaaLstOps
import Derived.Test.YtillnoeailnnfaaSpModel3
import Derived.Test.YtillnoeailnnfaaSpAlg
import Derived.Maps.AppendAt
import Derived.BigRegion
import Derived.Deep.RegionHeld3
import Derived.Laws.StructEq
import Derived.Test.YtillnoeailnnfaaTallyA
import Derived.Test.YtillnoeailnnfaaSkMath
import Derived.Test.YtillnoeailnnfaaWhole
import Derived.Test.YtillnoeailnnfaaArrEq
import Derived.Test.YtillnoeailnnfaaBase
import Derived.Test.YtillnoeailnnfaaItModel
import Derived.Test.YtillnoeailnnfaaLstCopy
import Derived.Test.YtillnoeailnnfaaItOpen
import Derived.Test.YtillnoeailnnfaaSpOpen
import Derived.Deep.Slices
/- Rows that are right, and the numbers in them: the mathematics. No statement of the seat is proved here. -/
namespace Go.Proofs.Ytillnoeailnnfaa
open Go.RowKit
/-- The first k entries are each right, and apart from those ahead of them. -/
def fineTo (xs : List En) : Nat → Bool
  | 0 => true
  | k + 1 => fineTo xs k && (match xs[k]? with
    | some x => x.ok && (xs.take k).all fun y => x.ids.apart y.ids
    | none => true)
def Rw.ok (x : Rw) : Bool := decide (x.list.length ≤ 24) && fineTo x.list x.list.length
/-- The numbers of the first k entries, joined. -/
def idsTo (xs : List En) (k : Nat) : Sp := (xs.take k).foldl (fun o e => o.join e.ids) []
def Rw.ids (x : Rw) : Sp := if x.ok then idsTo x.list x.list.length else []
theorem fineTo_succ {xs : List En} {k : Nat} {x : En} (h : xs[k]? = some x) : fineTo xs (k + 1) = (fineTo xs k && (x.ok && (xs.take k).all fun y => x.ids.apart y.ids)) := by
  rw [fineTo, h]
theorem fineTo_mono {xs : List En} {i : Nat} : ∀ {n : Nat}, i ≤ n → fineTo xs n = true → fineTo xs i = true
  | 0, h, k => by obtain rfl : i = 0 := by omega
                  exact k
  | n + 1, h, k => by
    by_cases e : i = n + 1
    · rw [e]; exact k
    · refine fineTo_mono (n := n) (by omega) ?_
      rw [fineTo, Bool.and_eq_true] at k
      exact k.1
theorem fineTo_not {xs : List En} {i n : Nat} (hi : i ≤ n) (h : fineTo xs i = false) : fineTo xs n = false := by
  cases e : fineTo xs n
  · rfl
  · rw [fineTo_mono hi e] at h; cases h
theorem Rw.ok_not {x : Rw} {i : Nat} (hi : i ≤ x.list.length) (h : fineTo x.list i = false) : x.ok = false := by
  unfold Rw.ok; rw [fineTo_not hi h, Bool.and_false]
theorem Rw.ok_long {x : Rw} (h : 24 < x.list.length) : x.ok = false := by
  unfold Rw.ok; rw [decide_eq_false (by omega), Bool.false_and]
theorem Rw.ok_yes {x : Rw} (h : x.list.length ≤ 24) (k : fineTo x.list x.list.length = true) : x.ok = true := by
  unfold Rw.ok; rw [decide_eq_true h, k]; rfl
theorem Rw.ok_parts {x : Rw} (h : x.ok = true) : x.list.length ≤ 24 ∧ fineTo x.list x.list.length = true := by
  unfold Rw.ok at h; simp only [Bool.and_eq_true, decide_eq_true_eq] at h; exact h
theorem fineTo_at {xs : List En} {i n : Nat} {x : En} (h : fineTo xs n = true) (hi : i < n) (hx : xs[i]? = some x) : x.ok = true ∧ (xs.take i).all (fun y => x.ids.apart y.ids) = true := by
  have := fineTo_mono (i := i + 1) (by omega) h
  rw [fineTo_succ hx] at this
  simp only [Bool.and_eq_true] at this
  exact this.2
theorem idsTo_zero (xs : List En) : idsTo xs 0 = [] := by simp [idsTo]
theorem idsTo_succ {xs : List En} {k : Nat} {x : En} (h : xs[k]? = some x) : idsTo xs (k + 1) = (idsTo xs k).join x.ids := by
  unfold idsTo
  rw [List.take_add_one, h]
  simp [List.foldl_append]
theorem take_snoc_en {xs : List En} {k : Nat} {x : En} (h : xs[k]? = some x) : xs.take (k + 1) = xs.take k ++ [x] := by
  rw [List.take_add_one, h]; rfl
theorem idsTo_ok {xs : List En} : ∀ {k : Nat}, k ≤ xs.length → fineTo xs k = true → (idsTo xs k).ok = true ∧ (∀ n, (idsTo xs k).has n = (xs.take k).any fun y => y.ids.has n) ∧ ((idsTo xs k).length : Int) ≤ ensSize (xs.take k)
  | 0, _, _ => by
    rw [idsTo_zero]
    exact ⟨rfl, fun n => by simp [Sp.has], by simp [ensSize, sumOfL]⟩
  | k + 1, hk, h => by
    have hx : xs[k]? = some (xs[k]'(by omega)) := List.getElem?_eq_getElem _
    generalize xs[k]'(by omega) = x at hx
    obtain ⟨i1, i2, i3⟩ := idsTo_ok (k := k) (by omega) (fineTo_mono (by omega) h)
    have hox := (fineTo_at h (by omega) hx).1
    have hix := (En.ok_ids hox).1
    obtain ⟨j1, j2⟩ := join_right i1 hix
    rw [idsTo_succ hx, take_snoc_en hx]
    refine ⟨j1, fun n => ?_, ?_⟩
    · rw [j2, i2, List.any_append]; simp
    · rw [Sp.join_yes i1 hix]
      have := joinTo_length (ps := idsTo xs k) (qs := x.ids) x.ids.length (Nat.le_refl _)
      have e : ensSize (xs.take k ++ [x]) = ensSize (xs.take k) + x.wt := by unfold ensSize; rw [sumOfL_split]; simp [sumOfL]
      rw [e]
      have h0 := sumLen_nonneg x.sk.rows
      unfold En.wt Sk.size
      omega
theorem apart_iff {a b : Sp} (ha : a.ok = true) (hb : b.ok = true) : a.apart b = true ↔ ∀ n, (a.has n && b.has n) = false := by
  rw [apart_eq, ha, hb, Bool.true_and, Bool.true_and]
  exact noMeet_iff (ok_iff.1 ha) (ok_iff.1 hb)
theorem idsTo_apart {xs : List En} {k : Nat} {x : En} (hk : k ≤ xs.length) (h : fineTo xs k = true) (hx : x.ok = true) : (idsTo xs k).apart x.ids = (xs.take k).all fun y => x.ids.apart y.ids := by
  obtain ⟨i1, i2, _⟩ := idsTo_ok hk h
  have hix := (En.ok_ids hx).1
  have hall : ∀ y ∈ xs.take k, y.ids.ok = true := fun y hy => by
    obtain ⟨i, hi, e⟩ := List.mem_iff_getElem.1 hy
    have hi2 : i < k := by rw [List.length_take] at hi; omega
    have hy2 : xs[i]? = some y := by
      rw [List.getElem_take] at e
      rw [← e]; exact List.getElem?_eq_getElem _
    exact (En.ok_ids (fineTo_at h hi2 hy2).1).1
  rw [Bool.eq_iff_iff, apart_iff i1 hix, List.all_eq_true]
  constructor
  · intro q y hy
    rw [apart_iff hix (hall y hy)]
    intro n
    cases e1 : x.ids.has n
    · rfl
    · cases e2 : y.ids.has n
      · rfl
      · have h3 : (xs.take k).any (fun y => y.ids.has n) = true := List.any_eq_true.2 ⟨y, hy, e2⟩
        have h4 := q n
        rw [i2, h3, e1] at h4
        cases h4
  · intro q n
    rw [i2]
    cases e1 : (xs.take k).any (fun y => y.ids.has n)
    · rfl
    · obtain ⟨y, hy, e2⟩ := List.any_eq_true.1 e1
      have := (apart_iff hix (hall y hy)).1 (q y hy) n
      rw [e2, Bool.and_true] at this
      rw [this]; rfl
theorem ensSize_take (xs : List En) (k : Nat) : ensSize (xs.take k) ≤ ensSize xs := sumOfL_le_take En.wt_nonneg xs k
theorem idsTo_len {x : Rw} (hf : x.fits) {k : Nat} (hk : k ≤ x.list.length) (h : fineTo x.list k = true) : (idsTo x.list k).length ≤ 1048576 := by
  have h1 := (idsTo_ok hk h).2.2
  have h2 := ensSize_take x.list k
  unfold Rw.fits Rw.size at hf
  omega
end Go.Proofs.Ytillnoeailnnfaa
/- The walks through the helpers of the laws over slices of entries. No statement of the seat is proved here. -/
namespace Go.Proofs.Ytillnoeailnnfaa
open Go.RowKit
theorem ens_at {w : World} {a : Option Addr} {len : Nat} {xs : List En} {F : List Nat} (h : RdL enK w a len xs F) {k : Nat} (hk : k < len) : ∃ b off x cs Fi, a = some ⟨b, off, none⟩ ∧ b < w.heap.size ∧ xs[k]? = some x ∧ cs.size = 10 ∧ (∀ j, j < 10 → w.cell? ⟨b, off + k * 10 + j, none⟩ = cs[j]?) ∧ RdE w (.agg cs) x Fi := by
  obtain ⟨b, off, ha, hb, cs, Fi, h1, h2, h3, _⟩ := h.get k hk
  have hx : xs[k]? = some (xs[k]'(by rw [h.length]; exact hk)) := List.getElem?_eq_getElem _
  exact ⟨b, off, _, cs, Fi, ha, h.lt b hb, hx, h1, h2, h3 _ hx⟩
theorem infoEnS : (Try.prog.info? 39).map (fun i => (i.zero, i.size, i.bytes)) = some (some (.agg #[.int .i64 0, .int .i64 0, .slice none 0 0, .int .i64 0, .int .i64 0, .int .i64 0, .int .i64 0, .slice none 0 0, .slice none 0 0, .slice none 0 0]), 10, 144) := by kernel_rfl
theorem infoEnS2 : (Try.prog.info? 39).map (·.size) = some 10 := by kernel_rfl
theorem infoEnS3 : (Try.prog.info? 69).map (·.size) = some 10 := by kernel_rfl
set_option maxRecDepth 200000 in
set_option maxHeartbeats 2000000 in
theorem toEntryS_any (a : Option Addr) (len cap : Nat) (xs : List En) (F : List Nat) (w : World) (h : RdL enK w a len xs F) (hlen : len ≤ 1048576) (hf : ∀ x ∈ xs, x.fits) :
    Calls Try.prog 26 #[.slice a len cap] w fun e w' => NewL enK w xs e w' := by
  obtain ⟨i0, hi, hz0, hz1, hz2⟩ := info_parts infoEnS
  have HL : Hid (RdL enK w a len xs F) := h
  have HF : Hid (∀ x ∈ xs, x.fits) := hf
  have hbase : w.heap.size ≤ w.heap.size := Nat.le_refl _
  clear h hf
  go_enter Try.func26, Try.ntmps26
  go_wp2_with (at_make; refine wpList_make_full _ rfl _ _ 27 rfl w.heap.size 39 i0 (.agg #[.int .i64 0, .int .i64 0, .slice none 0 0, .int .i64 0, .int .i64 0, .int .i64 0, .int .i64 0, .slice none 0 0, .slice none 0 0, .slice none 0 0]) 10 Try.underlying27 hi hz0 hz1 .i64 .i64 _ _ len rfl rfl rfl rfl (by rw [hz2]; omega) (by unfold maxLen; omega) (Nat.le_refl _) ?_; intro w1 hown hgrow)
  obtain ⟨zs, hzs⟩ : ∃ zs : List Value, zs = (madeCells (Value.agg #[.int .i64 0, .int .i64 0, .slice none 0 0, .int .i64 0, .int .i64 0, .int .i64 0, .int .i64 0, .slice none 0 0, .slice none 0 0, .slice none 0 0]).cells (len * 10)).toList := ⟨_, rfl⟩
  have hzl : zs.length = len * 10 := by rw [hzs]; simp [madeCells]
  have HBk : Hid (Blk w1 w.heap.size zs.toArray 39 ∧ Below w.heap.size w w1) := by
    have HG := (Below.refl w.heap.size w).grown hgrow (Nat.le_refl _) (fun k hk => by cases hk)
    refine ⟨?_, HG⟩
    rcases hown.2 with ⟨e1, _⟩ | ⟨g, c, cur, e1, h1, h2, h3, h4, h5, h6⟩
    · cases e1
    · cases e1
      have e2 : cur.toList = zs := by
        rw [hzs, ← h6, List.take_of_length_le (by rw [Array.length_toList]; omega)]
      rw [← e2]
      exact h2
  clear hown hgrow hzs
  go_loopw [4] (fun i wr => ∃ (k : Nat) (vs : List Value) (G : List Nat), k ≤ len ∧ i = .int .i64 k ∧ Hid (CopyL enK w 39 zs xs k vs G wr)) (fun i _ => len - (intOf i).toNat)
  case atStart => exact ⟨0, [], [], by omega, rfl, ⟨by simpa using HBk.out.1, RdC.nil, Own.nil, HBk.out.2⟩⟩
  case round =>
    obtain ⟨k, vs, G, hk, rfl, HC⟩ := hrel
    by_cases hlt : k < len
    · have hI : (k : Int) < (len : Int) := by omega
      obtain ⟨b, off, x, cs, Fi, rfl, hbw, hx, hs, hcc, hr⟩ := ens_at HL.out hlt
      have HX : Hid (xs[k]? = some x ∧ cs.size = 10 ∧ RdE wr (.agg cs) x Fi ∧ x.fits) := ⟨hx, hs, hr.below HC.out.bel, HF.out x (List.mem_of_getElem? hx)⟩
      have HCC : Hid (∀ j, j < 10 → wr.cell? ⟨b, off + k * 10 + j, none⟩ = cs[j]?) := fun j hj => by
        have := hcc j hj
        rw [← this]
        exact HC.out.bel.cell (p := ⟨b, off + k * 10 + j, none⟩) hbw
      clear hx hs hcc hr
      go_wp2_with (first | go_skip | (with_reducible refine stopLoad 69 rfl ?_))
      refine load_at 69 b (off + k * 10) 10 cs _ HCC.out HX.out.2.1 rfl rfl rfl Try.underlying69 rfl infoEnS3 ?_
      go_wp2_with fail
      refine (toE_any _ x Fi _ HX.out.2.2.1 HX.out.2.2.2).mono ?_
      rintro e w2 ⟨v2, F2, rfl, hr2, ho2, hb2⟩
      obtain ⟨ds, rfl, hd11, hd1⟩ := enK.cells (w := w2) hr2
      have HST := HC.out.step HX.out.1 hr2 hd11 ho2 hb2
      have HS1 : Hid (Blk w2 w.heap.size (vs ++ zs.drop (k * 10)).toArray 39 ∧ cutIn (vs ++ zs.drop (k * 10)).toArray (k * 10) ds = ((vs ++ ds.toList) ++ zs.drop ((k + 1) * 10)).toArray) := ⟨HST.1, HST.2.1⟩
      have HS2 : Hid (CopyL enK w 39 zs xs (k + 1) (vs ++ ds.toList) (G ++ F2) (w2.setRow w.heap.size ((vs ++ ds.toList) ++ zs.drop ((k + 1) * 10)).toArray)) := HST.2.2
      have hvl : vs.length = k * 10 := by have := HC.out.rd.length; rw [List.length_take, Nat.min_eq_left (by have := HL.out.length; omega)] at this; exact this
      have HD : Hid (ds.size = 10 ∧ ds.all (·.oneCell') = true ∧ k * 10 + ds.size ≤ (vs ++ zs.drop (k * 10)).toArray.size) := ⟨hd11, hd1, by
        have e : ds.size = 10 := hd11
        rw [e, List.size_toArray, List.length_append, List.length_drop, hvl, hzl]
        omega⟩
      clear HST HC HCC HX hr2 ho2 hb2 hd11 hd1 hvl
      go_wp2_with (first | go_skip | (with_reducible refine stopStore 39 rfl ?_))
      refine store_cut 39 w.heap.size (k * 10) _ ds _ 39 HS1.out.1 rfl rfl rfl rfl (by rw [HD.out.1]; exact infoEnS2) HD.out.2.2 HD.out.2.1 HS1.out.2 ?_
      obtain ⟨w3, hw3⟩ : ∃ W, W = w2.setRow w.heap.size ((vs ++ ds.toList) ++ zs.drop ((k + 1) * 10)).toArray := ⟨_, rfl⟩
      rw [← hw3] at HS2 ⊢
      clear hw3 HS1
      go_wp2
      go_roundw
      case rel => exact ⟨k + 1, _, _, by omega, by go_num, HS2.out⟩
      case measure => simp [intOf]; omega
    · obtain rfl : k = len := by omega
      obtain ⟨F2, hr, ho⟩ := HC.out.done HL.out.length hzl
      have HR : Hid (RdL enK wr (some ⟨w.heap.size, 0, none⟩) k xs F2 ∧ Own w.heap.size wr F2) := ⟨hr, ho⟩
      clear hr ho
      go_wp2
      go_ret
      exact ⟨_, k, k, F2, rfl, HR.out.1, HR.out.2, HC.out.bel, (fun e => by cases e), Nat.le_refl _⟩
set_option maxRecDepth 200000 in
set_option maxHeartbeats 2000000 in
theorem szEntryS_vast (a : Option Addr) (len cap : Nat) (xs : List En) (F : List Nat) (left : Int) (w : World) (h : RdL enK w a len xs F) (hlen : len ≤ 9223372036854775807) (hv : ∀ x ∈ xs, x.vast) (hl0 : 0 ≤ left) (hl1 : left ≤ 1048576) :
    Calls Try.prog 23 #[.slice a len cap, .int .i64 left] w fun e w' => Weighed left (len + ensSize xs) e ∧ Below w.heap.size w w' := by
  have HL : Hid (RdL enK w a len xs F) := h
  have HV : Hid (∀ x ∈ xs, x.vast) := hv
  have HN : Hid (0 ≤ ensSize xs) := ensSize_nonneg xs
  clear h hv
  by_cases hbig : left < (len : Int)
  · go_enter Try.func23, Try.ntmps23
    go_wp2
    go_ret
    have := HN.out
    exact ⟨⟨-1, rfl, by omega, by omega, by omega⟩, Below.refl _ _⟩
  have hsub0 : 0 ≤ left - (len : Int) := by omega
  go_enter Try.func23, Try.ntmps23
  go_wp2_with fail
  go_loopw [1, 5] (fun s i wr => ∃ (k : Nat) (y : Int), k ≤ len ∧ 0 ≤ y ∧ y ≤ 1048576 ∧ i = .int .i64 k ∧ s = .int .i64 y ∧ Hid (y = left - len - ensSize (xs.take k)) ∧ Hid (Below w.heap.size w wr)) (fun _ i _ => len - (intOf i).toNat)
  case atStart => exact ⟨0, _, by omega, hsub0, by omega, rfl, rfl, (show _ = _ by simp [ensSize, sumOfL]), Below.refl _ _⟩
  case round =>
    obtain ⟨k, y, hk, hy0, hy1, rfl, rfl, HY, HB⟩ := hrel
    by_cases hlt : k < len
    · have hI : (k : Int) < (len : Int) := by omega
      obtain ⟨b, off, x, cs, Fi, rfl, hbw, hx, hs, hcc, hr⟩ := ens_at HL.out hlt
      have HX : Hid (xs[k]? = some x ∧ cs.size = 10 ∧ RdE wr (.agg cs) x Fi ∧ x.vast) := ⟨hx, hs, hr.below HB.out, HV.out x (List.mem_of_getElem? hx)⟩
      have HCC : Hid (∀ j, j < 10 → wr.cell? ⟨b, off + k * 10 + j, none⟩ = cs[j]?) := fun j hj => by
        have := hcc j hj
        rw [← this]
        exact HB.out.cell (p := ⟨b, off + k * 10 + j, none⟩) hbw
      clear hx hs hcc hr
      go_wp2_with (first | go_skip | (with_reducible refine stopLoad 69 rfl ?_))
      refine load_at 69 b (off + k * 10) 10 cs _ HCC.out HX.out.2.1 rfl rfl rfl Try.underlying69 rfl infoEnS3 ?_
      go_wp2_with fail
      refine (szEn_vast _ x Fi y _ HX.out.2.2.1 HX.out.2.2.2 hy0 hy1).mono ?_
      rintro e w2 ⟨⟨r, rfl, ra, rb, rc⟩, hb2⟩
      have HB2 : Hid (Below w.heap.size w w2) := Below.next HB.out hb2
      have HT : Hid (ensSize (xs.take (k + 1)) = ensSize (xs.take k) + x.wt ∧ ensSize (xs.take (k + 1)) ≤ ensSize xs) := ⟨sumOfL_take HX.out.1, sumOfL_le_take En.wt_nonneg xs (k + 1)⟩
      have HRR : Hid (r ≤ y ∧ (0 ≤ r → r = y - x.wt) ∧ (r < 0 → y < x.wt)) := ⟨ra, rb, rc⟩
      clear ra rb rc hb2 HCC HX HB
      by_cases q : r < 0
      · go_wp2
        go_ret
        have t1 := HT.out
        have t2 := HRR.out.2.2 q
        have t3 := HY.out
        exact ⟨⟨-1, rfl, by omega, by omega, by omega⟩, HB2.out⟩
      · have hr0 : 0 ≤ r := by omega
        have hr1 : r ≤ 1048576 := by have := HRR.out.1; omega
        have HY2 : Hid (r = left - len - ensSize (xs.take (k + 1))) := by have t1 := HT.out.1; have t2 := HRR.out.2.1 hr0; have t3 := HY.out; show _ = _; omega
        clear HT HRR HY
        go_wp2
        go_roundw
        case rel => exact ⟨k + 1, r, by omega, hr0, hr1, by go_num, rfl, HY2, HB2⟩
        case measure => simp [intOf]; omega
    · obtain rfl : k = len := by omega
      have HE : Hid (xs.take k = xs) := List.take_of_length_le (by rw [HL.out.length]; omega)
      go_wp2
      go_ret
      have t1 := HY.out
      have t2 := HN.out
      rw [HE.out] at t1
      exact ⟨⟨y, rfl, by omega, by omega, by omega⟩, HB.out⟩
theorem ens_eq_step {xs ys : List En} {k : Nat} {x y : En} (hx : xs[k]? = some x) (hy : ys[k]? = some y) (h : xs.take k = ys.take k) (e : x = y) : xs.take (k + 1) = ys.take (k + 1) := by
  rw [take_snoc_at hx, take_snoc_at hy, h, e]
theorem ens_ne_at {xs ys : List En} {k : Nat} {x y : En} (hx : xs[k]? = some x) (hy : ys[k]? = some y) (e : ¬ x = y) : decide (xs = ys) = false := by
  rw [decide_eq_false_iff_not]
  intro h
  rw [h, hy] at hx
  cases hx
  exact e rfl
set_option maxRecDepth 200000 in
set_option maxHeartbeats 2000000 in
theorem eqEntryS_any (a b : Option Addr) (la lb ca cb : Nat) (xs ys : List En) (F G : List Nat) (w : World) (ha : RdL enK w a la xs F) (hb : RdL enK w b lb ys G) (hla : la ≤ 140737488355328) (hlb : lb ≤ 140737488355328) (hw : ∀ x ∈ xs, x.wide) (kw : ∀ y ∈ ys, y.wide) :
    Calls Try.prog 28 #[.slice a la ca, .slice b lb cb] w fun e w' => e = .returned (.bool (decide (xs = ys))) ∧ Below w.heap.size w w' := by
  have HX : Hid (RdL enK w a la xs F ∧ ∀ x ∈ xs, x.wide) := ⟨ha, hw⟩
  have HY : Hid (RdL enK w b lb ys G ∧ ∀ x ∈ ys, x.wide) := ⟨hb, kw⟩
  clear ha hb hw kw
  by_cases hl : la = lb
  rotate_left
  · have hne : ((la : Int) != (lb : Int)) = true := by simpa using (by omega : ¬ (la : Int) = (lb : Int))
    have HV : Hid (decide (xs = ys) = false) := dec_false (fun e => hl (by have h1 := HX.out.1.length; have h2 := HY.out.1.length; rw [← h1, ← h2, e]))
    clear hl
    go_enter Try.func28, Try.ntmps28
    go_wp2
    go_ret
    exact ⟨ret_bool HV.out.symm, Below.refl _ _⟩
  subst hl
  have hbne : ((la : Int) != (la : Int)) = false := by simp
  go_enter Try.func28, Try.ntmps28
  go_wp2_with fail
  go_loopw [5] (fun i wr => ∃ k : Nat, k ≤ la ∧ i = .int .i64 k ∧ Hid (xs.take k = ys.take k ∧ Below w.heap.size w wr)) (fun i _ => la - (intOf i).toNat)
  case atStart => exact ⟨0, by omega, rfl, rfl, Below.refl _ _⟩
  case round =>
    obtain ⟨k, hk, rfl, HT⟩ := hrel
    by_cases hlt : k < la
    · have hI : (k : Int) < (la : Int) := by omega
      obtain ⟨b1, o1, x, cs, Fi, rfl, hbw1, hx, hs1, hcc1, hr1⟩ := ens_at HX.out.1 hlt
      obtain ⟨b2, o2, y, ds, Gi, rfl, hbw2, hy, hs2, hcc2, hr2⟩ := ens_at HY.out.1 hlt
      have HP : Hid (xs[k]? = some x ∧ ys[k]? = some y ∧ x.wide ∧ y.wide ∧ cs.size = 10 ∧ ds.size = 10) := ⟨hx, hy, HX.out.2 x (List.mem_of_getElem? hx), HY.out.2 y (List.mem_of_getElem? hy), hs1, hs2⟩
      have HCW : Hid (∀ W, Below w.heap.size w W → ((∀ j, j < 10 → W.cell? ⟨b1, o1 + k * 10 + j, none⟩ = cs[j]?) ∧ ∀ j, j < 10 → W.cell? ⟨b2, o2 + k * 10 + j, none⟩ = ds[j]?) ∧ RdE W (.agg cs) x Fi ∧ RdE W (.agg ds) y Gi) := fun W hB => ⟨⟨fun j hj => by rw [← hcc1 j hj]; exact hB.cell (p := ⟨b1, o1 + k * 10 + j, none⟩) hbw1, fun j hj => by rw [← hcc2 j hj]; exact hB.cell (p := ⟨b2, o2 + k * 10 + j, none⟩) hbw2⟩, hr1.below hB, hr2.below hB⟩
      clear hx hy hs1 hs2 hcc1 hcc2 hr1 hr2
      go_wp2_with fail
      have HTd : Hid (Below w.heap.size w wr.drew) := Below.drew HT.out.2
      obtain ⟨Y, hY⟩ : ∃ Y, Y = wr.drew := ⟨_, rfl⟩
      rw [← hY] at HTd
      refine wp_region_held (S := fun W => (∀ j, j < 10 → W.cell? ⟨b1, o1 + k * 10 + j, none⟩ = cs[j]?) ∧ ∀ j, j < 10 → W.cell? ⟨b2, o2 + k * 10 + j, none⟩ = ds[j]?) (by kernel_rfl) ?_
      change wpAnyH _ _ _ _ _ _ _ _ (World.drew _)
      rw [← hY]
      clear hY
      refine takeH (o := ?o1) 0 (.slice (some ⟨b1, o1, none⟩) la ca) ?h1 ?r1
      case h1 => simp only [aT, aZ]; rfl
      refine ⟨_, by simp [Act.put]; rfl, by kernel_rfl, by kernel_rfl, by kernel_rfl, fun _ _ _ h => h, (.inl ⟨rfl, fun W _ => by kernel_rfl⟩), (HCW.out _ HTd.out).1, ?_⟩
      refine takeH (o := ?o2) 1 (.int .i64 k) ?h2 ?r2
      case h2 => simp only [aT, aS, aZ]; rfl
      refine ⟨_, by simp [Act.put]; rfl, by kernel_rfl, by kernel_rfl, by kernel_rfl, fun _ _ _ h => h, (.inl ⟨rfl, fun W _ => by kernel_rfl⟩), (HCW.out _ HTd.out).1, ?_⟩
      refine takeH (o := ?o3) 2 (.pointer (some ⟨b1, o1 + k * 10, none⟩)) ?h3 ?r3
      case h3 => simp only [aT, aS, aZ]; rfl
      refine ⟨_, by simp [Act.put]; rfl, by kernel_rfl, by kernel_rfl, by kernel_rfl, fun _ _ _ h => h, (.inl ⟨rfl, fun W _ => by go_simp; first | done | (intro h; omega) | (rw [if_pos (by omega)]; rfl)⟩), (HCW.out _ HTd.out).1, ?_⟩
      refine takeH (o := ?o4) 3 (.agg cs) ?h4 ?r4
      case h4 => simp only [aT, aS, aZ]; rfl
      refine ⟨_, by simp [Act.put]; rfl, by kernel_rfl, by kernel_rfl, by kernel_rfl, fun _ _ _ h => h, (yields_at 39 b1 (o1 + k * 10) 10 cs _ rfl rfl rfl Try.underlying39 rfl infoEnS2 HP.out.2.2.2.2.1 (fun W hW => hW.1)), (HCW.out _ HTd.out).1, ?_⟩
      refine takeH (o := ?o5) 4 (.slice (some ⟨b2, o2, none⟩) la cb) ?h5 ?r5
      case h5 => simp only [aT, aS, aZ]; rfl
      refine ⟨_, by simp [Act.put]; rfl, by kernel_rfl, by kernel_rfl, by kernel_rfl, fun _ _ _ h => h, (.inl ⟨rfl, fun W _ => by kernel_rfl⟩), (HCW.out _ HTd.out).1, ?_⟩
      refine takeH (o := ?o6) 5 (.int .i64 k) ?h6 ?r6
      case h6 => simp only [aT, aS, aZ]; rfl
      refine ⟨_, by simp [Act.put]; rfl, by kernel_rfl, by kernel_rfl, by kernel_rfl, fun _ _ _ h => h, (.inl ⟨rfl, fun W _ => by kernel_rfl⟩), (HCW.out _ HTd.out).1, ?_⟩
      refine takeH (o := ?o7) 6 (.pointer (some ⟨b2, o2 + k * 10, none⟩)) ?h7 ?r7
      case h7 => simp only [aT, aS, aZ]; rfl
      refine ⟨_, by simp [Act.put]; rfl, by kernel_rfl, by kernel_rfl, by kernel_rfl, fun _ _ _ h => h, (.inl ⟨rfl, fun W _ => by go_simp; first | done | (intro h; omega) | (rw [if_pos (by omega)]; rfl)⟩), (HCW.out _ HTd.out).1, ?_⟩
      refine takeH (o := ?o8) 7 (.agg ds) ?h8 ?r8
      case h8 => simp only [aT, aS, aZ]; rfl
      refine ⟨_, by simp [Act.put]; rfl, by kernel_rfl, by kernel_rfl, by kernel_rfl, fun _ _ _ h => h, (yields_at 39 b2 (o2 + k * 10) 10 ds _ rfl rfl rfl Try.underlying39 rfl infoEnS2 HP.out.2.2.2.2.2 (fun W hW => hW.2)), (HCW.out _ HTd.out).1, ?_⟩
      refine onlyH (o := ?o9) 8 (by kernel_rfl) ?h9 ?r9
      case h9 => simp only [aT, aS, aZ]; rfl
      intro K hK
      obtain ⟨d, hd⟩ : ∃ d, d = decide (x = y) := ⟨_, rfl⟩
      have HD : Hid (d = decide (x = y)) := hd
      refine op_call2' 13 _ _ _ Try.f13 (fun v w' => v = .bool d ∧ Below Y.heap.size Y w') rfl rfl Try.func13 (by kernel_rfl) (by kernel_rfl) ((eqE_any (.agg cs) (.agg ds) x y Fi Gi Y (HCW.out _ HTd.out).2.1 (HCW.out _ HTd.out).2.2 HP.out.2.2.1 HP.out.2.2.2.1).mono (by rintro e w' ⟨rfl, h1⟩; exact ⟨_, rfl, by rw [hd], h1⟩)) ?_
      rintro v Y2 ⟨rfl, hb2⟩
      have HB3 : Hid (Below w.heap.size w Y2) := Below.next HTd.out hb2
      clear hb2 hd
      refine ⟨_, by simp [Act.put]; rfl, hK _ _ ⟨(HCW.out _ HB3.out).1, ?_⟩⟩
      clear hK
      refine onlyH (o := ?o10) 9 (by kernel_rfl) ?h10 ?r10
      case h10 => simp only [aT, aS, aZ]; rfl
      intro K hK
      refine op_value (.bool (!d)) rfl (by go_simp) ⟨_, by simp [Act.put]; rfl, hK _ _ ⟨(HCW.out _ HB3.out).1, ?_⟩⟩
      clear hK
      refine wpAnyH_done (by kernel_rfl) ?_ _
      cases d
      · have HV : Hid (decide (xs = ys) = false) := ens_ne_at HP.out.1 HP.out.2.1 (of_decide_eq_false HD.out.symm)
        go_wp2
        go_ret
        exact ⟨ret_bool HV.out.symm, HB3.out⟩
      · have HE : Hid (xs.take (k + 1) = ys.take (k + 1)) := ens_eq_step HP.out.1 HP.out.2.1 HT.out.1 (of_decide_eq_true HD.out.symm)
        go_wp2
        go_roundw
        case rel => exact ⟨k + 1, by omega, by go_num, HE.out, HB3.out⟩
        case measure => simp [intOf]; omega
    · obtain rfl : k = la := by omega
      have HV : Hid (decide (xs = ys) = true) := by
        have := HT.out.1
        rw [List.take_of_length_le (by rw [HX.out.1.length]; omega), List.take_of_length_le (by rw [HY.out.1.length]; omega)] at this
        exact dec_true this
      go_wp2
      go_ret
      exact ⟨ret_bool HV.out.symm, HT.out.2⟩
end Go.Proofs.Ytillnoeailnnfaa
/- The walks through the helpers of the laws over rows. No statement of the seat is proved here. -/
namespace Go.Proofs.Ytillnoeailnnfaa
open Go.RowKit
theorem infoRwI : (Try.prog.info? 29).map (·.size) = some 1 := by kernel_rfl
theorem rwSize {cs : Array Value} (h : cs.size = 1) : (Try.prog.info? 29).map (·.size) = some cs.size := by rw [h]; kernel_rfl
theorem lrwSize {cs : Array Value} (h : cs.size = 1) : (Try.prog.info? 24).map (·.size) = some cs.size := by rw [h]; kernel_rfl
set_option maxRecDepth 200000 in
set_option maxHeartbeats 2000000 in
theorem toRw_any (v : Value) (x : Rw) (F0 : List Nat) (w : World) (h : RdRw w v x F0) (hf : x.fits) :
    Calls Try.prog 8 #[v] w fun e w' => NewRw w x e w' := by
  obtain ⟨a, n, c, rfl, hL, _⟩ := h
  have HL : Hid (RdL enK w a n x.list F0 ∧ n ≤ 1048576 ∧ ∀ y ∈ x.list, y.fits) := ⟨hL, by rw [← hL.length]; exact hf.len, hf.each⟩
  clear hL hf
  go_enter Try.func8, Try.ntmps8
  go_wp2_with fail
  have T0 := Three.made w #[.slice a n c] 24 #[.slice none 0 0] #[.slice none 0 0] 29
  refine (toEntryS_any a n c x.list F0 _ (HL.out.1.below T0.bel) HL.out.2.1 HL.out.2.2).mono ?_
  rintro e w1 ⟨p1, l1, k1, F, rfl, r1, o1, hb1, hc1⟩
  have HT1 : Hid (Three w _ _ _ _ _ w1) := T0.below hb1
  have HF1 : Hid (RdL enK w1 p1 l1 x.list F ∧ Own (w.heap.size + 3) w1 F ∧ Capd p1 l1 k1) := ⟨r1, o1.mono T0.size, hc1⟩
  have c0' := HT1.out.loc.cell 0
  have f0' := HT1.out.loc.frozen 0
  simp only [aT, aZ] at c0'
  clear T0 hb1 r1 o1 hc1 HL
  go_wp2_with (first | go_skip | (with_reducible refine stopLoad 29 rfl ?_))
  obtain ⟨E, hE⟩ : ∃ E : Array Value, E = #[.slice p1 l1 k1] := ⟨_, rfl⟩
  have HT5 : Hid (Three w #[.slice a n c] 24 #[.slice none 0 0] E 29 (w1.setCell ⟨w.heap.size + 1 + 1, 0, none⟩ (.slice p1 l1 k1))) := by
    have := HT1.out.set 0 (.slice p1 l1 k1)
    rw [hE]
    exact this
  have HE : Hid (E = #[.slice p1 l1 k1]) := hE
  have hE1 : E.size = 1 := by rw [hE]; rfl
  have hEone : E.all (·.oneCell') = true := by rw [hE]; simp [Value.oneCell']
  have nl : w.heap.size + 1 + 1 ∉ F := fun hx => by have := HF1.out.2.1.ge _ hx; omega
  have HG5 : Hid (RdL enK (w1.setCell ⟨w.heap.size + 1 + 1, 0, none⟩ (.slice p1 l1 k1)) p1 l1 x.list F ∧ Own (w.heap.size + 3) (w1.setCell ⟨w.heap.size + 1 + 1, 0, none⟩ (.slice p1 l1 k1)) F ∧ Capd p1 l1 k1) := by
    have ag := (Agree.refl w1 F).thenSet nl 0 (.slice p1 l1 k1)
    exact ⟨HF1.out.1.agree ag, HF1.out.2.1.agree ag, HF1.out.2.2⟩
  obtain ⟨w5, hw5⟩ : ∃ W, W = (w1.setCell ⟨w.heap.size + 1 + 1, 0, none⟩ (.slice p1 l1 k1)) := ⟨_, rfl⟩
  rw [← hw5] at HT5 HG5 ⊢
  clear hw5 c0' f0' HT1 HF1 nl hE
  refine load_known 29 (w.heap.size + 1 + 1) E 29 _ HT5.out.loc rfl rfl rfl Try.underlying29 rfl (by rw [hE1]; exact infoRwI) ?_
  go_wp2_with (first | go_skip | (with_reducible refine stopStore 29 rfl ?_))
  refine store_known 29 (w.heap.size + 1) _ E 29 HT5.out.res rfl rfl rfl rfl (by rw [hE1]; exact infoRwI) (by rw [hE1]; rfl) hEone ?_
  have nr : w.heap.size + 1 ∉ F := fun hx => by have := HG5.out.2.1.ge _ hx; omega
  have HB4 : Hid (Blk (w5.setRow (w.heap.size + 1) E) (w.heap.size + 1) E 29) := HT5.out.res.setRow
  have HF : Hid (RdL enK (w5.setRow (w.heap.size + 1) E) p1 l1 x.list F ∧ Own w.heap.size (w5.setRow (w.heap.size + 1) E) F ∧ Below w.heap.size w (w5.setRow (w.heap.size + 1) E)) := ⟨HG5.out.1.agree (Agree.row nr E), (HG5.out.2.1.agree (Agree.row nr E)).mono (by omega), below_setRow HT5.out.bel (by omega) _⟩
  obtain ⟨w6, hw6⟩ : ∃ W, W = w5.setRow (w.heap.size + 1) E := ⟨_, rfl⟩
  rw [← hw6] at HB4 HF ⊢
  clear hw6 HT5 nr
  go_wp2
  refine bodyPost_ret (results_cell_row Try.results8 _ _ (w.heap.size + 1) _ _ (0, 0) _ rfl HB4.out Try.underlying29 rfl (by rw [hE1]; exact infoRwI)) rfl ?_
  exact ⟨_, F, rfl, ⟨p1, l1, k1, by rw [HE.out], HF.out.1, HG5.out.2.2⟩, HF.out.2.1, HF.out.2.2⟩
set_option maxRecDepth 200000 in
set_option maxHeartbeats 2000000 in
theorem szRw_vast (v : Value) (x : Rw) (F : List Nat) (left : Int) (w : World) (h : RdRw w v x F) (hv : x.vast) (hl0 : 0 ≤ left) (hl1 : left ≤ 1048576) :
    Calls Try.prog 6 #[v, .int .i64 left] w fun e w' => (∃ r, e = .returned (.int .i64 r) ∧ r ≤ left ∧ (0 ≤ r → r = left - x.size ∧ x.size ≤ left) ∧ (r < 0 → left < x.size)) ∧ Below w.heap.size w w' := by
  obtain ⟨a, n, c, rfl, hL, _⟩ := h
  have HL : Hid (RdL enK w a n x.list F ∧ n ≤ 9223372036854775807 ∧ (∀ y ∈ x.list, y.vast) ∧ x.list.length = n) := ⟨hL, by rw [← hL.length]; exact hv.2, hv.1, hL.length⟩
  have HN : Hid (0 ≤ ensSize x.list ∧ x.size = (n : Int) + ensSize x.list) := ⟨ensSize_nonneg _, by unfold Rw.size; rw [hL.length]⟩
  have HB : Hid (Below w.heap.size w (w.alloc (.cells #[.slice a n c] 24)) ∧ Blk (w.alloc (.cells #[.slice a n c] 24)) w.heap.size #[.slice a n c] 24) := ⟨Below.allocW _ (Below.refl _ _) (Nat.le_refl _), Blk.made _ _ _⟩
  clear hL hv
  go_enter Try.func6, Try.ntmps6
  go_wp2_with fail
  refine (szEntryS_vast a n c x.list F left _ (HL.out.1.below HB.out.1) HL.out.2.1 HL.out.2.2.1 hl0 hl1).mono ?_
  rintro e w1 ⟨⟨r, rfl, ra, rb, rc⟩, hb1⟩
  have HB1 : Hid (Below w.heap.size w w1) := Below.next HB.out.1 hb1
  have HRR : Hid (r ≤ left ∧ (0 ≤ r → r = left - (n + ensSize x.list)) ∧ (r < 0 → left < n + ensSize x.list)) := ⟨ra, rb, rc⟩
  clear hb1 ra rb rc HB
  by_cases q : r < 0
  · go_wp2
    go_ret
    have t1 := HRR.out.2.2 q
    have t2 := HN.out
    exact ⟨⟨-1, rfl, by omega, by omega, fun _ => by omega⟩, HB1.out⟩
  · go_wp2
    go_ret
    have t0 := HRR.out.1
    have t1 := HRR.out.2.1 (by omega)
    have t2 := HN.out
    exact ⟨⟨r, rfl, by omega, fun _ => by omega, fun hs => by omega⟩, HB1.out⟩
set_option maxRecDepth 200000 in
set_option maxHeartbeats 4000000 in
theorem eqRw_any (v u : Value) (x y : Rw) (F G : List Nat) (w : World) (h : RdRw w v x F) (k : RdRw w u y G) (hw : x.wide) (kw : y.wide) :
    Calls Try.prog 10 #[v, u] w fun e w' => e = .returned (.bool (decide (x = y))) ∧ Below w.heap.size w w' := by
  obtain ⟨a, n, c, rfl, hL, _⟩ := h
  obtain ⟨b, m, d, rfl, kL, _⟩ := k
  have HX : Hid (RdL enK w a n x.list F ∧ RdL enK w b m y.list G ∧ n ≤ 140737488355328 ∧ m ≤ 140737488355328 ∧ (∀ z ∈ x.list, z.wide) ∧ ∀ z ∈ y.list, z.wide) := ⟨hL, kL, by rw [← hL.length]; exact Nat.le_trans hw.2 (by omega), by rw [← kL.length]; exact Nat.le_trans kw.2 (by omega), hw.1, kw.1⟩
  have HT : Hid (Two w #[.slice a n c] #[.slice b m d] 29 ((w.alloc (.cells #[.slice a n c] 29)).alloc (.cells #[.slice b m d] 29))) := Two.made w _ _ _
  clear hL kL hw kw
  go_enter Try.func10, Try.ntmps10
  go_wp2_with fail
  refine (eqEntryS_any a b n m c d x.list y.list F G _ (HX.out.1.below HT.out.bel) (HX.out.2.1.below HT.out.bel) HX.out.2.2.1 HX.out.2.2.2.1 HX.out.2.2.2.2.1 HX.out.2.2.2.2.2).mono ?_
  rintro e w2 ⟨rfl, hb2⟩
  have HT2 : Hid (Below w.heap.size w w2) := Below.next HT.out.bel hb2
  obtain ⟨g, hg⟩ : ∃ d, d = decide (x.list = y.list) := ⟨_, rfl⟩
  rw [← hg]
  have HD2 : Hid (g = decide (x = y)) := by
    rw [show (g = decide (x = y)) = (g = decide (x.list = y.list)) by congr 2; exact propext ⟨fun e => by rw [e], Rw.eq_of⟩]
    exact hg
  clear hb2 HT hg
  cases g
  · go_wp2
    go_ret
    exact ⟨ret_bool HD2.out, HT2.out⟩
  · go_wp2
    go_ret
    exact ⟨ret_bool HD2.out, HT2.out⟩
end Go.Proofs.Ytillnoeailnnfaa
/- One of a row's entries. No statement of the seat is proved here. -/
namespace Go.Proofs.Ytillnoeailnnfaa
open Go.RowKit
/-- One of a list's entries: its cells, wherever nothing below was touched. -/
theorem ens_in {w : World} {a : Option Addr} {len : Nat} {xs : List En} {F : List Nat} (h : RdL enK w a len xs F) {k : Nat} (hk : k < len) : ∃ b off x p l g cs Fi G, a = some ⟨b, off, none⟩ ∧ b < w.heap.size ∧ xs[k]? = some x ∧ cs.size = 10 ∧ (∀ W, Below w.heap.size w W → ∀ j, j < 10 → W.cell? ⟨b, off + k * 10 + j, none⟩ = cs[j]?) ∧ RdE w (.agg cs) x Fi ∧ cs[0]? = some (.int .i64 x.key) ∧ cs[1]? = some (.int .i64 x.window) ∧ cs[2]? = some (.slice p l g) ∧ RdP w p l x.ids G ∧ Capd p l g := by
  obtain ⟨b, off, x, cs, Fi, ha, hb, hx, hs, hc, hr⟩ := ens_at h hk
  have hr0 := hr
  obtain ⟨F1, F2, hF, p, l, g, a1, n1, c1, a2, n2, c2, a3, n3, c3, ev, hp, _, hcp⟩ := hr
  injection ev with ev
  subst ev
  exact ⟨b, off, x, p, l, g, _, Fi, F1, ha, hb, hx, hs, fun W hB j hj => by rw [← hc j hj]; exact hB.cell (p := ⟨b, off + k * 10 + j, none⟩) hb, hr0, rfl, rfl, rfl, hp, hcp⟩
theorem wide_at {xs : List En} (h : ∀ y ∈ xs, y.wide) {k : Nat} {x : En} (hx : xs[k]? = some x) : x.wide := h x (List.mem_of_getElem? hx)
end Go.Proofs.Ytillnoeailnnfaa
/- The model's RowOk. No statement of the seat is proved here. -/
namespace Go.Proofs.Ytillnoeailnnfaa
open Go.RowKit
set_option maxRecDepth 200000 in
set_option maxHeartbeats 8000000 in
theorem rowOkSpec_any (v : Value) (x : Rw) (F : List Nat) (w : World) (h : RdRw w v x F) (hw : x.wide) :
    Calls Try.prog 7 #[v] w fun e w' => e = .returned (.bool x.ok) ∧ Below w.heap.size w w' := by
  obtain ⟨a, n, c, rfl, hL, hcp⟩ := h
  have HL : Hid (RdL enK w a n x.list F ∧ x.list.length = n ∧ ∀ y ∈ x.list, y.wide) := ⟨hL, hL.length, hw.1⟩
  have hn : n ≤ 1048576 := by rw [← hL.length]; exact hw.2
  have HB : Hid (Below w.heap.size w (w.alloc (.cells #[.slice a n c] 29)) ∧ Blk (w.alloc (.cells #[.slice a n c] 29)) w.heap.size #[.slice a n c] 29) := ⟨Below.allocW _ (Below.refl _ _) (Nat.le_refl _), Blk.made _ _ _⟩
  clear hL hw hcp
  by_cases hbig : 24 < n
  · have hI : (24 : Int) < (n : Int) := by omega
    have HV : Hid (x.ok = false) := Rw.ok_long (by rw [HL.out.2.1]; exact hbig)
    go_enter Try.func7, Try.ntmps7
    go_wp2
    go_ret
    exact ⟨ret_bool HV.out.symm, HB.out.1⟩
  have hI24 : ¬ (24 : Int) < (n : Int) := by omega
  go_enter Try.func7, Try.ntmps7
  go_wp2
  go_loopw [3] (fun i wr => ∃ k : Nat, k ≤ n ∧ i = .int .i64 k ∧ Hid (fineTo x.list k = true) ∧ Hid (Below w.heap.size w wr ∧ Blk wr w.heap.size #[.slice a n c] 29)) (fun i _ => n - (intOf i).toNat)
  case atStart => exact ⟨0, by omega, rfl, rfl, HB⟩
  case round =>
    clear HB
    obtain ⟨k, hk, rfl, HT, HW⟩ := hrel
    have c0 := HW.out.2.cell 0
    simp only [aT, aZ] at c0
    by_cases hlt : k < n
    · have hI : (k : Int) < (n : Int) := by omega
      obtain ⟨b, off, y, p, l, g, cs, Fi, G, rfl, hbw, hy, hs, hcc, hr, h0, h1, h2, hp, hcp⟩ := ens_in HL.out.1 hlt
      have HX : Hid (x.list[k]? = some y ∧ cs.size = 10 ∧ RdE wr (.agg cs) y Fi ∧ y.wide) := ⟨hy, hs, hr.below HW.out.1, wide_at HL.out.2.2 hy⟩
      have HCC : Hid ((∀ W, Below w.heap.size w W → ∀ j, j < 10 → W.cell? ⟨b, off + k * 10 + j, none⟩ = cs[j]?) ∧ cs[2]? = some (.slice p l g) ∧ RdP w p l y.ids G) := ⟨hcc, h2, hp⟩
      clear hy hs hcc hr h0 h1 h2 hp hcp
      go_wp2_with (first | go_skip | (with_reducible refine stopLoad 39 rfl ?_))
      refine load_at 39 b (off + k * 10) 10 cs _ (HCC.out.1 _ HW.out.1) HX.out.2.1 rfl rfl rfl Try.underlying39 rfl infoEnS2 ?_
      go_wp2_with fail
      refine (entryOkE_any _ y Fi _ HX.out.2.2.1 HX.out.2.2.2).mono ?_
      rintro e w2 ⟨rfl, hb2⟩
      have HW2 : Hid (Below w.heap.size w w2 ∧ Blk w2 w.heap.size #[.slice (some ⟨b, off, none⟩) n c] 29) := ⟨Below.next HW.out.1 hb2, HW.out.2.below hb2⟩
      obtain ⟨d, hd⟩ : ∃ d, d = y.ok := ⟨_, rfl⟩
      rw [← hd]
      have HD : Hid (d = y.ok) := hd
      clear hd hb2 c0 HW
      cases d
      · have HV : Hid (x.ok = false) := Rw.ok_not (i := k + 1) (by rw [HL.out.2.1]; omega) (by rw [fineTo_succ HX.out.1, ← HD.out]; simp)
        go_wp2
        go_ret
        exact ⟨ret_bool HV.out.symm, HW2.out.1⟩
      go_wp2
      go_loopw [4] (fun i ws => ∃ j : Nat, j ≤ k ∧ i = .int .i64 j ∧ Hid ((x.list.take j).all (fun z => y.ids.apart z.ids) = true) ∧ Hid (Below w.heap.size w ws ∧ Blk ws w.heap.size #[.slice (some ⟨b, off, none⟩) n c] 29)) (fun i _ => k - (intOf i).toNat)
      case atStart => exact ⟨0, by omega, rfl, (show _ = _ by simp), HW2⟩
      case round =>
        clear HW2
        obtain ⟨j, hj, rfl, HA, HW⟩ := hrel
        by_cases hlt2 : j < k
        · have hJ : (j : Int) < (k : Int) := by omega
          have hJn : (j : Int) < (n : Int) := by omega
          obtain ⟨b', off', z, q, m, g', ds, Fj, G', ha', hbw', hz, hs', hcc', hr', h0', h1', h2', hp', hcp'⟩ := ens_in HL.out.1 (show j < n by omega)
          injection ha' with ha'
          injection ha' with e1 e2
          subst e1 e2
          have HZ : Hid (x.list[j]? = some z ∧ z.wide) := ⟨hz, wide_at HL.out.2.2 hz⟩
          have HCD : Hid ((∀ W, Below w.heap.size w W → ∀ t, t < 10 → W.cell? ⟨b, off + j * 10 + t, none⟩ = ds[t]?) ∧ ds[2]? = some (.slice q m g') ∧ RdP w q m z.ids G') := ⟨hcc', h2', hp'⟩
          have hl : l ≤ 1048576 := by rw [← HCC.out.2.2.length]; exact HX.out.2.2.2.2
          have hm : m ≤ 1048576 := by rw [← hp'.length]; exact HZ.out.2.2
          clear hz hs' hcc' hr' h0' h1' h2' hp' hcp'
          go_wp2_with fail
          have HTd : Hid (Below w.heap.size w wr.drew ∧ Blk wr.drew w.heap.size #[.slice (some ⟨b, off, none⟩) n c] 29) := ⟨Below.drew HW.out.1, HW.out.2.below ((Below.refl _ _).drew)⟩
          obtain ⟨Y, hY⟩ : ∃ Y, Y = wr.drew := ⟨_, rfl⟩
          rw [← hY] at HTd
          have HS : Hid (∀ W, Below w.heap.size w W → Blk W w.heap.size #[.slice (some ⟨b, off, none⟩) n c] 29 → (Blk W w.heap.size #[.slice (some ⟨b, off, none⟩) n c] 29 ∧ W.cell? ⟨b, off + k * 10 + 2, none⟩ = some (.slice p l g) ∧ W.cell? ⟨b, off + j * 10 + 2, none⟩ = some (.slice q m g'))) := fun W hB hK => ⟨hK, (HCC.out.1 W hB 2 (by decide)).trans HCC.out.2.1, (HCD.out.1 W hB 2 (by decide)).trans HCD.out.2.1⟩
          refine wp_region_held (S := fun W => Blk W w.heap.size #[.slice (some ⟨b, off, none⟩) n c] 29 ∧ W.cell? ⟨b, off + k * 10 + 2, none⟩ = some (.slice p l g) ∧ W.cell? ⟨b, off + j * 10 + 2, none⟩ = some (.slice q m g')) (by kernel_rfl) ?_
          change wpAnyH _ _ _ _ _ _ _ _ (World.drew _)
          rw [← hY]
          clear hY
          refine takeH (o := ?o1) 0 (.pointer (some ⟨w.heap.size, 0, none⟩)) ?h1 ?r1
          case h1 => simp only [aT, aZ]; rfl
          refine ⟨_, by simp [Act.put]; rfl, by kernel_rfl, by kernel_rfl, by kernel_rfl, fun _ _ _ h => h, (.inl ⟨rfl, fun W _ => by kernel_rfl⟩), (HS.out _ HTd.out.1 HTd.out.2), ?_⟩
          refine takeH (o := ?o2) 1 (.slice (some ⟨b, off, none⟩) n c) ?h2 ?r2
          case h2 => simp only [aT, aS, aZ]; rfl
          refine ⟨_, by simp [Act.put]; rfl, by kernel_rfl, by kernel_rfl, by kernel_rfl, fun _ _ _ h => h, (.inl ⟨rfl, fun W hW => by have c := hW.1.cell 0; simp only [aT, aZ] at c; go_simp⟩), (HS.out _ HTd.out.1 HTd.out.2), ?_⟩
          refine takeH (o := ?o3) 2 (.int .i64 k) ?h3 ?r3
          case h3 => simp only [aT, aS, aZ]; rfl
          refine ⟨_, by simp [Act.put]; rfl, by kernel_rfl, by kernel_rfl, by kernel_rfl, fun _ _ _ h => h, (.inl ⟨rfl, fun W _ => by kernel_rfl⟩), (HS.out _ HTd.out.1 HTd.out.2), ?_⟩
          refine takeH (o := ?o4) 3 (.pointer (some ⟨b, off + k * 10, none⟩)) ?h4 ?r4
          case h4 => simp only [aT, aS, aZ]; rfl
          refine ⟨_, by simp [Act.put]; rfl, by kernel_rfl, by kernel_rfl, by kernel_rfl, fun _ _ _ h => h, (.inl ⟨rfl, fun W _ => by go_simp; first | done | (intro h; omega) | (rw [if_pos (by omega)]; rfl)⟩), (HS.out _ HTd.out.1 HTd.out.2), ?_⟩
          refine takeH (o := ?o5) 4 (.pointer (some ⟨b, off + k * 10 + 2, none⟩)) ?h5 ?r5
          case h5 => simp only [aT, aS, aZ]; rfl
          refine ⟨_, by simp [Act.put]; rfl, by kernel_rfl, by kernel_rfl, by kernel_rfl, fun _ _ _ h => h, (.inl ⟨rfl, fun W _ => by kernel_rfl⟩), (HS.out _ HTd.out.1 HTd.out.2), ?_⟩
          refine takeH (o := ?o6) 5 (.slice p l g) ?h6 ?r6
          case h6 => simp only [aT, aS, aZ]; rfl
          refine ⟨_, by simp [Act.put]; rfl, by kernel_rfl, by kernel_rfl, by kernel_rfl, fun _ _ _ h => h, (.inl ⟨rfl, fun W hW => by have c := hW.2.1; go_simp⟩), (HS.out _ HTd.out.1 HTd.out.2), ?_⟩
          refine takeH (o := ?o7) 6 (.pointer (some ⟨w.heap.size, 0, none⟩)) ?h7 ?r7
          case h7 => simp only [aT, aS, aZ]; rfl
          refine ⟨_, by simp [Act.put]; rfl, by kernel_rfl, by kernel_rfl, by kernel_rfl, fun _ _ _ h => h, (.inl ⟨rfl, fun W _ => by kernel_rfl⟩), (HS.out _ HTd.out.1 HTd.out.2), ?_⟩
          refine takeH (o := ?o8) 7 (.slice (some ⟨b, off, none⟩) n c) ?h8 ?r8
          case h8 => simp only [aT, aS, aZ]; rfl
          refine ⟨_, by simp [Act.put]; rfl, by kernel_rfl, by kernel_rfl, by kernel_rfl, fun _ _ _ h => h, (.inl ⟨rfl, fun W hW => by have c := hW.1.cell 0; simp only [aT, aZ] at c; go_simp⟩), (HS.out _ HTd.out.1 HTd.out.2), ?_⟩
          refine takeH (o := ?o9) 8 (.int .i64 j) ?h9 ?r9
          case h9 => simp only [aT, aS, aZ]; rfl
          refine ⟨_, by simp [Act.put]; rfl, by kernel_rfl, by kernel_rfl, by kernel_rfl, fun _ _ _ h => h, (.inl ⟨rfl, fun W _ => by kernel_rfl⟩), (HS.out _ HTd.out.1 HTd.out.2), ?_⟩
          refine takeH (o := ?o10) 9 (.pointer (some ⟨b, off + j * 10, none⟩)) ?h10 ?r10
          case h10 => simp only [aT, aS, aZ]; rfl
          refine ⟨_, by simp [Act.put]; rfl, by kernel_rfl, by kernel_rfl, by kernel_rfl, fun _ _ _ h => h, (.inl ⟨rfl, fun W _ => by go_simp; first | done | (intro h; omega) | (rw [if_pos (by omega)]; rfl)⟩), (HS.out _ HTd.out.1 HTd.out.2), ?_⟩
          refine takeH (o := ?o11) 10 (.pointer (some ⟨b, off + j * 10 + 2, none⟩)) ?h11 ?r11
          case h11 => simp only [aT, aS, aZ]; rfl
          refine ⟨_, by simp [Act.put]; rfl, by kernel_rfl, by kernel_rfl, by kernel_rfl, fun _ _ _ h => h, (.inl ⟨rfl, fun W _ => by kernel_rfl⟩), (HS.out _ HTd.out.1 HTd.out.2), ?_⟩
          refine takeH (o := ?o12) 11 (.slice q m g') ?h12 ?r12
          case h12 => simp only [aT, aS, aZ]; rfl
          refine ⟨_, by simp [Act.put]; rfl, by kernel_rfl, by kernel_rfl, by kernel_rfl, fun _ _ _ h => h, (.inl ⟨rfl, fun W hW => by have c := hW.2.2; go_simp⟩), (HS.out _ HTd.out.1 HTd.out.2), ?_⟩
          refine onlyH (o := ?o13) 12 (by kernel_rfl) ?h13 ?r13
          case h13 => simp only [aT, aS, aZ]; rfl
          intro K hK
          obtain ⟨d, hd⟩ : ∃ d, d = y.ids.apart z.ids := ⟨_, rfl⟩
          have HD2 : Hid (d = y.ids.apart z.ids) := hd
          refine op_call2' 25 _ _ _ Try.f25 (fun v w' => v = .bool d ∧ Below Y.heap.size Y w') rfl rfl Try.func25 (by kernel_rfl) (by kernel_rfl) ((apartSpec_any p q l m g g' y.ids z.ids G G' Y (HCC.out.2.2.below HTd.out.1) (HCD.out.2.2.below HTd.out.1) (by omega) (by omega)).mono (by rintro e w' ⟨rfl, t, rfl⟩; exact ⟨_, rfl, by rw [hd], quiet_below ⟨t, rfl⟩⟩)) ?_
          rintro v Y2 ⟨rfl, hb2⟩
          have HB3 : Hid (Below w.heap.size w Y2 ∧ Blk Y2 w.heap.size #[.slice (some ⟨b, off, none⟩) n c] 29) := ⟨Below.next HTd.out.1 hb2, HTd.out.2.below hb2⟩
          clear hb2 hd
          refine ⟨_, by simp [Act.put]; rfl, hK _ _ ⟨HS.out _ HB3.out.1 HB3.out.2, ?_⟩⟩
          clear hK
          refine onlyH (o := ?o14) 13 (by kernel_rfl) ?h14 ?r14
          case h14 => simp only [aT, aS, aZ]; rfl
          intro K hK
          refine op_value (.bool (!d)) rfl (by go_simp) ⟨_, by simp [Act.put]; rfl, hK _ _ ⟨(HS.out _ HB3.out.1 HB3.out.2), ?_⟩⟩
          clear hK
          refine wpAnyH_done (by kernel_rfl) ?_ _
          cases d
          · have HV : Hid (x.ok = false) := Rw.ok_not (i := k + 1) (by rw [HL.out.2.1]; omega) (by
              rw [fineTo_succ HX.out.1]
              have : (x.list.take k).all (fun z => y.ids.apart z.ids) = false := by
                rw [List.all_eq_false]
                exact ⟨z, List.mem_of_getElem? (by rw [List.getElem?_take_of_lt hlt2]; exact HZ.out.1), by rw [← HD2.out]; simp⟩
              rw [this]; simp)
            go_wp2
            go_ret
            exact ⟨ret_bool HV.out.symm, HB3.out.1⟩
          · have HA2 : Hid ((x.list.take (j + 1)).all (fun z => y.ids.apart z.ids) = true) := by
              show _ = _
              rw [take_snoc_en HZ.out.1, List.all_append, HA.out]
              simp [← HD2.out]
            go_wp2
            go_roundw
            case rel => exact ⟨j + 1, by omega, by go_num, HA2, HB3⟩
            case measure => simp [intOf]; omega
        · obtain rfl : j = k := by omega
          have HT2 : Hid (fineTo x.list (j + 1) = true) := by show _ = _; rw [fineTo_succ HX.out.1, HT.out, ← HD.out, HA.out]; rfl
          have hJ : ¬ (j : Int) < (j : Int) := by omega
          go_wp2
          go_roundw
          case rel => exact ⟨j + 1, by omega, by go_num, HT2, HW⟩
          case measure => simp [intOf]; omega
    · obtain rfl : k = n := by omega
      have HV : Hid (x.ok = true) := Rw.ok_yes (by rw [HL.out.2.1]; omega) (by rw [HL.out.2.1]; exact HT.out)
      have hI : ¬ (k : Int) < (k : Int) := by omega
      go_wp2
      go_ret
      exact ⟨ret_bool HV.out.symm, HW.out.1⟩
end Go.Proofs.Ytillnoeailnnfaa
/- The walks through the program's SetOk, SetHas and SetSize. No statement of the seat is proved here. -/
namespace Go.Proofs.Ytillnoeailnnfaa
open Go.RowKit
theorem cells_of {w : World} {a : Option Addr} {len : Nat} {ps : Sp} {F : List Nat} (h : RdP w a len ps F) : len = 0 ∨ ∃ b off, a = some ⟨b, off, none⟩ ∧ b < w.heap.size ∧ SpCells w b off len ps := by
  rcases h.cells with ⟨h0, _⟩ | ⟨b, off, hp, e, _, hc⟩
  · exact .inl h0
  · exact .inr ⟨b, off, e, World.block_lt_of_cell? _ _ (hc 0 hp).1, hc⟩
theorem floorAt_succ (ps : Sp) (k : Nat) : floorAt ps (k + 1) = (ps.at k).2 + 2 := by unfold floorAt; rw [if_neg (by omega), show k + 1 - 1 = k by omega]
set_option maxRecDepth 200000 in
set_option maxHeartbeats 2000000 in
theorem setOkImpl_any (a : Option Addr) (len cap : Nat) (ps : Sp) (F : List Nat) (w : World) (h : RdP w a len ps F) (hlen : len ≤ 2097152) :
    Calls Try.prog 65 #[.slice a len cap] w fun e w' => e = .returned (.bool ps.ok) ∧ Below w.heap.size w w' := by
  have HL : Hid (ps.length = len) := h.length
  have HC : Hid (len = 0 ∨ ∃ b off, a = some ⟨b, off, none⟩ ∧ b < w.heap.size ∧ SpCells w b off len ps) := cells_of h
  clear h
  go_enter Try.func65, Try.ntmps65
  go_wp2
  go_loopw [3, 8] (fun q i wr => ∃ (k : Nat) (l : Int), k ≤ len ∧ i = .int .i64 k ∧ q = .int .i64 l ∧ 0 ≤ l ∧ l ≤ 10001 ∧ Hid (Below w.heap.size w wr) ∧ Hid (l = floorAt ps k ∧ ∀ j, j < k → ps.okAt j = true)) (fun _ i _ => len - (intOf i).toNat)
  case atStart => exact ⟨0, 0, by omega, rfl, rfl, by omega, by omega, Below.refl _ _, rfl, fun j hj => by omega⟩
  case round =>
    obtain ⟨k, l, hk, rfl, rfl, l0, l1, HB, HN⟩ := hrel
    by_cases hlt : k < len
    · have hca := HC.out
      rcases hca with h0 | ⟨b, off, rfl, hbw, hc⟩
      · omega
      obtain ⟨x, hx⟩ : ∃ x, x = (ps.at k).1 := ⟨_, rfl⟩
      obtain ⟨y, hy⟩ : ∃ x, x = (ps.at k).2 := ⟨_, rfl⟩
      have e := hc k hlt
      rw [← hx, ← hy] at e
      have d1 : wr.cell? ⟨b, off + k * 2, none⟩ = some (.int .i64 x) := (HB.out.cell (by exact hbw)).trans e.1
      have d2 : wr.cell? ⟨b, off + k * 2 + 1, none⟩ = some (.int .i64 y) := (HB.out.cell (by exact hbw)).trans e.2
      have HX : Hid (x = (ps.at k).1 ∧ y = (ps.at k).2) := ⟨hx, hy⟩
      have HB2 : Hid (Below w.heap.size w (wr.alloc (.cells #[.int .i64 x, .int .i64 y] 64))) := Below.allocW _ HB.out (Nat.le_refl _)
      have HOK : Hid (ps.okAt k = true ↔ l ≤ x ∧ 0 ≤ x ∧ x ≤ y ∧ y ≤ 9999) := by
        have := okAt_iff ps k
        rw [← hx, ← hy] at this
        rw [HN.out.1]
        exact this
      have hI : (k : Int) < (len : Int) := by omega
      have hkl : k < ps.length := by rw [HL.out]; exact hlt
      clear e hx hy hc HB
      by_cases c1 : x < l
      · have c1d : decide (x < l) = true := decT c1
        have HV : Hid (ps.ok = false) := Sp.ok_not hkl (by rw [Bool.eq_false_iff]; exact fun e => by have := HOK.out.1 e; omega)
        go_wp2
        go_ret
        rw [HV.out]
        exact ⟨rfl, HB2.out⟩
      have c1d : decide (x < l) = false := decF c1
      by_cases c2 : y < x
      · have c2d : decide (y < x) = true := decT c2
        have HV : Hid (ps.ok = false) := Sp.ok_not hkl (by rw [Bool.eq_false_iff]; exact fun e => by have := HOK.out.1 e; omega)
        go_wp2
        go_ret
        rw [HV.out]
        exact ⟨rfl, HB2.out⟩
      have c2d : decide (y < x) = false := decF c2
      by_cases c3 : 9999 < y
      · have c3d : decide (9999 < y) = true := decT c3
        have HV : Hid (ps.ok = false) := Sp.ok_not hkl (by rw [Bool.eq_false_iff]; exact fun e => by have := HOK.out.1 e; omega)
        go_wp2
        go_ret
        rw [HV.out]
        exact ⟨rfl, HB2.out⟩
      have c3d : decide (9999 < y) = false := decF c3
      have HN2 : Hid (y + 2 = floorAt ps (k + 1) ∧ ∀ j, j < k + 1 → ps.okAt j = true) := ⟨by rw [floorAt_succ, HX.out.2], all_up HN.out.2 (HOK.out.2 ⟨by omega, by omega, by omega, by omega⟩)⟩
      go_wp2
      go_roundw
      case rel => exact ⟨k + 1, y + 2, by omega, by go_num, by go_num, by omega, by omega, HB2, HN2⟩
      case measure => simp [intOf]; omega
    · obtain rfl : k = len := by omega
      have HV : Hid (ps.ok = true) := Sp.ok_all (fun j hj => HN.out.2 j (by rw [← HL.out]; exact hj))
      go_wp2
      go_ret
      rw [HV.out]
      exact ⟨rfl, HB.out⟩
end Go.Proofs.Ytillnoeailnnfaa
/- The walk through the program's laying of spans behind a set that it makes. No statement of the seat is proved here. -/
namespace Go.Proofs.Ytillnoeailnnfaa
open Go.RowKit
theorem lay1_apart {o : Sp} {x : Int × Int} (h : o = [] ∨ (o.at (o.length - 1)).2 + 1 < x.1) : lay1 o x = o ++ [x] := by unfold lay1; rw [if_pos h]
theorem lay1_widen {o : Sp} {x : Int × Int} (h : ¬ (o = [] ∨ (o.at (o.length - 1)).2 + 1 < x.1)) : lay1 o x = o.take (o.length - 1) ++ [((o.at (o.length - 1)).1, max (o.at (o.length - 1)).2 x.2)] := by unfold lay1; rw [if_neg h]
theorem lay_drop {o xs : Sp} {k : Nat} (hk : k < xs.length) : lay o (xs.drop k) = lay (lay1 o (xs.at k)) (xs.drop (k + 1)) := by rw [drop_at hk]; rfl
theorem lay1_inb {o : Sp} {x : Int × Int} (h : ∀ p ∈ o, InB p) (hx : InB x) : ∀ p ∈ lay1 o x, InB p := by
  intro p hp
  unfold lay1 at hp
  split at hp
  · rcases List.mem_append.1 hp with hp | hp
    · exact h p hp
    · obtain rfl : p = x := by simpa using hp
      exact hx
  · rename_i hc
    rcases List.mem_append.1 hp with hp | hp
    · exact h p (List.mem_of_mem_take hp)
    · have e : p = ((o.at (o.length - 1)).1, max (o.at (o.length - 1)).2 x.2) := by simpa using hp
      have hne : 0 < o.length := List.length_pos_iff.2 (fun e => hc (.inl e))
      have := h _ (Sp.at_mem (ps := o) (k := o.length - 1) (by omega))
      subst e
      unfold InB at this hx ⊢
      simp only
      omega
theorem lay1_length (o : Sp) (x : Int × Int) : (lay1 o x).length ≤ o.length + 1 := by
  unfold lay1
  split
  · simp
  · simp
theorem lay_length : ∀ (xs o : Sp), (lay o xs).length ≤ o.length + xs.length
  | [], o => by simp [lay]
  | x :: xs, o => by
    have h1 := lay_length xs (lay1 o x)
    have h2 := lay1_length o x
    rw [show lay o (x :: xs) = lay (lay1 o x) xs from rfl]
    simp
    omega
theorem lay_inb : ∀ {xs o : Sp}, (∀ p ∈ o, InB p) → (∀ p ∈ xs, InB p) → ∀ p ∈ lay o xs, InB p
  | [], _, h, _ => h
  | x :: xs, o, h, hx => lay_inb (xs := xs) (lay1_inb h (hx x (by simp))) (fun p hp => hx p (by simp [hp]))
theorem flat_widen {o : Sp} {m : Nat} (hm : o.length = m + 1) (z : Int) : flat (o.take m ++ [((o.at m).1, z)]) = (flat o).set (m * 2 + 1) z := by
  have e : o = o.take m ++ [o.at m] := by
    have := takeP_succ o m (by omega)
    rw [List.take_of_length_le (by omega)] at this
    exact this
  have hl : (flat (o.take m)).length = m * 2 := by rw [flat_length]; simp; omega
  conv => rhs; rw [e]
  rw [flat_append, flat_append, List.set_append_right (m * 2 + 1) _ (by omega), hl, show m * 2 + 1 - m * 2 = 1 by omega]
  simp [flat]
/-- The set that is made: what it holds, and that nothing else was written since w. -/
structure LayAt (w : World) (B : Nat) (v0 v : Value) (o : Sp) (W : World) : Prop where
  own : W.ownsRow B 64 2 v o.length ((flat o).map (Value.int .i64))
  grown : w.grownBy W v0.ownBlock
  fresh : v.ownBlock = v0.ownBlock ∨ ∀ g, v.ownBlock = some g → w.heap.size ≤ g
theorem LayAt.alloc {w W : World} {B : Nat} {v0 v : Value} {o : Sp} (h : LayAt w B v0 v o W) (ob : Obj) : LayAt w B v0 v o (W.alloc ob) :=
  ⟨h.own.alloc _, ⟨h.grown.os, h.grown.tape, h.grown.output, by have := h.grown.size; simp; omega, fun k hk hne => (Below.heap_alloc W ob k (by have := h.grown.size; omega)).trans (h.grown.block k hk hne)⟩, h.fresh⟩
theorem LayAt.drewN {w W : World} {B : Nat} {v0 v : Value} {o : Sp} (h : LayAt w B v0 v o W) (m : Nat) : LayAt w B v0 v o (W.drewN m) :=
  ⟨⟨h.own.1, h.own.2⟩, ⟨h.grown.os, h.grown.tape, h.grown.output, h.grown.size, h.grown.block⟩, h.fresh⟩
theorem LayAt.app {w W W6 : World} {B : Nat} {v0 v v' : Value} {o : Sp} {p q : Int} {ob : Obj} (h : LayAt w B v0 v o W) (hown : W6.ownsRow B 64 2 v' (o.length + 1) ((flat o).map (Value.int .i64) ++ [.int .i64 p, .int .i64 q])) (hgrow : (W.alloc ob).grownBy W6 v.ownBlock) (hob : v'.ownBlock = v.ownBlock ∨ v'.ownBlock = some (W.alloc ob).heap.size) : LayAt w B v0 v' (o ++ [(p, q)]) W6 := by
  have ha := h.alloc ob
  refine ⟨?_, ⟨hgrow.os.trans ha.grown.os, hgrow.tape.trans ha.grown.tape, hgrow.output.trans ha.grown.output, Nat.le_trans ha.grown.size hgrow.size, fun k hk hne => ?_⟩, ?_⟩
  · rw [flat_append, List.map_append, List.length_append]
    exact hown
  · refine (hgrow.block k (Nat.lt_of_lt_of_le hk ha.grown.size) (fun e => ?_)).trans (ha.grown.block k hk hne)
    rcases h.fresh with f | f
    · exact hne (e.trans f)
    · have := f k e.symm; omega
  · rcases hob with e | e
    · rw [e]; exact h.fresh
    · right
      intro g hg
      rw [e] at hg
      cases hg
      exact ha.grown.size
theorem LayAt.widen {w W : World} {B g n cap m : Nat} {v0 : Value} {o : Sp} (h : LayAt w B v0 (.slice (some ⟨g, 0, none⟩) n cap) o W) (hm : o.length = m + 1) (z : Int) : LayAt w B v0 (.slice (some ⟨g, 0, none⟩) n cap) (o.take m ++ [((o.at m).1, z)]) (W.setCell ⟨g, m * 2 + 1, none⟩ (.int .i64 z)) := by
  refine ⟨?_, ⟨h.grown.os, h.grown.tape, h.grown.output, by have := h.grown.size; simp; omega, fun k hk hne => ?_⟩, h.fresh⟩
  · have hl : (o.take m ++ [((o.at m).1, z)]).length = o.length := by simp; omega
    rw [hl, flat_widen hm]
    refine ⟨by have := h.own.1; simpa using this, ?_⟩
    rcases h.own.2 with ⟨e, _⟩ | ⟨g', cap', cur, e, h2, h3, h4, h5, h6, h7⟩
    · cases e
    · cases e
      refine .inr ⟨g, cap, cur.setIfInBounds (m * 2 + 1) (.int .i64 z), rfl, h2, ?_, h4, h5, by simpa using h6, ?_⟩
      · exact Blk.set (w := W) (g := g) (cs := cur) h3 (m * 2 + 1) _
      · rw [Array.toList_setIfInBounds, List.take_set, h7]
        simp
  · have hg : k ≠ g := by
      rintro rfl
      rcases h.fresh with f | f
      · exact hne f
      · have := f k rfl; omega
    exact (Below.heap_setCell W ⟨g, m * 2 + 1, none⟩ _ k hg).trans (h.grown.block k hk hne)
theorem LayAt.cells {w W : World} {B g n cap : Nat} {v0 : Value} {o : Sp} (h : LayAt w B v0 (.slice (some ⟨g, 0, none⟩) n cap) o W) {m : Nat} (hm : m < o.length) : W.cell? ⟨g, m * 2, none⟩ = some (.int .i64 (o.at m).1) ∧ W.cell? ⟨g, m * 2 + 1, none⟩ = some (.int .i64 (o.at m).2) ∧ ∀ j, W.frozen? ⟨g, j, none⟩ = false := by
  have hn : o.length = n := by
    rcases h.own.2 with ⟨e, _⟩ | ⟨g', cap', cur, e, _⟩
    · cases e
    · cases e; rfl
  have own := h.own
  rw [hn] at own
  have hl := flat_length o
  have e1 := own.cellAt (m * 2) (by omega)
  have e2 := own.cellAt (m * 2 + 1) (by omega)
  refine ⟨?_, ?_, fun j => own.frozenAt j⟩
  · rw [e1]
    have := flat_lo o m
    rw [show 2 * m = m * 2 by omega, List.getElem?_eq_getElem (by omega)] at this
    simp only [List.getElem?_map, List.getElem?_eq_getElem (show m * 2 < (flat o).length by omega), Option.map_some]
    unfold Sp.at
    rw [← this]; rfl
  · rw [e2]
    have := flat_hi o m
    rw [show 2 * m = m * 2 by omega, List.getElem?_eq_getElem (by omega)] at this
    simp only [List.getElem?_map, List.getElem?_eq_getElem (show m * 2 + 1 < (flat o).length by omega), Option.map_some]
    unfold Sp.at
    rw [← this]; rfl
end Go.Proofs.Ytillnoeailnnfaa
/- The walk through the program's laying of spans behind a set that it makes. No statement of the seat is proved here. -/
namespace Go.Proofs.Ytillnoeailnnfaa
open Go.RowKit
/-- A set of the maker's own: not nil. -/
theorem own_cases {W : World} {B e n : Nat} {v : Value} {xs : List Value} (h : W.ownsRow B e 2 v n xs) : (v = .slice none 0 0 ∧ n = 0) ∨ ∃ g cap n', v = .slice (some ⟨g, 0, none⟩) n' cap ∧ n' = n ∧ n ≤ cap := by
  rcases h.2 with e | ⟨g, cap, cur, e, _, _, h4, _⟩
  · exact .inl e
  · exact .inr ⟨g, cap, n, e, rfl, h4⟩
set_option maxRecDepth 100000 in
set_option maxHeartbeats 8000000 in
theorem laid_any (B : Nat) (v0 : Value) (o0 : Sp) (a : Option Addr) (len cap : Nat) (xs : Sp) (F : List Nat) (w : World) (hown : w.ownsRow B 64 2 v0 o0.length ((flat o0).map (Value.int .i64))) (hB : B ≤ w.heap.size) (h : RdP w a len xs F) (hF : ∀ b ∈ F, some b ≠ v0.ownBlock) (hlen : o0.length + len ≤ 4194304) (ho : ∀ p ∈ o0, InB p) (hx : ∀ p ∈ xs, InB p) :
    Calls Try.prog 81 #[v0, .slice a len cap] w fun e w' => ∃ v, e = .returned v ∧ LayAt w B v0 v (lay o0 xs) w' := by
  obtain ⟨t0, hi, hz0, hz1, hz2⟩ := info_parts infoSpan
  have HL : Hid (xs.length = len) := h.length
  have HIN : Hid (∀ p ∈ xs, InB p) := hx
  have HP0 : Hid (LayAt w B v0 v0 o0 w) := ⟨hown, ⟨rfl, rfl, rfl, Nat.le_refl _, fun _ _ _ => rfl⟩, .inl rfl⟩
  have HI0 : Hid (∀ p ∈ o0, InB p) := ho
  have HC : Hid (len = 0 ∨ ∃ b off, a = some ⟨b, off, none⟩ ∧ (b < w.heap.size ∧ some b ≠ v0.ownBlock) ∧ SpCells w b off len xs) := by
    rcases h.cells with ⟨h0, _⟩ | ⟨b, off, hp, e, hFb, hc⟩
    · exact .inl h0
    · exact .inr ⟨b, off, e, ⟨World.block_lt_of_cell? _ _ (hc 0 hp).1, hF b (by rw [hFb]; simp)⟩, hc⟩
  clear h hown hF ho hx
  go_enter Try.func81, Try.ntmps81
  go_wp2
  go_loopw [0, 10] (fun v i wr => ∃ (k : Nat) (o : Sp), k ≤ len ∧ i = .int .i64 k ∧ o.length ≤ o0.length + k ∧ Hid (LayAt w B v0 v o wr) ∧ Hid (∀ p ∈ o, InB p) ∧ Hid (lay o (xs.drop k) = lay o0 xs)) (fun _ i _ => len - (intOf i).toNat)
  case atStart => exact ⟨0, o0, by omega, rfl, by omega, HP0, HI0, rfl⟩
  case round =>
    clear HP0 HI0
    obtain ⟨k, o, hk, rfl, hol, HP, HI, HN⟩ := hrel
    by_cases hlt : k < len
    · have hca := HC.out
      rcases hca with h0 | ⟨b, off, rfl, hbw, hc⟩
      · omega
      obtain ⟨x, hx⟩ : ∃ x, x = (xs.at k).1 := ⟨_, rfl⟩
      obtain ⟨y, hy⟩ : ∃ x, x = (xs.at k).2 := ⟨_, rfl⟩
      have e := hc k hlt
      have hkl : k < xs.length := by rw [HL.out]; exact hlt
      have hb := HIN.out _ (Sp.at_mem hkl)
      have HXY : Hid (xs.at k = (x, y)) := by rw [hx, hy]; rfl
      rw [HXY.out] at hb e
      have HINX : Hid (InB (x, y)) := hb
      obtain ⟨⟨x0, x1⟩, y0, y1⟩ := hb
      have hblk := HP.out.grown.block b hbw.1 hbw.2
      have d1 : wr.cell? ⟨b, off + k * 2, none⟩ = some (.int .i64 x) := (World.cell?_of_block (w := w) (a := ⟨b, off + k * 2, none⟩) hblk).trans e.1
      have d2 : wr.cell? ⟨b, off + k * 2 + 1, none⟩ = some (.int .i64 y) := (World.cell?_of_block (w := w) (a := ⟨b, off + k * 2 + 1, none⟩) hblk).trans e.2
      have hI : (k : Int) < (len : Int) := by omega
      have HBW : Hid (B ≤ wr.heap.size) := Nat.le_trans hB HP.out.grown.size
      clear e hx hy hc hblk
      have hos := own_cases HP.out.own
      rcases hos with ⟨rfl, h0⟩ | ⟨g, cp, nn, rfl, hnn, hcp⟩
      · have HLA : Hid (lay1 o (x, y) = o ++ [(x, y)]) := lay1_apart (.inl (List.eq_nil_of_length_eq_zero h0))
        have HN2 : Hid (lay (o ++ [(x, y)]) (xs.drop (k + 1)) = lay o0 xs) := by
          rw [lay_drop hkl, HXY.out, HLA.out] at HN
          exact HN
        have HI2 : Hid (∀ p ∈ o ++ [(x, y)], InB p) := by rw [← HLA.out]; exact lay1_inb HI.out HINX.out
        go_wp2
        go_quiet (fail)
        obtain ⟨wq, hwq⟩ : ∃ W, W = (wr.alloc (.cells #[.int .i64 x, .int .i64 y] 64)).drewN nq := ⟨_, rfl⟩
        have HPq : Hid (LayAt w B v0 (.slice none 0 0) o wq) := by rw [hwq]; exact (HP.out.alloc _).drewN nq
        have b1 : wq.cell? ⟨wr.heap.size, 0, none⟩ = some (.int .i64 x) := by rw [hwq]; exact (Blk.made wr _ _).cell 0
        have b2 : wq.cell? ⟨wr.heap.size, 1, none⟩ = some (.int .i64 y) := by rw [hwq]; exact (Blk.made wr _ _).cell 1
        have HBq : Hid (B ≤ wq.heap.size) := by have := HBW.out; rw [hwq]; simp [World.drewN]; show _ ≤ _; omega
        rw [← hwq]
        clear hwq HP
        go_wp2_with (first | go_skip | (with_reducible refine stopAppend2 rfl ?_))
        refine Stop.intro (wpList_append_own_at _ rfl _ _ 33 rfl B 64 t0 (.agg #[.int .i64 0, .int .i64 0]) 2 16 Try.underlying33 hi hz0 hz1 hz2 rfl (by decide) _ (o).length ((flat (o)).map (Value.int .i64)) rfl (HPq.out.own.alloc _) ⟨wq.heap.size, 0, none⟩ 1 1 [.int .i64 x, .int .i64 y] rfl rfl (cell_new2 _ _ _ _) (by intro u hu; simp at hu; rcases hu with rfl | rfl <;> rfl) (by unfold maxLen; omega) (by omega) (by have := HBq.out; simp; omega) ?_)
        intro v2 w2 hown hgrow _ hob
        have HP2 : Hid (LayAt w B v0 v2 (o ++ [(x, y)]) w2) := HPq.out.app hown hgrow hob
        clear hown hgrow HPq hob
        go_wp2
        go_roundw
        case rel => exact ⟨k + 1, o ++ [(x, y)], by omega, by go_num, by simp; omega, HP2, HI2, HN2⟩
        case measure => simp [intOf]; omega
      have HNN : Hid (nn = o.length) := hnn
      clear hnn hcp
      rcases nn with _ | m
      · have HLA : Hid (lay1 o (x, y) = o ++ [(x, y)]) := lay1_apart (.inl (List.eq_nil_of_length_eq_zero HNN.out.symm))
        have HN2 : Hid (lay (o ++ [(x, y)]) (xs.drop (k + 1)) = lay o0 xs) := by
          rw [lay_drop hkl, HXY.out, HLA.out] at HN
          exact HN
        have HI2 : Hid (∀ p ∈ o ++ [(x, y)], InB p) := by rw [← HLA.out]; exact lay1_inb HI.out HINX.out
        go_wp2
        go_quiet (fail)
        obtain ⟨wq, hwq⟩ : ∃ W, W = (wr.alloc (.cells #[.int .i64 x, .int .i64 y] 64)).drewN nq := ⟨_, rfl⟩
        have HPq : Hid (LayAt w B v0 (.slice (some ⟨g, 0, none⟩) 0 cp) o wq) := by rw [hwq]; exact (HP.out.alloc _).drewN nq
        have b1 : wq.cell? ⟨wr.heap.size, 0, none⟩ = some (.int .i64 x) := by rw [hwq]; exact (Blk.made wr _ _).cell 0
        have b2 : wq.cell? ⟨wr.heap.size, 1, none⟩ = some (.int .i64 y) := by rw [hwq]; exact (Blk.made wr _ _).cell 1
        have HBq : Hid (B ≤ wq.heap.size) := by have := HBW.out; rw [hwq]; simp [World.drewN]; show _ ≤ _; omega
        rw [← hwq]
        clear hwq HP
        go_wp2_with (first | go_skip | (with_reducible refine stopAppend2 rfl ?_))
        refine Stop.intro (wpList_append_own_at _ rfl _ _ 33 rfl B 64 t0 (.agg #[.int .i64 0, .int .i64 0]) 2 16 Try.underlying33 hi hz0 hz1 hz2 rfl (by decide) _ (o).length ((flat (o)).map (Value.int .i64)) rfl (HPq.out.own.alloc _) ⟨wq.heap.size, 0, none⟩ 1 1 [.int .i64 x, .int .i64 y] rfl rfl (cell_new2 _ _ _ _) (by intro u hu; simp at hu; rcases hu with rfl | rfl <;> rfl) (by unfold maxLen; omega) (by omega) (by have := HBq.out; simp; omega) ?_)
        intro v2 w2 hown hgrow _ hob
        have HP2 : Hid (LayAt w B v0 v2 (o ++ [(x, y)]) w2) := HPq.out.app hown hgrow hob
        clear hown hgrow HPq hob
        go_wp2
        go_roundw
        case rel => exact ⟨k + 1, o ++ [(x, y)], by omega, by go_num, by simp; omega, HP2, HI2, HN2⟩
        case measure => simp [intOf]; omega
      have hm : o.length = m + 1 := HNN.out.symm
      obtain ⟨s, hs⟩ : ∃ x, x = (o.at m).1 := ⟨_, rfl⟩
      obtain ⟨t, ht⟩ : ∃ x, x = (o.at m).2 := ⟨_, rfl⟩
      have hcm := HP.out.cells (m := m) (by omega)
      have him := HI.out _ (Sp.at_mem (ps := o) (k := m) (by omega))
      unfold InB at him
      rw [← hs, ← ht] at hcm him
      have HST : Hid (o.at (o.length - 1) = (s, t)) := by rw [hm, show m + 1 - 1 = m by omega, hs, ht]; rfl
      obtain ⟨f1, f2, f3⟩ := hcm
      obtain ⟨⟨s0, s1⟩, t1, t2⟩ := him
      have HFZ : Hid (∀ j, wr.frozen? ⟨g, j, none⟩ = false) := f3
      have gd : decide ((m : Int) < 0) = false := decF (by omega)
      have hI3 : (m : Int) < (m : Int) + 1 := by omega
      have hM : m ≤ 4194304 := by omega
      have HNE : Hid (¬ o = []) := fun e => by rw [e] at hm; simp at hm
      have HM : Hid (o.length = m + 1) := hm
      clear hs ht f3 hm
      by_cases c : t + 1 < x
      · have cd : decide (t + 1 < x) = true := decT c
        have HLA : Hid (lay1 o (x, y) = o ++ [(x, y)]) := lay1_apart (.inr (by rw [HST.out]; exact c))
        have HN2 : Hid (lay (o ++ [(x, y)]) (xs.drop (k + 1)) = lay o0 xs) := by
          rw [lay_drop hkl, HXY.out, HLA.out] at HN
          exact HN
        have HI2 : Hid (∀ p ∈ o ++ [(x, y)], InB p) := by rw [← HLA.out]; exact lay1_inb HI.out HINX.out
        go_wp2
        obtain ⟨wa, hwa⟩ : ∃ W, W = wr.alloc (.cells #[.int .i64 x, .int .i64 y] 64) := ⟨_, rfl⟩
        have HPa : Hid (LayAt w B v0 (.slice (some ⟨g, 0, none⟩) (m + 1) cp) o wa) := by rw [hwa]; exact HP.out.alloc _
        have a1 : wa.cell? ⟨wr.heap.size, 0, none⟩ = some (.int .i64 x) := by rw [hwa]; exact (Blk.made wr _ _).cell 0
        have a2 : wa.cell? ⟨wr.heap.size, 1, none⟩ = some (.int .i64 y) := by rw [hwa]; exact (Blk.made wr _ _).cell 1
        have a3 : wa.cell? ⟨g, m * 2 + 1, none⟩ = some (.int .i64 t) := by
          have e4 := (HPa.out.cells (m := m) (by have := HM.out; omega)).2.1
          have e5 := HST.out
          rw [HM.out, show m + 1 - 1 = m by omega] at e5
          rw [e5] at e4
          exact e4
        have HBa : Hid (B ≤ wa.heap.size) := by have := HBW.out; rw [hwa]; simp; show _ ≤ _; omega
        rw [← hwa]
        clear hwa HP f1 f2
        go_quiet (fail)
        obtain ⟨wq, hwq⟩ : ∃ W, W = wa.drewN nq := ⟨_, rfl⟩
        have HPq : Hid (LayAt w B v0 (.slice (some ⟨g, 0, none⟩) (m + 1) cp) o wq) := by rw [hwq]; exact HPa.out.drewN nq
        have b1 : wq.cell? ⟨wr.heap.size, 0, none⟩ = some (.int .i64 x) := by rw [hwq]; exact a1
        have b2 : wq.cell? ⟨wr.heap.size, 1, none⟩ = some (.int .i64 y) := by rw [hwq]; exact a2
        have HBq : Hid (B ≤ wq.heap.size) := by rw [hwq]; exact HBa.out
        rw [← hwq]
        clear hwq HPa a1 a2 a3
        go_wp2_with (first | go_skip | (with_reducible refine stopAppend2 rfl ?_))
        refine Stop.intro (wpList_append_own_at _ rfl _ _ 33 rfl B 64 t0 (.agg #[.int .i64 0, .int .i64 0]) 2 16 Try.underlying33 hi hz0 hz1 hz2 rfl (by decide) _ (o).length ((flat (o)).map (Value.int .i64)) rfl (HPq.out.own.alloc _) ⟨wq.heap.size, 0, none⟩ 1 1 [.int .i64 x, .int .i64 y] rfl rfl (cell_new2 _ _ _ _) (by intro u hu; simp at hu; rcases hu with rfl | rfl <;> rfl) (by unfold maxLen; omega) (by omega) (by have := HBq.out; simp; omega) ?_)
        intro v2 w2 hown hgrow _ hob
        have HP2 : Hid (LayAt w B v0 v2 (o ++ [(x, y)]) w2) := HPq.out.app hown hgrow hob
        clear hown hgrow HPq hob
        go_wp2
        go_roundw
        case rel => exact ⟨k + 1, o ++ [(x, y)], by omega, by go_num, by simp; omega, HP2, HI2, HN2⟩
        case measure => simp [intOf]; omega
      have cd : decide (t + 1 < x) = false := decF c
      have HLA : Hid (lay1 o (x, y) = o.take m ++ [((o.at m).1, max t y)]) := by
        have := lay1_widen (o := o) (x := (x, y)) (fun e => by rw [HST.out] at e; exact e.elim HNE.out c)
        show _ = _
        rw [this, HST.out, HM.out, show m + 1 - 1 = m by omega]
        have e2 := HST.out
        rw [HM.out, show m + 1 - 1 = m by omega] at e2
        rw [e2]
      have HN2 : Hid (lay (o.take m ++ [((o.at m).1, max t y)]) (xs.drop (k + 1)) = lay o0 xs) := by
        rw [lay_drop hkl, HXY.out, HLA.out] at HN
        exact HN
      have HI2 : Hid (∀ p ∈ o.take m ++ [((o.at m).1, max t y)], InB p) := by rw [← HLA.out]; exact lay1_inb HI.out HINX.out
      go_wp2
      obtain ⟨wa, hwa⟩ : ∃ W, W = wr.alloc (.cells #[.int .i64 x, .int .i64 y] 64) := ⟨_, rfl⟩
      have HPa : Hid (LayAt w B v0 (.slice (some ⟨g, 0, none⟩) (m + 1) cp) o wa) := by rw [hwa]; exact HP.out.alloc _
      have a1 : wa.cell? ⟨wr.heap.size, 0, none⟩ = some (.int .i64 x) := by rw [hwa]; exact (Blk.made wr _ _).cell 0
      have a2 : wa.cell? ⟨wr.heap.size, 1, none⟩ = some (.int .i64 y) := by rw [hwa]; exact (Blk.made wr _ _).cell 1
      have a3 : wa.cell? ⟨g, m * 2 + 1, none⟩ = some (.int .i64 t) := by
        have e4 := (HPa.out.cells (m := m) (by have := HM.out; omega)).2.1
        have e5 := HST.out
        rw [HM.out, show m + 1 - 1 = m by omega] at e5
        rw [e5] at e4
        exact e4
      have HBa : Hid (B ≤ wa.heap.size) := by have := HBW.out; rw [hwa]; simp; show _ ≤ _; omega
      rw [← hwa]
      clear hwa HP f1 f2
      go_quiet (fail)
      obtain ⟨wq, hwq⟩ : ∃ W, W = wa.drewN nq := ⟨_, rfl⟩
      have HPq : Hid (LayAt w B v0 (.slice (some ⟨g, 0, none⟩) (m + 1) cp) o wq) := by rw [hwq]; exact HPa.out.drewN nq
      have b1 : wq.cell? ⟨wr.heap.size, 0, none⟩ = some (.int .i64 x) := by rw [hwq]; exact a1
      have b2 : wq.cell? ⟨wr.heap.size, 1, none⟩ = some (.int .i64 y) := by rw [hwq]; exact a2
      have hcq := HPq.out.cells (m := m) (by have := HM.out; omega)
      have e3 := HST.out
      rw [HM.out, show m + 1 - 1 = m by omega] at e3
      rw [e3] at hcq
      obtain ⟨f1, f2, f3⟩ := hcq
      have f4 := f3 (m * 2 + 1)
      rw [← hwq]
      have HPw : Hid (LayAt w B v0 (.slice (some ⟨g, 0, none⟩) (m + 1) cp) (o.take m ++ [((o.at m).1, max t y)]) (wq.setCell ⟨g, m * 2 + 1, none⟩ (.int .i64 (max t y)))) := HPq.out.widen HM.out _
      clear hwq HPa a1 a2 a3 f3 e3 HPq
      go_wp2
      go_region
      go_wp2
      go_roundw
      case rel => exact ⟨k + 1, o.take m ++ [((o.at m).1, max t y)], by omega, by go_num, by have := HM.out; simp; omega, (by rw [show (if t < y then y else t) = max t y by split <;> omega]; exact HPw.out.drewN 1), HI2, HN2⟩
      case measure => simp [intOf]; omega
    · obtain rfl : k = len := by omega
      have HV : Hid (o = lay o0 xs) := by
        have := HN.out
        rw [List.drop_eq_nil_of_le (by rw [HL.out]; omega)] at this
        exact this
      go_wp2
      go_ret
      rw [← HV.out]
      exact ⟨_, rfl, HP.out⟩
end Go.Proofs.Ytillnoeailnnfaa
/- The walks through the program's cutting of a set, and its going through two sets. No statement of the seat is proved here. -/
namespace Go.Proofs.Ytillnoeailnnfaa
open Go.RowKit
theorem flat_take : ∀ (ps : Sp) (k : Nat), flat (ps.take k) = (flat ps).take (2 * k)
  | [], k => by simp [flat]
  | p :: ps, 0 => by simp [flat]
  | p :: ps, k + 1 => by rw [List.take_succ_cons, flat, flat, flat_take ps k, show 2 * (k + 1) = 2 * k + 1 + 1 by omega, List.take_succ_cons, List.take_succ_cons]
theorem flat_drop : ∀ (ps : Sp) (k : Nat), flat (ps.drop k) = (flat ps).drop (2 * k)
  | [], k => by simp [flat]
  | p :: ps, 0 => by simp [flat]
  | p :: ps, k + 1 => by rw [List.drop_succ_cons, flat, flat_drop ps k, show 2 * (k + 1) = 2 * k + 1 + 1 by omega, List.drop_succ_cons, List.drop_succ_cons]
theorem RdP.take {w : World} {a : Option Addr} {len : Nat} {ps : Sp} {F : List Nat} (h : RdP w a len ps F) {k : Nat} (hk : k ≤ len) : ∃ G, RdP w a k (ps.take k) G ∧ ∀ b ∈ G, b ∈ F := by
  have hl := h.length
  by_cases h0 : k = 0
  · subst h0
    exact ⟨[], by simpa using (RdP.nil (w := w) (a := a)), by simp⟩
  · rcases h.rd.cells with ⟨e, _⟩ | ⟨b, off, hp, e, eF, hc⟩
    · omega
    · refine ⟨F, ⟨by simp; omega, ?_, .inr ⟨b, off, by omega, e, eF, fun i hi => ?_⟩⟩, fun b hb => hb⟩
      · rw [flat_length]; simp; omega
      · rw [hc i (by omega), flat_take]
        simp [List.getD_eq_getElem?_getD, hi]
theorem RdP.drop {w : World} {b off len : Nat} {ps : Sp} {F : List Nat} (h : RdP w (some ⟨b, off, none⟩) len ps F) {k : Nat} (hk : k < len) : RdP w (some ⟨b, off + k * 2, none⟩) (len - k) (ps.drop k) F := by
  have hl := h.length
  rcases h.rd.cells with ⟨e, _⟩ | ⟨b', off', hp, e, eF, hc⟩
  · omega
  · obtain ⟨rfl, rfl⟩ : b = b' ∧ off = off' := by simpa using e
    refine ⟨by simp; omega, ?_, .inr ⟨b, off + k * 2, by omega, rfl, eF, fun i hi => ?_⟩⟩
    · rw [flat_length]; simp; omega
    · rw [show off + k * 2 + i = off + (2 * k + i) by omega, hc (2 * k + i) (by omega), flat_drop]
      simp [List.getD_eq_getElem?_getD]
theorem cutN_at {ps : Sp} {k : Nat} {n : Int} (hk : k < ps.length) (h : (ps.at k).1 ≤ n) : cutN (ps.drop k) n = cutN (ps.drop (k + 1)) n + 1 := by rw [drop_at hk, cutN, if_pos h]
theorem cutN_stop {ps : Sp} {k : Nat} {n : Int} (hk : k < ps.length) (h : ¬ (ps.at k).1 ≤ n) : cutN (ps.drop k) n = 0 := by rw [drop_at hk, cutN, if_neg h]
/-- What a cut tells: the part ahead, the part behind, both out of what was there. -/
def CutTo (w : World) (ps : Sp) (F : List Nat) (k : Nat) (e : Ending) (w' : World) : Prop :=
  ∃ a1 l1 c1 a2 l2 c2 F1 F2, e = .returned (.tuple #[.slice a1 l1 c1, .slice a2 l2 c2]) ∧ RdP w a1 l1 (ps.take k) F1 ∧ RdP w a2 l2 (ps.drop k) F2 ∧ (∀ b ∈ F1, b ∈ F) ∧ (∀ b ∈ F2, b ∈ F) ∧ l2 ≤ c2 ∧ QuietTo w w'
set_option maxRecDepth 200000 in
set_option maxHeartbeats 4000000 in
theorem cutAt_any (a : Option Addr) (len cap : Nat) (ps : Sp) (n : Int) (F : List Nat) (w : World) (h : RdP w a len ps F) (hlen : len ≤ 4194304) (hcap : len ≤ cap) :
    Calls Try.prog 80 #[.slice a len cap, .int .i64 n] w fun e w' => CutTo w ps F (cutN ps n) e w' := by
  have HL : Hid (ps.length = len) := h.length
  have HR : Hid (RdP w a len ps F) := h
  have HC : Hid (len = 0 ∨ ∃ b off, a = some ⟨b, off, none⟩ ∧ b < w.heap.size ∧ SpCells w b off len ps) := cells_of h
  have HS : Hid (∀ k, k ≤ len → ∀ w', QuietTo w w' → CutTo w ps F k (.returned (.tuple #[.slice a k k, .slice (if len = k then a else a.map (·.add (k * 2))) (len - k) (len - k)])) w') := by
    intro k hk w' hq
    obtain ⟨F1, r1, g1⟩ := h.take hk
    by_cases e : len = k
    · refine ⟨_, _, _, _, _, _, F1, [], rfl, r1, ?_, g1, by simp, Nat.le_refl _, hq⟩
      rw [List.drop_eq_nil_of_le (by rw [h.length]; omega), show len - k = 0 by omega]
      exact RdP.nil
    · rcases cells_of h with h0 | ⟨b, off, rfl, _, _⟩
      · omega
      · refine ⟨_, _, _, _, _, _, F1, F, rfl, r1, ?_, g1, fun b hb => hb, Nat.le_refl _, hq⟩
        rw [if_neg e]
        simp only [Option.map_some, Addr.add_lit]
        exact h.drop (k := k) (by omega)
  clear h
  go_enter Try.func80, Try.ntmps80
  go_wp2
  go_loopw [6] (fun i wr => ∃ (k : Nat), k ≤ len ∧ i = .int .i64 k ∧ Hid (QuietTo w wr) ∧ Hid (cutN ps n = k + cutN (ps.drop k) n)) (fun i _ => len - (intOf i).toNat)
  case atStart => exact ⟨0, by omega, rfl, QuietTo.refl _, by show _ = _; simp⟩
  case round =>
    obtain ⟨k, hk, rfl, HW, HN⟩ := hrel
    by_cases hlt : k < len
    · have hca := HC.out
      rcases hca with h0 | ⟨b, off, rfl, hbw, hc⟩
      · omega
      obtain ⟨x, hx⟩ : ∃ x, x = (ps.at k).1 := ⟨_, rfl⟩
      have e := (hc k hlt).1
      rw [← hx] at e
      have d1 : wr.cell? ⟨b, off + k * 2, none⟩ = some (.int .i64 x) := (HW.out.cell _).trans e
      have HX : Hid (x = (ps.at k).1) := hx
      have hI : (k : Int) < (len : Int) := by omega
      have hkl : k < ps.length := by rw [HL.out]; exact hlt
      clear hx hc e
      by_cases c : x ≤ n
      · have cd : decide (x ≤ n) = true := decT c
        have HN2 : Hid (cutN ps n = k + 1 + cutN (ps.drop (k + 1)) n) := by
          have := HN.out
          rw [cutN_at hkl (by rw [← HX.out]; exact c)] at this
          show _ = _
          omega
        go_wp2
        go_roundw
        case rel => exact ⟨k + 1, by omega, by go_num, HW, HN2⟩
        case measure => simp [intOf]; omega
      · have cd : decide (x ≤ n) = false := decF c
        have HK : Hid (cutN ps n = k) := by
          have := HN.out
          rw [cutN_stop hkl (by rw [← HX.out]; exact c)] at this
          show _ = _
          omega
        have hne : ¬ len = k := by omega
        have i1 : (k : Int) ≤ (len : Int) := by omega
        have i2 : (len : Int) ≤ (cap : Int) := by omega
        have i3 : (k : Int) ≤ (cap : Int) := by omega
        have HT : Hid (∀ w', QuietTo w w' → CutTo w ps F (cutN ps n) (.returned (.tuple #[.slice (some ⟨b, off, none⟩) k k, .slice (some ⟨b, off + k * 2, none⟩) (len - k) (len - k)])) w') := by
          intro w' hq
          have := HS.out k (by omega) w' hq
          rw [if_neg hne] at this
          simp only [Option.map_some, Addr.add_lit] at this
          rw [HK.out]
          exact this
        go_wp2
        go_quiet (fail)
        go_wp2
        go_ret2
        exact HT.out _ (HW.out.drewN _)
    · obtain rfl : k = len := by omega
      have HK : Hid (cutN ps n = k) := by
        have := HN.out
        rw [List.drop_eq_nil_of_le (by rw [HL.out]; omega)] at this
        exact this
      have hg : decide ((k : Int) < (k : Int)) = false := decF (by omega)
      have i2 : (k : Int) ≤ (cap : Int) := by omega
      have HT : Hid (∀ w', QuietTo w w' → CutTo w ps F (cutN ps n) (.returned (.tuple #[.slice a k k, .slice a 0 0])) w') := by
        intro w' hq
        have := HS.out k (by omega) w' hq
        rw [if_pos rfl, Nat.sub_self] at this
        rw [HK.out]
        exact this
      go_wp2
      go_quiet (fail)
      go_wp2
      go_ret2
      exact HT.out _ (HW.out.drewN _)
end Go.Proofs.Ytillnoeailnnfaa
/- The walks through the program's SetApart. No statement of the seat is proved here. -/
namespace Go.Proofs.Ytillnoeailnnfaa
open Go.RowKit
def slLen : Value → Nat
  | .slice _ n _ => n
  | _ => 0
/-- One of the two sets: where it lies. -/
structure ARd (w : World) (a : Option Addr) (l c : Nat) (xs : Sp) : Prop where
  rd : ∃ F, RdP w a l xs F
  cap : l ≤ c
  ok : okFrom 0 xs
theorem ARd.length {w : World} {a : Option Addr} {l c : Nat} {xs : Sp} (h : ARd w a l c xs) : xs.length = l := by
  obtain ⟨F, h⟩ := h.rd
  exact h.length
theorem okFrom_drop1 {xs : Sp} (h : okFrom 0 xs) (k : Nat) : okFrom 0 (xs.drop k) := by
  have h' := h
  rw [← List.take_append_drop k xs, okFrom_append] at h'
  have e : 0 ≤ endOf 0 (xs.take k) := by
    have : ∀ (ys : Sp) (l : Int), 0 ≤ l → okFrom l ys → 0 ≤ endOf l ys := by
      intro ys
      induction ys with
      | nil => intro l h _; exact h
      | cons p ys ih => intro l hl h; exact ih _ (by have := h.1; omega) h.2
    exact this _ _ (Int.le_refl _) h'.1
  exact okFrom_mono h'.2 e
theorem ARd.cells {w : World} {a : Option Addr} {l c : Nat} {xs : Sp} (h : ARd w a l c xs) (hl : 0 < l) : ∃ b off, a = some ⟨b, off, none⟩ ∧ w.cell? ⟨b, off, none⟩ = some (.int .i64 (xs.at 0).1) ∧ w.cell? ⟨b, off + 1, none⟩ = some (.int .i64 (xs.at 0).2) := by
  obtain ⟨F, h⟩ := h.rd
  rcases cells_of h with h0 | ⟨b, off, e, _, hc⟩
  · omega
  · have := hc 0 hl
    exact ⟨b, off, e, by simpa using this.1, by simpa using this.2⟩
theorem ARd.last {w : World} {a : Option Addr} {l : Nat} {xs : Sp} (h : ARd w a l 1 xs) (hl : 0 < l) : ARd w a (l - 1) 0 (xs.drop 1) := by
  have e := h.length
  have c := h.cap
  refine ⟨⟨[], ?_⟩, by omega, okFrom_drop1 h.ok 1⟩
  rw [List.drop_eq_nil_of_le (by omega), show l - 1 = 0 by omega]
  exact RdP.nil
theorem ARd.step {w : World} {b off : Nat} {l c : Nat} {xs : Sp} (h : ARd w (some ⟨b, off, none⟩) l c xs) (hl : 0 < l) : ARd w (some ⟨b, off + 2, none⟩) (l - 1) (c - 1) (xs.drop 1) := by
  have e := h.length
  have c := h.cap
  obtain ⟨F, hr⟩ := h.rd
  by_cases h1 : l = 1
  · refine ⟨⟨[], ?_⟩, by omega, okFrom_drop1 h.ok 1⟩
    rw [List.drop_eq_nil_of_le (by omega), show l - 1 = 0 by omega]
    exact RdP.nil
  · exact ⟨⟨F, by simpa using hr.drop (k := 1) (by omega)⟩, by omega, okFrom_drop1 h.ok 1⟩
theorem head_drop {xs : Sp} (h : 0 < xs.length) : xs = xs.at 0 :: xs.drop 1 := by simpa using drop_at (ps := xs) (k := 0) h
theorem meet_false {as' bs : Sp} (_ : okFrom 0 as') (hb : okFrom 0 bs) (la : 0 < as'.length) (lb : 0 < bs.length) (h1 : (as'.at 0).1 ≤ (bs.at 0).1) (h2 : (bs.at 0).1 ≤ (as'.at 0).2) : noMeet as' bs = false := by
  rw [head_drop la, head_drop lb]
  exact noMeet_hit h1 h2 (okFrom_at hb lb).2.1
theorem meet_step {as' bs : Sp} (hb : okFrom 0 bs) (la : 0 < as'.length) (lb : 0 < bs.length) (h2 : (as'.at 0).2 < (bs.at 0).1) : noMeet (as'.drop 1) bs = noMeet as' bs := by
  have e := head_drop lb
  have hb' := hb
  rw [e] at hb'
  conv => rhs; rw [head_drop la, e]
  rw [noMeet_drop hb' h2, ← e]
set_option maxRecDepth 200000 in
set_option maxHeartbeats 8000000 in
theorem noneInBoth_any (a b : Option Addr) (la lb ca cb : Nat) (ps qs : Sp) (w : World) (h : ARd w a la ca ps) (k : ARd w b lb cb qs) (hlen : la + lb ≤ 4194304) :
    Calls Try.prog 66 #[.slice a la ca, .slice b lb cb] w fun e w' => e = .returned (.bool (noMeet ps qs)) ∧ QuietTo w w' := by
  have HP0 : Hid (ARd w a la ca ps ∧ ARd w b lb cb qs) := ⟨h, k⟩
  clear h k
  go_enter Try.func66, Try.ntmps66
  go_wp2
  go_loopw [0, 1] (fun av bv wr => ∃ (as' bs : Sp) (aa bb : Option Addr) (l1 c1 l2 c2 : Nat), av = .slice aa l1 c1 ∧ bv = .slice bb l2 c2 ∧ l1 + l2 ≤ 4194304 ∧ Hid (ARd w aa l1 c1 as' ∧ ARd w bb l2 c2 bs) ∧ Hid (noMeet as' bs = noMeet ps qs) ∧ Hid (QuietTo w wr)) (fun av bv _ => slLen av + slLen bv)
  case atStart => exact ⟨ps, qs, a, b, la, ca, lb, cb, rfl, rfl, hlen, HP0, rfl, QuietTo.refl _⟩
  case round =>
    clear HP0
    obtain ⟨xs, ys, aa, bb, l1, c1, l2, c2, rfl, rfl, hl12, HP, HN, HQ⟩ := hrel
    by_cases h1 : l1 = 0
    · subst h1
      have HV : Hid (noMeet ps qs = true) := by
        have := HN.out
        rw [List.eq_nil_of_length_eq_zero HP.out.1.length, noMeet_nil] at this
        exact this.symm
      go_wp2
      go_ret
      rw [HV.out]
      exact ⟨rfl, HQ.out⟩
    have g1 : decide ((0 : Int) < (l1 : Int)) = true := decT (by omega)
    by_cases h2 : l2 = 0
    · subst h2
      have HV : Hid (noMeet ps qs = true) := by
        have := HN.out
        rw [List.eq_nil_of_length_eq_zero HP.out.2.length, noMeet_comm, noMeet_nil] at this
        exact this.symm
      go_wp2
      go_ret
      rw [HV.out]
      exact ⟨rfl, HQ.out⟩
    have g2 : decide ((0 : Int) < (l2 : Int)) = true := decT (by omega)
    have i1 : (0 : Int) < (l1 : Int) := by omega
    have i2 : (0 : Int) < (l2 : Int) := by omega
    have i3 : (1 : Int) ≤ (l1 : Int) := by omega
    have i4 : (1 : Int) ≤ (l2 : Int) := by omega
    obtain ⟨b1, o1, rfl, e1, e2⟩ := HP.out.1.cells (by omega)
    obtain ⟨b2, o2, rfl, e3, e4⟩ := HP.out.2.cells (by omega)
    obtain ⟨x, hx⟩ : ∃ x, x = (xs.at 0).1 := ⟨_, rfl⟩
    obtain ⟨y, hy⟩ : ∃ x, x = (xs.at 0).2 := ⟨_, rfl⟩
    obtain ⟨x', hx'⟩ : ∃ x, x = (ys.at 0).1 := ⟨_, rfl⟩
    obtain ⟨y', hy'⟩ : ∃ x, x = (ys.at 0).2 := ⟨_, rfl⟩
    rw [← hx] at e1
    rw [← hy] at e2
    rw [← hx'] at e3
    rw [← hy'] at e4
    have d1 : wr.cell? ⟨b1, o1, none⟩ = some (.int .i64 x) := (HQ.out.cell _).trans e1
    have d2 : wr.cell? ⟨b1, o1 + 1, none⟩ = some (.int .i64 y) := (HQ.out.cell _).trans e2
    have d3 : wr.cell? ⟨b2, o2, none⟩ = some (.int .i64 x') := (HQ.out.cell _).trans e3
    have d4 : wr.cell? ⟨b2, o2 + 1, none⟩ = some (.int .i64 y') := (HQ.out.cell _).trans e4
    have HX : Hid ((x = (xs.at 0).1 ∧ y = (xs.at 0).2) ∧ x' = (ys.at 0).1 ∧ y' = (ys.at 0).2) := ⟨⟨hx, hy⟩, hx', hy'⟩
    have HLN : Hid (0 < xs.length ∧ 0 < ys.length) := by rw [HP.out.1.length, HP.out.2.length]; exact ⟨by omega, by omega⟩
    clear hx hy hx' hy' e1 e2 e3 e4
    by_cases c : x' < x
    · have cd : decide (x' < x) = true := decT c
      by_cases m : x ≤ y'
      · have md : decide (x ≤ y') = true := decT m
        have HV : Hid (noMeet ps qs = false) := by
          show _ = _
          rw [← HN.out, noMeet_comm]
          exact meet_false HP.out.2.ok HP.out.1.ok HLN.out.2 HLN.out.1 (by rw [← HX.out.1.1, ← HX.out.2.1]; omega) (by rw [← HX.out.1.1, ← HX.out.2.2]; exact m)
        go_wp2
        go_quiet (fail)
        obtain ⟨wq, hwq⟩ : ∃ W, W = wr.drewN nq := ⟨_, rfl⟩
        have q1 : wq.cell? ⟨b1, o1, none⟩ = some (.int .i64 x) := by rw [hwq]; exact d1
        have q2 : wq.cell? ⟨b2, o2 + 1, none⟩ = some (.int .i64 y') := by rw [hwq]; exact d4
        have HQ2 : Hid (QuietTo w wq) := by rw [hwq]; exact HQ.out.drewN _
        rw [← hwq]
        clear hwq d1 d2 d3 d4
        go_wp2
        go_quiet (fail)
        go_wp2
        go_ret
        rw [HV.out]
        exact ⟨rfl, HQ2.out.drewN _⟩
      · have md : decide (x ≤ y') = false := decF m
        have HN2 : Hid (noMeet (ys.drop 1) xs = noMeet ps qs) := by
          show _ = _
          rw [meet_step HP.out.1.ok HLN.out.2 HLN.out.1 (by rw [← HX.out.1.1, ← HX.out.2.2]; omega), noMeet_comm]
          exact HN.out
        by_cases hc1 : c2 = 1
        · subst hc1
          have HA2 : Hid (ARd w (some ⟨b2, o2, none⟩) (l2 - 1) 0 (ys.drop 1) ∧ ARd w (some ⟨b1, o1, none⟩) l1 c1 xs) := ⟨HP.out.2.last (by omega), HP.out.1⟩
          go_wp2
          go_quiet (fail)
          obtain ⟨wq, hwq⟩ : ∃ W, W = wr.drewN nq := ⟨_, rfl⟩
          have q1 : wq.cell? ⟨b1, o1, none⟩ = some (.int .i64 x) := by rw [hwq]; exact d1
          have q2 : wq.cell? ⟨b2, o2 + 1, none⟩ = some (.int .i64 y') := by rw [hwq]; exact d4
          have HQ2 : Hid (QuietTo w wq) := by rw [hwq]; exact HQ.out.drewN _
          rw [← hwq]
          clear hwq d1 d2 d3 d4
          go_wp2
          go_quiet (fail)
          go_wp2
          go_roundw
          case rel => exact ⟨ys.drop 1, xs, _, _, _, _, _, _, rfl, rfl, by omega, HA2, HN2, HQ2.out.drewN _⟩
          case measure => simp [slLen]; omega
        · have HA2 : Hid (ARd w (some ⟨b2, o2 + 2, none⟩) (l2 - 1) (c2 - 1) (ys.drop 1) ∧ ARd w (some ⟨b1, o1, none⟩) l1 c1 xs) := ⟨HP.out.2.step (by omega), HP.out.1⟩
          go_wp2
          go_quiet (fail)
          obtain ⟨wq, hwq⟩ : ∃ W, W = wr.drewN nq := ⟨_, rfl⟩
          have q1 : wq.cell? ⟨b1, o1, none⟩ = some (.int .i64 x) := by rw [hwq]; exact d1
          have q2 : wq.cell? ⟨b2, o2 + 1, none⟩ = some (.int .i64 y') := by rw [hwq]; exact d4
          have HQ2 : Hid (QuietTo w wq) := by rw [hwq]; exact HQ.out.drewN _
          rw [← hwq]
          clear hwq d1 d2 d3 d4
          go_wp2
          go_quiet (fail)
          go_wp2
          go_roundw
          case rel => exact ⟨ys.drop 1, xs, _, _, _, _, _, _, rfl, rfl, by omega, HA2, HN2, HQ2.out.drewN _⟩
          case measure => simp [slLen]; omega
    · have cd : decide (x' < x) = false := decF c
      by_cases m : x' ≤ y
      · have md : decide (x' ≤ y) = true := decT m
        have HV : Hid (noMeet ps qs = false) := by
          show _ = _
          rw [← HN.out]
          exact meet_false HP.out.1.ok HP.out.2.ok HLN.out.1 HLN.out.2 (by rw [← HX.out.1.1, ← HX.out.2.1]; omega) (by rw [← HX.out.1.2, ← HX.out.2.1]; exact m)
        go_wp2
        go_quiet (fail)
        obtain ⟨wq, hwq⟩ : ∃ W, W = wr.drewN nq := ⟨_, rfl⟩
        have q1 : wq.cell? ⟨b2, o2, none⟩ = some (.int .i64 x') := by rw [hwq]; exact d3
        have q2 : wq.cell? ⟨b1, o1 + 1, none⟩ = some (.int .i64 y) := by rw [hwq]; exact d2
        have HQ2 : Hid (QuietTo w wq) := by rw [hwq]; exact HQ.out.drewN _
        rw [← hwq]
        clear hwq d1 d2 d3 d4
        go_wp2
        go_quiet (fail)
        go_wp2
        go_ret
        rw [HV.out]
        exact ⟨rfl, HQ2.out.drewN _⟩
      · have md : decide (x' ≤ y) = false := decF m
        have HN2 : Hid (noMeet (xs.drop 1) ys = noMeet ps qs) := by
          show _ = _
          rw [meet_step HP.out.2.ok HLN.out.1 HLN.out.2 (by rw [← HX.out.1.2, ← HX.out.2.1]; omega)]
          exact HN.out
        by_cases hc1 : c1 = 1
        · subst hc1
          have HA2 : Hid (ARd w (some ⟨b1, o1, none⟩) (l1 - 1) 0 (xs.drop 1) ∧ ARd w (some ⟨b2, o2, none⟩) l2 c2 ys) := ⟨HP.out.1.last (by omega), HP.out.2⟩
          go_wp2
          go_quiet (fail)
          obtain ⟨wq, hwq⟩ : ∃ W, W = wr.drewN nq := ⟨_, rfl⟩
          have q1 : wq.cell? ⟨b2, o2, none⟩ = some (.int .i64 x') := by rw [hwq]; exact d3
          have q2 : wq.cell? ⟨b1, o1 + 1, none⟩ = some (.int .i64 y) := by rw [hwq]; exact d2
          have HQ2 : Hid (QuietTo w wq) := by rw [hwq]; exact HQ.out.drewN _
          rw [← hwq]
          clear hwq d1 d2 d3 d4
          go_wp2
          go_quiet (fail)
          go_wp2
          go_roundw
          case rel => exact ⟨xs.drop 1, ys, _, _, _, _, _, _, rfl, rfl, by omega, HA2, HN2, HQ2.out.drewN _⟩
          case measure => simp [slLen]; omega
        · have HA2 : Hid (ARd w (some ⟨b1, o1 + 2, none⟩) (l1 - 1) (c1 - 1) (xs.drop 1) ∧ ARd w (some ⟨b2, o2, none⟩) l2 c2 ys) := ⟨HP.out.1.step (by omega), HP.out.2⟩
          go_wp2
          go_quiet (fail)
          obtain ⟨wq, hwq⟩ : ∃ W, W = wr.drewN nq := ⟨_, rfl⟩
          have q1 : wq.cell? ⟨b2, o2, none⟩ = some (.int .i64 x') := by rw [hwq]; exact d3
          have q2 : wq.cell? ⟨b1, o1 + 1, none⟩ = some (.int .i64 y) := by rw [hwq]; exact d2
          have HQ2 : Hid (QuietTo w wq) := by rw [hwq]; exact HQ.out.drewN _
          rw [← hwq]
          clear hwq d1 d2 d3 d4
          go_wp2
          go_quiet (fail)
          go_wp2
          go_roundw
          case rel => exact ⟨xs.drop 1, ys, _, _, _, _, _, _, rfl, rfl, by omega, HA2, HN2, HQ2.out.drewN _⟩
          case measure => simp [slLen]; omega
set_option maxRecDepth 200000 in
set_option maxHeartbeats 4000000 in
theorem apartImpl_any (a b : Option Addr) (la lb ca cb : Nat) (ps qs : Sp) (F G : List Nat) (w : World) (h : RdP w a la ps F) (k : RdP w b lb qs G) (hla : la ≤ 2097152) (hlb : lb ≤ 2097152) (hca : la ≤ ca) (hcb : lb ≤ cb) :
    Calls Try.prog 45 #[.slice a la ca, .slice b lb cb] w fun e w' => e = .returned (.bool (ps.apart qs)) ∧ Below w.heap.size w w' := by
  have HR : Hid (RdP w a la ps F ∧ RdP w b lb qs G) := ⟨h, k⟩
  clear h k
  go_enter Try.func45, Try.ntmps45
  go_wp2_with fail
  refine (setOkImpl_any a la ca ps F _ HR.out.1 hla).mono ?_
  rintro e w1 ⟨rfl, hb⟩
  have HB0 : Hid (Below w.heap.size w w1) := hb
  clear hb
  obtain ⟨d, hd⟩ : ∃ d, d = ps.ok := ⟨_, rfl⟩
  rw [← hd]
  have HD : Hid (d = ps.ok) := hd
  clear hd
  cases d
  · go_wp2
    go_ret
    rw [Sp.apart_not (by rw [← HD.out]; rfl)]
    exact ⟨rfl, HB0.out⟩
  go_wp2_with fail
  refine (setOkImpl_any b lb cb qs G _ (HR.out.2.below HB0.out) hlb).mono ?_
  rintro e w2 ⟨rfl, hb⟩
  have HB1 : Hid (Below w.heap.size w w2) := Below.next HB0.out hb
  clear hb HB0
  obtain ⟨d, hd⟩ : ∃ d, d = qs.ok := ⟨_, rfl⟩
  rw [← hd]
  have HE : Hid (d = qs.ok) := hd
  clear hd
  cases d
  · go_wp2
    go_ret
    rw [Sp.apart_not (by rw [← HD.out, ← HE.out]; rfl)]
    exact ⟨rfl, HB1.out⟩
  have HV : Hid (ps.apart qs = noMeet ps qs) := by
    show _ = _
    rw [apart_eq, ← HD.out, ← HE.out]
    rfl
  go_wp2_with fail
  refine (noneInBoth_any a b la lb ca cb ps qs _ ⟨⟨F, HR.out.1.below HB1.out⟩, hca, ok_iff.1 HD.out.symm⟩ ⟨⟨G, HR.out.2.below HB1.out⟩, hcb, ok_iff.1 HE.out.symm⟩ (by omega)).mono ?_
  rintro e w3 ⟨rfl, hq⟩
  have HB2 : Hid (Below w.heap.size w w3) := Below.next HB1.out (quiet_below hq)
  clear hq
  go_wp2
  go_ret
  rw [HV.out]
  exact ⟨rfl, HB2.out⟩
end Go.Proofs.Ytillnoeailnnfaa
/- The walk through the program's going through two sets. No statement of the seat is proved here. -/
namespace Go.Proofs.Ytillnoeailnnfaa
open Go.RowKit
theorem RdP.move {w W : World} {B : Nat} {a : Option Addr} {len : Nat} {ps : Sp} {F : List Nat} (h : RdP w a len ps F) (hF : ∀ b ∈ F, b < B) (h1 : Below B w W) : RdP W a len ps F := h.agree (fun b hb => h1.block b (hF b hb))
theorem RdP.back {w W : World} {B : Nat} {a : Option Addr} {len : Nat} {ps : Sp} {F : List Nat} (h : RdP W a len ps F) (hF : ∀ b ∈ F, b < B) (h1 : Below B w W) : RdP w a len ps F := h.agree (fun b hb => (h1.block b (hF b hb)).symm)
theorem LayAt.below {w W : World} {B n : Nat} {v0 v : Value} {o : Sp} {xs : List Value} (h : LayAt w B v0 v o W) (h0 : w.ownsRow B 64 2 v0 n xs) (hB : B ≤ w.heap.size) : Below B w W :=
  ⟨h.grown.os, h.grown.tape, h.grown.output, h.grown.size, fun k hk => h.grown.block k (by omega) (fun e => by have := (h0.lt k e.symm).1; omega)⟩
/-- Midway in a round: the set that is made, the span's box. -/
structure MidB (w : World) (nb : Nat) (x y : Int) (v : Value) (o : Sp) (W : World) : Prop where
  own : W.ownsRow w.heap.size 64 2 v o.length ((flat o).map (Value.int .i64))
  bel : Below w.heap.size w W
  box : Blk W nb #[.int .i64 x, .int .i64 y] 64
  ne : some nb ≠ v.ownBlock
theorem MidB.alloc {w : World} {nb : Nat} {x y : Int} {v : Value} {o : Sp} {W : World} (h : MidB w nb x y v o W) (ob : Obj) : MidB w nb x y v o (W.alloc ob) := ⟨h.own.alloc _, Below.allocW _ h.bel (Nat.le_refl _), h.box.alloc _, h.ne⟩
theorem MidB.drew {w : World} {nb : Nat} {x y : Int} {v : Value} {o : Sp} {W : World} (h : MidB w nb x y v o W) : MidB w nb x y v o W.drew := ⟨⟨h.own.1, h.own.2⟩, h.bel.drew, h.box, h.ne⟩
/-- Behind the first laying: what lay beside lies there still. -/
structure AftB (w : World) (nb : Nat) (x y : Int) (v v' : Value) (o' : Sp) (W W' : World) : Prop where
  mid : MidB w nb x y v' o' W'
  old : ∀ g cs t, Blk W g cs t → some g ≠ v.ownBlock → Blk W' g cs t ∧ some g ≠ v'.ownBlock
theorem AftB.of {w : World} {nb : Nat} {x y : Int} {v v' : Value} {o o' : Sp} {W W' : World} (h : MidB w nb x y v o W) (k : LayAt W w.heap.size v v' o' W') : AftB w nb x y v v' o' W W' := by
  have hold : ∀ g cs t, Blk W g cs t → some g ≠ v.ownBlock → Blk W' g cs t ∧ some g ≠ v'.ownBlock := fun g cs t hb hne => by
    refine ⟨hb.agree (k.grown.block g hb.lt hne), ?_⟩
    rcases k.fresh with e | e
    · rw [e]; exact hne
    · intro e2; have := e g e2.symm; have := hb.lt; omega
  obtain ⟨h1, h2⟩ := hold _ _ _ h.box h.ne
  exact ⟨⟨k.own, h.bel.trans (k.below h.own h.bel.size), h1, h2⟩, hold⟩
/-- Ahead of the second laying: the one span's slice. -/
structure TwoB (w : World) (nb : Nat) (x y : Int) (v' : Value) (o' : Sp) (g : Nat) (W : World) : Prop where
  mid : MidB w nb x y v' o' W
  one : Blk W g #[.int .i64 x, .int .i64 y] 64
  ne : some g ≠ v'.ownBlock
theorem AftB.two {w : World} {nb : Nat} {x y : Int} {v v' : Value} {o o' : Sp} {W W' : World} (h : AftB w nb x y v v' o' (W.alloc (.cells #[.int .i64 x, .int .i64 y] 64)).drew W') (k : MidB w nb x y v o W) : TwoB w nb x y v' o' W.heap.size W' := by
  obtain ⟨h1, h2⟩ := h.old _ _ _ (Blk.made W _ _) (fun e => by have := (k.own.lt _ e.symm).2; omega)
  exact ⟨h.mid, h1, h2⟩
theorem AftB.new {w : World} {nb : Nat} {x y : Int} {v v' : Value} {o' : Sp} {W W' : World} (h : AftB w nb x y v v' o' W W') : TwoB w nb x y v' o' W'.heap.size (W'.alloc (.cells #[.int .i64 x, .int .i64 y] 64)) :=
  ⟨h.mid.alloc _, Blk.made _ _ _, fun e => by have := (h.mid.own.lt _ e.symm).2; omega⟩
theorem rdP_one {W : World} {g : Nat} {x y : Int} {t : TypeId} (h : Blk W g #[.int .i64 x, .int .i64 y] t) : RdP W (some ⟨g, 0, none⟩) 1 [(x, y)] [g] :=
  ⟨rfl, rdI_tcv (xs := flat [(x, y)]) (by simpa [tcv, flat] using h) (by simp [flat]) (by omega)⟩
/-- Ahead of a round. -/
structure BInv (w : World) (ps qs : Sp) (k : Nat) (o rs : Sp) (aa : Option Addr) (la ca : Nat) (F : List Nat) (v : Value) (wr : World) : Prop where
  own : wr.ownsRow w.heap.size 64 2 v o.length ((flat o).map (Value.int .i64))
  bel : Below w.heap.size w wr
  rd : RdP w aa la rs F
  lt : ∀ b ∈ F, b < w.heap.size
  cap : la ≤ ca
  len : o.length + rs.length ≤ ps.length + k
  ino : ∀ p ∈ o, InB p
  ina : ∀ p ∈ rs, InB p
  eq : both rs (qs.drop k) o = both ps qs []
set_option maxRecDepth 100000 in
set_option maxHeartbeats 8000000 in
theorem spansOfBoth_any (a b : Option Addr) (la lb ca cb : Nat) (ps qs : Sp) (F G : List Nat) (w : World) (h : RdP w a la ps F) (k : RdP w b lb qs G) (hlen : la + lb ≤ 2097153) (hca : la ≤ ca) (h1 : ∀ p ∈ ps, InB p) (h2 : ∀ p ∈ qs, InB p) :
    Calls Try.prog 67 #[.slice a la ca, .slice b lb cb] w fun e w' => NewP w (both ps qs []) e w' := by
  have HL : Hid (ps.length = la ∧ qs.length = lb) := ⟨h.length, k.length⟩
  have HI : Hid (∀ p ∈ qs, InB p) := h2
  have HP0 : Hid (BInv w ps qs 0 [] ps a la ca F (.slice none 0 0) w) := ⟨⟨by simp [flat], .inl ⟨rfl, rfl⟩⟩, Below.refl _ _, h, h.lt, hca, by simp, by simp, h1, rfl⟩
  have HCB : Hid (lb = 0 ∨ ∃ b1 o1, b = some ⟨b1, o1, none⟩ ∧ b1 < w.heap.size ∧ SpCells w b1 o1 lb qs) := cells_of k
  clear h k h1 h2
  go_enter Try.func67, Try.ntmps67
  go_wp2
  go_loopw [0, 5, 12] (fun av v i wr => ∃ (k : Nat) (o rs : Sp) (aa : Option Addr) (la ca : Nat) (F : List Nat), k ≤ lb ∧ i = .int .i64 k ∧ av = .slice aa la ca ∧ Hid (BInv w ps qs k o rs aa la ca F v wr)) (fun _ _ i _ => lb - (intOf i).toNat)
  case atStart => exact ⟨0, [], ps, a, la, ca, F, by omega, rfl, rfl, HP0⟩
  case round =>
    clear HP0
    obtain ⟨k, o, rs, aa, l0, c0, F0, hk, rfl, rfl, HP⟩ := hrel
    by_cases hlt : k < lb
    · have hcb := HCB.out
      rcases hcb with h0 | ⟨b1, o1, rfl, hbw, hc⟩
      · omega
      obtain ⟨x, hx⟩ : ∃ x, x = (qs.at k).1 := ⟨_, rfl⟩
      obtain ⟨y, hy⟩ : ∃ x, x = (qs.at k).2 := ⟨_, rfl⟩
      have e := hc k hlt
      have hql : k < qs.length := by rw [HL.out.2]; exact hlt
      have HXY : Hid (qs.at k = (x, y)) := by rw [hx, hy]; rfl
      have HINX : Hid (InB (x, y)) := by rw [← HXY.out]; exact HI.out _ (Sp.at_mem hql)
      rw [HXY.out] at e
      have d1 : wr.cell? ⟨b1, o1 + k * 2, none⟩ = some (.int .i64 x) := (HP.out.bel.cell (by exact hbw)).trans e.1
      have d2 : wr.cell? ⟨b1, o1 + k * 2 + 1, none⟩ = some (.int .i64 y) := (HP.out.bel.cell (by exact hbw)).trans e.2
      have hI : (k : Int) < (lb : Int) := by omega
      have HLN : Hid (o.length + rs.length ≤ 2097153) := by have := HP.out.len; have := HL.out; show _ ≤ _; omega
      have HLA : Hid (rs.length = l0) := HP.out.rd.length
      clear e hx hy hc
      go_wp2_with fail
      have HWA : Hid (Below w.heap.size w (wr.alloc (.cells #[.int .i64 x, .int .i64 y] 64))) := Below.allocW _ HP.out.bel (Nat.le_refl _)
      refine (cutAt_any aa l0 c0 rs x F0 _ (HP.out.rd.move HP.out.lt HWA.out) (by have := HLN.out; have := HLA.out; omega) HP.out.cap).mono ?_
      rintro e w2 ⟨a1, l1, c1, a2, l2, c2, F1, F2, rfl, r1, r2, s1, s2, hcp2, hq⟩
      obtain ⟨cn, hcn⟩ : ∃ c, c = cutN rs x := ⟨_, rfl⟩
      rw [← hcn] at r1 r2
      have HQ1 : Hid (RdP w a1 l1 (rs.take cn) F1 ∧ (∀ b ∈ F1, b < w.heap.size) ∧ l1 ≤ rs.length) := ⟨r1.back (fun b hb => HP.out.lt b (s1 b hb)) HWA.out, fun b hb => HP.out.lt b (s1 b hb), by have e := r1.length; rw [List.length_take] at e; omega⟩
      have HQ2 : Hid (RdP w a2 l2 (rs.drop cn) F2 ∧ (∀ b ∈ F2, b < w.heap.size) ∧ l2 ≤ c2) := ⟨r2.back (fun b hb => HP.out.lt b (s2 b hb)) HWA.out, fun b hb => HP.out.lt b (s2 b hb), hcp2⟩
      have HM : Hid (MidB w wr.heap.size x y u5 o w2) := by
        obtain ⟨m, rfl⟩ := hq
        have hal := HP.out.own.alloc (.cells #[.int .i64 x, .int .i64 y] 64)
        exact ⟨⟨hal.1, hal.2⟩, ⟨HWA.out.os, HWA.out.tape, HWA.out.output, HWA.out.size, HWA.out.block⟩, Blk.made wr _ _, fun e => by have := (HP.out.own.lt _ e.symm).2; omega⟩
      have HCN : Hid (cn = cutN rs x) := hcn
      have q1 : w2.cell? ⟨wr.heap.size, 0, none⟩ = some (.int .i64 x) := HM.out.box.cell 0
      have q2 : w2.cell? ⟨wr.heap.size, 1, none⟩ = some (.int .i64 y) := HM.out.box.cell 1
      clear r1 r2 s1 s2 hcp2 hq hcn HWA d1 d2
      have HC1 : Hid (∀ W, MidB w wr.heap.size x y u5 o W → Calls Try.prog 81 #[u5, .slice a1 l1 c1] W (fun e w' => ∃ v', e = .returned v' ∧ AftB w wr.heap.size x y u5 v' (lay o (rs.take cn)) W w')) := by
        intro W hW
        refine (laid_any w.heap.size u5 o a1 l1 c1 (rs.take cn) F1 W hW.own hW.bel.size (HQ1.out.1.move HQ1.out.2.1 hW.bel) (fun b hb e => by have := HQ1.out.2.1 b hb; have := (hW.own.lt _ e.symm).1; omega) (by have := HLN.out; have := HQ1.out.2.2; omega) HP.out.ino (fun p hp => HP.out.ina p (List.mem_of_mem_take hp))).mono ?_
        rintro e w' ⟨v, rfl, hl⟩
        exact ⟨v, rfl, AftB.of hW hl⟩
      have HC2 : Hid (∀ v' W g, TwoB w wr.heap.size x y v' (lay o (rs.take cn)) g W → Calls Try.prog 81 #[v', .slice (some ⟨g, 0, none⟩) 1 1] W (fun e w' => ∃ v'', e = .returned v'' ∧ MidB w wr.heap.size x y v'' (lay1 (lay o (rs.take cn)) (x, y)) w')) := by
        intro v' W g hW
        refine (laid_any w.heap.size v' (lay o (rs.take cn)) (some ⟨g, 0, none⟩) 1 1 [(x, y)] [g] W hW.mid.own hW.mid.bel.size (rdP_one hW.one) (fun b hb => by rw [List.mem_singleton.1 hb]; exact hW.ne) (by have e := lay_length (rs.take cn) o; have := HLN.out; rw [List.length_take] at e; omega) (lay_inb HP.out.ino (fun p hp => HP.out.ina p (List.mem_of_mem_take hp))) (fun p hp => by rw [List.mem_singleton.1 hp]; exact HINX.out)).mono ?_
        rintro e w' ⟨v, rfl, hl⟩
        exact ⟨v, rfl, (AftB.of hW.mid hl).mid⟩
      have HFIN : Hid (∀ v' W, MidB w wr.heap.size x y v' (lay1 (lay o (rs.take cn)) (x, y)) W → BInv w ps qs (k + 1) (lay1 (lay o (rs.take cn)) (x, y)) (rs.drop cn) a2 l2 c2 F2 v' W) := by
        intro v' W hW
        refine ⟨hW.own, hW.bel, HQ2.out.1, HQ2.out.2.1, HQ2.out.2.2, ?_, lay1_inb (lay_inb HP.out.ino (fun p hp => HP.out.ina p (List.mem_of_mem_take hp))) HINX.out, fun p hp => HP.out.ina p (List.mem_of_mem_drop hp), ?_⟩
        · have e1 := lay1_length (lay o (rs.take cn)) (x, y)
          have e2 := lay_length (rs.take cn) o
          have e3 := HP.out.len
          rw [List.length_take] at e2
          rw [List.length_drop]
          omega
        · have e := HP.out.eq
          rw [drop_at hql, HXY.out, both] at e
          rw [HCN.out]
          exact e
      have HKE : Hid (∀ W, Blk W wr.heap.size #[.int .i64 x, .int .i64 y] 64 → W.cell? ⟨wr.heap.size, 0, none⟩ = some (.int .i64 x) ∧ W.cell? ⟨wr.heap.size, 1, none⟩ = some (.int .i64 y)) := fun W hW => ⟨hW.cell 0, hW.cell 1⟩
      have HMD : Hid (MidB w wr.heap.size x y u5 o w2.drew) := HM.out.drew
      have HMA : Hid (MidB w wr.heap.size x y u5 o (w2.alloc (.cells #[.int .i64 x, .int .i64 y] 64)).drew) := (HM.out.alloc _).drew
      go_wp2
      go_region_held3 (fun W => W.cell? ⟨wr.heap.size, 0, none⟩ = some (.int .i64 x) ∧ W.cell? ⟨wr.heap.size, 1, none⟩ = some (.int .i64 y))
        ((refine HKE.out _ ?_; first | (with_reducible exact k2.box) | (with_reducible exact k1.mid.box) | (with_reducible exact k1.mid.box.alloc _) | (with_reducible exact HMD.out.box) | (with_reducible exact HMA.out.box)))
        (first
          | (have zz := k1; clear zz; go_at_call 81; refine (HC2.out _ _ _ (by first | (with_reducible exact k1.two HM.out) | (with_reducible exact k1.new))).mono ?_; rintro e w4 ⟨v4, rfl, k2⟩)
          | (go_at_call 81; refine (HC1.out _ (by first | (with_reducible exact HMD.out) | (with_reducible exact HMA.out))).mono ?_; rintro e w3 ⟨v3, rfl, k1⟩))
      all_goals
        have HB2 := HFIN.out _ _ k2
        have HB3 : Hid (BInv w ps qs (k + 1) (lay1 (lay o (rs.take cn)) (x, y)) (rs.drop cn) a2 l2 c2 F2 v4 w4) := HB2
        clear HB2 k2 k1 HC1 HC2 HKE HFIN q1 q2 HMD HMA HM
        go_wp2
        go_roundw
      all_goals first | exact ⟨k + 1, _, _, a2, l2, c2, F2, by omega, by go_num, rfl, HB3⟩ | (simp [intOf]; omega)
    · obtain rfl : k = lb := by omega
      have HE : Hid (lay o rs = both ps qs []) := by
        have := HP.out.eq
        rw [List.drop_eq_nil_of_le (by rw [HL.out.2]; omega)] at this
        exact this
      go_wp2_with fail
      refine (laid_any w.heap.size u5 o aa l0 c0 rs F0 _ HP.out.own HP.out.bel.size (HP.out.rd.move HP.out.lt HP.out.bel) (fun b hb e => by have := HP.out.lt b hb; have := (HP.out.own.lt _ e.symm).1; omega) (by have := HP.out.len; have := HL.out; have := HP.out.rd.length; omega) HP.out.ino HP.out.ina).mono ?_
      rintro e w2 ⟨v, rfl, hl⟩
      have HV : Hid (LayAt wr w.heap.size u5 v (lay o rs) w2 ∧ Below w.heap.size w w2) := ⟨hl, HP.out.bel.trans (hl.below HP.out.own HP.out.bel.size)⟩
      clear hl
      go_wp2
      go_ret
      obtain ⟨a', c', F', rfl, hr, ho, hnn⟩ := rdP_of_own HV.out.1.own
      rw [← HE.out]
      exact ⟨_, _, _, F', rfl, hr, ho, HV.out.2, hnn⟩
end Go.Proofs.Ytillnoeailnnfaa
/- The walks through the program's copying of a set, and the library's comparing of two. No statement of the seat is proved here. -/
namespace Go.Proofs.Ytillnoeailnnfaa
open Go.RowKit
theorem run_copy_row2 {P : Program} (w : World) (dT sT ty elem : TypeId) (g len dCap : Nat) (a : Addr) (sCap : Nat) (cur : Array Value) (t : TypeId) (cs : List Value)
    (hu : P.underlying dT = some (.slice elem)) (hs : (P.info? elem).map (·.size) = some 2)
    (hg : w.heap[g]? = some (.cells cur t (0, 0))) (hn : cs.length = len * 2)
    (hsrc : ∀ j v, cs[j]? = some v → w.cell? (a.add j) = some v) (hfit : cs.length ≤ cur.size) (h1 : ∀ v ∈ cs, v.oneCell' = true) :
    (Builtin.copy_ #[dT, sT] ty #[.slice (some ⟨g, 0, none⟩) len dCap, .slice (some a) len sCap]).run P w =
      .ok (goInt len) (w.setRow g (cs ++ cur.toList.drop cs.length).toArray) := by
  have hl := run_loadCells_list (P := P) w a cs hsrc
  have hst := run_storeCells_at P g 0 t cs 0 cur w hg (by simpa using hfit) h1
  rw [hn] at hl
  cases hq : P.info? elem with
  | none => simp [hq] at hs
  | some i =>
    have hi : i.size = 2 := by simpa [hq] using hs
    simp [Builtin.copy_, run_underlying hu, Builtin.lenOf, Builtin.firstCells, sizeOf, typeInfo, hq, hi, hl, hst]
theorem run_copy_none2 {P : Program} (w : World) (dT sT ty elem : TypeId) (d a : Option Addr) (dCap sCap : Nat) (hu : P.underlying dT = some (.slice elem)) (hs : (P.info? elem).map (·.size) = some 2) :
    (Builtin.copy_ #[dT, sT] ty #[.slice d 0 dCap, .slice a 0 sCap]).run P w = .ok (goInt 0) w := by
  cases hq : P.info? elem with
  | none => simp [hq] at hs
  | some i =>
    have hl : ∀ (x : Addr), (loadCells x 0).run P w = .ok #[] w := fun x => by simpa using run_loadCells_list (P := P) w x [] (by simp)
    cases d <;> cases a <;> simp [Builtin.copy_, run_underlying hu, Builtin.lenOf, Builtin.firstCells, sizeOf, typeInfo, hq, storeCells, hl]
theorem wpList_copy_none2 {P : Program} {w : World} {ops : Array Oper} {rest : List Oper} {o : Oper} {a : Act} {Q : Exit → Act → World → Prop} (hgd : o.guard = none) (d s : Operand) (dT sT : TypeId)
    (ho : o.op = .call { callee := .builtin .copy, args := #[d, s], argTypes := #[dT, sT] }) (elem : TypeId) (hu : P.underlying dT = some (.slice elem)) (hsz : (P.info? elem).map (·.size) = some 2)
    (dp sp : Option Addr) (dCap sCap : Nat) (hd : a.eval d = .slice dp 0 dCap) (hs : a.eval s = .slice sp 0 sCap)
    (h : wpList P ops Q rest (a.put o.dst (goInt 0)) w) : wpList P ops Q (o :: rest) a w := by
  refine wpList_plain hgd fun K hK => ?_
  have hrun := run_copy_none2 (P := P) w dT sT o.type elem dp sp dCap sCap hu hsz
  unfold Oper.wp
  simp [execOp, ho, resolve, invoke, builtin, hd, hs, hrun, Result.andThen]
  exact hK _ _ h
theorem wpList_copy_own2 {P : Program} {w : World} {ops : Array Oper} {rest : List Oper} {o : Oper} {a : Act} {Q : Exit → Act → World → Prop} (hgd : o.guard = none) (d s : Operand) (dT sT : TypeId)
    (ho : o.op = .call { callee := .builtin .copy, args := #[d, s], argTypes := #[dT, sT] }) (elem : TypeId) (hu : P.underlying dT = some (.slice elem)) (hsz : (P.info? elem).map (·.size) = some 2)
    (g len dCap : Nat) (ad : Addr) (sCap : Nat) (hd : a.eval d = .slice (some ⟨g, 0, none⟩) len dCap) (hs : a.eval s = .slice (some ad) len sCap)
    (cur : Array Value) (t : TypeId) (hg : w.heap[g]? = some (.cells cur t (0, 0))) (cs : List Value) (hn : cs.length = len * 2)
    (hsrc : ∀ j v, cs[j]? = some v → w.cell? (ad.add j) = some v) (hfit : cs.length ≤ cur.size) (h1 : ∀ v ∈ cs, v.oneCell' = true)
    (h : wpList P ops Q rest (a.put o.dst (goInt len)) (w.setRow g (cs ++ cur.toList.drop cs.length).toArray)) : wpList P ops Q (o :: rest) a w := by
  refine wpList_plain hgd fun K hK => ?_
  have hrun := run_copy_row2 (P := P) w dT sT o.type elem g len dCap ad sCap cur t cs hu hsz hg hn hsrc hfit h1
  unfold Oper.wp
  simp [execOp, ho, resolve, invoke, builtin, hd, hs, hrun, Result.andThen]
  exact hK _ _ h
theorem infoSpan2 : (Try.prog.info? 64).map (·.size) = some 2 := by kernel_rfl
theorem flat_one {ps : Sp} : ∀ v ∈ (flat ps).map (Value.int .i64), v.oneCell' = true := by
  intro v hv
  obtain ⟨x, _, rfl⟩ := List.mem_map.1 hv
  rfl
set_option maxRecDepth 200000 in
set_option maxHeartbeats 2000000 in
theorem copiedSpans_any (a : Option Addr) (len cap : Nat) (ps : Sp) (F : List Nat) (w : World) (h : RdP w a len ps F) (hlen : len ≤ 2097152) :
    Calls Try.prog 69 #[.slice a len cap] w fun e w' => NewP w ps e w' := by
  obtain ⟨i0, hi, hz0, hz1, hz2⟩ := info_parts infoSpan
  have HL : Hid (ps.length = len) := h.length
  have HR : Hid (RdP w a len ps F) := h
  rcases h.cells with ⟨rfl, _, rfl⟩ | ⟨b, off, hp, rfl, _, _⟩
  · clear h
    go_enter Try.func69, Try.ntmps69
    go_wp2_with (at_make; refine wpList_make_full _ rfl _ _ 33 rfl w.heap.size 64 i0 (.agg #[.int .i64 0, .int .i64 0]) 2 Try.underlying33 hi hz0 hz1 .i64 .i64 _ _ 0 rfl rfl (by simp) (by simp) (by omega) (by unfold maxLen; omega) (Nat.le_refl _) ?_; intro w1 hown hgrow)
    have hcp := run_copy_none2 (P := Try.prog) w1 33 33 3 64 (some ⟨w.heap.size, 0, none⟩) a 0 cap Try.underlying33 infoSpan2
    rw [hcp]
    go_wp2
    go_ret
    exact ⟨_, 0, 0, [], rfl, RdP.nil, Own.nil, (Below.refl _ _).grown hgrow (Nat.le_refl _) (fun k hk => by cases hk), (fun e => by cases e), Nat.le_refl _⟩
  · clear h
    go_enter Try.func69, Try.ntmps69
    go_wp2_with (at_make; refine wpList_make_full _ rfl _ _ 33 rfl w.heap.size 64 i0 (.agg #[.int .i64 0, .int .i64 0]) 2 Try.underlying33 hi hz0 hz1 .i64 .i64 _ _ len rfl rfl rfl rfl (by rw [hz2]; omega) (by unfold maxLen; omega) (Nat.le_refl _) ?_; intro w1 hown hgrow)
    have HM : Hid (Blk w1 w.heap.size (tcv (List.replicate (2 * len) 0)) 64 ∧ Below w.heap.size w w1) := by
      refine ⟨?_, (Below.refl _ _).grown hgrow (Nat.le_refl _) (fun k hk => by cases hk)⟩
      have e := own_blk hown hp
      have e2 : (madeCells (Value.agg #[Value.int IntKind.i64 0, Value.int IntKind.i64 0]).cells (len * 2)).toList.toArray = tcv (List.replicate (2 * len) 0) := made_flat len
      rw [← e2]
      exact e
    clear hown hgrow
    have HLF : Hid ((flat ps).length = 2 * len) := by rw [flat_length, HL.out]; rfl
    have hcp := run_copy_row2 (P := Try.prog) w1 33 33 3 64 w.heap.size len len ⟨b, off, none⟩ cap _ 64 ((flat ps).map (Value.int .i64)) Try.underlying33 infoSpan2 HM.out.1 (by have := HLF.out; simp; omega) (cells_flat (HR.out.below HM.out.2) hp) (by have := HLF.out; simp [tcv]; omega) flat_one
    have hrow : ((flat ps).map (Value.int .i64) ++ (tcv (List.replicate (2 * len) 0)).toList.drop ((flat ps).map (Value.int .i64)).length).toArray = tcv (flat ps) := by
      have := HLF.out
      rw [List.drop_eq_nil_of_le (by simp [tcv]; omega), List.append_nil]
      rfl
    rw [hrow] at hcp
    have HW : Hid (Blk (w1.setRow w.heap.size (tcv (flat ps))) w.heap.size (tcv (flat ps)) 64 ∧ Below w.heap.size w (w1.setRow w.heap.size (tcv (flat ps)))) := ⟨HM.out.1.setRow, below_setRow HM.out.2 (Nat.le_refl _) _⟩
    clear hrow
    rw [hcp]
    go_wp2
    go_ret
    exact ⟨_, len, len, [w.heap.size], rfl, ⟨HL.out, rdI_tcv HW.out.1 HLF.out (by omega)⟩, ⟨by simp, fun b hb o => by simp at hb; subst hb; exact HW.out.1.frozen o, by simp⟩, HW.out.2, (fun e => by cases e), Nat.le_refl _⟩
theorem sp_eta (p : Int × Int) : p = (p.1, p.2) := rfl
end Go.Proofs.Ytillnoeailnnfaa
/- The walks through the program's SetAdd and SetJoin. No statement of the seat is proved here. -/
namespace Go.Proofs.Ytillnoeailnnfaa
open Go.RowKit
set_option maxRecDepth 200000 in
theorem inRangeP_any (n m : Int) (w : World) : Calls Try.prog 86 #[.int .i64 n, .int .i64 m] w fun e w' => e = .returned (.bool (decide (0 ≤ n ∧ n ≤ m))) ∧ w' = w := by
  by_cases h1 : 0 ≤ n
  · have e1 : decide (0 ≤ n) = true := decT h1
    by_cases h2 : n ≤ m
    · have e2 : decide (n ≤ m) = true := decT h2
      have HV : Hid (decide (0 ≤ n ∧ n ≤ m) = true) := decT ⟨h1, h2⟩
      clear h1 h2
      go_enter Try.func86, Try.ntmps86
      go_wp2
      go_ret
      exact ⟨ret_bool HV.out.symm, rfl⟩
    · have e2 : decide (n ≤ m) = false := decF h2
      have HV : Hid (decide (0 ≤ n ∧ n ≤ m) = false) := decF (fun e => h2 e.2)
      clear h1 h2
      go_enter Try.func86, Try.ntmps86
      go_wp2
      go_ret
      exact ⟨ret_bool HV.out.symm, rfl⟩
  · have e1 : decide (0 ≤ n) = false := decF h1
    have HV : Hid (decide (0 ≤ n ∧ n ≤ m) = false) := decF (fun e => h1 e.1)
    clear h1
    go_enter Try.func86, Try.ntmps86
    go_wp2
    go_ret
    exact ⟨ret_bool HV.out.symm, rfl⟩
theorem inb_ok {ps : Sp} (h : ps.ok = true) : ∀ p ∈ ps, InB p := inb_iff.1 (ok_inb h)
set_option maxRecDepth 200000 in
set_option maxHeartbeats 4000000 in
theorem joinImpl_any (a b : Option Addr) (la lb ca cb : Nat) (ps qs : Sp) (F G : List Nat) (w : World) (h : RdP w a la ps F) (k : RdP w b lb qs G) (hlen : la + lb ≤ 2097152) (hca : la ≤ ca) :
    Calls Try.prog 46 #[.slice a la ca, .slice b lb cb] w fun e w' => NewP2 w (ps.join qs) (ps.ok && qs.ok) e w' := by
  have HR : Hid (RdP w a la ps F ∧ RdP w b lb qs G) := ⟨h, k⟩
  clear h k
  go_enter Try.func46, Try.ntmps46
  go_wp2_with fail
  refine (setOkImpl_any a la ca ps F _ HR.out.1 (by omega)).mono ?_
  rintro e w1 ⟨rfl, hb⟩
  have HB0 : Hid (Below w.heap.size w w1) := hb
  clear hb
  obtain ⟨d, hd⟩ : ∃ d, d = ps.ok := ⟨_, rfl⟩
  rw [← hd]
  have HD : Hid (d = ps.ok) := hd
  clear hd
  cases d
  · have HV : Hid (ps.join qs = [] ∧ (ps.ok && qs.ok) = false) := ⟨Sp.join_not (by rw [← HD.out]; rfl), by rw [← HD.out]; rfl⟩
    go_wp2
    go_ret2
    rw [HV.out.1, HV.out.2]
    exact ⟨_, 0, 0, [], rfl, RdP.nil, Own.nil, HB0.out, fun _ => rfl, Nat.le_refl _⟩
  go_wp2_with fail
  refine (setOkImpl_any b lb cb qs G _ (HR.out.2.below HB0.out) (by omega)).mono ?_
  rintro e w2 ⟨rfl, hb⟩
  have HB1 : Hid (Below w.heap.size w w2) := Below.next HB0.out hb
  clear hb HB0
  obtain ⟨d, hd⟩ : ∃ d, d = qs.ok := ⟨_, rfl⟩
  rw [← hd]
  have HE : Hid (d = qs.ok) := hd
  clear hd
  cases d
  · have HV : Hid (ps.join qs = [] ∧ (ps.ok && qs.ok) = false) := ⟨Sp.join_not (by rw [← HD.out, ← HE.out]; rfl), by rw [← HD.out, ← HE.out]; rfl⟩
    go_wp2
    go_ret2
    rw [HV.out.1, HV.out.2]
    exact ⟨_, 0, 0, [], rfl, RdP.nil, Own.nil, HB1.out, fun _ => rfl, Nat.le_refl _⟩
  have HV : Hid (both ps qs [] = ps.join qs ∧ (ps.ok && qs.ok) = true) := ⟨both_join HD.out.symm HE.out.symm, by rw [← HD.out, ← HE.out]; rfl⟩
  go_wp2_with fail
  refine (spansOfBoth_any a b la lb ca cb ps qs F G _ (HR.out.1.below HB1.out) (HR.out.2.below HB1.out) (by omega) hca (inb_ok HD.out.symm) (inb_ok HE.out.symm)).mono ?_
  rintro e w3 ⟨a', l', c', F', rfl, g1, g2, g3, g4⟩
  have HN : Hid (RdP w3 a' l' (ps.join qs) F' ∧ Own w.heap.size w3 F' ∧ Below w.heap.size w w3 ∧ Capd a' l' c') := ⟨by rw [← HV.out.1]; exact g1, g2.mono HB1.out.size, Below.next HB1.out g3, g4⟩
  clear g1 g2 g3 g4
  go_wp2
  go_ret2
  rw [HV.out.2]
  exact ⟨a', l', c', F', rfl, HN.out⟩
end Go.Proofs.Ytillnoeailnnfaa
/- A summary's numbers in one row (the program's own kind): how they are laid out of it. No statement of the seat is proved here. -/
namespace Go.Proofs.Ytillnoeailnnfaa
open Go.RowKit
/-- Two blocks of their own, one behind the other. -/
theorem two_made (w : World) (A B : Array Value) (tA tB : TypeId) : Blk ((w.alloc (.cells A tA)).alloc (.cells B tB)) w.heap.size A tA ∧ Blk ((w.alloc (.cells A tA)).alloc (.cells B tB)) (w.heap.size + 1) B tB ∧ Below w.heap.size w ((w.alloc (.cells A tA)).alloc (.cells B tB)) :=
  ⟨(Blk.made _ _ _).alloc _, Blk.made_eq (by simp), Below.allocW _ (Below.allocW _ (Below.refl _ _) (Nat.le_refl _)) (Nat.le_refl _)⟩
theorem RdI.src {w W : World} {a : Option Addr} {n : Nat} {zs : List Int} {F : List Nat} (h : RdI w a n zs F) (hb : Below w.heap.size w W) (hp : 0 < n) : ∃ ad, a = some ad ∧ ∀ j v, (zs.map (Value.int .i64))[j]? = some v → W.cell? (ad.add j) = some v := by
  have h' := h.below hb
  rcases h'.cells with ⟨h0, _⟩ | ⟨b, off, _, rfl, _, hc⟩
  · omega
  · refine ⟨_, rfl, fun j v hv => ?_⟩
    rw [List.getElem?_map] at hv
    obtain ⟨z, hz, rfl⟩ := Option.map_eq_some_iff.1 hv
    have hj : j < zs.length := (List.getElem?_eq_some_iff.1 hz).1
    have := hc j (by rw [← h'.length]; exact hj)
    have e : (⟨b, off, none⟩ : Addr).add j = ⟨b, off + j, none⟩ := by unfold Addr.add; split <;> simp_all
    rw [e, this]
    simp [hz]
theorem ints_one (zs : List Int) : ∀ v ∈ zs.map (Value.int .i64), v.oneCell' = true := by
  intro v hv
  obtain ⟨x, _, rfl⟩ := List.mem_map.1 hv
  rfl
theorem infoTally : (Try.prog.info? 95).map (·.size) = some 28 := by kernel_rfl
theorem tallySize {xs : List Int} (h : xs.length = 28) : (Try.prog.info? 95).map (·.size) = some (tc xs).size := by rw [tc_size, h]; exact infoTally
theorem infoInt1 : (Try.prog.info? 3).map (·.size) = some 1 := by kernel_rfl
set_option maxRecDepth 200000 in
set_option maxHeartbeats 1000000 in
theorem tallyOf_any (v : Value) (s : Sk) (F : List Nat) (w : World) (h : RdSk w v s F) (hw : s.wide) :
    Calls Try.prog 83 #[v] w fun e w' => ∃ xs : List Int, e = .returned (.tuple #[.agg (tc xs), .bool s.shaped]) ∧ xs.length = 28 ∧ (s.shaped = true → xs = s.tl) ∧ Below w.heap.size w w' := by
  have HH : Hid (RdSk w v s F ∧ s.wide) := ⟨h, hw⟩
  obtain ⟨a1, n1, c1, a2, n2, c2, a3, n3, c3, F1, F2, F3, rfl, h1, h2, h3, _⟩ := h
  have HR : Hid (RdI w a1 n1 s.hist F1 ∧ RdI w a2 n2 s.regs F2 ∧ RdII w a3 n3 s.rows F3) := ⟨h1, h2, h3⟩
  clear h1 h2 h3 hw
  have Z28 := two_made w #[.int .i64 s.count, .int .i64 s.sum, .int .i64 s.min, .int .i64 s.max, .slice a1 n1 c1, .slice a2 n2 c2, .slice a3 n3 c3] (tc (List.replicate 28 0)) 37 95
  have HZ : Hid (_ ∧ _ ∧ _) := Z28
  clear Z28
  go_enter Try.func83, Try.ntmps83
  go_wp2_with fail
  refine (isShaped_any _ s F _ (HH.out.1.below HZ.out.2.2) HH.out.2).mono ?_
  rintro e w1 ⟨rfl, hb1⟩
  have HB : Hid (Blk w1 w.heap.size #[.int .i64 s.count, .int .i64 s.sum, .int .i64 s.min, .int .i64 s.max, .slice a1 n1 c1, .slice a2 n2 c2, .slice a3 n3 c3] 37 ∧ Blk w1 (w.heap.size + 1) (tc (List.replicate 28 0)) 95 ∧ Below w.heap.size w w1) := ⟨HZ.out.1.below hb1, HZ.out.2.1.below hb1, Below.next HZ.out.2.2 hb1⟩
  clear hb1 HZ
  cases es : s.shaped
  · have ES : Hid (s.shaped = false) := es
    clear es
    go_wp2_with (with_reducible refine stopStore 95 rfl ?_)
    refine store_known 95 (w.heap.size + 1) _ (tc (List.replicate 28 0)) 95 HB.out.2.1 rfl rfl rfl rfl infoTally rfl (tc_one _) ?_
    go_wp2
    refine bodyPost_ret (results_row_tmp Try.results83 _ _ (w.heap.size + 1) _ _ _ _ rfl HB.out.2.1.setRow Try.underlying95 rfl infoTally) rfl ?_
    exact ⟨List.replicate 28 0, by rw [ES.out]; rfl, rfl, fun e => by (rw [ES.out] at e; cases e), below_setRow HB.out.2.2 (by omega) _⟩
  have ES : Hid (s.shaped = true) := es
  obtain ⟨e1, e2, x, y, er, ex, ey⟩ := Sk.shaped_parts es
  obtain rfl : n1 = 8 := by rw [← HR.out.1.length]; exact e1
  obtain rfl : n2 = 8 := by rw [← HR.out.2.1.length]; exact e2
  obtain rfl : n3 = 2 := by rw [← HR.out.2.2.length, er]; rfl
  obtain ⟨p, po, F', ha3, hm⟩ : ∃ p po F', a3 = some ⟨p, po, none⟩ ∧ RdM w (s.rows.map ints) p po F' := by
    rcases HR.out.2.2.cells with ⟨h0, _⟩ | ⟨p, po, F', _, e, _, hm⟩
    · omega
    · exact ⟨p, po, F', e, hm⟩
  subst ha3
  obtain ⟨r0, m0, k0, G0, x0, q0, _⟩ := RdII.row hm HR.out.2.2.length 0 (by omega)
  obtain ⟨r1, m1, k1, G1, x1, q1, _⟩ := RdII.row hm HR.out.2.2.length 1 (by omega)
  obtain rfl : m0 = 4 := by rw [← q0.length, er]; exact ex
  obtain rfl : m1 = 4 := by rw [← q1.length, er]; exact ey
  have hpw : p < w.heap.size := World.block_lt_of_cell? _ _ x0
  have HX : Hid (w.cell? ⟨p, po, none⟩ = some (.slice r0 4 k0) ∧ w.cell? ⟨p, po + 1, none⟩ = some (.slice r1 4 k1) ∧ RdI w r0 4 (s.rows.getD 0 []) G0 ∧ RdI w r1 4 (s.rows.getD 1 []) G1) := ⟨x0, x1, q0, q1⟩
  have HE : Hid (s.hist.length = 8 ∧ s.regs.length = 8 ∧ (s.rows.getD 0 []).length = 4 ∧ (s.rows.getD 1 []).length = 4) := ⟨e1, e2, q0.length, q1.length⟩
  clear e1 e2 er ex ey hm x0 x1 q0 q1 es x y
  have y0 := HB.out.1.cell 0
  have y1 := HB.out.1.cell 1
  have y2 := HB.out.1.cell 2
  have y3 := HB.out.1.cell 3
  simp only [aT, aS, aZ] at y0 y1 y2 y3
  go_wp2_with (with_reducible refine stopStore 95 rfl ?_)
  refine store_fresh 95 w1.heap.size rfl (tc (List.replicate 28 0)) (tc ([s.count, s.sum, s.min, s.max] ++ List.replicate 24 0)) 95 rfl rfl rfl rfl (tallySize rfl) rfl (tc_one _) ?_
  intro W2 hg2 hb2
  obtain ⟨L0, hL0⟩ : ∃ L, L = ([s.count, s.sum, s.min, s.max] ++ List.replicate 24 0).map (Value.int .i64) := ⟨_, rfl⟩
  have HG2 : Hid (W2.heap[w1.heap.size]? = some (.cells L0.toArray 95 (0, 0)) ∧ L0.length = 28) := ⟨by rw [hL0]; exact hg2, by rw [hL0]; rfl⟩
  have HL0 : Hid (L0 = ([s.count, s.sum, s.min, s.max] ++ List.replicate 24 0).map (Value.int .i64)) := hL0
  have hlt1 : w.heap.size + 1 < w1.heap.size := HB.out.2.1.lt
  have HB2 : Hid (Below w1.heap.size w1 W2) := hb2
  clear y0 y1 y2 y3 hg2 hL0 hb2
  obtain ⟨H1, hH1⟩ : ∃ L, L = s.hist.map (Value.int .i64) := ⟨_, rfl⟩
  obtain ⟨H2, hH2⟩ : ∃ L, L = s.regs.map (Value.int .i64) := ⟨_, rfl⟩
  obtain ⟨H3, hH3⟩ : ∃ L, L = (s.rows.getD 0 []).map (Value.int .i64) := ⟨_, rfl⟩
  obtain ⟨H4, hH4⟩ : ∃ L, L = (s.rows.getD 1 []).map (Value.int .i64) := ⟨_, rfl⟩
  have HS : Hid (H1 = s.hist.map (Value.int .i64) ∧ H2 = s.regs.map (Value.int .i64) ∧ H3 = (s.rows.getD 0 []).map (Value.int .i64) ∧ H4 = (s.rows.getD 1 []).map (Value.int .i64)) := ⟨hH1, hH2, hH3, hH4⟩
  have HL : Hid (H1.length = 8 ∧ H2.length = 8 ∧ H3.length = 4 ∧ H4.length = 4) := ⟨by rw [hH1, List.length_map]; exact HE.out.1, by rw [hH2, List.length_map]; exact HE.out.2.1, by rw [hH3, List.length_map]; exact HE.out.2.2.1, by rw [hH4, List.length_map]; exact HE.out.2.2.2⟩
  have HO : Hid ((∀ v ∈ H1, v.oneCell' = true) ∧ (∀ v ∈ H2, v.oneCell' = true) ∧ (∀ v ∈ H3, v.oneCell' = true) ∧ (∀ v ∈ H4, v.oneCell' = true)) := ⟨by rw [hH1]; exact ints_one _, by rw [hH2]; exact ints_one _, by rw [hH3]; exact ints_one _, by rw [hH4]; exact ints_one _⟩
  have HK : Hid (∀ W, Below w1.heap.size w1 W → (∃ ad, a1 = some ad ∧ ∀ j v, H1[j]? = some v → W.cell? (ad.add j) = some v) ∧ (∃ ad, a2 = some ad ∧ ∀ j v, H2[j]? = some v → W.cell? (ad.add j) = some v) ∧ (∃ ad, r0 = some ad ∧ ∀ j v, H3[j]? = some v → W.cell? (ad.add j) = some v) ∧ (∃ ad, r1 = some ad ∧ ∀ j v, H4[j]? = some v → W.cell? (ad.add j) = some v)) := by
    intro W hb
    have hb' := Below.next HB.out.2.2 hb
    rw [hH1, hH2, hH3, hH4]
    exact ⟨HR.out.1.src hb' (by omega), HR.out.2.1.src hb' (by omega), HX.out.2.2.1.src hb' (by omega), HX.out.2.2.2.src hb' (by omega)⟩
  have HC : Hid (∀ W, Below w1.heap.size w1 W → W.cell? ⟨w.heap.size, 4, none⟩ = some (.slice a1 8 c1) ∧ W.cell? ⟨w.heap.size, 5, none⟩ = some (.slice a2 8 c2) ∧ W.cell? ⟨w.heap.size, 6, none⟩ = some (.slice (some ⟨p, po, none⟩) 2 c3) ∧ W.cell? ⟨p, po, none⟩ = some (.slice r0 4 k0) ∧ W.cell? ⟨p, po + 1, none⟩ = some (.slice r1 4 k1)) := by
    intro W hb
    have b := HB.out.1.below hb
    have hb' := Below.next HB.out.2.2 hb
    exact ⟨by rw [b.cell]; rfl, by rw [b.cell]; rfl, by rw [b.cell]; rfl, (hb'.cell (by exact hpw)).trans HX.out.1, (hb'.cell (by exact hpw)).trans HX.out.2.1⟩
  clear hH1 hH2 hH3 hH4
  have z4 := (HC.out W2 HB2.out).1
  go_wp2
  go_region_law (refine step_copy_splice rfl _ _ 34 34 rfl 3 Try.underlying34 infoInt1 _ _ _ _ _ _ rfl rfl w1.heap.size 4 L0 95 HG2.out.1 H1 (by rw [HL.out.1]; rfl) (fun _ => ⟨rfl, (HK.out _ HB2.out.drew).1⟩) (by rw [HL.out.1, HG2.out.2]; omega) HO.out.1 w1.heap.size w1 HB2.out.drew (Nat.le_refl _) ?_; intro W3 hg3 hb3)
  have z5 := (HC.out W3 hb3).2.1
  have HB3 : Hid (Below w1.heap.size w1 W3) := hb3
  clear hb3 z4
  obtain ⟨L1, hL1⟩ : ∃ L, L = splice L0 4 H1 := ⟨_, rfl⟩
  have HG3 : Hid (W3.heap[w1.heap.size]? = some (.cells L1.toArray 95 (0, 0)) ∧ L1.length = 28 ∧ L1 = splice L0 4 H1) := ⟨by rw [hL1]; exact hg3.out, by rw [hL1, length_splice _ _ _ (by rw [HL.out.1, HG2.out.2]; omega)]; exact HG2.out.2, hL1⟩
  clear hg3 hL1
  go_wp2
  go_region_law (refine step_copy_splice rfl _ _ 34 34 rfl 3 Try.underlying34 infoInt1 _ _ _ _ _ _ rfl rfl w1.heap.size 12 L1 95 HG3.out.1 H2 (by rw [HL.out.2.1]; rfl) (fun _ => ⟨rfl, (HK.out _ HB3.out.drew).2.1⟩) (by rw [HL.out.2.1, HG3.out.2.1]; omega) HO.out.2.1 w1.heap.size w1 HB3.out.drew (Nat.le_refl _) ?_; intro W4 hg4 hb4)
  have z6 := (HC.out W4 hb4).2.2.1
  have u0 := (HC.out W4 hb4).2.2.2.1
  have HB4 : Hid (Below w1.heap.size w1 W4) := hb4
  clear hb4 z5
  obtain ⟨L2, hL2⟩ : ∃ L, L = splice L1 12 H2 := ⟨_, rfl⟩
  have HG4 : Hid (W4.heap[w1.heap.size]? = some (.cells L2.toArray 95 (0, 0)) ∧ L2.length = 28 ∧ L2 = splice L1 12 H2) := ⟨by rw [hL2]; exact hg4.out, by rw [hL2, length_splice _ _ _ (by rw [HL.out.2.1, HG3.out.2.1]; omega)]; exact HG3.out.2.1, hL2⟩
  clear hg4 hL2
  go_wp2
  refine wp_loop_rounds 3 ?_
  rw [rounds_succ]
  go_wp2_with (with_reducible refine stopCopy rfl ?_)
  refine Stop.intro (wpList_copy_splice rfl _ _ 34 34 rfl 3 Try.underlying34 infoInt1 _ _ _ _ _ _ rfl rfl w1.heap.size 20 L2 95 HG4.out.1 H3 (by rw [HL.out.2.2.1]; rfl) (fun _ => ⟨rfl, (HK.out _ HB4.out).2.2.1⟩) (by rw [HL.out.2.2.1, HG4.out.2.1]; omega) HO.out.2.2.1 w1.heap.size w1 HB4.out (Nat.le_refl _) ?_)
  intro W5 hg5 hb5
  have u1 := (HC.out W5 hb5).2.2.2.2
  have HB5 : Hid (Below w1.heap.size w1 W5) := hb5
  clear hb5 u0 z6
  obtain ⟨L3, hL3⟩ : ∃ L, L = splice L2 20 H3 := ⟨_, rfl⟩
  have HG5 : Hid (W5.heap[w1.heap.size]? = some (.cells L3.toArray 95 (0, 0)) ∧ L3.length = 28 ∧ L3 = splice L2 20 H3) := ⟨by rw [hL3]; exact hg5.out, by rw [hL3, length_splice _ _ _ (by rw [HL.out.2.2.1, HG4.out.2.1]; omega)]; exact HG4.out.2.1, hL3⟩
  clear hg5 hL3
  go_wp2_with fail
  rw [rounds_succ]
  go_wp2_with (with_reducible refine stopCopy rfl ?_)
  refine Stop.intro (wpList_copy_splice rfl _ _ 34 34 rfl 3 Try.underlying34 infoInt1 _ _ _ _ _ _ rfl rfl w1.heap.size 24 L3 95 HG5.out.1 H4 (by rw [HL.out.2.2.2]; rfl) (fun _ => ⟨rfl, (HK.out _ HB5.out).2.2.2⟩) (by rw [HL.out.2.2.2, HG5.out.2.1]; omega) HO.out.2.2.2 w1.heap.size w1 HB5.out (Nat.le_refl _) ?_)
  intro W6 hg6 hb6
  have HB6 : Hid (Below w1.heap.size w1 W6) := hb6
  have HG6 : Hid (Blk W6 w1.heap.size (tc s.tl) 95) := by
    have e : splice L3 24 H4 = s.tl.map (Value.int .i64) := by
      rw [HG5.out.2.2, HG4.out.2.2, HG3.out.2.2, HL0.out, HS.out.1, HS.out.2.1, HS.out.2.2.1, HS.out.2.2.2]
      exact tl_map s HE.out.1 HE.out.2.1 HE.out.2.2.1 HE.out.2.2.2
    have := hg6.out
    rw [e] at this
    exact this
  have HRes : Hid (Blk W6 (w.heap.size + 1) (tc (List.replicate 28 0)) 95 ∧ Below w.heap.size w W6) := ⟨HB.out.2.1.below hb6, Below.next HB.out.2.2 hb6⟩
  clear hb6 hg6 u1
  go_wp2_with fail
  rw [rounds_succ]
  go_wp2_with (first | (with_reducible refine stopLoad 95 rfl ?_) | (with_reducible refine stopStore 95 rfl ?_))
  refine load_known 95 w1.heap.size (tc s.tl) 95 _ HG6.out rfl rfl rfl Try.underlying95 rfl (tallySize (Sk.tl_length ES.out)) ?_
  go_wp2_with (first | (with_reducible refine stopLoad 95 rfl ?_) | (with_reducible refine stopStore 95 rfl ?_))
  refine store_known 95 (w.heap.size + 1) _ (tc s.tl) 95 HRes.out.1 rfl rfl rfl rfl (tallySize (Sk.tl_length ES.out)) (by rw [tc_size, tc_size, Sk.tl_length ES.out]; rfl) (tc_one _) ?_
  go_wp2
  refine bodyPost_ret (results_row_tmp Try.results83 _ _ (w.heap.size + 1) _ _ _ _ rfl HRes.out.1.setRow Try.underlying95 rfl (tallySize (Sk.tl_length ES.out))) rfl ?_
  exact ⟨s.tl, by rw [ES.out]; rfl, Sk.tl_length ES.out, fun _ => rfl, below_setRow HRes.out.2 (by omega) _⟩
end Go.Proofs.Ytillnoeailnnfaa
/- Two rows of numbers of the program's own kind, compared; a summary that is right. No statement of the seat is proved here. -/
namespace Go.Proofs.Ytillnoeailnnfaa
open Go.RowKit
set_option maxRecDepth 200000 in
set_option maxHeartbeats 2000000 in
theorem same_any (xs ys : List Int) (w : World) (hx : xs.length = 28) (hy : ys.length = 28) :
    Calls Try.prog 85 #[.agg (tc xs), .agg (tc ys)] w fun e w' => e = .returned (.bool (decide (xs = ys))) ∧ Below w.heap.size w w' := by
  have HL : Hid (xs.length = 28 ∧ ys.length = 28) := ⟨hx, hy⟩
  have HT : Hid (_ ∧ _ ∧ _) := two_made w (tc xs) (tc ys) 95 95
  obtain ⟨d, hd⟩ : ∃ d, d = decide (xs = ys) := ⟨_, rfl⟩
  rw [← hd]
  have HD : Hid (d = decide (xs = ys)) := hd
  obtain ⟨x0, hx0⟩ : ∃ x, x = xs.getD 0 0 := ⟨_, rfl⟩
  obtain ⟨x1, hx1⟩ : ∃ x, x = xs.getD 1 0 := ⟨_, rfl⟩
  obtain ⟨x2, hx2⟩ : ∃ x, x = xs.getD 2 0 := ⟨_, rfl⟩
  obtain ⟨x3, hx3⟩ : ∃ x, x = xs.getD 3 0 := ⟨_, rfl⟩
  obtain ⟨y0, hy0⟩ : ∃ x, x = ys.getD 0 0 := ⟨_, rfl⟩
  obtain ⟨y1, hy1⟩ : ∃ x, x = ys.getD 1 0 := ⟨_, rfl⟩
  obtain ⟨y2, hy2⟩ : ∃ x, x = ys.getD 2 0 := ⟨_, rfl⟩
  obtain ⟨y3, hy3⟩ : ∃ x, x = ys.getD 3 0 := ⟨_, rfl⟩
  have a0 : (tc xs)[0]? = some (.int .i64 x0) := by rw [hx0]; exact tc_get (by omega)
  have a1 : (tc xs)[1]? = some (.int .i64 x1) := by rw [hx1]; exact tc_get (by omega)
  have a2 : (tc xs)[2]? = some (.int .i64 x2) := by rw [hx2]; exact tc_get (by omega)
  have a3 : (tc xs)[3]? = some (.int .i64 x3) := by rw [hx3]; exact tc_get (by omega)
  have b0 : (tc ys)[0]? = some (.int .i64 y0) := by rw [hy0]; exact tc_get (by omega)
  have b1 : (tc ys)[1]? = some (.int .i64 y1) := by rw [hy1]; exact tc_get (by omega)
  have b2 : (tc ys)[2]? = some (.int .i64 y2) := by rw [hy2]; exact tc_get (by omega)
  have b3 : (tc ys)[3]? = some (.int .i64 y3) := by rw [hy3]; exact tc_get (by omega)
  have HX : Hid ((x0 = xs.getD 0 0 ∧ y0 = ys.getD 0 0) ∧ (x1 = xs.getD 1 0 ∧ y1 = ys.getD 1 0) ∧ (x2 = xs.getD 2 0 ∧ y2 = ys.getD 2 0) ∧ (x3 = xs.getD 3 0 ∧ y3 = ys.getD 3 0)) := ⟨⟨hx0, hy0⟩, ⟨hx1, hy1⟩, ⟨hx2, hy2⟩, ⟨hx3, hy3⟩⟩
  clear hx hy hd hx0 hx1 hx2 hx3 hy0 hy1 hy2 hy3
  go_enter Try.func85, Try.ntmps85
  by_cases q0 : x0 = y0
  rotate_left
  · have q0' : (x0 == y0) = false := by simpa using q0
    have HN : Hid (d = false) := by show d = _; rw [HD.out]; exact dec_false (fun e => q0 (by rw [HX.out.1.1, HX.out.1.2, e]))
    clear q0
    go_wp2
    go_ret
    exact ⟨ret_bool HN.out.symm, HT.out.2.2⟩
  have Q0 : Hid (x0 = y0) := q0
  have q0' : (x0 == y0) = true := by simpa using q0
  clear q0
  by_cases q1 : x1 = y1
  rotate_left
  · have q1' : (x1 == y1) = false := by simpa using q1
    have HN : Hid (d = false) := by show d = _; rw [HD.out]; exact dec_false (fun e => q1 (by rw [HX.out.2.1.1, HX.out.2.1.2, e]))
    clear q1
    go_wp2
    go_ret
    exact ⟨ret_bool HN.out.symm, HT.out.2.2⟩
  have Q1 : Hid (x1 = y1) := q1
  have q1' : (x1 == y1) = true := by simpa using q1
  clear q1
  by_cases q2 : x2 = y2
  rotate_left
  · have q2' : (x2 == y2) = false := by simpa using q2
    have HN : Hid (d = false) := by show d = _; rw [HD.out]; exact dec_false (fun e => q2 (by rw [HX.out.2.2.1.1, HX.out.2.2.1.2, e]))
    clear q2
    go_wp2
    go_ret
    exact ⟨ret_bool HN.out.symm, HT.out.2.2⟩
  have Q2 : Hid (x2 = y2) := q2
  have q2' : (x2 == y2) = true := by simpa using q2
  clear q2
  by_cases q3 : x3 = y3
  rotate_left
  · have q3' : (x3 == y3) = false := by simpa using q3
    have HN : Hid (d = false) := by show d = _; rw [HD.out]; exact dec_false (fun e => q3 (by rw [HX.out.2.2.2.1, HX.out.2.2.2.2, e]))
    clear q3
    go_wp2
    go_ret
    exact ⟨ret_bool HN.out.symm, HT.out.2.2⟩
  have Q3 : Hid (x3 = y3) := q3
  have q3' : (x3 == y3) = true := by simpa using q3
  clear q3
  go_wp2_with (first | go_skip | (with_reducible refine stopLoad 91 rfl ?_))
  refine load_part 91 w.heap.size 4 8 xs 95 _ HT.out.1 rfl rfl rfl Try.underlying91 rfl (by kernel_rfl) (by rw [HL.out.1]; omega) ?_
  go_wp2_with (first | go_skip | (with_reducible refine stopLoad 91 rfl ?_))
  refine load_part 91 (w.heap.size + 1) 4 8 ys 95 _ HT.out.2.1 rfl rfl rfl Try.underlying91 rfl (by kernel_rfl) (by rw [HL.out.2]; omega) ?_
  have hq0 : ∀ w, (Op.equalIn 10000 91 (.agg (tc ((xs.drop 4).take 8))) (.agg (tc ((ys.drop 4).take 8)))).run Try.prog w = .ok (decide ((xs.drop 4).take 8 = (ys.drop 4).take 8)) w := fun w => run_eq_ints w 9998 91 3 8 _ _ Try.underlying91 Try.underlying3 (fun _ => by simp) (by simp; have := HL.out.1; omega) (by simp; have := HL.out.2; omega)
  cases q4 : decide ((xs.drop 4).take 8 = (ys.drop 4).take 8)
  · rw [q4] at hq0
    have HN : Hid (d = false) := by show d = _; rw [HD.out]; exact dec_false (fun e => by rw [e] at q4; simp at q4)
    clear q4
    go_wp2
    go_ret
    exact ⟨ret_bool HN.out.symm, HT.out.2.2⟩
  rw [q4] at hq0
  have Q4 : Hid ((xs.drop 4).take 8 = (ys.drop 4).take 8) := (show (xs.drop 4).take 8 = (ys.drop 4).take 8 from of_decide_eq_true q4)
  clear q4
  go_wp2_with (first | go_skip | (with_reducible refine stopLoad 91 rfl ?_))
  refine load_part 91 w.heap.size 12 8 xs 95 _ HT.out.1 rfl rfl rfl Try.underlying91 rfl (by kernel_rfl) (by rw [HL.out.1]; omega) ?_
  go_wp2_with (first | go_skip | (with_reducible refine stopLoad 91 rfl ?_))
  refine load_part 91 (w.heap.size + 1) 12 8 ys 95 _ HT.out.2.1 rfl rfl rfl Try.underlying91 rfl (by kernel_rfl) (by rw [HL.out.2]; omega) ?_
  have hq1 : ∀ w, (Op.equalIn 10000 91 (.agg (tc ((xs.drop 12).take 8))) (.agg (tc ((ys.drop 12).take 8)))).run Try.prog w = .ok (decide ((xs.drop 12).take 8 = (ys.drop 12).take 8)) w := fun w => run_eq_ints w 9998 91 3 8 _ _ Try.underlying91 Try.underlying3 (fun _ => by simp) (by simp; have := HL.out.1; omega) (by simp; have := HL.out.2; omega)
  cases q5 : decide ((xs.drop 12).take 8 = (ys.drop 12).take 8)
  · rw [q5] at hq1
    have HN : Hid (d = false) := by show d = _; rw [HD.out]; exact dec_false (fun e => by rw [e] at q5; simp at q5)
    clear q5
    go_wp2
    go_ret
    exact ⟨ret_bool HN.out.symm, HT.out.2.2⟩
  rw [q5] at hq1
  have Q5 : Hid ((xs.drop 12).take 8 = (ys.drop 12).take 8) := (show (xs.drop 12).take 8 = (ys.drop 12).take 8 from of_decide_eq_true q5)
  clear q5
  go_wp2_with (first | go_skip | (with_reducible refine stopLoad 93 rfl ?_))
  refine load_part 93 w.heap.size 20 8 xs 95 _ HT.out.1 rfl rfl rfl Try.underlying93 rfl (by kernel_rfl) (by rw [HL.out.1]; omega) ?_
  go_wp2_with (first | go_skip | (with_reducible refine stopLoad 93 rfl ?_))
  refine load_part 93 (w.heap.size + 1) 20 8 ys 95 _ HT.out.2.1 rfl rfl rfl Try.underlying93 rfl (by kernel_rfl) (by rw [HL.out.2]; omega) ?_
  have hq2 : ∀ w, (Op.equalIn 10000 93 (.agg (tc ((xs.drop 20).take 8))) (.agg (tc ((ys.drop 20).take 8)))).run Try.prog w = .ok (decide ((xs.drop 20).take 8 = (ys.drop 20).take 8)) w := fun w => run_eq_rows w 9997 93 92 3 _ _ Try.underlying93 Try.underlying92 Try.underlying3 (fun _ => by simp) (fun _ => by simp) (by simp; have := HL.out.1; omega) (by simp; have := HL.out.2; omega)
  cases q6 : decide ((xs.drop 20).take 8 = (ys.drop 20).take 8)
  · rw [q6] at hq2
    have HN : Hid (d = false) := by show d = _; rw [HD.out]; exact dec_false (fun e => by rw [e] at q6; simp at q6)
    clear q6
    go_wp2
    go_ret
    exact ⟨ret_bool HN.out.symm, HT.out.2.2⟩
  rw [q6] at hq2
  have Q6 : Hid ((xs.drop 20).take 8 = (ys.drop 20).take 8) := (show (xs.drop 20).take 8 = (ys.drop 20).take 8 from of_decide_eq_true q6)
  clear q6
  have HN : Hid (d = true) := by show d = _; rw [HD.out]; exact dec_true (eq28 HL.out.1 HL.out.2 (by rw [← HX.out.1.1, ← HX.out.1.2]; exact Q0.out) (by rw [← HX.out.2.1.1, ← HX.out.2.1.2]; exact Q1.out) (by rw [← HX.out.2.2.1.1, ← HX.out.2.2.1.2]; exact Q2.out) (by rw [← HX.out.2.2.2.1, ← HX.out.2.2.2.2]; exact Q3.out) Q4.out Q5.out Q6.out)
  go_wp2
  go_ret
  exact ⟨ret_bool HN.out.symm, HT.out.2.2⟩
end Go.Proofs.Ytillnoeailnnfaa
/- The program's look at all numbers of its row. No statement of the seat is proved here. -/
namespace Go.Proofs.Ytillnoeailnnfaa
open Go.RowKit
def inB (xs : List Int) : Bool :=
  decide (0 ≤ xs.getD 0 0 ∧ xs.getD 0 0 ≤ 1000000000) && decide (0 ≤ xs.getD 1 0 ∧ xs.getD 1 0 ≤ 1000000000) && decide (0 ≤ xs.getD 2 0 ∧ xs.getD 2 0 ≤ 1000000) && decide (0 ≤ xs.getD 3 0 ∧ xs.getD 3 0 ≤ 1000000) &&
  ((xs.drop 20).take 4).all (okN 1000000000 false) && ((xs.drop 24).take 4).all (okN 1000000000 false) && ((xs.drop 4).take 8).all (okN 1000000000 false) && ((xs.drop 12).take 8).all (okN 17 false)
theorem rdI_tc {W : World} {g off n : Nat} {xs : List Int} {t : TypeId} (h : Blk W g (tc xs) t) (hfit : off + n ≤ xs.length) (hp : 0 < n) : RdI W (some ⟨g, off, none⟩) n ((xs.drop off).take n) [g] := by
  refine ⟨by simp; omega, .inr ⟨g, off, hp, rfl, rfl, fun i hi => ?_⟩⟩
  rw [h.cell, tc_get (by omega)]
  simp [hi]
theorem rdI_tc0 {W : World} {g n : Nat} {xs : List Int} {t : TypeId} (h : Blk W g (tc xs) t) (hn : xs.length = n) (hp : 0 < n) : RdI W (some ⟨g, 0, none⟩) n xs [g] := by
  have := rdI_tc h (off := 0) (n := n) (by omega) hp
  rw [List.drop_zero, List.take_of_length_le (by omega)] at this
  exact this
theorem run_index_row {P : Program} (w : World) (t u e : TypeId) (zs : List Int) (i : Int) (n : Nat) (hn : i = n) (h2 : n < 2) (ht : P.underlying t = some (.array 2 u)) (hu : P.underlying u = some (.array 4 e)) (hs : ∀ w, (sizeOf u).run P w = .ok 4 w) :
    (Instr.index t (.agg (tc zs)) (.int .i64 i)).run P w = .ok (.agg (tc ((zs.drop (n * 4)).take 4))) w := by
  have hagg : (isAgg u).run P w = .ok true w := by unfold isAgg; rw [Sem.run_bind, run_underlying hu w]; simp
  subst hn
  have h3 : (0 : Int) ≤ n ∧ (n : Int) < 2 := by omega
  unfold Instr.index part
  simp [asIntOf, run_underlying ht, Sem.run_bind, h3, hs, hagg, tc_extract]
  intro h; omega
set_option maxRecDepth 200000 in
set_option maxHeartbeats 2000000 in
theorem inBounds_any (xs : List Int) (w : World) (hx : xs.length = 28) :
    Calls Try.prog 84 #[.agg (tc xs)] w fun e w' => e = .returned (.bool (inB xs)) ∧ Below w.heap.size w w' := by
  have HL : Hid (xs.length = 28) := hx
  have HT : Hid (Blk (w.alloc (.cells (tc xs) 95)) w.heap.size (tc xs) 95 ∧ Below w.heap.size w (w.alloc (.cells (tc xs) 95))) := ⟨Blk.made _ _ _, (Below.refl _ _).alloc (Nat.le_refl _) _⟩
  obtain ⟨d, hd⟩ : ∃ d, d = inB xs := ⟨_, rfl⟩
  rw [← hd]
  have HD : Hid (d = inB xs) := hd
  obtain ⟨x0, hx0⟩ : ∃ x, x = xs.getD 0 0 := ⟨_, rfl⟩
  obtain ⟨x1, hx1⟩ : ∃ x, x = xs.getD 1 0 := ⟨_, rfl⟩
  obtain ⟨x2, hx2⟩ : ∃ x, x = xs.getD 2 0 := ⟨_, rfl⟩
  obtain ⟨x3, hx3⟩ : ∃ x, x = xs.getD 3 0 := ⟨_, rfl⟩
  have a0 : (tc xs)[0]? = some (.int .i64 x0) := by rw [hx0]; exact tc_get (by omega)
  have a1 : (tc xs)[1]? = some (.int .i64 x1) := by rw [hx1]; exact tc_get (by omega)
  have a2 : (tc xs)[2]? = some (.int .i64 x2) := by rw [hx2]; exact tc_get (by omega)
  have a3 : (tc xs)[3]? = some (.int .i64 x3) := by rw [hx3]; exact tc_get (by omega)
  have HX : Hid (x0 = xs.getD 0 0 ∧ x1 = xs.getD 1 0 ∧ x2 = xs.getD 2 0 ∧ x3 = xs.getD 3 0) := ⟨hx0, hx1, hx2, hx3⟩
  clear hx hd hx0 hx1 hx2 hx3
  go_enter Try.func84, Try.ntmps84
  go_wp2_with fail
  refine (inRange_any _ _ _).mono ?_
  rintro e w1 ⟨rfl, hw1⟩
  have hw1' := hw1.symm
  subst hw1'
  clear hw1
  by_cases p0 : 0 ≤ x0 ∧ x0 ≤ 1000000000
  rotate_left
  · rw [dec_false p0]
    have HN : Hid (d = false) := by show d = _; rw [HD.out]; unfold inB; rw [← HX.out.1, dec_false p0]; simp
    clear p0
    go_wp2
    go_ret
    exact ⟨ret_bool HN.out.symm, HT.out.2⟩
  rw [dec_true p0]
  have P0 : Hid (decide (0 ≤ x0 ∧ x0 ≤ 1000000000) = true) := dec_true p0
  clear p0
  go_wp2_with fail
  refine (inRange_any _ _ _).mono ?_
  rintro e w1 ⟨rfl, hw1⟩
  have hw1' := hw1.symm
  subst hw1'
  clear hw1
  by_cases p1 : 0 ≤ x1 ∧ x1 ≤ 1000000000
  rotate_left
  · rw [dec_false p1]
    have HN : Hid (d = false) := by show d = _; rw [HD.out]; unfold inB; rw [← HX.out.2.1, dec_false p1]; simp
    clear p1
    go_wp2
    go_ret
    exact ⟨ret_bool HN.out.symm, HT.out.2⟩
  rw [dec_true p1]
  have P1 : Hid (decide (0 ≤ x1 ∧ x1 ≤ 1000000000) = true) := dec_true p1
  clear p1
  go_wp2_with fail
  refine (inRange_any _ _ _).mono ?_
  rintro e w1 ⟨rfl, hw1⟩
  have hw1' := hw1.symm
  subst hw1'
  clear hw1
  by_cases p2 : 0 ≤ x2 ∧ x2 ≤ 1000000
  rotate_left
  · rw [dec_false p2]
    have HN : Hid (d = false) := by show d = _; rw [HD.out]; unfold inB; rw [← HX.out.2.2.1, dec_false p2]; simp
    clear p2
    go_wp2
    go_ret
    exact ⟨ret_bool HN.out.symm, HT.out.2⟩
  rw [dec_true p2]
  have P2 : Hid (decide (0 ≤ x2 ∧ x2 ≤ 1000000) = true) := dec_true p2
  clear p2
  go_wp2_with fail
  refine (inRange_any _ _ _).mono ?_
  rintro e w1 ⟨rfl, hw1⟩
  have hw1' := hw1.symm
  subst hw1'
  clear hw1
  by_cases p3 : 0 ≤ x3 ∧ x3 ≤ 1000000
  rotate_left
  · rw [dec_false p3]
    have HN : Hid (d = false) := by show d = _; rw [HD.out]; unfold inB; rw [← HX.out.2.2.2, dec_false p3]; simp
    clear p3
    go_wp2
    go_ret
    exact ⟨ret_bool HN.out.symm, HT.out.2⟩
  rw [dec_true p3]
  have P3 : Hid (decide (0 ≤ x3 ∧ x3 ≤ 1000000) = true) := dec_true p3
  clear p3
  go_wp2_with (first | go_skip | (with_reducible refine stopLoad 93 rfl ?_))
  refine load_part 93 w.heap.size 20 8 xs 95 _ HT.out.1 rfl rfl rfl Try.underlying93 rfl (by kernel_rfl) (by rw [HL.out]; omega) ?_
  obtain ⟨A, hA⟩ : ∃ A, A = (xs.drop 20).take 8 := ⟨_, rfl⟩
  rw [← hA]
  obtain ⟨R0, hR0⟩ : ∃ A, A = (xs.drop 20).take 4 := ⟨_, rfl⟩
  obtain ⟨R1, hR1⟩ : ∃ A, A = (xs.drop 24).take 4 := ⟨_, rfl⟩
  have HRE : Hid (R0 = (xs.drop 20).take 4 ∧ R1 = (xs.drop 24).take 4) := ⟨hR0, hR1⟩
  have HRL : Hid (R0.length = 4 ∧ R1.length = 4) := ⟨by rw [hR0]; simp; have := HL.out; omega, by rw [hR1]; simp; have := HL.out; omega⟩
  have i0 : ∀ w, (Instr.index 93 (.agg (tc A)) (.int .i64 0)).run Try.prog w = .ok (.agg (tc R0)) w := fun w => by
    rw [run_index_row w 93 92 3 A 0 0 rfl (by omega) Try.underlying93 Try.underlying92 (fun _ => by simp), hA, hR0]
    simp [List.take_take]
  have i1 : ∀ w, (Instr.index 93 (.agg (tc A)) (.int .i64 1)).run Try.prog w = .ok (.agg (tc R1)) w := fun w => by
    rw [run_index_row w 93 92 3 A 1 1 rfl (by omega) Try.underlying93 Try.underlying92 (fun _ => by simp), hA, hR1]
    rw [List.drop_take, List.drop_drop, List.take_take]
    rfl
  clear hA hR0 hR1
  go_wp2
  refine wp_loop_rounds 3 ?_
  rw [rounds_succ]
  go_wp2_with (first | (with_reducible refine stopStore 92 rfl ?_))
  refine store_fresh 92 (w.heap.size + 1) (by simp) (tc (List.replicate 4 0)) (tc R0) 92 rfl rfl rfl rfl (by rw [tc_size, HRL.out.1]; kernel_rfl) (by rw [tc_size, tc_size, HRL.out.1]; rfl) (tc_one _) ?_
  intro W0 hg0 hb0
  have HB0 : Hid (Below w.heap.size w W0 ∧ Blk W0 w.heap.size (tc xs) 95) := ⟨Below.next HT.out.2 hb0, HT.out.1.below hb0⟩
  have HG0 : Hid (Blk W0 _ (tc R0) 92) := hg0
  clear hg0 hb0
  go_wp2_with fail
  refine (allInRange_any _ 4 _ R0 _ 1000000000 _ (rdI_tc0 HG0.out HRL.out.1 (by omega)) (by omega)).mono ?_
  rintro e w1 ⟨rfl, hw1⟩
  have hw1' := hw1.symm
  subst hw1'
  clear hw1
  cases l0 : R0.all (okN 1000000000 false)
  · have HN : Hid (d = false) := by show d = _; rw [HD.out]; unfold inB; rw [← HRE.out.1, l0]; simp
    clear l0
    go_wp2
    go_ret
    exact ⟨ret_bool HN.out.symm, HB0.out.1⟩
  have L0 : Hid (R0.all (okN 1000000000 false) = true) := l0
  clear l0
  go_wp2_with fail
  rw [rounds_succ]
  go_wp2_with (first | (with_reducible refine stopStore 92 rfl ?_))
  refine store_fresh 92 W0.heap.size rfl (tc (List.replicate 4 0)) (tc R1) 92 rfl rfl rfl rfl (by rw [tc_size, HRL.out.2]; kernel_rfl) (by rw [tc_size, tc_size, HRL.out.2]; rfl) (tc_one _) ?_
  intro W1 hg1 hb1
  have HB1 : Hid (Below w.heap.size w W1 ∧ Blk W1 w.heap.size (tc xs) 95) := ⟨Below.next HB0.out.1 hb1, HB0.out.2.below hb1⟩
  have HG1 : Hid (Blk W1 _ (tc R1) 92) := hg1
  clear hg1 hb1
  go_wp2_with fail
  refine (allInRange_any _ 4 _ R1 _ 1000000000 _ (rdI_tc0 HG1.out HRL.out.2 (by omega)) (by omega)).mono ?_
  rintro e w1 ⟨rfl, hw1⟩
  have hw1' := hw1.symm
  subst hw1'
  clear hw1
  cases l1 : R1.all (okN 1000000000 false)
  · have HN : Hid (d = false) := by show d = _; rw [HD.out]; unfold inB; rw [← HRE.out.2, l1]; simp
    clear l1
    go_wp2
    go_ret
    exact ⟨ret_bool HN.out.symm, HB1.out.1⟩
  have L1 : Hid (R1.all (okN 1000000000 false) = true) := l1
  clear l1
  go_wp2_with fail
  rw [rounds_succ]
  go_wp2_with fail
  refine (allInRange_any _ 8 _ ((xs.drop 4).take 8) _ 1000000000 _ (rdI_tc HB1.out.2 (by have := HL.out; omega) (by omega)) (by omega)).mono ?_
  rintro e w1 ⟨rfl, hw1⟩
  have hw1' := hw1.symm
  subst hw1'
  clear hw1
  cases l2 : ((xs.drop 4).take 8).all (okN 1000000000 false)
  · have HN : Hid (d = false) := by show d = _; rw [HD.out]; unfold inB; rw [l2]; simp
    clear l2
    go_wp2
    go_ret
    exact ⟨ret_bool HN.out.symm, HB1.out.1⟩
  have L2 : Hid (((xs.drop 4).take 8).all (okN 1000000000 false) = true) := l2
  clear l2
  go_wp2_with fail
  refine (allInRange_any _ 8 _ ((xs.drop 12).take 8) _ 17 _ (rdI_tc HB1.out.2 (by have := HL.out; omega) (by omega)) (by omega)).mono ?_
  rintro e w1 ⟨rfl, hw1⟩
  have hw1' := hw1.symm
  subst hw1'
  clear hw1
  obtain ⟨d2, hd2⟩ : ∃ d, d = ((xs.drop 12).take 8).all (okN 17 false) := ⟨_, rfl⟩
  rw [← hd2]
  have HE : Hid (d = d2) := by show d = _; rw [HD.out]; unfold inB; rw [← HX.out.1, ← HX.out.2.1, ← HX.out.2.2.1, ← HX.out.2.2.2, P0.out, P1.out, P2.out, P3.out, ← HRE.out.1, ← HRE.out.2, L0.out, L1.out, L2.out, hd2]; simp
  clear hd2
  go_wp2
  go_ret
  exact ⟨ret_bool HE.out.symm, HB1.out.1⟩
end Go.Proofs.Ytillnoeailnnfaa
/- A summary that is right, by the program. No statement of the seat is proved here. -/
namespace Go.Proofs.Ytillnoeailnnfaa
open Go.RowKit
/-- Whether a summary's numbers, in one row, are right. -/
def okT (s : Sk) (xs : List Int) : Bool := s.shaped && inB xs && (if xs.getD 0 0 = 0 then decide (xs = List.replicate 28 0) else decide (xs.getD 2 0 ≤ xs.getD 3 0))
set_option maxRecDepth 200000 in
set_option maxHeartbeats 2000000 in
theorem okTally_any (v : Value) (s : Sk) (F : List Nat) (w : World) (h : RdSk w v s F) (hw : s.wide) :
    Calls Try.prog 78 #[v] w fun e w' => ∃ xs ys : List Int, e = .returned (.tuple #[.agg (tc ys), .bool (okT s xs)]) ∧ xs.length = 28 ∧ ys.length = 28 ∧ (s.shaped = true → xs = s.tl) ∧ (okT s xs = true → ys = xs) ∧ Below w.heap.size w w' := by
  have HH : Hid (RdSk w v s F ∧ s.wide) := ⟨h, hw⟩
  obtain ⟨a1, n1, c1, a2, n2, c2, a3, n3, c3, F1, F2, F3, rfl, h1, h2, h3, _⟩ := h
  clear h1 h2 h3 hw
  have Z28 := two_made w #[.int .i64 s.count, .int .i64 s.sum, .int .i64 s.min, .int .i64 s.max, .slice a1 n1 c1, .slice a2 n2 c2, .slice a3 n3 c3] (tc (List.replicate 28 0)) 37 95
  have HZ : Hid (_ ∧ _ ∧ _) := Z28
  clear Z28
  go_enter Try.func78, Try.ntmps78
  go_wp2_with fail
  refine (tallyOf_any _ s F _ (HH.out.1.below HZ.out.2.2) HH.out.2).mono ?_
  rintro e w1 ⟨xs, rfl, hxl, hxe, hb1⟩
  have HX : Hid (xs.length = 28 ∧ (s.shaped = true → xs = s.tl)) := ⟨hxl, hxe⟩
  have HB : Hid (Blk w1 (w.heap.size + 1) (tc (List.replicate 28 0)) 95 ∧ Below w.heap.size w w1) := ⟨HZ.out.2.1.below hb1, Below.next HZ.out.2.2 hb1⟩
  clear hb1 HZ hxl hxe
  go_wp2_with (with_reducible refine stopStore 95 rfl ?_)
  refine store_fresh 95 w1.heap.size rfl (tc (List.replicate 28 0)) (tc xs) 95 rfl rfl rfl rfl (tallySize HX.out.1) (by rw [tc_size, tc_size, HX.out.1]; rfl) (tc_one _) ?_
  intro W2 hg2 hb2
  have HG2 : Hid (Blk W2 w1.heap.size (tc xs) 95 ∧ Blk W2 (w.heap.size + 1) (tc (List.replicate 28 0)) 95 ∧ Below w.heap.size w W2) := ⟨hg2, HB.out.1.below hb2, Below.next HB.out.2 hb2⟩
  have hlt : w.heap.size + 1 < w1.heap.size := HB.out.1.lt
  clear hg2 hb2
  obtain ⟨d, hd⟩ : ∃ d, d = okT s xs := ⟨_, rfl⟩
  have HD : Hid (d = okT s xs) := hd
  clear hd
  cases es : s.shaped
  · have HN : Hid (okT s xs = false) := by show _ = false; unfold okT; rw [es]; rfl
    clear es
    go_wp2_with (first | go_skip | (with_reducible refine stopStore 95 rfl ?_))
    refine store_known 95 (w.heap.size + 1) _ (tc (List.replicate 28 0)) 95 HG2.out.2.1 rfl rfl rfl rfl infoTally rfl (tc_one _) ?_
    go_wp2
    refine bodyPost_ret (results_row_tmp Try.results78 _ _ (w.heap.size + 1) _ _ _ _ rfl HG2.out.2.1.setRow Try.underlying95 rfl infoTally) rfl ?_
    exact ⟨xs, List.replicate 28 0, by rw [HN.out]; rfl, HX.out.1, rfl, HX.out.2, fun e => by (rw [HN.out] at e; cases e), below_setRow HG2.out.2.2 (by omega) _⟩
  have ES : Hid (s.shaped = true) := es
  clear es
  go_wp2_with (first | go_skip | (with_reducible refine stopLoad 95 rfl ?_))
  refine load_part 95 w1.heap.size 0 28 xs 95 _ HG2.out.1 rfl rfl rfl Try.underlying95 rfl infoTally (by rw [HX.out.1]; omega) ?_
  rw [List.drop_zero, List.take_of_length_le (Nat.le_of_eq HX.out.1)]
  go_wp2_with fail
  refine (inBounds_any xs _ HX.out.1).mono ?_
  rintro e W3 ⟨rfl, hb3⟩
  have HG3 : Hid (Blk W3 w1.heap.size (tc xs) 95 ∧ Blk W3 (w.heap.size + 1) (tc (List.replicate 28 0)) 95 ∧ Below w.heap.size w W3) := ⟨HG2.out.1.below hb3, HG2.out.2.1.below hb3, Below.next HG2.out.2.2 hb3⟩
  clear hb3
  cases ei : inB xs
  · have HN : Hid (okT s xs = false) := by show _ = false; unfold okT; rw [ES.out, ei]; rfl
    clear ei
    go_wp2_with (first | go_skip | (with_reducible refine stopStore 95 rfl ?_))
    refine store_known 95 (w.heap.size + 1) _ (tc (List.replicate 28 0)) 95 HG3.out.2.1 rfl rfl rfl rfl infoTally rfl (tc_one _) ?_
    go_wp2
    refine bodyPost_ret (results_row_tmp Try.results78 _ _ (w.heap.size + 1) _ _ _ _ rfl HG3.out.2.1.setRow Try.underlying95 rfl infoTally) rfl ?_
    exact ⟨xs, List.replicate 28 0, by rw [HN.out]; rfl, HX.out.1, rfl, HX.out.2, fun e => by (rw [HN.out] at e; cases e), below_setRow HG3.out.2.2 (by omega) _⟩
  have EI : Hid (inB xs = true) := ei
  clear ei
  obtain ⟨x0, hx0⟩ : ∃ x, x = xs.getD 0 0 := ⟨_, rfl⟩
  obtain ⟨x2, hx2⟩ : ∃ x, x = xs.getD 2 0 := ⟨_, rfl⟩
  obtain ⟨x3, hx3⟩ : ∃ x, x = xs.getD 3 0 := ⟨_, rfl⟩
  have c0 : W3.cell? ⟨w1.heap.size, 0, none⟩ = some (.int .i64 x0) := by rw [HG3.out.1.cell, hx0]; exact tc_get (by rw [HX.out.1]; omega)
  have HC : Hid (∀ W, Blk W w1.heap.size (tc xs) 95 → W.cell? ⟨w1.heap.size, 2, none⟩ = some (.int .i64 x2) ∧ W.cell? ⟨w1.heap.size, 3, none⟩ = some (.int .i64 x3)) := fun W b => ⟨by rw [b.cell, hx2]; exact tc_get (by rw [HX.out.1]; omega), by rw [b.cell, hx3]; exact tc_get (by rw [HX.out.1]; omega)⟩
  have HXE : Hid (x0 = xs.getD 0 0 ∧ x2 = xs.getD 2 0 ∧ x3 = xs.getD 3 0) := ⟨hx0, hx2, hx3⟩
  clear hx0 hx2 hx3
  by_cases q0 : x0 = 0
  rotate_left
  · have q0' : (x0 == 0) = false := by simpa using q0
    have HV : Hid (okT s xs = decide (x2 ≤ x3)) := by
      show _ = _
      unfold okT
      rw [ES.out, EI.out, if_neg (by rw [← HXE.out.1]; exact q0), ← HXE.out.2.1, ← HXE.out.2.2]; rfl
    clear q0
    go_wp2
    refine wp_region_held (S := fun W => Blk W w1.heap.size (tc xs) 95) (by kernel_rfl) ?_
    change wpAnyH _ _ _ _ _ _ _ _ (World.drew _)
    have HS : Hid (Blk W3.drew w1.heap.size (tc xs) 95) := HG3.out.1.drew
    refine takeH (o := ?o1) 0 (.agg (tc xs)) ?h1 ?r1
    case h1 => simp only [aT, aZ]; rfl
    refine ⟨_, by simp [Act.put]; rfl, by kernel_rfl, by kernel_rfl, by kernel_rfl, fun _ _ _ h => h, (yields_whole 95 w1.heap.size (tc xs) 95 _ rfl rfl rfl Try.underlying95 rfl (tallySize HX.out.1) (fun W hW => hW)), HS.out, ?_⟩
    refine takeH (o := ?o2) 1 (.pointer (some ⟨w1.heap.size, 2, none⟩)) ?h2 ?r2
    case h2 => simp only [aT, aS, aZ]; rfl
    refine ⟨_, by simp [Act.put]; rfl, by kernel_rfl, by kernel_rfl, by kernel_rfl, fun _ _ _ h => h, (.inl ⟨rfl, fun W _ => by go_simp⟩), HS.out, ?_⟩
    refine takeH (o := ?o3) 2 (.int .i64 x2) ?h3 ?r3
    case h3 => simp only [aT, aS, aZ]; rfl
    refine ⟨_, by simp [Act.put]; rfl, by kernel_rfl, by kernel_rfl, by kernel_rfl, fun _ _ _ h => h, (.inl ⟨rfl, fun W hW => by have c := (HC.out W hW).1; go_simp⟩), HS.out, ?_⟩
    refine takeH (o := ?o4) 3 (.pointer (some ⟨w1.heap.size, 3, none⟩)) ?h4 ?r4
    case h4 => simp only [aT, aS, aZ]; rfl
    refine ⟨_, by simp [Act.put]; rfl, by kernel_rfl, by kernel_rfl, by kernel_rfl, fun _ _ _ h => h, (.inl ⟨rfl, fun W _ => by go_simp⟩), HS.out, ?_⟩
    refine takeH (o := ?o5) 4 (.int .i64 x3) ?h5 ?r5
    case h5 => simp only [aT, aS, aZ]; rfl
    refine ⟨_, by simp [Act.put]; rfl, by kernel_rfl, by kernel_rfl, by kernel_rfl, fun _ _ _ h => h, (.inl ⟨rfl, fun W hW => by have c := (HC.out W hW).2; go_simp⟩), HS.out, ?_⟩
    refine takeH (o := ?o6) 5 (.bool (decide (x2 ≤ x3))) ?h6 ?r6
    case h6 => simp only [aT, aS, aZ]; rfl
    refine ⟨_, by simp [Act.put]; rfl, by kernel_rfl, by kernel_rfl, by kernel_rfl, fun _ _ _ h => h, (.inl ⟨rfl, fun W _ => by go_simp⟩), HS.out, ?_⟩
    refine onlyH (o := ?o7) 6 (by kernel_rfl) ?h7 ?r7
    case h7 => simp only [aT, aS, aZ]; rfl
    intro K hK
    refine op_store 95 (w.heap.size + 1) (tc (List.replicate 28 0)) (tc xs) 95 rfl rfl rfl rfl HG3.out.2.1.drew (tallySize HX.out.1) (by rw [tc_size, tc_size, HX.out.1]; rfl) (tc_one _) ⟨_, by simp [Act.put]; rfl, hK _ _ ⟨HS.out.setRowOther (by omega), ?_⟩⟩
    clear hK
    refine onlyH (o := ?o8) 7 (by kernel_rfl) ?h8 ?r8
    case h8 => simp only [aT, aS, aZ]; rfl
    intro K hK
    refine op_value (.bool (decide (x2 ≤ x3))) rfl (by go_simp) ⟨_, by simp [Act.put]; rfl, hK _ _ ⟨HS.out.setRowOther (by omega), ?_⟩⟩
    clear hK
    refine wpAnyH_done (by kernel_rfl) ?_ _
    go_wp2
    refine bodyPost_ret (results_row_tmp Try.results78 _ _ (w.heap.size + 1) _ _ _ _ rfl HG3.out.2.1.drew.setRow Try.underlying95 rfl (tallySize HX.out.1)) rfl ?_
    exact ⟨xs, xs, by rw [HV.out]; rfl, HX.out.1, HX.out.1, HX.out.2, fun _ => rfl, below_setRow HG3.out.2.2.drew (by omega) _⟩
  subst q0
  have q0' : ((0 : Int) == 0) = true := by simp
  have HV : Hid (okT s xs = decide (xs = List.replicate 28 0)) := by
    show _ = _
    unfold okT
    rw [ES.out, EI.out, if_pos (HXE.out.1.symm)]; rfl
  go_wp2
  refine wp_region_held (S := fun W => Blk W w1.heap.size (tc xs) 95) (by kernel_rfl) ?_
  change wpAnyH _ _ _ _ _ _ _ _ (World.drew _)
  have HS : Hid (Blk W3.drew w1.heap.size (tc xs) 95) := HG3.out.1.drew
  refine takeH (o := ?o9) 0 (.agg (tc xs)) ?h9 ?r9
  case h9 => simp only [aT, aZ]; rfl
  refine ⟨_, by simp [Act.put]; rfl, by kernel_rfl, by kernel_rfl, by kernel_rfl, fun _ _ _ h => h, (yields_whole 95 w1.heap.size (tc xs) 95 _ rfl rfl rfl Try.underlying95 rfl (tallySize HX.out.1) (fun W hW => hW)), HS.out, ?_⟩
  refine takeH (o := ?o10) 1 (.agg (tc xs)) ?h10 ?r10
  case h10 => simp only [aT, aS, aZ]; rfl
  refine ⟨_, by simp [Act.put]; rfl, by kernel_rfl, by kernel_rfl, by kernel_rfl, fun _ _ _ h => h, (yields_whole 95 w1.heap.size (tc xs) 95 _ rfl rfl rfl Try.underlying95 rfl (tallySize HX.out.1) (fun W hW => hW)), HS.out, ?_⟩
  refine takeH (o := ?o11) 2 (.agg (tc (List.replicate 28 0))) ?h11 ?r11
  case h11 => simp only [aT, aS, aZ]; rfl
  refine ⟨_, by simp [Act.put]; rfl, by kernel_rfl, by kernel_rfl, by kernel_rfl, fun _ _ _ h => h, (.inl ⟨rfl, fun W _ => by go_simp; rfl⟩), HS.out, ?_⟩
  refine onlyH (o := ?o12) 3 (by kernel_rfl) ?h12 ?r12
  case h12 => simp only [aT, aS, aZ]; rfl
  intro K hK
  refine op_call2 85 _ _ _ Try.f85 (fun w' => Below W3.drew.heap.size W3.drew w') (.bool (decide (xs = List.replicate 28 0))) rfl rfl Try.func85 (by kernel_rfl) (by kernel_rfl) (same_any xs (List.replicate 28 0) _ HX.out.1 rfl) ⟨_, by simp [Act.put]; rfl, fun W4 hb4 => hK _ _ ⟨HS.out.below hb4, ?_⟩⟩
  have HG4 : Hid (Blk W4 w1.heap.size (tc xs) 95 ∧ Blk W4 (w.heap.size + 1) (tc (List.replicate 28 0)) 95 ∧ Below w.heap.size w W4) := ⟨HG3.out.1.drew.below hb4, HG3.out.2.1.drew.below hb4, Below.next HG3.out.2.2.drew hb4⟩
  clear hb4 hK
  refine onlyH (o := ?o13) 4 (by kernel_rfl) ?h13 ?r13
  case h13 => simp only [aT, aS, aZ]; rfl
  intro K hK
  refine op_store 95 (w.heap.size + 1) (tc (List.replicate 28 0)) (tc xs) 95 rfl rfl rfl rfl HG4.out.2.1 (tallySize HX.out.1) (by rw [tc_size, tc_size, HX.out.1]; rfl) (tc_one _) ⟨_, by simp [Act.put]; rfl, hK _ _ ⟨HG4.out.1.setRowOther (by omega), ?_⟩⟩
  clear hK
  refine onlyH (o := ?o14) 5 (by kernel_rfl) ?h14 ?r14
  case h14 => simp only [aT, aS, aZ]; rfl
  intro K hK
  refine op_value (.bool (decide (xs = List.replicate 28 0))) rfl (by go_simp) ⟨_, by simp [Act.put]; rfl, hK _ _ ⟨HG4.out.1.setRowOther (by omega), ?_⟩⟩
  clear hK
  refine wpAnyH_done (by kernel_rfl) ?_ _
  go_wp2
  refine bodyPost_ret (results_row_tmp Try.results78 _ _ (w.heap.size + 1) _ _ _ _ rfl HG4.out.2.1.setRow Try.underlying95 rfl (tallySize HX.out.1)) rfl ?_
  exact ⟨xs, xs, by rw [HV.out]; rfl, HX.out.1, HX.out.1, HX.out.2, fun _ => rfl, below_setRow HG4.out.2.2 (by omega) _⟩
end Go.Proofs.Ytillnoeailnnfaa
/- What the program's row of numbers comes to: right just where the summary is; the sum is the merged summary. No statement of the seat is proved here. -/
namespace Go.Proofs.Ytillnoeailnnfaa
open Go.RowKit
/-- A summary whose lists are as long as told, written out. -/
theorem Sk.written {s : Sk} (h : s.shaped = true) : ∃ h0 h1 h2 h3 h4 h5 h6 h7 r0 r1 r2 r3 r4 r5 r6 r7 p0 p1 p2 p3 q0 q1 q2 q3, s = ⟨s.count, s.sum, s.min, s.max, [h0, h1, h2, h3, h4, h5, h6, h7], [r0, r1, r2, r3, r4, r5, r6, r7], [[p0, p1, p2, p3], [q0, q1, q2, q3]]⟩ := by
  obtain ⟨e1, e2, x, y, e3, e4, e5⟩ := Sk.shaped_parts h
  obtain ⟨h0, h1, h2, h3, h4, h5, h6, h7, eh⟩ := len8 e1
  obtain ⟨r0, r1, r2, r3, r4, r5, r6, r7, er⟩ := len8 e2
  obtain ⟨p0, p1, p2, p3, rfl⟩ := len4 e4
  obtain ⟨q0, q1, q2, q3, rfl⟩ := len4 e5
  refine ⟨h0, h1, h2, h3, h4, h5, h6, h7, r0, r1, r2, r3, r4, r5, r6, r7, p0, p1, p2, p3, q0, q1, q2, q3, ?_⟩
  cases s
  simp_all
theorem okL_shape {l : List Int} {n : Nat} {m : Int} {z : Bool} (h : okL l n m z = true) : l.length = n := by
  unfold okL at h; simp at h; exact h.1
theorem Sk.ok_shaped {s : Sk} (h : s.ok = true) : s.shaped = true := by
  unfold Sk.ok okHead okLists at h
  simp only [Bool.and_eq_true, decide_eq_true_eq] at h
  obtain ⟨⟨⟨_, hr⟩, _⟩, ⟨⟨⟨l1, l2⟩, l3⟩, l4⟩⟩ := h
  have e1 := okL_shape l1; have e2 := okL_shape l2; have e3 := okL_shape l3; have e4 := okL_shape l4
  obtain ⟨x, y, e⟩ : ∃ x y, s.rows = [x, y] := by
    match s.rows, hr with
    | [x, y], _ => exact ⟨x, y, rfl⟩
  unfold Sk.shaped
  rw [e] at e3 e4 ⊢
  simp at e3 e4
  simp [e1, e2, e3, e4]
set_option maxHeartbeats 2000000 in
theorem okT_ok {s : Sk} {xs : List Int} (hx : s.shaped = true → xs = s.tl) : okT s xs = s.ok := by
  cases hs : s.shaped
  · have h1 : okT s xs = false := by unfold okT; rw [hs]; rfl
    rw [h1]
    cases ho : s.ok
    · rfl
    · rw [Sk.ok_shaped ho] at hs; cases hs
  · have hx := hx hs
    subst hx
    obtain ⟨h0, h1, h2, h3, h4, h5, h6, h7, r0, r1, r2, r3, r4, r5, r6, r7, p0, p1, p2, p3, q0, q1, q2, q3, e⟩ := Sk.written hs
    generalize s.count = c at e
    generalize s.sum = sm at e
    generalize s.min = mn at e
    generalize s.max = mx at e
    subst e
    rw [Bool.eq_iff_iff]
    unfold okT
    rw [hs]
    by_cases q : c = 0
    · subst q
      simp [inB, Sk.tl, Sk.ok, okHead, okZero, okLists, okL, okN, List.replicate]
      omega
    · simp [inB, Sk.tl, Sk.ok, okHead, okZero, okLists, okL, okN, q]
      omega
end Go.Proofs.Ytillnoeailnnfaa
/- The walks through the program's SketchOk. No statement of the seat is proved here. -/
namespace Go.Proofs.Ytillnoeailnnfaa
open Go.RowKit
end Go.Proofs.Ytillnoeailnnfaa
/- The walk through the program's isSeq. No statement of the seat is proved here. -/
namespace Go.Proofs.Ytillnoeailnnfaa
open Go.RowKit
end Go.Proofs.Ytillnoeailnnfaa
/- The walks through the program's IdOf, ItemOk and the reading of an entry. No statement of the seat is proved here. -/
namespace Go.Proofs.Ytillnoeailnnfaa
open Go.RowKit
set_option maxRecDepth 200000 in
theorem isPlace_any (k p : Int) (w : World) : Calls Try.prog 79 #[.agg #[.int .i64 k, .int .i64 p]] w fun e w' => e = .returned (.bool (placeOk k p)) ∧ Below w.heap.size w w' := by
  have HB : Hid (Below w.heap.size w (w.alloc (.cells #[.int .i64 k, .int .i64 p] 90))) := (Below.refl _ _).alloc (Nat.le_refl _) _
  go_enter Try.func79, Try.ntmps79
  go_wp2_with fail
  refine (inRange_any _ _ _).mono ?_
  rintro e w2 ⟨rfl, hw2⟩
  have hw2' := hw2.symm
  subst hw2'
  clear hw2
  obtain ⟨d1, hd1⟩ : ∃ d, d = decide (0 ≤ k ∧ k ≤ 4) := ⟨_, rfl⟩
  rw [← hd1]
  have HD1 : Hid (d1 = decide (0 ≤ k ∧ k ≤ 4)) := hd1
  clear hd1
  cases d1
  · have HV : Hid (placeOk k p = false) := by show _ = _; unfold placeOk; rw [← HD1.out]; rfl
    go_wp2
    go_ret
    exact ⟨ret_bool HV.out.symm, HB.out⟩
  go_wp2_with fail
  refine (inRange_any _ _ _).mono ?_
  rintro e w2 ⟨rfl, hw2⟩
  have hw2' := hw2.symm
  subst hw2'
  clear hw2
  obtain ⟨d2, hd2⟩ : ∃ d, d = decide (0 ≤ p ∧ p ≤ 20) := ⟨_, rfl⟩
  rw [← hd2]
  have HV : Hid (d2 = placeOk k p) := by show _ = _; unfold placeOk; rw [← HD1.out, ← hd2]; rfl
  clear hd2
  go_wp2
  go_ret
  exact ⟨ret_bool HV.out, HB.out⟩
/-- The cells of an entry as the program holds it. -/
def hc (k p : Int) (a : Option Addr) (l c : Nat) (ys : List Int) : Array Value := (.int .i64 k :: .int .i64 p :: .slice a l c :: ys.map (Value.int .i64)).toArray
theorem hc_size {k p : Int} {a : Option Addr} {l c : Nat} {ys : List Int} (h : ys.length = 28) : (hc k p a l c ys).size = 31 := by
  unfold hc; simp [h]
theorem hc_one (k p : Int) (a : Option Addr) (l c : Nat) (ys : List Int) : (hc k p a l c ys).all (·.oneCell') = true := by
  unfold hc
  simp [Value.oneCell']
section
variable {P : Program} {ops : Array Oper} {Q : Exit → Act → World → Prop} {rest : List Oper} {a : Act} {w : World} {o : Oper}
theorem stopBuild (ty : TypeId) {fs : Array (Nat × Operand)} (_ho : o.op = .build ty fs) (h : Stop (wpList P ops Q (o :: rest) a w)) : wpList P ops Q (o :: rest) a w := h
/-- A value that is put together, by a law of its own. -/
theorem built_any {ty : TypeId} {fs : Array (Nat × Operand)} (v : Value) (hw : Region.wanted o (yielded ops a.tmps) = true) (ho : o.op = .build ty fs) (hr : (Instr.build ty (fs.map fun p => (p.1, a.eval p.2))).run P w = .ok v w) (h : wpList P ops Q rest (a.put o.dst v) w) : Stop (wpList P ops Q (o :: rest) a w) :=
  wpList_step fun K hK => by
    rw [if_pos hw]
    unfold Oper.wp execOp
    simp only [ho]
    simp [hr]
    exact hK _ _ h
end
set_option maxRecDepth 200000 in
theorem build_hold (w : World) (k p : Int) (a : Option Addr) (l c : Nat) (ys : List Int) (h : ys.length = 28) : (Instr.build 97 #[(0, .agg #[.int .i64 k, .int .i64 p]), (1, .slice a l c), (2, .agg (tc ys))]).run Try.prog w = .ok (.agg (hc k p a l c ys)) w := by
  have key : ∀ y0 y1 y2 y3 y4 y5 y6 y7 y8 y9 y10 y11 y12 y13 y14 y15 y16 y17 y18 y19 y20 y21 y22 y23 y24 y25 y26 y27 : Int, (Instr.build 97 #[(0, .agg #[.int .i64 k, .int .i64 p]), (1, .slice a l c), (2, .agg (tc [y0, y1, y2, y3, y4, y5, y6, y7, y8, y9, y10, y11, y12, y13, y14, y15, y16, y17, y18, y19, y20, y21, y22, y23, y24, y25, y26, y27]))]).run Try.prog w = .ok (.agg (hc k p a l c [y0, y1, y2, y3, y4, y5, y6, y7, y8, y9, y10, y11, y12, y13, y14, y15, y16, y17, y18, y19, y20, y21, y22, y23, y24, y25, y26, y27])) w := by
    intro y0 y1 y2 y3 y4 y5 y6 y7 y8 y9 y10 y11 y12 y13 y14 y15 y16 y17 y18 y19 y20 y21 y22 y23 y24 y25 y26 y27
    kernel_rfl
  match ys, h with
  | [y0, y1, y2, y3, y4, y5, y6, y7, y8, y9, y10, y11, y12, y13, y14, y15, y16, y17, y18, y19, y20, y21, y22, y23, y24, y25, y26, y27], _ => exact key y0 y1 y2 y3 y4 y5 y6 y7 y8 y9 y10 y11 y12 y13 y14 y15 y16 y17 y18 y19 y20 y21 y22 y23 y24 y25 y26 y27
theorem holdSize {cs : Array Value} (h : cs.size = 31) : (Try.prog.info? 97).map (·.size) = some cs.size := by rw [h]; kernel_rfl
set_option maxRecDepth 200000 in
set_option maxHeartbeats 4000000 in
theorem okHolding_any (v : Value) (x : En) (F G : List Nat) (w : World) (h : RdEn w v x F G) (hw : x.sk.wide) (hl : x.ids.length ≤ 2097152) :
    Calls Try.prog 64 #[v] w fun e w' => ∃ k p a l c ys, e = .returned (.tuple #[.agg (hc k p a l c ys), .bool x.ok]) ∧ ys.length = 28 ∧ (x.ok = true → k = x.key ∧ p = x.window ∧ ys = x.sk.tl ∧ RdP w a l x.ids F ∧ Capd a l c) ∧ Below w.heap.size w w' := by
  obtain ⟨b, l, c, a1, n1, c1, a2, n2, c2, a3, n3, c3, rfl, hp, hr, hcp⟩ := h
  have HR : Hid (RdSk w (.agg #[.int .i64 x.sk.count, .int .i64 x.sk.sum, .int .i64 x.sk.min, .int .i64 x.sk.max, .slice a1 n1 c1, .slice a2 n2 c2, .slice a3 n3 c3]) x.sk G ∧ x.sk.wide) := ⟨hr, hw⟩
  have HP : Hid (RdP w b l x.ids F ∧ l ≤ 2097152 ∧ x.ids.length = l ∧ Capd b l c) := ⟨hp, by rw [← hp.length]; exact hl, hp.length, hcp⟩
  have hl2 : l ≤ 2097152 := HP.out.2.1
  have Z := two_made w #[.int .i64 x.key, .int .i64 x.window, .slice b l c, .int .i64 x.sk.count, .int .i64 x.sk.sum, .int .i64 x.sk.min, .int .i64 x.sk.max, .slice a1 n1 c1, .slice a2 n2 c2, .slice a3 n3 c3] (hc 0 0 none 0 0 (List.replicate 28 0)) 39 97
  have HZ : Hid (_ ∧ _ ∧ _) := Z
  clear hr hw hp hl Z hcp
  go_enter Try.func64, Try.ntmps64
  go_wp2_with (first | go_skip | (with_reducible refine stopLoad 37 rfl ?_))
  refine load_cutw 37 w.heap.size 3 7 _ #[.int .i64 x.sk.count, .int .i64 x.sk.sum, .int .i64 x.sk.min, .int .i64 x.sk.max, .slice a1 n1 c1, .slice a2 n2 c2, .slice a3 n3 c3] 39 _ HZ.out.1 rfl rfl rfl Try.underlying37 rfl infoSkI (by simp) rfl ?_
  go_wp2_with fail
  refine (okTally_any _ x.sk G _ (HR.out.1.below HZ.out.2.2) HR.out.2).mono ?_
  rintro e w1 ⟨xs, ys, rfl, _, hy, hx, hyx, hb1⟩
  have hok := okT_ok hx
  have HY : Hid (ys.length = 28 ∧ (x.sk.ok = true → ys = x.sk.tl)) := ⟨hy, fun e => by rw [hyx (hok.trans e)]; exact hx (Sk.ok_shaped e)⟩
  have HS1 : Hid (Blk w1 w.heap.size #[.int .i64 x.key, .int .i64 x.window, .slice b l c, .int .i64 x.sk.count, .int .i64 x.sk.sum, .int .i64 x.sk.min, .int .i64 x.sk.max, .slice a1 n1 c1, .slice a2 n2 c2, .slice a3 n3 c3] 39 ∧ Blk w1 (w.heap.size + 1) (hc 0 0 none 0 0 (List.replicate 28 0)) 97 ∧ Below w.heap.size w w1) := ⟨HZ.out.1.below hb1, HZ.out.2.1.below hb1, Below.next HZ.out.2.2 hb1⟩
  rw [hok]
  clear hb1 hy hx hyx hok HZ
  obtain ⟨d, hd⟩ : ∃ d, d = x.sk.ok := ⟨_, rfl⟩
  rw [← hd]
  have HD : Hid (d = x.sk.ok) := hd
  clear hd
  go_wp2_with (first | go_skip | (with_reducible refine stopStore 95 rfl ?_))
  refine store_fresh 95 w1.heap.size rfl (tc (List.replicate 28 0)) (tc ys) 95 rfl rfl rfl rfl (tallySize HY.out.1) (by rw [tc_size, tc_size, HY.out.1]; rfl) (tc_one _) ?_
  intro W2 hg2 hb2
  have HS2 : Hid (Blk W2 w.heap.size #[.int .i64 x.key, .int .i64 x.window, .slice b l c, .int .i64 x.sk.count, .int .i64 x.sk.sum, .int .i64 x.sk.min, .int .i64 x.sk.max, .slice a1 n1 c1, .slice a2 n2 c2, .slice a3 n3 c3] 39 ∧ Blk W2 (w.heap.size + 1) (hc 0 0 none 0 0 (List.replicate 28 0)) 97 ∧ Below w.heap.size w W2) := ⟨HS1.out.1.below hb2, HS1.out.2.1.below hb2, Below.next HS1.out.2.2 hb2⟩
  have HG2 : Hid (Blk W2 w1.heap.size (tc ys) 95) := hg2
  clear hb2 hg2 HS1
  have k0 : W2.cell? ⟨w.heap.size, 0, none⟩ = some (.int .i64 x.key) := by rw [HS2.out.1.cell]; rfl
  have k1 : W2.cell? ⟨w.heap.size, 1, none⟩ = some (.int .i64 x.window) := by rw [HS2.out.1.cell]; rfl
  go_wp2_with (first | go_skip | (with_reducible refine stopStore 90 rfl ?_))
  refine store_fresh 90 W2.heap.size rfl #[.int .i64 0, .int .i64 0] #[.int .i64 x.key, .int .i64 x.window] 90 rfl rfl rfl rfl (by kernel_rfl) rfl (by kernel_rfl) ?_
  intro W3 hg3 hb3
  have HS3 : Hid (Blk W3 w.heap.size #[.int .i64 x.key, .int .i64 x.window, .slice b l c, .int .i64 x.sk.count, .int .i64 x.sk.sum, .int .i64 x.sk.min, .int .i64 x.sk.max, .slice a1 n1 c1, .slice a2 n2 c2, .slice a3 n3 c3] 39 ∧ Blk W3 (w.heap.size + 1) (hc 0 0 none 0 0 (List.replicate 28 0)) 97 ∧ Below w.heap.size w W3) := ⟨HS2.out.1.below hb3, HS2.out.2.1.below hb3, Below.next HS2.out.2.2 hb3⟩
  have HG3 : Hid (Blk W3 w1.heap.size (tc ys) 95 ∧ Blk W3 W2.heap.size #[.int .i64 x.key, .int .i64 x.window] 90) := ⟨HG2.out.below hb3, hg3⟩
  clear hb3 hg3 HS2 HG2 k0 k1
  cases d
  · have HV : Hid (x.ok = false) := by show _ = _; unfold En.ok; rw [← HD.out]; simp
    have HS := HS3
    go_wp2_with (first | go_skip | (with_reducible refine stopStore 97 rfl ?_))
    refine store_known 97 (w.heap.size + 1) _ (hc 0 0 none 0 0 (List.replicate 28 0)) 97 HS.out.2.1 rfl rfl rfl rfl (by kernel_rfl) rfl (by kernel_rfl) ?_
    go_wp2
    refine bodyPost_ret (results_row_tmp Try.results64 _ _ (w.heap.size + 1) _ _ _ _ rfl HS.out.2.1.setRow Try.underlying97 rfl (by kernel_rfl)) rfl ?_
    exact ⟨0, 0, none, 0, 0, List.replicate 28 0, (by rw [HV.out]; rfl), rfl, fun e => (by rw [HV.out] at e; cases e), below_setRow HS.out.2.2 (by omega) _⟩

  go_wp2_with (first | go_skip | (with_reducible refine stopLoad 90 rfl ?_))
  refine load_any 90 W2.heap.size _ 90 _ HG3.out.2 rfl rfl rfl Try.underlying90 rfl (by kernel_rfl) ?_
  go_wp2_with fail
  refine (isPlace_any _ _ _).mono ?_
  rintro e w4 ⟨rfl, hb4⟩
  have HS4 : Hid (Blk w4 w.heap.size #[.int .i64 x.key, .int .i64 x.window, .slice b l c, .int .i64 x.sk.count, .int .i64 x.sk.sum, .int .i64 x.sk.min, .int .i64 x.sk.max, .slice a1 n1 c1, .slice a2 n2 c2, .slice a3 n3 c3] 39 ∧ Blk w4 (w.heap.size + 1) (hc 0 0 none 0 0 (List.replicate 28 0)) 97 ∧ Below w.heap.size w w4) := ⟨HS3.out.1.below hb4, HS3.out.2.1.below hb4, Below.next HS3.out.2.2 hb4⟩
  have HG4 : Hid (Blk w4 w1.heap.size (tc ys) 95 ∧ Blk w4 W2.heap.size #[.int .i64 x.key, .int .i64 x.window] 90) := ⟨HG3.out.1.below hb4, HG3.out.2.below hb4⟩
  clear hb4 HS3 HG3
  obtain ⟨d2, hd2⟩ : ∃ d, d = placeOk x.key x.window := ⟨_, rfl⟩
  rw [← hd2]
  have HD2 : Hid (d2 = placeOk x.key x.window) := hd2
  clear hd2
  cases d2
  · have HV : Hid (x.ok = false) := by show _ = _; unfold En.ok; rw [← HD2.out]; simp
    have HS := HS4
    go_wp2_with (first | go_skip | (with_reducible refine stopStore 97 rfl ?_))
    refine store_known 97 (w.heap.size + 1) _ (hc 0 0 none 0 0 (List.replicate 28 0)) 97 HS.out.2.1 rfl rfl rfl rfl (by kernel_rfl) rfl (by kernel_rfl) ?_
    go_wp2
    refine bodyPost_ret (results_row_tmp Try.results64 _ _ (w.heap.size + 1) _ _ _ _ rfl HS.out.2.1.setRow Try.underlying97 rfl (by kernel_rfl)) rfl ?_
    exact ⟨0, 0, none, 0, 0, List.replicate 28 0, (by rw [HV.out]; rfl), rfl, fun e => (by rw [HV.out] at e; cases e), below_setRow HS.out.2.2 (by omega) _⟩

  have k2 : w4.cell? ⟨w.heap.size, 2, none⟩ = some (.slice b l c) := by rw [HS4.out.1.cell]; rfl
  go_wp2_with fail
  refine (setOkImpl_any b l c x.ids F _ (HP.out.1.below HS4.out.2.2) HP.out.2.1).mono ?_
  rintro e w5 ⟨rfl, hb5⟩
  have HS5 : Hid (Blk w5 w.heap.size #[.int .i64 x.key, .int .i64 x.window, .slice b l c, .int .i64 x.sk.count, .int .i64 x.sk.sum, .int .i64 x.sk.min, .int .i64 x.sk.max, .slice a1 n1 c1, .slice a2 n2 c2, .slice a3 n3 c3] 39 ∧ Blk w5 (w.heap.size + 1) (hc 0 0 none 0 0 (List.replicate 28 0)) 97 ∧ Below w.heap.size w w5) := ⟨HS4.out.1.below hb5, HS4.out.2.1.below hb5, Below.next HS4.out.2.2 hb5⟩
  have HG5 : Hid (Blk w5 w1.heap.size (tc ys) 95 ∧ Blk w5 W2.heap.size #[.int .i64 x.key, .int .i64 x.window] 90) := ⟨HG4.out.1.below hb5, HG4.out.2.below hb5⟩
  have k5 : w5.cell? ⟨w.heap.size, 2, none⟩ = some (.slice b l c) := by rw [HS5.out.1.cell]; rfl
  clear hb5 HS4 HG4 k2
  obtain ⟨d3, hd3⟩ : ∃ d, d = x.ids.ok := ⟨_, rfl⟩
  rw [← hd3]
  have HD3 : Hid (d3 = x.ids.ok) := hd3
  clear hd3
  cases d3
  · have HV : Hid (x.ok = false) := by show _ = _; unfold En.ok; rw [← HD3.out]; simp
    have HS := HS5
    go_wp2_with (first | go_skip | (with_reducible refine stopStore 97 rfl ?_))
    refine store_known 97 (w.heap.size + 1) _ (hc 0 0 none 0 0 (List.replicate 28 0)) 97 HS.out.2.1 rfl rfl rfl rfl (by kernel_rfl) rfl (by kernel_rfl) ?_
    go_wp2
    refine bodyPost_ret (results_row_tmp Try.results64 _ _ (w.heap.size + 1) _ _ _ _ rfl HS.out.2.1.setRow Try.underlying97 rfl (by kernel_rfl)) rfl ?_
    exact ⟨0, 0, none, 0, 0, List.replicate 28 0, (by rw [HV.out]; rfl), rfl, fun e => (by rw [HV.out] at e; cases e), below_setRow HS.out.2.2 (by omega) _⟩

  by_cases h0 : l = 0
  · have HV : Hid (x.ok = false) := by show _ = _; unfold En.ok; rw [HP.out.2.2.1, h0]; simp
    subst h0
    have HS := HS5
    go_wp2_with (first | go_skip | (with_reducible refine stopStore 97 rfl ?_))
    refine store_known 97 (w.heap.size + 1) _ (hc 0 0 none 0 0 (List.replicate 28 0)) 97 HS.out.2.1 rfl rfl rfl rfl (by kernel_rfl) rfl (by kernel_rfl) ?_
    go_wp2
    refine bodyPost_ret (results_row_tmp Try.results64 _ _ (w.heap.size + 1) _ _ _ _ rfl HS.out.2.1.setRow Try.underlying97 rfl (by kernel_rfl)) rfl ?_
    exact ⟨0, 0, none, 0, 0, List.replicate 28 0, (by rw [HV.out]; rfl), rfl, fun e => (by rw [HV.out] at e; cases e), below_setRow HS.out.2.2 (by omega) _⟩

  have g1 : ((l : Int) == 0) = false := by simp; omega
  have HV : Hid (x.ok = true) := by show _ = _; unfold En.ok; rw [← HD.out, ← HD2.out, ← HD3.out, HP.out.2.2.1]; simp; omega
  clear h0
  go_wp2_with (first | go_skip | (with_reducible refine stopLoad 90 rfl ?_))
  refine load_any 90 W2.heap.size _ 90 _ HG5.out.2 rfl rfl rfl Try.underlying90 rfl (by kernel_rfl) ?_
  go_wp2_with (first | go_skip | (with_reducible refine stopLoad 95 rfl ?_))
  refine load_any 95 w1.heap.size (tc ys) 95 _ HG5.out.1 rfl rfl rfl Try.underlying95 rfl (tallySize HY.out.1) ?_
  go_wp2_with (first | go_skip | (with_reducible refine stopBuild 97 rfl ?_))
  refine built_any (.agg (hc x.key x.window b l c ys)) rfl rfl (by simp only [List.map_toArray, List.map_cons, List.map_nil]; exact build_hold _ _ _ _ _ _ _ HY.out.1) ?_
  go_wp2_with (first | go_skip | (with_reducible refine stopStore 97 rfl ?_))
  refine store_known 97 (w.heap.size + 1) _ (hc x.key x.window b l c ys) 97 HS5.out.2.1 rfl rfl rfl rfl (holdSize (hc_size HY.out.1)) (by rw [hc_size HY.out.1]; rfl) (hc_one ..) ?_
  go_wp2
  refine bodyPost_ret (results_row_tmp Try.results64 _ _ (w.heap.size + 1) _ _ _ _ rfl HS5.out.2.1.setRow Try.underlying97 rfl (holdSize (hc_size HY.out.1))) rfl ?_
  exact ⟨x.key, x.window, b, l, c, ys, (by rw [HV.out]; rfl), HY.out.1, fun _ => ⟨rfl, rfl, HY.out.2 HD.out.symm, HP.out.1, HP.out.2.2.2⟩, below_setRow HS5.out.2.2 (by omega) _⟩
set_option maxRecDepth 200000 in
set_option maxHeartbeats 1000000 in
theorem entryOkImpl_en (v : Value) (x : En) (F G : List Nat) (w : World) (h : RdEn w v x F G) (hw : x.sk.wide) (hl : x.ids.length ≤ 2097152) :
    Calls Try.prog 44 #[v] w fun e w' => e = .returned (.bool x.ok) ∧ Below w.heap.size w w' := by
  have HH : Hid (RdEn w v x F G ∧ x.sk.wide ∧ x.ids.length ≤ 2097152) := ⟨h, hw, hl⟩
  obtain ⟨b, l, c, a1, n1, c1, a2, n2, c2, a3, n3, c3, rfl, hp, hr, hcp⟩ := h
  have HT : Hid (Blk (w.alloc (.cells #[.int .i64 x.key, .int .i64 x.window, .slice b l c, .int .i64 x.sk.count, .int .i64 x.sk.sum, .int .i64 x.sk.min, .int .i64 x.sk.max, .slice a1 n1 c1, .slice a2 n2 c2, .slice a3 n3 c3] 39)) w.heap.size #[.int .i64 x.key, .int .i64 x.window, .slice b l c, .int .i64 x.sk.count, .int .i64 x.sk.sum, .int .i64 x.sk.min, .int .i64 x.sk.max, .slice a1 n1 c1, .slice a2 n2 c2, .slice a3 n3 c3] 39 ∧ Below w.heap.size w (w.alloc (.cells #[.int .i64 x.key, .int .i64 x.window, .slice b l c, .int .i64 x.sk.count, .int .i64 x.sk.sum, .int .i64 x.sk.min, .int .i64 x.sk.max, .slice a1 n1 c1, .slice a2 n2 c2, .slice a3 n3 c3] 39))) := ⟨Blk.made _ _ _, (Below.refl _ _).alloc (Nat.le_refl _) _⟩
  clear hp hr hcp hw hl
  go_enter Try.func44, Try.ntmps44
  go_wp2_with (first | go_skip | (with_reducible refine stopLoad 39 rfl ?_))
  refine load_any 39 w.heap.size _ 39 _ HT.out.1 rfl rfl rfl Try.underlying39 rfl (by kernel_rfl) ?_
  go_wp2_with fail
  refine (okHolding_any _ x F G _ (HH.out.1.below HT.out.2) HH.out.2.1 HH.out.2.2).mono ?_
  rintro e w1 ⟨k, p, a, l', c', ys, rfl, hy, _, hb1⟩
  have HB : Hid (ys.length = 28 ∧ Below w.heap.size w w1) := ⟨hy, Below.next HT.out.2 hb1⟩
  clear hb1 hy
  obtain ⟨d, hd⟩ : ∃ d, d = x.ok := ⟨_, rfl⟩
  rw [← hd]
  have HD : Hid (d = x.ok) := hd
  clear hd
  go_wp2_with (first | go_skip | (with_reducible refine stopStore 97 rfl ?_))
  refine store_fresh 97 w1.heap.size rfl (hc 0 0 none 0 0 (List.replicate 28 0)) (hc k p a l' c' ys) 97 rfl rfl rfl rfl (holdSize (hc_size HB.out.1)) (by rw [hc_size HB.out.1]; rfl) (hc_one ..) ?_
  intro W2 _ hb2
  have HB2 : Hid (Below w.heap.size w W2) := Below.next HB.out.2 hb2
  clear hb2
  go_wp2
  go_ret
  exact ⟨ret_bool HD.out, HB2.out⟩
end Go.Proofs.Ytillnoeailnnfaa
/- What the laws over entries take of the program and the model. No statement of the seat is proved here. -/
namespace Go.Proofs.Ytillnoeailnnfaa
open Go.RowKit
set_option maxRecDepth 200000 in
theorem entryOkImpl_any (v : Value) (x : En) (F : List Nat) (w : World) (h : RdE w v x F) (hw : x.wide) :
    Calls Try.prog 44 #[v] w fun e w' => e = .returned (.bool x.ok) ∧ Below w.heap.size w w' := by
  obtain ⟨F1, F2, rfl, h⟩ := h
  exact entryOkImpl_en v x F1 F2 w h hw.1 (by have := hw.2; omega)
end Go.Proofs.Ytillnoeailnnfaa
/- The program's okIds, RowOk, RowIds. No statement of the seat is proved here. -/
namespace Go.Proofs.Ytillnoeailnnfaa
open Go.RowKit
/-- A set and whether it is right, in memory of the call's own. -/
def NewPd (w : World) (ps : Sp) (d : Bool) (e : Ending) (w' : World) : Prop := ∃ a len cap F, e = .returned (.tuple #[.slice a len cap, .bool d]) ∧ RdP w' a len ps F ∧ Own w.heap.size w' F ∧ Below w.heap.size w w' ∧ Capd a len cap
set_option maxRecDepth 200000 in
set_option maxHeartbeats 8000000 in
theorem okIds_any (v : Value) (x : Rw) (F : List Nat) (w : World) (h : RdRw w v x F) (hw : x.fits) :
    Calls Try.prog 27 #[v] w fun e w' => NewPd w x.ids x.ok e w' := by
  obtain ⟨a, n, c, rfl, hL, hcp⟩ := h
  have HL : Hid (RdL enK w a n x.list F ∧ x.list.length = n ∧ (∀ y ∈ x.list, y.wide) ∧ x.fits) := ⟨hL, hL.length, hw.wide.1, hw⟩
  have hn : n ≤ 1048576 := by rw [← hL.length]; exact hw.len
  have HB : Hid (Below w.heap.size w (w.alloc (.cells #[.slice a n c] 29)) ∧ Blk (w.alloc (.cells #[.slice a n c] 29)) w.heap.size #[.slice a n c] 29) := ⟨Below.allocW _ (Below.refl _ _) (Nat.le_refl _), Blk.made _ _ _⟩
  clear hL hw hcp
  by_cases hbig : 24 < n
  · have hI : (24 : Int) < (n : Int) := by omega
    have HV : Hid (x.ok = false) := Rw.ok_long (by rw [HL.out.2.1]; exact hbig)
    go_enter Try.func27, Try.ntmps27
    go_wp2
    go_ret2
    rw [HV.out]
    exact ⟨none, 0, 0, [], rfl, by unfold Rw.ids; rw [HV.out]; exact RdP.nil, Own.nil, HB.out.1, fun _ => rfl, Nat.le_refl _⟩
  have hI24 : ¬ (24 : Int) < (n : Int) := by omega
  go_enter Try.func27, Try.ntmps27
  go_wp2
  go_loopw [4, 14] (fun s i wr => ∃ (k : Nat) (p : Option Addr) (l g : Nat) (G : List Nat), k ≤ n ∧ i = .int .i64 k ∧ s = .slice p l g ∧ l ≤ 1048576 ∧ Hid (fineTo x.list k = true) ∧ Hid (Below w.heap.size w wr ∧ RdP wr p l (idsTo x.list k) G ∧ Own w.heap.size wr G ∧ Capd p l g)) (fun _ i _ => n - (intOf i).toNat)
  case atStart => exact ⟨0, none, 0, 0, [], by omega, rfl, rfl, by omega, rfl, HB.out.1, by rw [idsTo_zero]; exact RdP.nil, Own.nil, fun _ => rfl, Nat.le_refl _⟩
  case round =>
    clear HB
    obtain ⟨k, p, l, g, G, hk, rfl, rfl, hl, HT, HW⟩ := hrel
    by_cases hlt : k < n
    · have hI : (k : Int) < (n : Int) := by omega
      obtain ⟨b, off, y, q, m, g', cs, Fi, G', rfl, hbw, hy, hs, hcc, hr, h0, h1, h2, hp, hcp⟩ := ens_in HL.out.1 hlt
      have HX : Hid (x.list[k]? = some y ∧ cs.size = 10 ∧ RdE w (.agg cs) y Fi ∧ y.wide) := ⟨hy, hs, hr, wide_at HL.out.2.2.1 hy⟩
      have HCC : Hid ((∀ W, Below w.heap.size w W → ∀ j, j < 10 → W.cell? ⟨b, off + k * 10 + j, none⟩ = cs[j]?) ∧ cs[2]? = some (.slice q m g') ∧ RdP w q m y.ids G' ∧ Capd q m g') := ⟨hcc, h2, hp, hcp⟩
      have hm : m ≤ 1048576 := by rw [← hp.length]; exact (wide_at HL.out.2.2.1 hy).2
      have hone := (RdE.cells hr)
      obtain ⟨cs', ecs, _, hone⟩ := hone
      injection ecs with ecs
      subst ecs
      have HONE : Hid (cs.all (·.oneCell') = true) := hone
      clear hy hs hcc hr h0 h1 h2 hp hcp hone
      go_wp2_with (first | go_skip | (with_reducible refine stopLoad 39 rfl ?_))
      refine load_at 39 b (off + k * 10) 10 cs _ (HCC.out.1 _ HW.out.1) HX.out.2.1 rfl rfl rfl Try.underlying39 rfl infoEnS2 ?_
      go_wp2_with (first | go_skip | (with_reducible refine stopStore 39 rfl ?_))
      refine store_fresh 39 wr.heap.size rfl #[.int .i64 0, .int .i64 0, .slice none 0 0, .int .i64 0, .int .i64 0, .int .i64 0, .int .i64 0, .slice none 0 0, .slice none 0 0, .slice none 0 0] cs 39 rfl rfl rfl rfl (enSize HX.out.2.1) HX.out.2.1.symm HONE.out ?_
      intro w1 hg hb1
      have HW1 : Hid (Below w.heap.size w w1 ∧ RdP w1 p l (idsTo x.list k) G ∧ Own w.heap.size w1 G ∧ Capd p l g ∧ Blk w1 wr.heap.size cs 39 ∧ w.heap.size ≤ wr.heap.size) := ⟨Below.next HW.out.1 hb1, HW.out.2.1.below hb1, HW.out.2.2.1.below HW.out.2.1.lt hb1, HW.out.2.2.2, hg, HW.out.1.size⟩
      clear hg hb1 HW
      go_wp2_with (first | go_skip | (with_reducible refine stopLoad 39 rfl ?_))
      refine load_any 39 wr.heap.size cs 39 _ HW1.out.2.2.2.2.1 rfl rfl rfl Try.underlying39 rfl (enSize HX.out.2.1) ?_
      go_wp2_with fail
      refine (entryOkImpl_any _ y Fi _ (HX.out.2.2.1.below HW1.out.1) HX.out.2.2.2).mono ?_
      rintro e w2 ⟨rfl, hb2⟩
      have HW2 : Hid (Below w.heap.size w w2 ∧ RdP w2 p l (idsTo x.list k) G ∧ Own w.heap.size w2 G ∧ Capd p l g ∧ Blk w2 wr.heap.size cs 39 ∧ w.heap.size ≤ wr.heap.size) := ⟨Below.next HW1.out.1 hb2, HW1.out.2.1.below hb2, HW1.out.2.2.1.below HW1.out.2.1.lt hb2, HW1.out.2.2.2.1, HW1.out.2.2.2.2.1.below hb2, HW1.out.2.2.2.2.2⟩
      obtain ⟨d, hd⟩ : ∃ d, d = y.ok := ⟨_, rfl⟩
      rw [← hd]
      have HD : Hid (d = y.ok) := hd
      clear hd hb2 HW1
      have c2 : w2.cell? ⟨wr.heap.size, 2, none⟩ = some (.slice q m g') := (HW2.out.2.2.2.2.1.cell 2).trans HCC.out.2.1
      cases d
      · have HV : Hid (x.ok = false) := Rw.ok_not (i := k + 1) (by rw [HL.out.2.1]; omega) (by rw [fineTo_succ HX.out.1, ← HD.out]; simp)
        go_wp2
        go_ret2
        rw [HV.out]
        exact ⟨none, 0, 0, [], rfl, by unfold Rw.ids; rw [HV.out]; exact RdP.nil, Own.nil, HW2.out.1, fun _ => rfl, Nat.le_refl _⟩
      go_wp2_with fail
      refine (apartImpl_any p q l m g g' (idsTo x.list k) y.ids G G' _ HW2.out.2.1 (HCC.out.2.2.1.below HW2.out.1) (by omega) (by omega) HW2.out.2.2.2.1.2 HCC.out.2.2.2.2).mono ?_
      rintro e w3 ⟨rfl, hb3⟩
      have HW3 : Hid (Below w.heap.size w w3 ∧ RdP w3 p l (idsTo x.list k) G ∧ Own w.heap.size w3 G ∧ Capd p l g ∧ Blk w3 wr.heap.size cs 39 ∧ w.heap.size ≤ wr.heap.size) := ⟨Below.next HW2.out.1 hb3, HW2.out.2.1.below hb3, HW2.out.2.2.1.below HW2.out.2.1.lt hb3, HW2.out.2.2.2.1, HW2.out.2.2.2.2.1.below hb3, HW2.out.2.2.2.2.2⟩
      obtain ⟨d, hd⟩ : ∃ d, d = (idsTo x.list k).apart y.ids := ⟨_, rfl⟩
      rw [← hd]
      have HD2 : Hid (d = (x.list.take k).all fun z => y.ids.apart z.ids) := by
        show _ = _
        rw [hd]
        exact idsTo_apart (by rw [HL.out.2.1]; omega) HT.out HD.out.symm
      have c3 : w3.cell? ⟨wr.heap.size, 2, none⟩ = some (.slice q m g') := (HW3.out.2.2.2.2.1.cell 2).trans HCC.out.2.1
      clear hd hb3 HW2 c2
      cases d
      · have HV : Hid (x.ok = false) := Rw.ok_not (i := k + 1) (by rw [HL.out.2.1]; omega) (by rw [fineTo_succ HX.out.1, ← HD2.out]; simp)
        go_wp2
        go_ret2
        rw [HV.out]
        exact ⟨none, 0, 0, [], rfl, by unfold Rw.ids; rw [HV.out]; exact RdP.nil, Own.nil, HW3.out.1, fun _ => rfl, Nat.le_refl _⟩
      go_wp2_with fail
      refine (joinImpl_any p q l m g g' (idsTo x.list k) y.ids G G' _ HW3.out.2.1 (HCC.out.2.2.1.below HW3.out.1) (by omega) HW3.out.2.2.2.1.2).mono ?_
      rintro e w4 ⟨p4, l4, g4, G4, rfl, r4, o4, hb4, hc4⟩
      have HT2 : Hid (fineTo x.list (k + 1) = true) := by show _ = _; rw [fineTo_succ HX.out.1, HT.out, ← HD.out, ← HD2.out]; rfl
      have HW4 : Hid (Below w.heap.size w w4 ∧ RdP w4 p4 l4 (idsTo x.list (k + 1)) G4 ∧ Own w.heap.size w4 G4 ∧ Capd p4 l4 g4) := ⟨Below.next HW3.out.1 hb4, by rw [idsTo_succ HX.out.1]; exact r4, o4.mono HW3.out.1.size, hc4⟩
      have hl4 : l4 ≤ 1048576 := by rw [← HW4.out.2.1.length]; exact idsTo_len HL.out.2.2.2 (by rw [HL.out.2.1]; omega) HT2.out
      clear r4 o4 hb4 hc4 c3
      go_wp2
      go_roundw
      case rel => exact ⟨k + 1, p4, l4, g4, G4, by omega, by go_num, rfl, hl4, HT2, HW4⟩
      case measure => simp [intOf]; omega
    · obtain rfl : k = n := by omega
      have HV : Hid (x.ok = true) := Rw.ok_yes (by rw [HL.out.2.1]; omega) (by rw [HL.out.2.1]; exact HT.out)
      have hI : ¬ (k : Int) < (k : Int) := by omega
      go_wp2
      go_ret2
      rw [HV.out]
      exact ⟨p, l, g, G, rfl, by unfold Rw.ids; rw [if_pos HV.out, HL.out.2.1]; exact HW.out.2.1, HW.out.2.2.1, HW.out.1, HW.out.2.2.2⟩
set_option maxRecDepth 200000 in
set_option maxHeartbeats 1000000 in
theorem rowOkImpl_any (v : Value) (x : Rw) (F : List Nat) (w : World) (h : RdRw w v x F) (hw : x.fits) :
    Calls Try.prog 9 #[v] w fun e w' => e = .returned (.bool x.ok) ∧ Below w.heap.size w w' := by
  have HH : Hid (RdRw w v x F ∧ x.fits) := ⟨h, hw⟩
  obtain ⟨a, n, c, rfl, _, _⟩ := h
  have HB : Hid (Below w.heap.size w (w.alloc (.cells #[.slice a n c] 29)) ∧ Blk (w.alloc (.cells #[.slice a n c] 29)) w.heap.size #[.slice a n c] 29) := ⟨Below.allocW _ (Below.refl _ _) (Nat.le_refl _), Blk.made _ _ _⟩
  clear hw
  go_enter Try.func9, Try.ntmps9
  go_wp2_with (first | go_skip | (with_reducible refine stopLoad 29 rfl ?_))
  refine load_any 29 w.heap.size #[.slice a n c] 29 _ HB.out.2 rfl rfl rfl Try.underlying29 rfl (rwSize rfl) ?_
  go_wp2_with fail
  refine (okIds_any _ x F _ (HH.out.1.below HB.out.1) HH.out.2).mono ?_
  rintro e w2 ⟨p, l, g, G, rfl, hr, ho, hb, hc⟩
  have HR : Hid (RdP w2 p l x.ids G ∧ Own w.heap.size w2 G ∧ Below w.heap.size w w2 ∧ Capd p l g) := ⟨hr, ho.mono HB.out.1.size, Below.next HB.out.1 hb, hc⟩
  clear hr ho hb hc HB HH
  go_wp2
  go_ret
  exact ⟨rfl, HR.out.2.2.1⟩
set_option maxRecDepth 200000 in
set_option maxHeartbeats 1000000 in
theorem rowIdsImpl_any (v : Value) (x : Rw) (F : List Nat) (w : World) (h : RdRw w v x F) (hw : x.fits) :
    Calls Try.prog 19 #[v] w fun e w' => NewP w x.ids e w' := by
  have HH : Hid (RdRw w v x F ∧ x.fits) := ⟨h, hw⟩
  obtain ⟨a, n, c, rfl, _, _⟩ := h
  have HB : Hid (Below w.heap.size w (w.alloc (.cells #[.slice a n c] 29)) ∧ Blk (w.alloc (.cells #[.slice a n c] 29)) w.heap.size #[.slice a n c] 29) := ⟨Below.allocW _ (Below.refl _ _) (Nat.le_refl _), Blk.made _ _ _⟩
  clear hw
  go_enter Try.func19, Try.ntmps19
  go_wp2_with (first | go_skip | (with_reducible refine stopLoad 29 rfl ?_))
  refine load_any 29 w.heap.size #[.slice a n c] 29 _ HB.out.2 rfl rfl rfl Try.underlying29 rfl (rwSize rfl) ?_
  go_wp2_with fail
  refine (okIds_any _ x F _ (HH.out.1.below HB.out.1) HH.out.2).mono ?_
  rintro e w2 ⟨p, l, g, G, rfl, hr, ho, hb, hc⟩
  have HR : Hid (RdP w2 p l x.ids G ∧ Own w.heap.size w2 G ∧ Below w.heap.size w w2 ∧ Capd p l g) := ⟨hr, ho.mono HB.out.1.size, Below.next HB.out.1 hb, hc⟩
  clear hr ho hb hc HB HH
  go_wp2
  go_ret
  exact ⟨p, l, g, G, rfl, HR.out.1, HR.out.2.1, HR.out.2.2.1, HR.out.2.2.2⟩
end Go.Proofs.Ytillnoeailnnfaa
/- Frames, as plain data. No statement of the seat is proved here. -/
namespace Go.Proofs.Ytillnoeailnnfaa
open Go.RowKit
structure Fr where
  kind : Int
  agent : Int
  epoch : Int
  granted : Int
  taken : Sp
  item : It
  deriving DecidableEq
/-- A frame's value that can be read; F: its set's block, G: its item's. -/
def RdFr (w : World) (v : Value) (e : Fr) (F G : List Nat) : Prop :=
  ∃ b l c a1 n1 c1 a2 n2 c2 a3 n3 c3, v = .agg #[.int .i64 e.kind, .int .i64 e.agent, .int .i64 e.epoch, .int .i64 e.granted, .slice b l c, .int .i64 e.item.seq, .int .i64 e.item.cls, .int .i64 e.item.key, .int .i64 e.item.window, .int .i64 e.item.sk.count, .int .i64 e.item.sk.sum, .int .i64 e.item.sk.min, .int .i64 e.item.sk.max, .slice a1 n1 c1, .slice a2 n2 c2, .slice a3 n3 c3] ∧
    RdP w b l e.taken F ∧ RdIt w (.agg #[.int .i64 e.item.seq, .int .i64 e.item.cls, .int .i64 e.item.key, .int .i64 e.item.window, .int .i64 e.item.sk.count, .int .i64 e.item.sk.sum, .int .i64 e.item.sk.min, .int .i64 e.item.sk.max, .slice a1 n1 c1, .slice a2 n2 c2, .slice a3 n3 c3]) e.item G ∧ Capd b l c
theorem RdFr.agree {w w' : World} {v : Value} {e : Fr} {F G : List Nat} (h : RdFr w v e F G) (ha : Agree w w' F) (hg : Agree w w' G) : RdFr w' v e F G := by
  obtain ⟨b, l, c, a1, n1, c1, a2, n2, c2, a3, n3, c3, hv, hp, hr, hcp⟩ := h
  exact ⟨b, l, c, a1, n1, c1, a2, n2, c2, a3, n3, c3, hv, hp.agree ha, hr.agree hg, hcp⟩
theorem RdFr.lt1 {w : World} {v : Value} {e : Fr} {F G : List Nat} (h : RdFr w v e F G) : ∀ b ∈ F, b < w.heap.size := by
  obtain ⟨b, l, c, a1, n1, c1, a2, n2, c2, a3, n3, c3, hv, hp, hr, _⟩ := h
  exact hp.lt
theorem RdFr.lt2 {w : World} {v : Value} {e : Fr} {F G : List Nat} (h : RdFr w v e F G) : ∀ b ∈ G, b < w.heap.size := by
  obtain ⟨b, l, c, a1, n1, c1, a2, n2, c2, a3, n3, c3, hv, hp, hr, _⟩ := h
  exact hr.lt
theorem RdFr.below {w w' : World} {v : Value} {e : Fr} {F G : List Nat} (h : RdFr w v e F G) (hb : Below w.heap.size w w') : RdFr w' v e F G := h.agree (.below hb h.lt1) (.below hb h.lt2)
def NewFr (w : World) (x : Fr) (e : Ending) (w' : World) : Prop := ∃ v F G, e = .returned v ∧ RdFr w' v x F G ∧ Own w.heap.size w' F ∧ Own w.heap.size w' G ∧ (∀ b ∈ F, b ∉ G) ∧ Below w.heap.size w w'
def NewFr2 (w : World) (x : Fr) (d : Bool) (e : Ending) (w' : World) : Prop := ∃ v F G, e = .returned (.tuple #[v, .bool d]) ∧ RdFr w' v x F G ∧ Own w.heap.size w' F ∧ Own w.heap.size w' G ∧ (∀ b ∈ F, b ∉ G) ∧ Below w.heap.size w w'
theorem Fr.eq_of {x y : Fr} (h1 : x.kind = y.kind) (h2 : x.agent = y.agent) (h3 : x.epoch = y.epoch) (h4 : x.granted = y.granted) (h5 : x.taken = y.taken) (h6 : x.item = y.item) : x = y := by
  cases x; cases y; simp_all
theorem RdIt.cells11 {w : World} {v : Value} {x : It} {F : List Nat} (h : RdIt w v x F) : ∃ a1 n1 c1 a2 n2 c2 a3 n3 c3, v = .agg #[.int .i64 x.seq, .int .i64 x.cls, .int .i64 x.key, .int .i64 x.window, .int .i64 x.sk.count, .int .i64 x.sk.sum, .int .i64 x.sk.min, .int .i64 x.sk.max, .slice a1 n1 c1, .slice a2 n2 c2, .slice a3 n3 c3] := by
  obtain ⟨a1, n1, c1, a2, n2, c2, a3, n3, c3, rfl, _⟩ := h
  exact ⟨a1, n1, c1, a2, n2, c2, a3, n3, c3, rfl⟩
theorem one11 (p q r s p' q' r' s' : Int) (a1 : Option Addr) (n1 c1 : Nat) (a2 : Option Addr) (n2 c2 : Nat) (a3 : Option Addr) (n3 c3 : Nat) : (#[Value.int .i64 p, .int .i64 q, .int .i64 r, .int .i64 s, .int .i64 p', .int .i64 q', .int .i64 r', .int .i64 s', .slice a1 n1 c1, .slice a2 n2 c2, .slice a3 n3 c3]).all (·.oneCell') = true := by
  simp [Value.oneCell']
end Go.Proofs.Ytillnoeailnnfaa
/- Agents, as plain data. No statement of the seat is proved here. -/
namespace Go.Proofs.Ytillnoeailnnfaa
open Go.RowKit
/-- An item as an element of a slice. -/
def itK : ElK It where
  n := 11
  R := RdIt
  agree := fun h ha => RdIt.agree h ha
  lt := fun h => RdIt.lt h
  cells := fun h => by
    obtain ⟨a1, n1, c1, a2, n2, c2, a3, n3, c3, rfl⟩ := RdIt.cells11 h
    exact ⟨_, rfl, rfl, by simp [Value.oneCell']⟩
  pos := by decide
structure Ag where
  id : Int
  epoch : Int
  live : Bool
  granted : Int
  sealed : List It
  taken : Sp
  next : Int
  deriving DecidableEq
/-- An agent's value that can be read; F: its items' blocks, G: its set's. -/
def RdAg (w : World) (v : Value) (x : Ag) (F G : List Nat) : Prop :=
  ∃ a1 n1 c1 a2 n2 c2, v = .agg #[.int .i64 x.id, .int .i64 x.epoch, .bool x.live, .int .i64 x.granted, .slice a1 n1 c1, .slice a2 n2 c2, .int .i64 x.next] ∧
    RdL itK w a1 n1 x.sealed F ∧ RdP w a2 n2 x.taken G ∧ Capd a1 n1 c1 ∧ Capd a2 n2 c2
theorem RdAg.agree {w w' : World} {v : Value} {x : Ag} {F G : List Nat} (h : RdAg w v x F G) (ha : Agree w w' F) (hg : Agree w w' G) : RdAg w' v x F G := by
  obtain ⟨a1, n1, c1, a2, n2, c2, hv, h1, h2, k1, k2⟩ := h
  exact ⟨a1, n1, c1, a2, n2, c2, hv, h1.agree ha, h2.agree hg, k1, k2⟩
theorem RdAg.lt1 {w : World} {v : Value} {x : Ag} {F G : List Nat} (h : RdAg w v x F G) : ∀ b ∈ F, b < w.heap.size := by
  obtain ⟨a1, n1, c1, a2, n2, c2, hv, h1, h2, _⟩ := h
  exact h1.lt
theorem RdAg.lt2 {w : World} {v : Value} {x : Ag} {F G : List Nat} (h : RdAg w v x F G) : ∀ b ∈ G, b < w.heap.size := by
  obtain ⟨a1, n1, c1, a2, n2, c2, hv, h1, h2, _⟩ := h
  exact h2.lt
theorem RdAg.below {w w' : World} {v : Value} {x : Ag} {F G : List Nat} (h : RdAg w v x F G) (hb : Below w.heap.size w w') : RdAg w' v x F G := h.agree (.below hb h.lt1) (.below hb h.lt2)
theorem RdAg.cells {w : World} {v : Value} {x : Ag} {F G : List Nat} (h : RdAg w v x F G) : ∃ cs : Array Value, v = .agg cs ∧ cs.size = 7 ∧ cs.all (·.oneCell') = true := by
  obtain ⟨a1, n1, c1, a2, n2, c2, rfl, _⟩ := h
  exact ⟨_, rfl, rfl, by simp [Value.oneCell']⟩
def NewAg (w : World) (x : Ag) (e : Ending) (w' : World) : Prop := ∃ v F G, e = .returned v ∧ RdAg w' v x F G ∧ Own w.heap.size w' F ∧ Own w.heap.size w' G ∧ (∀ b ∈ F, b ∉ G) ∧ Below w.heap.size w w'
theorem Ag.eq_of {x y : Ag} (h1 : x.id = y.id) (h2 : x.epoch = y.epoch) (h3 : x.live = y.live) (h4 : x.granted = y.granted) (h5 : x.sealed = y.sealed) (h6 : x.taken = y.taken) (h7 : x.next = y.next) : x = y := by
  cases x; cases y; simp_all
theorem It.size_nonneg (x : It) : 0 ≤ x.sk.size := by unfold Sk.size; have := sumLen_nonneg x.sk.rows; omega
/-- What a list of items weighs. -/
def itsSize (xs : List It) : Int := sumOfL (fun x => x.sk.size) xs
theorem itsSize_nonneg (xs : List It) : 0 ≤ itsSize xs := sumOfL_nonneg It.size_nonneg xs
theorem itsSize_mem {xs : List It} {x : It} (h : x ∈ xs) : x.sk.size ≤ itsSize xs := sumOfL_mem It.size_nonneg xs x h
end Go.Proofs.Ytillnoeailnnfaa
/- The walks through the helpers of the laws over slices of items. No statement of the seat is proved here. -/
namespace Go.Proofs.Ytillnoeailnnfaa
open Go.RowKit
theorem its_at {w : World} {a : Option Addr} {len : Nat} {xs : List It} {F : List Nat} (h : RdL itK w a len xs F) {k : Nat} (hk : k < len) : ∃ b off x cs Fi, a = some ⟨b, off, none⟩ ∧ b < w.heap.size ∧ xs[k]? = some x ∧ cs.size = 11 ∧ (∀ j, j < 11 → w.cell? ⟨b, off + k * 11 + j, none⟩ = cs[j]?) ∧ RdIt w (.agg cs) x Fi := by
  obtain ⟨b, off, ha, hb, cs, Fi, h1, h2, h3, _⟩ := h.get k hk
  have hx : xs[k]? = some (xs[k]'(by rw [h.length]; exact hk)) := List.getElem?_eq_getElem _
  exact ⟨b, off, _, cs, Fi, ha, h.lt b hb, hx, h1, h2, h3 _ hx⟩
theorem its_eq_step {xs ys : List It} {k : Nat} {x y : It} (hx : xs[k]? = some x) (hy : ys[k]? = some y) (h : xs.take k = ys.take k) (e : x = y) : xs.take (k + 1) = ys.take (k + 1) := by
  rw [take_snoc_at hx, take_snoc_at hy, h, e]
theorem its_ne_at {xs ys : List It} {k : Nat} {x y : It} (hx : xs[k]? = some x) (hy : ys[k]? = some y) (e : ¬ x = y) : decide (xs = ys) = false := by
  rw [decide_eq_false_iff_not]
  intro h
  rw [h, hy] at hx
  cases hx
  exact e rfl
end Go.Proofs.Ytillnoeailnnfaa
/- The walks through the helpers of the laws over agents. No statement of the seat is proved here. -/
namespace Go.Proofs.Ytillnoeailnnfaa
open Go.RowKit
/-- What an agent weighs. -/
def Ag.size (x : Ag) : Int := (x.sealed.length : Int) + itsSize x.sealed + x.taken.length
end Go.Proofs.Ytillnoeailnnfaa
/- Agents that came in; slices of items and of spans, as cells. No statement of the seat is proved here. -/
namespace Go.Proofs.Ytillnoeailnnfaa
open Go.RowKit Go.WideShapes Go.ChangeShapes Go.ChangeAt Go.Deep
section
variable {α : Type} {K : ElK α} {w : World}
/-- Elements one behind the other, each with its reading. -/
theorem rdEls_open (Good : α → Prop) : ∀ (n : Nat) (b off : Nat) (C : Nat → Array Value), (∀ r, r < n → (C r).size = K.n ∧ (∀ j, j < K.n → w.cell? ⟨b, off + r * K.n + j, none⟩ = (C r)[j]?) ∧ ∃ x F, K.R w (.agg (C r)) x F ∧ Good x) → ∃ xs F, xs.length = n ∧ RdEls K w b xs off F ∧ ∀ x ∈ xs, Good x
  | 0, b, off, C, _ => ⟨[], [], rfl, rfl, by simp⟩
  | n + 1, b, off, C, h => by
    obtain ⟨xs, F2, h1, h2, h3⟩ := rdEls_open Good n b (off + K.n) (fun r => C (r + 1)) (fun r hr => by
      obtain ⟨k1, k2, k3⟩ := h (r + 1) (by omega)
      refine ⟨k1, fun j hj => ?_, k3⟩
      rw [show off + K.n + r * K.n + j = off + (r + 1) * K.n + j by rw [Nat.succ_mul]; omega]
      exact k2 j hj)
    obtain ⟨k1, k2, x, F1, k3, k4⟩ := h 0 (by omega)
    refine ⟨x :: xs, F1 ++ F2, by simp [h1], ⟨C 0, F1, F2, k1, fun j hj => ?_, k3, h2, rfl⟩, ?_⟩
    · have := k2 j hj
      rw [Nat.zero_mul, Nat.add_zero] at this
      exact this
    · intro y hy
      rcases List.mem_cons.1 hy with rfl | hy
      · exact k4
      · exact h3 y hy
end
set_option maxRecDepth 100000 in
set_option maxHeartbeats 1000000 in
theorem open_sps {H : Type} {enc : TypeId × Value → H} {W : World} {v : Value} {fuel : Nat} {z : DataW H × List MemPlace} (g : DataW.trod enc Try.prog W 0 (fun _ => true) true fuel 66 [v] = some z) :
    ∃ a len cap ps F, v = .slice a len cap ∧ RdP W a len ps F ∧ len ≤ 9223372036854775807 ∧ Capd a len cap := by
  have c3 : Try.prog.cellsOf 3 = 1 := by kernel_rfl
  have c2 : Try.prog.cellsOf 103 = 2 := by kernel_rfl
  rcases open_slice_pairs Try.underlying66 Try.underlying103 c2 rfl rfl c3 c3 g with ⟨q, _⟩ | ⟨x, len, cap, m, n, V0, V1, D0, D1, P0, P1, q, _, hl, hm, hmm, _, hx⟩
  · simp at q
    subst q
    exact ⟨none, 0, 0, [], [], rfl, RdP.nil, by omega, fun _ => rfl, Nat.le_refl _⟩
  · simp at q
    subst q
    have hm2 : m = cap := by rw [hmm]; simp
    subst hm2
    have hb : len ≤ 9223372036854775807 := by unfold maxLen at hm; omega
    have ints : ∀ i, i < m → ∃ y z : Int, V0 i = .int .i64 y ∧ V1 i = .int .i64 z ∧ (Lit.int .i64 y).wf = true ∧ (Lit.int .i64 z).wf = true := fun i hi => by
      obtain ⟨_, _, h3, h4⟩ := hx i hi
      obtain ⟨y, q0, _, w0⟩ := DataW.trod_int Try.underlying3 h3
      obtain ⟨z, q1, _, w1⟩ := DataW.trod_int Try.underlying3 h4
      simp at q0 q1
      exact ⟨y, z, q0, q1, w0, w1⟩
    have hN : ∀ i, i < m → V0 i = .int .i64 (intOf (V0 i)) ∧ V1 i = .int .i64 (intOf (V1 i)) ∧ Fit64 (intOf (V0 i)) ∧ Fit64 (intOf (V1 i)) := fun i hi => by
      obtain ⟨y, z, e0, e1, w0, w1⟩ := ints i hi
      rw [e0, e1]
      exact ⟨rfl, rfl, int_wf w0, int_wf w1⟩
    by_cases h0 : len = 0
    · subst h0
      exact ⟨_, 0, _, [], [], rfl, RdP.nil, by omega, fun e => (by cases e), hl⟩
    · obtain ⟨b, off, rfl⟩ := sp_addr (hx 0 (by omega)).1
      refine ⟨_, len, m, (List.range len).map fun i => (intOf (V0 i), intOf (V1 i)), [b], rfl, rdP_mk _ (by simp) (by omega) (fun i hi => ?_), hb, fun e => (by cases e), hl⟩
      · rw [flat_range len _ _ i hi]
        have h1 := (hx i (by omega)).1
        have h2 := (hx i (by omega)).2.1
        rw [sp_add] at h1 h2
        rw [(hN i (by omega)).1] at h1
        rw [(hN i (by omega)).2.1] at h2
        exact ⟨h1, by rw [show off + i * 2 + 1 = off + (i * 2 + 1) by omega]; exact h2⟩
end Go.Proofs.Ytillnoeailnnfaa
/- Slices of entries that came in, as cells. No statement of the seat is proved here. -/
namespace Go.Proofs.Ytillnoeailnnfaa
open Go.RowKit Go.WideShapes Go.ChangeShapes Go.ChangeAt Go.Deep
set_option maxRecDepth 100000 in
set_option maxHeartbeats 1000000 in
theorem open_en10g {H : Type} {enc : TypeId × Value → H} {W : World} {e0 e1 e2 e3 e4 e5 e6 e7 e8 e9 : Value} {d : DataW H} {p : List MemPlace} (h : DataW.Trod enc Try.prog W 0 (fun _ => true) true 69 (.agg ⟨[e0, e1, e2, e3, e4, e5, e6, e7, e8, e9]⟩) d p) :
    ∃ x F, RdE W (.agg ⟨[e0, e1, e2, e3, e4, e5, e6, e7, e8, e9]⟩) x F ∧ x.vast := by
  have c3 : Try.prog.cellsOf 3 = 1 := by kernel_rfl
  have c4 : Try.prog.cellsOf 66 = 1 := by kernel_rfl
  have c7 : Try.prog.cellsOf 67 = 7 := by kernel_rfl
  obtain ⟨fuel, hf⟩ := h
  obtain ⟨xs, n, _, _, _, hlen, hx⟩ := DataW.trod_struct Try.underlying69 hf
  match xs, hlen with
  | [y0, y1, y2, y3], _ =>
    have g0 := hx 0 _ rfl
    have g1 := hx 1 _ rfl
    have g2 := hx 2 _ rfl
    have g3 := hx 3 _ rfl
    simp [Value.cells, c3, c4, c7] at g0 g1 g2 g3
    clear hx
    obtain ⟨i0, q0, _, _⟩ := DataW.trod_int Try.underlying3 g0
    obtain ⟨i1, q1, _, _⟩ := DataW.trod_int Try.underlying3 g1
    simp at q0 q1
    subst q0 q1
    obtain ⟨s, G, hr, hv7⟩ := open_sk7 (e0 := e3) (e1 := e4) (e2 := e5) (e3 := e6) (e4 := e7) (e5 := e8) (e6 := e9) ⟨_, g3⟩
    obtain ⟨a1, n1, c1, a2, n2, c2', a3, n3, c3', ev⟩ := hr.cells7
    simp only [Value.agg.injEq] at ev
    cases ev
    obtain ⟨b, l, c, ps, F, rfl, hp, hb, hcp⟩ := open_sps g2
    exact ⟨⟨i0, i1, ps, s⟩, F ++ G, ⟨F, G, rfl, b, l, c, a1, n1, c1, a2, n2, c2', a3, n3, c3', rfl, hp, hr, hcp⟩, hv7, by rw [hp.length]; exact hb⟩
set_option maxRecDepth 100000 in
set_option maxHeartbeats 1000000 in
theorem open_ens {H : Type} {enc : TypeId × Value → H} {W : World} {v : Value} {fuel : Nat} {z : DataW H × List MemPlace} (g : DataW.trod enc Try.prog W 0 (fun _ => true) true fuel 22 [v] = some z) :
    ∃ a len cap xs F, v = .slice a len cap ∧ RdL enK W a len xs F ∧ len ≤ 9223372036854775807 ∧ Capd a len cap ∧ ∀ x ∈ xs, x.vast := by
  have c10 : Try.prog.cellsOf 69 = 10 := by kernel_rfl
  rcases open_slice Try.underlying22 g with ⟨q, _⟩ | ⟨x, len, cap, m, n, D, Pl, q, _, hl, hm, hmm, _, hx⟩
  · simp at q
    subst q
    exact ⟨none, 0, 0, [], [], rfl, RdL.nil, by omega, ⟨fun _ => rfl, Nat.le_refl _⟩, by simp⟩
  · simp at q
    subst q
    have hm2 : m = cap := by rw [hmm]; simp
    subst hm2
    have hb : len ≤ 9223372036854775807 := by unfold maxLen at hm; omega
    rw [c10] at hx
    by_cases h0 : len = 0
    · subst h0
      exact ⟨_, 0, _, [], [], rfl, RdL.zero, by omega, ⟨(fun e => by cases e), hl⟩, by simp⟩
    have each : ∀ i, i < m → ∃ c : Array Value, c.size = 10 ∧ (∀ j, j < 10 → W.cell? (x.add (i * 10 + j)) = c[j]?) ∧ ∃ y F, RdE W (.agg c) y F ∧ y.vast := fun i hi => by
      obtain ⟨cs', h1, h2⟩ := hx i hi
      obtain ⟨_, hlen, hcell⟩ := World.cells?_some h1
      refine ⟨⟨cs'⟩, hlen, fun j hj => ?_, ?_⟩
      · have := hcell j hj
        rw [add_add] at this
        rw [this]
        simp
      · match cs', hlen with
        | [e0, e1, e2, e3, e4, e5, e6, e7, e8, e9], _ => exact open_en10g (d := D i) (p := Pl i) ⟨n, by simpa [Value.cells] using h2⟩
    obtain ⟨C, hC⟩ := choose_lt each
    have a0 : ∃ b off, x = ⟨b, off, none⟩ := by
      obtain ⟨k1, k2, _⟩ := hC 0 (by omega)
      have c := k2 0 (by omega)
      rw [Array.getElem?_eq_getElem (by rw [k1]; omega)] at c
      obtain ⟨b, off, spot⟩ := x
      have hspot : spot = none := by simpa [Addr.add] using World.cell?_spot c
      subst hspot
      exact ⟨b, off, rfl⟩
    obtain ⟨b, off, rfl⟩ := a0
    obtain ⟨xs, F, k1, k2, k3⟩ := rdEls_open (K := enK) (w := W) (fun y => y.vast) len b off C (fun r hr => by
      obtain ⟨h1, h2, h3⟩ := hC r (by omega)
      refine ⟨h1, fun j hj => ?_, h3⟩
      have := h2 j hj
      rw [sp_add] at this
      rw [Nat.add_assoc]
      exact this)
    exact ⟨_, len, m, xs, b :: F, rfl, ⟨k1, .inr ⟨b, off, F, by omega, rfl, rfl, k2⟩⟩, hb, ⟨(fun e => by cases e), hl⟩, k3⟩
end Go.Proofs.Ytillnoeailnnfaa
/- Entries and items that are marked; an entry in a variable of the law's own. No statement of the seat is proved here. -/
namespace Go.Proofs.Ytillnoeailnnfaa
open Go.RowKit
/-- The pairs that a marked set bears. -/
def markP (k : Int) (n : Nat) : Sp := (List.range n).map fun i : Nat => (k + 2 * (i : Int), k + 2 * (i : Int) + 1)
theorem flat_markP (k : Int) (n : Nat) : flat (markP k n) = marksI k (2 * n) := by
  induction n with
  | zero => rfl
  | succ n ih =>
    have e : markP k (n + 1) = markP k n ++ [(k + 2 * (n : Int), k + 2 * (n : Int) + 1)] := by unfold markP; rw [List.range_succ, List.map_append]; rfl
    rw [e, flat_append, ih, show 2 * (n + 1) = 2 * n + 1 + 1 by omega, marksI, marksI, List.append_assoc]
    have e1 : k + ((2 * n : Nat) : Int) = k + 2 * (n : Int) := by omega
    have e2 : k + ((2 * n + 1 : Nat) : Int) = k + 2 * (n : Int) + 1 := by omega
    rw [e1, e2]
    rfl
theorem markP_length (k : Int) (n : Nat) : (markP k n).length = n := by unfold markP; simp
def En.many (x : En) : Int := 2 * x.ids.length + x.sk.many
def En.marked (k : Int) (x : En) : En := ⟨x.key, x.window, markP k x.ids.length, x.sk.marked (k + 2 * x.ids.length)⟩
structure MarkedE (B : Nat) (w : World) (v : Value) (k : Int) (x : En) (F : List Nat) (w' : World) : Prop where
  rd : RdE w' v (x.marked k) F
  own : Own B w' F
  only : Only F w w'
theorem Sk.many_nonneg (s : Sk) : 0 ≤ s.many := by
  have := sumLen_nonneg s.rows
  unfold Sk.many
  omega
theorem Sk.size_nonneg (s : Sk) : 0 ≤ s.size := by
  have h0 := sumLen_nonneg s.rows
  unfold Sk.size
  omega
theorem En.fits_sz {x : En} (h : x.ids.length + x.sk.size ≤ 1048576) : x.fits := by
  have := Sk.size_nonneg x.sk
  exact ⟨Sk.fits_of (by omega), by omega⟩
theorem En.many_fits {x : En} (h : x.ids.length + x.sk.size ≤ 1048576) : 0 ≤ x.many ∧ x.many ≤ 4194304 := by
  have h1 := Sk.many_nonneg x.sk
  have h2 : x.sk.many ≤ x.sk.size := by
    have h0 := sumLen_nonneg x.sk.rows
    unfold Sk.size Sk.many
    omega
  unfold En.many
  omega
set_option maxRecDepth 200000 in
set_option maxHeartbeats 1000000 in
theorem markE_any (B : Nat) (v : Value) (x : En) (F : List Nat) (k : Int) (w : World) (h : RdE w v x F) (ho : Own B w F) (hw : x.wide) (hk0 : 0 ≤ k) (hk1 : k + x.many ≤ 1000000000000) :
    Calls Try.prog 15 #[v, .int .i64 k] w fun e w' => e = .returned (.int .i64 (k + x.many)) ∧ MarkedE B w v k x F w' := by
  obtain ⟨F1, F2, rfl, b, l, c, a1, n1, c1, a2, n2, c2, a3, n3, c3, rfl, hp, hr, hcp⟩ := h
  obtain ⟨cs, hcs⟩ : ∃ cs : Array Value, cs = #[.int .i64 x.key, .int .i64 x.window, .slice b l c, .int .i64 x.sk.count, .int .i64 x.sk.sum, .int .i64 x.sk.min, .int .i64 x.sk.max, .slice a1 n1 c1, .slice a2 n2 c2, .slice a3 n3 c3] := ⟨_, rfl⟩
  have bw : Below w.heap.size w (w.alloc (.cells #[.int .i64 x.key, .int .i64 x.window, .slice b l c, .int .i64 x.sk.count, .int .i64 x.sk.sum, .int .i64 x.sk.min, .int .i64 x.sk.max, .slice a1 n1 c1, .slice a2 n2 c2, .slice a3 n3 c3] 39)) := (Below.refl _ _).alloc (Nat.le_refl _) _
  have hm0 := Sk.many_nonneg x.sk
  have HM : Hid (x.many = 2 * (l : Int) + x.sk.many ∧ k + x.many ≤ 1000000000000 ∧ 0 ≤ x.sk.many) := ⟨by unfold En.many; rw [hp.length], hk1, hm0⟩
  have HW : Hid (x.sk.wide) := hw.1
  have hl : l ≤ 1048576 := by rw [← hp.length]; exact hw.2
  have HCP : Hid (Capd b l c) := hcp
  have HB : Hid (Below w.heap.size w (w.alloc (.cells #[.int .i64 x.key, .int .i64 x.window, .slice b l c, .int .i64 x.sk.count, .int .i64 x.sk.sum, .int .i64 x.sk.min, .int .i64 x.sk.max, .slice a1 n1 c1, .slice a2 n2 c2, .slice a3 n3 c3] 39)) ∧ Blk (w.alloc (.cells #[.int .i64 x.key, .int .i64 x.window, .slice b l c, .int .i64 x.sk.count, .int .i64 x.sk.sum, .int .i64 x.sk.min, .int .i64 x.sk.max, .slice a1 n1 c1, .slice a2 n2 c2, .slice a3 n3 c3] 39)) w.heap.size #[.int .i64 x.key, .int .i64 x.window, .slice b l c, .int .i64 x.sk.count, .int .i64 x.sk.sum, .int .i64 x.sk.min, .int .i64 x.sk.max, .slice a1 n1 c1, .slice a2 n2 c2, .slice a3 n3 c3] 39) := ⟨bw, Blk.made _ _ _⟩
  have HR : Hid (RdP w b l x.ids F1 ∧ RdSk w (.agg #[.int .i64 x.sk.count, .int .i64 x.sk.sum, .int .i64 x.sk.min, .int .i64 x.sk.max, .slice a1 n1 c1, .slice a2 n2 c2, .slice a3 n3 c3]) x.sk F2) := ⟨hp, hr⟩
  have HO : Hid (Own B w F1 ∧ Own B w F2 ∧ ∀ b ∈ F1, b ∉ F2) := ⟨ho.left, ho.right, ho.apart⟩
  clear hp hr ho hw hk1 hm0 bw hcs cs hcp
  go_enter Try.func15, Try.ntmps15
  go_wp2_with fail
  refine (markSpanS_any B b l c (flat x.ids) F1 k _ (HR.out.1.below HB.out.1).rd (HO.out.1.below HR.out.1.lt HB.out.1) hk0 (by have := HM.out; omega)).mono ?_
  rintro e w1 ⟨rfl, m1⟩
  have H1 : Hid (MarkedP B (w.alloc (.cells #[.int .i64 x.key, .int .i64 x.window, .slice b l c, .int .i64 x.sk.count, .int .i64 x.sk.sum, .int .i64 x.sk.min, .int .i64 x.sk.max, .slice a1 n1 c1, .slice a2 n2 c2, .slice a3 n3 c3] 39)) b l k F1 w1) := m1
  have HX1 : Hid (Blk w1 w.heap.size #[.int .i64 x.key, .int .i64 x.window, .slice b l c, .int .i64 x.sk.count, .int .i64 x.sk.sum, .int .i64 x.sk.min, .int .i64 x.sk.max, .slice a1 n1 c1, .slice a2 n2 c2, .slice a3 n3 c3] 39) := m1.only.blk HB.out.2 (fun hx => by have := HR.out.1.lt _ hx; omega)
  have a2' := m1.only.agree (fun b hb => Nat.lt_of_lt_of_le (HR.out.2.lt b hb) HB.out.1.size) (fun b hb hx => HO.out.2.2 b hx hb)
  have HR2 : Hid (RdSk w1 (.agg #[.int .i64 x.sk.count, .int .i64 x.sk.sum, .int .i64 x.sk.min, .int .i64 x.sk.max, .slice a1 n1 c1, .slice a2 n2 c2, .slice a3 n3 c3]) x.sk F2 ∧ Own B w1 F2) := ⟨(HR.out.2.below HB.out.1).agree a2', (HO.out.2.1.below HR.out.2.lt HB.out.1).agree a2'⟩
  clear m1 a2'
  obtain ⟨y1, hy1⟩ : ∃ y, y = k + 2 * (l : Int) := ⟨_, rfl⟩
  rw [← hy1]
  have HY1 : Hid (y1 = k + 2 * (l : Int)) := hy1
  have y10 : 0 ≤ y1 := by omega
  clear hy1
  go_wp2_with (first | go_skip | (with_reducible refine stopLoad 37 rfl ?_))
  refine load_cutw 37 w.heap.size 3 7 _ #[.int .i64 x.sk.count, .int .i64 x.sk.sum, .int .i64 x.sk.min, .int .i64 x.sk.max, .slice a1 n1 c1, .slice a2 n2 c2, .slice a3 n3 c3] 39 _ HX1.out rfl rfl rfl Try.underlying37 rfl infoSkI (by simp) rfl ?_
  go_wp2_with fail
  refine (markSketch_any B _ x.sk F2 y1 _ HR2.out.1 HR2.out.2 HW.out y10 (by have := HM.out; have := HY1.out; omega)).mono ?_
  rintro e w2 ⟨rfl, m2⟩
  have H2 : Hid (MarkedSk B w1 (.agg #[.int .i64 x.sk.count, .int .i64 x.sk.sum, .int .i64 x.sk.min, .int .i64 x.sk.max, .slice a1 n1 c1, .slice a2 n2 c2, .slice a3 n3 c3]) y1 x.sk F2 w2) := m2
  clear m2
  obtain ⟨y2, hy2⟩ : ∃ y, y = y1 + x.sk.many := ⟨_, rfl⟩
  rw [← hy2]
  have HY2 : Hid (y2 = y1 + x.sk.many) := hy2
  clear hy2
  go_wp2
  go_ret
  have ag1 := H2.out.only.agree H1.out.rd.lt (fun b hb hx => HO.out.2.2 b hb hx)
  have hlen := HR.out.1.length
  refine ⟨ret_int (by have := HM.out; have := HY1.out; have := HY2.out; omega), ⟨⟨F1, F2, rfl, b, l, c, a1, n1, c1, a2, n2, c2, a3, n3, c3, rfl, ⟨by show (markP k x.ids.length).length = l; rw [markP_length]; exact hlen, ?_⟩, ?_, HCP.out⟩, ?_, ?_⟩⟩
  · show RdI w2 b (2 * l) (flat (markP k x.ids.length)) F1
    rw [flat_markP, hlen]
    exact H1.out.rd.agree ag1
  · show RdSk w2 _ (x.sk.marked (k + 2 * x.ids.length)) F2
    rw [hlen, ← HY1.out]
    exact H2.out.rd
  · exact (H1.out.own.agree ag1).app H2.out.own HO.out.2.2
  · exact (((Only.of_below HB.out.1).trans (H1.out.only.mono (fun x hx => List.mem_append_left _ hx))).trans (H2.out.only.mono (fun x hx => List.mem_append_right _ hx)))
set_option maxRecDepth 200000 in
set_option maxHeartbeats 1000000 in
theorem heldE_any (v : Value) (x : En) (F : List Nat) (k : Int) (w : World) (h : RdE w v (x.marked k) F) (hw : x.wide) (hk0 : 0 ≤ k) (hk1 : k + x.many ≤ 1000000000000) :
    Calls Try.prog 16 #[v, .int .i64 k] w fun e w' => e = .returned (.int .i64 (k + x.many)) ∧ Below w.heap.size w w' := by
  obtain ⟨F1, F2, rfl, b, l, c, a1, n1, c1, a2, n2, c2, a3, n3, c3, rfl, hp, hr, hcp⟩ := h
  have hlen : x.ids.length = l := by have := hp.length; rw [← this]; exact (markP_length k x.ids.length).symm
  have hp' : RdI w b (2 * l) (marksI k (2 * l)) F1 := by have := hp.rd; rw [show (x.marked k).ids = markP k x.ids.length from rfl, flat_markP, hlen] at this; exact this
  have hr' : RdSk w (.agg #[.int .i64 x.sk.count, .int .i64 x.sk.sum, .int .i64 x.sk.min, .int .i64 x.sk.max, .slice a1 n1 c1, .slice a2 n2 c2, .slice a3 n3 c3]) (x.sk.marked (k + 2 * l)) F2 := by have := hr; rw [show (x.marked k).sk = x.sk.marked (k + 2 * x.ids.length) from rfl, hlen] at this; exact this
  have hm0 := Sk.many_nonneg x.sk
  have HM : Hid (x.many = 2 * (l : Int) + x.sk.many ∧ k + x.many ≤ 1000000000000 ∧ 0 ≤ x.sk.many) := ⟨by unfold En.many; rw [hlen], hk1, hm0⟩
  have HW : Hid (x.sk.wide) := hw.1
  have hl : l ≤ 1048576 := by rw [← hlen]; exact hw.2
  have HB : Hid (Below w.heap.size w (w.alloc (.cells #[.int .i64 x.key, .int .i64 x.window, .slice b l c, .int .i64 x.sk.count, .int .i64 x.sk.sum, .int .i64 x.sk.min, .int .i64 x.sk.max, .slice a1 n1 c1, .slice a2 n2 c2, .slice a3 n3 c3] 39)) ∧ Blk (w.alloc (.cells #[.int .i64 x.key, .int .i64 x.window, .slice b l c, .int .i64 x.sk.count, .int .i64 x.sk.sum, .int .i64 x.sk.min, .int .i64 x.sk.max, .slice a1 n1 c1, .slice a2 n2 c2, .slice a3 n3 c3] 39)) w.heap.size #[.int .i64 x.key, .int .i64 x.window, .slice b l c, .int .i64 x.sk.count, .int .i64 x.sk.sum, .int .i64 x.sk.min, .int .i64 x.sk.max, .slice a1 n1 c1, .slice a2 n2 c2, .slice a3 n3 c3] 39) := ⟨(Below.refl _ _).alloc (Nat.le_refl _) _, Blk.made _ _ _⟩
  have HR : Hid (RdI w b (2 * l) (marksI k (2 * l)) F1 ∧ RdSk w (.agg #[.int .i64 x.sk.count, .int .i64 x.sk.sum, .int .i64 x.sk.min, .int .i64 x.sk.max, .slice a1 n1 c1, .slice a2 n2 c2, .slice a3 n3 c3]) (x.sk.marked (k + 2 * l)) F2) := ⟨hp', hr'⟩
  clear hp hr hw hk1 hm0 hp' hr' hcp
  show Calls _ _ #[.agg #[.int .i64 x.key, .int .i64 x.window, .slice b l c, .int .i64 x.sk.count, .int .i64 x.sk.sum, .int .i64 x.sk.min, .int .i64 x.sk.max, .slice a1 n1 c1, .slice a2 n2 c2, .slice a3 n3 c3], .int .i64 k] w _
  go_enter Try.func16, Try.ntmps16
  go_wp2_with fail
  refine (heldSpanS_any b l c F1 k _ (HR.out.1.below HB.out.1) hk0 (by have := HM.out; omega)).mono ?_
  rintro e w1 ⟨rfl, b1⟩
  have HB1 : Hid (Below w.heap.size w w1 ∧ Blk w1 w.heap.size #[.int .i64 x.key, .int .i64 x.window, .slice b l c, .int .i64 x.sk.count, .int .i64 x.sk.sum, .int .i64 x.sk.min, .int .i64 x.sk.max, .slice a1 n1 c1, .slice a2 n2 c2, .slice a3 n3 c3] 39) := ⟨Below.next HB.out.1 b1, HB.out.2.below b1⟩
  clear b1
  obtain ⟨y1, hy1⟩ : ∃ y, y = k + 2 * (l : Int) := ⟨_, rfl⟩
  rw [← hy1] at HR ⊢
  have HY1 : Hid (y1 = k + 2 * (l : Int)) := hy1
  have y10 : 0 ≤ y1 := by omega
  clear hy1
  go_wp2_with (first | go_skip | (with_reducible refine stopLoad 37 rfl ?_))
  refine load_cutw 37 w.heap.size 3 7 _ #[.int .i64 x.sk.count, .int .i64 x.sk.sum, .int .i64 x.sk.min, .int .i64 x.sk.max, .slice a1 n1 c1, .slice a2 n2 c2, .slice a3 n3 c3] 39 _ HB1.out.2 rfl rfl rfl Try.underlying37 rfl infoSkI (by simp) rfl ?_
  go_wp2_with fail
  refine (heldSketch_any _ x.sk F2 y1 _ (HR.out.2.below HB1.out.1) HW.out y10 (by have := HM.out; have := HY1.out; omega)).mono ?_
  rintro e w2 ⟨rfl, b2⟩
  have HB2 : Hid (Below w.heap.size w w2) := Below.next HB1.out.1 b2
  clear b2
  obtain ⟨y2, hy2⟩ : ∃ y, y = y1 + x.sk.many := ⟨_, rfl⟩
  rw [← hy2]
  have HY2 : Hid (y2 = y1 + x.sk.many) := hy2
  have y20 : 0 ≤ y2 := by have := HM.out; omega
  clear hy2
  go_wp2
  go_ret
  exact ⟨ret_int (by have := HM.out; have := HY1.out; have := HY2.out; omega), HB2.out⟩
/-- An entry in a variable of the call's own: its struct lies in block g, its lists in memory between lo and hi. -/
structure VarE (W : World) (lo hi g : Nat) (cs : Array Value) (s : En) (F : List Nat) : Prop where
  blk : Blk W g cs 39
  rd : RdE W (.agg cs) s F
  sz : cs.size = 10
  own : Own lo W F
  lt : ∀ b ∈ F, b < hi
  ge : lo ≤ g
  glt : g < hi
  apart : g ∉ F
theorem VarE.below {W W' : World} {lo hi g : Nat} {cs : Array Value} {s : En} {F : List Nat} (h : VarE W lo hi g cs s F) (b : Below W.heap.size W W') : VarE W' lo hi g cs s F :=
  ⟨h.blk.below b, h.rd.below b, h.sz, h.own.below h.rd.lt b, h.lt, h.ge, h.glt, h.apart⟩
theorem VarE.fresh {w0 w1 W : World} {cs : Array Value} {s : En} {F : List Nat} (r : RdE w1 (.agg cs) s F) (o : Own w0.heap.size w1 F) (b : Below w0.heap.size w0 w1) (sz : cs.size = 10) (k : Blk W w1.heap.size cs 39) (b2 : Below w1.heap.size w1 W) : VarE W w0.heap.size W.heap.size w1.heap.size cs s F :=
  ⟨k, r.below b2, sz, o.below r.lt b2, fun x hx => by have := r.lt x hx; have := b2.size; omega, b.size, k.lt, fun hx => by have := r.lt _ hx; omega⟩
theorem VarE.only {W W' : World} {lo hi g lo' hi' g' : Nat} {cs ds : Array Value} {s t : En} {F G : List Nat} (h : VarE W lo hi g cs s F) (k : VarE W lo' hi' g' ds t G) (o : Only G W W') (hd : hi ≤ lo' ∨ hi' ≤ lo) : VarE W' lo hi g cs s F := by
  have d : ∀ b ∈ F, b ∉ G := fun b hb hg => by have := h.lt b hb; have := h.own.ge b hb; have := k.lt b hg; have := k.own.ge b hg; omega
  have e : g ∉ G := fun hg => by have := h.ge; have := h.glt; have := k.lt g hg; have := k.own.ge g hg; omega
  exact ⟨h.blk.agree (o.block g h.blk.lt e), h.rd.agree (o.agree h.rd.lt d), h.sz, h.own.agree (o.agree h.rd.lt d), h.lt, h.ge, h.glt, h.apart⟩
theorem VarE.only' {W W' : World} {lo hi g lo' hi' : Nat} {cs : Array Value} {s : En} {F G : List Nat} (h : VarE W lo hi g cs s F) (o : Only G W W') (kl : ∀ b ∈ G, b < hi') (kg : ∀ b ∈ G, lo' ≤ b) (hd : hi ≤ lo' ∨ hi' ≤ lo) : VarE W' lo hi g cs s F := by
  have d : ∀ b ∈ F, b ∉ G := fun b hb hg => by have := h.lt b hb; have := h.own.ge b hb; have := kl b hg; have := kg b hg; omega
  have e : g ∉ G := fun hg => by have := h.ge; have := h.glt; have := kl g hg; have := kg g hg; omega
  exact ⟨h.blk.agree (o.block g h.blk.lt e), h.rd.agree (o.agree h.rd.lt d), h.sz, h.own.agree (o.agree h.rd.lt d), h.lt, h.ge, h.glt, h.apart⟩
theorem VarE.keep {W W' : World} {lo' hi' g' : Nat} {ds : Array Value} {t : En} {G : List Nat} {b : Nat} {cs : Array Value} {ty : TypeId} (k : VarE W lo' hi' g' ds t G) (o : Only G W W') (h : Blk W b cs ty) (hb : b < lo') : Blk W' b cs ty :=
  h.agree (o.block b h.lt (fun hg => by have := k.own.ge b hg; omega))
theorem VarE.bel {w W W' : World} {lo' hi' g' : Nat} {ds : Array Value} {t : En} {G : List Nat} (k : VarE W lo' hi' g' ds t G) (o : Only G W W') (h : Below w.heap.size w W) (hb : w.heap.size ≤ lo') : Below w.heap.size w W' :=
  o.below h h.size (fun b hg => by have := k.own.ge b hg; omega)
theorem varE_stored {W : World} {lo g : Nat} {old rr : Array Value} {s : En} {X : List Nat} (k : Blk W g old 39) (r : RdE W (.agg rr) s X) (sz : rr.size = 10) (o : Own lo W X) (lt : ∀ b ∈ X, b < W.heap.size) (ge : lo ≤ g) (ap : g ∉ X) : VarE (W.setRow g rr) lo (W.setRow g rr).heap.size g rr s X := by
  have ag : Agree W (W.setRow g rr) X := fun b hb => setRow_other W _ b _ (fun e => ap (e ▸ hb))
  have hs : (W.setRow g rr).heap.size = W.heap.size := by simp
  exact ⟨k.setRow, r.agree ag, sz, o.agree ag, by rw [hs]; exact lt, ge, by rw [hs]; exact k.lt, ap⟩
theorem VarE.mark {W W' : World} {lo hi g : Nat} {cs : Array Value} {s : En} {F : List Nat} {k : Int} (h : VarE W lo hi g cs s F) (m : MarkedE lo W (.agg cs) k s F W') : VarE W' lo hi g cs (s.marked k) F :=
  ⟨h.blk.agree (m.only.block g h.blk.lt h.apart), m.rd, h.sz, m.own, h.lt, h.ge, h.glt, h.apart⟩
/-- The boxes of two arguments lie there. -/
def EnBoxes (g : Nat) (cs ds : Array Value) (W : World) : Prop := Blk W g cs 69 ∧ Blk W (g + 1) ds 69
theorem EnBoxes.below {g : Nat} {cs ds : Array Value} {W W' : World} (h : EnBoxes g cs ds W) (b : Below W.heap.size W W') : EnBoxes g cs ds W' := ⟨h.1.below b, h.2.below b⟩
theorem EnBoxes.setRow {g k : Nat} {cs ds es : Array Value} {W : World} (h : EnBoxes g cs ds W) (hk : g + 1 < k) : EnBoxes g cs ds (W.setRow k es) := ⟨h.1.setRowOther (by omega), h.2.setRowOther (by omega)⟩
end Go.Proofs.Ytillnoeailnnfaa
