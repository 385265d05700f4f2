/- The walks through the helpers of the laws over slices of entries. No statement of the seat is proved here. -/
import Derived.Test.YtillnoeailnnfabEnData
import Derived.Test.YtillnoeailnnfabItHelp2
import Derived.Test.YtillnoeailnnfabSpHelp
import Derived.Test.YtillnoeailnnfabSkLaw
import Derived.Test.YtillnoeailnnfabItLaw
namespace Go.Proofs.Ytillnoeailnnfab
open Go.RowKit
theorem ens_at {w : World} {a : Option Addr} {len : Nat} {xs : List En} {F : List Nat} (h : RdL enK w a len xs F) {k : Nat} (hk : k < len) : ∃ b off x cs Fi, a = some ⟨b, off, none⟩ ∧ b < w.heap.size ∧ xs[k]? = some x ∧ cs.size = 10 ∧ (∀ j, j < 10 → w.cell? ⟨b, off + k * 10 + j, none⟩ = cs[j]?) ∧ RdE w (.agg cs) x Fi := by
  obtain ⟨b, off, ha, hb, cs, Fi, h1, h2, h3, _⟩ := h.get k hk
  have hx : xs[k]? = some (xs[k]'(by rw [h.length]; exact hk)) := List.getElem?_eq_getElem _
  exact ⟨b, off, _, cs, Fi, ha, h.lt b hb, hx, h1, h2, h3 _ hx⟩
theorem infoEnS : (Try.prog.info? 42).map (fun i => (i.zero, i.size, i.bytes)) = some (some (.agg #[.int .i64 0, .int .i64 0, .slice none 0 0, .int .i64 0, .int .i64 0, .int .i64 0, .int .i64 0, .slice none 0 0, .slice none 0 0, .slice none 0 0]), 10, 144) := by kernel_rfl
theorem infoEnS2 : (Try.prog.info? 42).map (·.size) = some 10 := by kernel_rfl
theorem infoEnS3 : (Try.prog.info? 48).map (·.size) = some 10 := by kernel_rfl
set_option maxRecDepth 200000 in
set_option maxHeartbeats 2000000 in
theorem toEntryS_any (a : Option Addr) (len cap : Nat) (xs : List En) (F : List Nat) (w : World) (h : RdL enK w a len xs F) (hlen : len ≤ 1048576) (hf : ∀ x ∈ xs, x.fits) :
    Calls Try.prog 11 #[.slice a len cap] w fun e w' => NewL enK w xs e w' := by
  obtain ⟨i0, hi, hz0, hz1, hz2⟩ := info_parts infoEnS
  have HL : Hid (RdL enK w a len xs F) := h
  have HF : Hid (∀ x ∈ xs, x.fits) := hf
  have hbase : w.heap.size ≤ w.heap.size := Nat.le_refl _
  clear h hf
  go_enter Try.func11, Try.ntmps11
  go_wp2_with (at_make; refine wpList_make_full _ rfl _ _ 27 rfl w.heap.size 42 i0 (.agg #[.int .i64 0, .int .i64 0, .slice none 0 0, .int .i64 0, .int .i64 0, .int .i64 0, .int .i64 0, .slice none 0 0, .slice none 0 0, .slice none 0 0]) 10 Try.underlying27 hi hz0 hz1 .i64 .i64 _ _ len rfl rfl rfl rfl (by rw [hz2]; omega) (by unfold maxLen; omega) (Nat.le_refl _) ?_; intro w1 hown hgrow)
  obtain ⟨zs, hzs⟩ : ∃ zs : List Value, zs = (madeCells (Value.agg #[.int .i64 0, .int .i64 0, .slice none 0 0, .int .i64 0, .int .i64 0, .int .i64 0, .int .i64 0, .slice none 0 0, .slice none 0 0, .slice none 0 0]).cells (len * 10)).toList := ⟨_, rfl⟩
  have hzl : zs.length = len * 10 := by rw [hzs]; simp [madeCells]
  have HBk : Hid (Blk w1 w.heap.size zs.toArray 42 ∧ Below w.heap.size w w1) := by
    have HG := (Below.refl w.heap.size w).grown hgrow (Nat.le_refl _) (fun k hk => by cases hk)
    refine ⟨?_, HG⟩
    rcases hown.2 with ⟨e1, _⟩ | ⟨g, c, cur, e1, h1, h2, h3, h4, h5, h6⟩
    · cases e1
    · cases e1
      have e2 : cur.toList = zs := by
        rw [hzs, ← h6, List.take_of_length_le (by rw [Array.length_toList]; omega)]
      rw [← e2]
      exact h2
  clear hown hgrow hzs
  go_loopw [4] (fun i wr => ∃ (k : Nat) (vs : List Value) (G : List Nat), k ≤ len ∧ i = .int .i64 k ∧ Hid (CopyL enK w 42 zs xs k vs G wr)) (fun i _ => len - (intOf i).toNat)
  case atStart => exact ⟨0, [], [], by omega, rfl, ⟨by simpa using HBk.out.1, RdC.nil, Own.nil, HBk.out.2⟩⟩
  case round =>
    obtain ⟨k, vs, G, hk, rfl, HC⟩ := hrel
    by_cases hlt : k < len
    · have hI : (k : Int) < (len : Int) := by omega
      obtain ⟨b, off, x, cs, Fi, rfl, hbw, hx, hs, hcc, hr⟩ := ens_at HL.out hlt
      have HX : Hid (xs[k]? = some x ∧ cs.size = 10 ∧ RdE wr (.agg cs) x Fi ∧ x.fits) := ⟨hx, hs, hr.below HC.out.bel, HF.out x (List.mem_of_getElem? hx)⟩
      have HCC : Hid (∀ j, j < 10 → wr.cell? ⟨b, off + k * 10 + j, none⟩ = cs[j]?) := fun j hj => by
        have := hcc j hj
        rw [← this]
        exact HC.out.bel.cell (p := ⟨b, off + k * 10 + j, none⟩) hbw
      clear hx hs hcc hr
      go_wp2_with (first | go_skip | (with_reducible refine stopLoad 48 rfl ?_))
      refine load_at 48 b (off + k * 10) 10 cs _ HCC.out HX.out.2.1 rfl rfl rfl Try.underlying48 rfl infoEnS3 ?_
      go_wp2_with fail
      refine (toE_any _ x Fi _ HX.out.2.2.1 HX.out.2.2.2).mono ?_
      rintro e w2 ⟨v2, F2, rfl, hr2, ho2, hb2⟩
      obtain ⟨ds, rfl, hd11, hd1⟩ := enK.cells (w := w2) hr2
      have HST := HC.out.step HX.out.1 hr2 hd11 ho2 hb2
      have HS1 : Hid (Blk w2 w.heap.size (vs ++ zs.drop (k * 10)).toArray 42 ∧ cutIn (vs ++ zs.drop (k * 10)).toArray (k * 10) ds = ((vs ++ ds.toList) ++ zs.drop ((k + 1) * 10)).toArray) := ⟨HST.1, HST.2.1⟩
      have HS2 : Hid (CopyL enK w 42 zs xs (k + 1) (vs ++ ds.toList) (G ++ F2) (w2.setRow w.heap.size ((vs ++ ds.toList) ++ zs.drop ((k + 1) * 10)).toArray)) := HST.2.2
      have hvl : vs.length = k * 10 := by have := HC.out.rd.length; rw [List.length_take, Nat.min_eq_left (by have := HL.out.length; omega)] at this; exact this
      have HD : Hid (ds.size = 10 ∧ ds.all (·.oneCell') = true ∧ k * 10 + ds.size ≤ (vs ++ zs.drop (k * 10)).toArray.size) := ⟨hd11, hd1, by
        have e : ds.size = 10 := hd11
        rw [e, List.size_toArray, List.length_append, List.length_drop, hvl, hzl]
        omega⟩
      clear HST HC HCC HX hr2 ho2 hb2 hd11 hd1 hvl
      go_wp2_with (first | go_skip | (with_reducible refine stopStore 42 rfl ?_))
      refine store_cut 42 w.heap.size (k * 10) _ ds _ 42 HS1.out.1 rfl rfl rfl rfl (by rw [HD.out.1]; exact infoEnS2) HD.out.2.2 HD.out.2.1 HS1.out.2 ?_
      obtain ⟨w3, hw3⟩ : ∃ W, W = w2.setRow w.heap.size ((vs ++ ds.toList) ++ zs.drop ((k + 1) * 10)).toArray := ⟨_, rfl⟩
      rw [← hw3] at HS2 ⊢
      clear hw3 HS1
      go_wp2
      go_roundw
      case rel => exact ⟨k + 1, _, _, by omega, by go_num, HS2.out⟩
      case measure => simp [intOf]; omega
    · obtain rfl : k = len := by omega
      obtain ⟨F2, hr, ho⟩ := HC.out.done HL.out.length hzl
      have HR : Hid (RdL enK wr (some ⟨w.heap.size, 0, none⟩) k xs F2 ∧ Own w.heap.size wr F2) := ⟨hr, ho⟩
      clear hr ho
      go_wp2
      go_ret
      exact ⟨_, k, k, F2, rfl, HR.out.1, HR.out.2, HC.out.bel, (fun e => by cases e), Nat.le_refl _⟩
set_option maxRecDepth 200000 in
set_option maxHeartbeats 2000000 in
theorem szEntryS_vast (a : Option Addr) (len cap : Nat) (xs : List En) (F : List Nat) (left : Int) (w : World) (h : RdL enK w a len xs F) (hlen : len ≤ 9223372036854775807) (hv : ∀ x ∈ xs, x.vast) (hl0 : 0 ≤ left) (hl1 : left ≤ 1048576) :
    Calls Try.prog 9 #[.slice a len cap, .int .i64 left] w fun e w' => Weighed left (len + ensSize xs) e ∧ Below w.heap.size w w' := by
  have HL : Hid (RdL enK w a len xs F) := h
  have HV : Hid (∀ x ∈ xs, x.vast) := hv
  have HN : Hid (0 ≤ ensSize xs) := ensSize_nonneg xs
  clear h hv
  by_cases hbig : left < (len : Int)
  · go_enter Try.func9, Try.ntmps9
    go_wp2
    go_ret
    have := HN.out
    exact ⟨⟨-1, rfl, by omega, by omega, by omega⟩, Below.refl _ _⟩
  have hsub0 : 0 ≤ left - (len : Int) := by omega
  go_enter Try.func9, Try.ntmps9
  go_wp2_with fail
  go_loopw [1, 5] (fun s i wr => ∃ (k : Nat) (y : Int), k ≤ len ∧ 0 ≤ y ∧ y ≤ 1048576 ∧ i = .int .i64 k ∧ s = .int .i64 y ∧ Hid (y = left - len - ensSize (xs.take k)) ∧ Hid (Below w.heap.size w wr)) (fun _ i _ => len - (intOf i).toNat)
  case atStart => exact ⟨0, _, by omega, hsub0, by omega, rfl, rfl, (show _ = _ by simp [ensSize, sumOfL]), Below.refl _ _⟩
  case round =>
    obtain ⟨k, y, hk, hy0, hy1, rfl, rfl, HY, HB⟩ := hrel
    by_cases hlt : k < len
    · have hI : (k : Int) < (len : Int) := by omega
      obtain ⟨b, off, x, cs, Fi, rfl, hbw, hx, hs, hcc, hr⟩ := ens_at HL.out hlt
      have HX : Hid (xs[k]? = some x ∧ cs.size = 10 ∧ RdE wr (.agg cs) x Fi ∧ x.vast) := ⟨hx, hs, hr.below HB.out, HV.out x (List.mem_of_getElem? hx)⟩
      have HCC : Hid (∀ j, j < 10 → wr.cell? ⟨b, off + k * 10 + j, none⟩ = cs[j]?) := fun j hj => by
        have := hcc j hj
        rw [← this]
        exact HB.out.cell (p := ⟨b, off + k * 10 + j, none⟩) hbw
      clear hx hs hcc hr
      go_wp2_with (first | go_skip | (with_reducible refine stopLoad 48 rfl ?_))
      refine load_at 48 b (off + k * 10) 10 cs _ HCC.out HX.out.2.1 rfl rfl rfl Try.underlying48 rfl infoEnS3 ?_
      go_wp2_with fail
      refine (szEn_vast _ x Fi y _ HX.out.2.2.1 HX.out.2.2.2 hy0 hy1).mono ?_
      rintro e w2 ⟨⟨r, rfl, ra, rb, rc⟩, hb2⟩
      have HB2 : Hid (Below w.heap.size w w2) := Below.next HB.out hb2
      have HT : Hid (ensSize (xs.take (k + 1)) = ensSize (xs.take k) + x.wt ∧ ensSize (xs.take (k + 1)) ≤ ensSize xs) := ⟨sumOfL_take HX.out.1, sumOfL_le_take En.wt_nonneg xs (k + 1)⟩
      have HRR : Hid (r ≤ y ∧ (0 ≤ r → r = y - x.wt) ∧ (r < 0 → y < x.wt)) := ⟨ra, rb, rc⟩
      clear ra rb rc hb2 HCC HX HB
      by_cases q : r < 0
      · go_wp2
        go_ret
        have t1 := HT.out
        have t2 := HRR.out.2.2 q
        have t3 := HY.out
        exact ⟨⟨-1, rfl, by omega, by omega, by omega⟩, HB2.out⟩
      · have hr0 : 0 ≤ r := by omega
        have hr1 : r ≤ 1048576 := by have := HRR.out.1; omega
        have HY2 : Hid (r = left - len - ensSize (xs.take (k + 1))) := by have t1 := HT.out.1; have t2 := HRR.out.2.1 hr0; have t3 := HY.out; show _ = _; omega
        clear HT HRR HY
        go_wp2
        go_roundw
        case rel => exact ⟨k + 1, r, by omega, hr0, hr1, by go_num, rfl, HY2, HB2⟩
        case measure => simp [intOf]; omega
    · obtain rfl : k = len := by omega
      have HE : Hid (xs.take k = xs) := List.take_of_length_le (by rw [HL.out.length]; omega)
      go_wp2
      go_ret
      have t1 := HY.out
      have t2 := HN.out
      rw [HE.out] at t1
      exact ⟨⟨y, rfl, by omega, by omega, by omega⟩, HB.out⟩
theorem ens_eq_step {xs ys : List En} {k : Nat} {x y : En} (hx : xs[k]? = some x) (hy : ys[k]? = some y) (h : xs.take k = ys.take k) (e : x = y) : xs.take (k + 1) = ys.take (k + 1) := by
  rw [take_snoc_at hx, take_snoc_at hy, h, e]
theorem ens_ne_at {xs ys : List En} {k : Nat} {x y : En} (hx : xs[k]? = some x) (hy : ys[k]? = some y) (e : ¬ x = y) : decide (xs = ys) = false := by
  rw [decide_eq_false_iff_not]
  intro h
  rw [h, hy] at hx
  cases hx
  exact e rfl
set_option maxRecDepth 200000 in
set_option maxHeartbeats 2000000 in
theorem eqEntryS_any (a b : Option Addr) (la lb ca cb : Nat) (xs ys : List En) (F G : List Nat) (w : World) (ha : RdL enK w a la xs F) (hb : RdL enK w b lb ys G) (hla : la ≤ 140737488355328) (hlb : lb ≤ 140737488355328) (hw : ∀ x ∈ xs, x.wide) (kw : ∀ y ∈ ys, y.wide) :
    Calls Try.prog 14 #[.slice a la ca, .slice b lb cb] w fun e w' => e = .returned (.bool (decide (xs = ys))) ∧ Below w.heap.size w w' := by
  have HX : Hid (RdL enK w a la xs F ∧ ∀ x ∈ xs, x.wide) := ⟨ha, hw⟩
  have HY : Hid (RdL enK w b lb ys G ∧ ∀ x ∈ ys, x.wide) := ⟨hb, kw⟩
  clear ha hb hw kw
  by_cases hl : la = lb
  rotate_left
  · have hne : ((la : Int) != (lb : Int)) = true := by simpa using (by omega : ¬ (la : Int) = (lb : Int))
    have HV : Hid (decide (xs = ys) = false) := dec_false (fun e => hl (by have h1 := HX.out.1.length; have h2 := HY.out.1.length; rw [← h1, ← h2, e]))
    clear hl
    go_enter Try.func14, Try.ntmps14
    go_wp2
    go_ret
    exact ⟨ret_bool HV.out.symm, Below.refl _ _⟩
  subst hl
  have hbne : ((la : Int) != (la : Int)) = false := by simp
  go_enter Try.func14, Try.ntmps14
  go_wp2_with fail
  go_loopw [5] (fun i wr => ∃ k : Nat, k ≤ la ∧ i = .int .i64 k ∧ Hid (xs.take k = ys.take k ∧ Below w.heap.size w wr)) (fun i _ => la - (intOf i).toNat)
  case atStart => exact ⟨0, by omega, rfl, rfl, Below.refl _ _⟩
  case round =>
    obtain ⟨k, hk, rfl, HT⟩ := hrel
    by_cases hlt : k < la
    · have hI : (k : Int) < (la : Int) := by omega
      obtain ⟨b1, o1, x, cs, Fi, rfl, hbw1, hx, hs1, hcc1, hr1⟩ := ens_at HX.out.1 hlt
      obtain ⟨b2, o2, y, ds, Gi, rfl, hbw2, hy, hs2, hcc2, hr2⟩ := ens_at HY.out.1 hlt
      have HP : Hid (xs[k]? = some x ∧ ys[k]? = some y ∧ x.wide ∧ y.wide ∧ cs.size = 10 ∧ ds.size = 10) := ⟨hx, hy, HX.out.2 x (List.mem_of_getElem? hx), HY.out.2 y (List.mem_of_getElem? hy), hs1, hs2⟩
      have HCW : Hid (∀ W, Below w.heap.size w W → ((∀ j, j < 10 → W.cell? ⟨b1, o1 + k * 10 + j, none⟩ = cs[j]?) ∧ ∀ j, j < 10 → W.cell? ⟨b2, o2 + k * 10 + j, none⟩ = ds[j]?) ∧ RdE W (.agg cs) x Fi ∧ RdE W (.agg ds) y Gi) := fun W hB => ⟨⟨fun j hj => by rw [← hcc1 j hj]; exact hB.cell (p := ⟨b1, o1 + k * 10 + j, none⟩) hbw1, fun j hj => by rw [← hcc2 j hj]; exact hB.cell (p := ⟨b2, o2 + k * 10 + j, none⟩) hbw2⟩, hr1.below hB, hr2.below hB⟩
      clear hx hy hs1 hs2 hcc1 hcc2 hr1 hr2
      go_wp2_with fail
      have HTd : Hid (Below w.heap.size w wr.drew) := Below.drew HT.out.2
      obtain ⟨Y, hY⟩ : ∃ Y, Y = wr.drew := ⟨_, rfl⟩
      rw [← hY] at HTd
      refine wp_region_held (S := fun W => (∀ j, j < 10 → W.cell? ⟨b1, o1 + k * 10 + j, none⟩ = cs[j]?) ∧ ∀ j, j < 10 → W.cell? ⟨b2, o2 + k * 10 + j, none⟩ = ds[j]?) (by kernel_rfl) ?_
      change wpAnyH _ _ _ _ _ _ _ _ (World.drew _)
      rw [← hY]
      clear hY
      refine takeH (o := ?o1) 0 (.slice (some ⟨b1, o1, none⟩) la ca) ?h1 ?r1
      case h1 => simp only [aT, aZ]; rfl
      refine ⟨_, by simp [Act.put]; rfl, by kernel_rfl, by kernel_rfl, by kernel_rfl, fun _ _ _ h => h, (.inl ⟨rfl, fun W _ => by kernel_rfl⟩), (HCW.out _ HTd.out).1, ?_⟩
      refine takeH (o := ?o2) 1 (.int .i64 k) ?h2 ?r2
      case h2 => simp only [aT, aS, aZ]; rfl
      refine ⟨_, by simp [Act.put]; rfl, by kernel_rfl, by kernel_rfl, by kernel_rfl, fun _ _ _ h => h, (.inl ⟨rfl, fun W _ => by kernel_rfl⟩), (HCW.out _ HTd.out).1, ?_⟩
      refine takeH (o := ?o3) 2 (.pointer (some ⟨b1, o1 + k * 10, none⟩)) ?h3 ?r3
      case h3 => simp only [aT, aS, aZ]; rfl
      refine ⟨_, by simp [Act.put]; rfl, by kernel_rfl, by kernel_rfl, by kernel_rfl, fun _ _ _ h => h, (.inl ⟨rfl, fun W _ => by go_simp; first | done | (intro h; omega) | (rw [if_pos (by omega)]; rfl)⟩), (HCW.out _ HTd.out).1, ?_⟩
      refine takeH (o := ?o4) 3 (.agg cs) ?h4 ?r4
      case h4 => simp only [aT, aS, aZ]; rfl
      refine ⟨_, by simp [Act.put]; rfl, by kernel_rfl, by kernel_rfl, by kernel_rfl, fun _ _ _ h => h, (yields_at 42 b1 (o1 + k * 10) 10 cs _ rfl rfl rfl Try.underlying42 rfl infoEnS2 HP.out.2.2.2.2.1 (fun W hW => hW.1)), (HCW.out _ HTd.out).1, ?_⟩
      refine takeH (o := ?o5) 4 (.slice (some ⟨b2, o2, none⟩) la cb) ?h5 ?r5
      case h5 => simp only [aT, aS, aZ]; rfl
      refine ⟨_, by simp [Act.put]; rfl, by kernel_rfl, by kernel_rfl, by kernel_rfl, fun _ _ _ h => h, (.inl ⟨rfl, fun W _ => by kernel_rfl⟩), (HCW.out _ HTd.out).1, ?_⟩
      refine takeH (o := ?o6) 5 (.int .i64 k) ?h6 ?r6
      case h6 => simp only [aT, aS, aZ]; rfl
      refine ⟨_, by simp [Act.put]; rfl, by kernel_rfl, by kernel_rfl, by kernel_rfl, fun _ _ _ h => h, (.inl ⟨rfl, fun W _ => by kernel_rfl⟩), (HCW.out _ HTd.out).1, ?_⟩
      refine takeH (o := ?o7) 6 (.pointer (some ⟨b2, o2 + k * 10, none⟩)) ?h7 ?r7
      case h7 => simp only [aT, aS, aZ]; rfl
      refine ⟨_, by simp [Act.put]; rfl, by kernel_rfl, by kernel_rfl, by kernel_rfl, fun _ _ _ h => h, (.inl ⟨rfl, fun W _ => by go_simp; first | done | (intro h; omega) | (rw [if_pos (by omega)]; rfl)⟩), (HCW.out _ HTd.out).1, ?_⟩
      refine takeH (o := ?o8) 7 (.agg ds) ?h8 ?r8
      case h8 => simp only [aT, aS, aZ]; rfl
      refine ⟨_, by simp [Act.put]; rfl, by kernel_rfl, by kernel_rfl, by kernel_rfl, fun _ _ _ h => h, (yields_at 42 b2 (o2 + k * 10) 10 ds _ rfl rfl rfl Try.underlying42 rfl infoEnS2 HP.out.2.2.2.2.2 (fun W hW => hW.2)), (HCW.out _ HTd.out).1, ?_⟩
      refine onlyH (o := ?o9) 8 (by kernel_rfl) ?h9 ?r9
      case h9 => simp only [aT, aS, aZ]; rfl
      intro K hK
      obtain ⟨d, hd⟩ : ∃ d, d = decide (x = y) := ⟨_, rfl⟩
      have HD : Hid (d = decide (x = y)) := hd
      refine op_call2' 20 _ _ _ Try.f20 (fun v w' => v = .bool d ∧ Below Y.heap.size Y w') rfl rfl Try.func20 (by kernel_rfl) (by kernel_rfl) ((eqE_any (.agg cs) (.agg ds) x y Fi Gi Y (HCW.out _ HTd.out).2.1 (HCW.out _ HTd.out).2.2 HP.out.2.2.1 HP.out.2.2.2.1).mono (by rintro e w' ⟨rfl, h1⟩; exact ⟨_, rfl, by rw [hd], h1⟩)) ?_
      rintro v Y2 ⟨rfl, hb2⟩
      have HB3 : Hid (Below w.heap.size w Y2) := Below.next HTd.out hb2
      clear hb2 hd
      refine ⟨_, by simp [Act.put]; rfl, hK _ _ ⟨(HCW.out _ HB3.out).1, ?_⟩⟩
      clear hK
      refine onlyH (o := ?o10) 9 (by kernel_rfl) ?h10 ?r10
      case h10 => simp only [aT, aS, aZ]; rfl
      intro K hK
      refine op_value (.bool (!d)) rfl (by go_simp) ⟨_, by simp [Act.put]; rfl, hK _ _ ⟨(HCW.out _ HB3.out).1, ?_⟩⟩
      clear hK
      refine wpAnyH_done (by kernel_rfl) ?_ _
      cases d
      · have HV : Hid (decide (xs = ys) = false) := ens_ne_at HP.out.1 HP.out.2.1 (of_decide_eq_false HD.out.symm)
        go_wp2
        go_ret
        exact ⟨ret_bool HV.out.symm, HB3.out⟩
      · have HE : Hid (xs.take (k + 1) = ys.take (k + 1)) := ens_eq_step HP.out.1 HP.out.2.1 HT.out.1 (of_decide_eq_true HD.out.symm)
        go_wp2
        go_roundw
        case rel => exact ⟨k + 1, by omega, by go_num, HE.out, HB3.out⟩
        case measure => simp [intOf]; omega
    · obtain rfl : k = la := by omega
      have HV : Hid (decide (xs = ys) = true) := by
        have := HT.out.1
        rw [List.take_of_length_le (by rw [HX.out.1.length]; omega), List.take_of_length_le (by rw [HY.out.1.length]; omega)] at this
        exact dec_true this
      go_wp2
      go_ret
      exact ⟨ret_bool HV.out.symm, HT.out.2⟩
end Go.Proofs.Ytillnoeailnnfab
