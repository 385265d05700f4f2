/- The walk through the program's Merge: what it answers is what the model's answers. No statement of the seat is proved here. -/
import Derived.Test.YtlapdamopclojaaTallyMath
import Derived.Test.YtlapdamopclojaaTallyP
import Derived.Test.YtlapdamopclojaaTallyS
import Derived.Test.YtlapdamopclojaaSkLaw
import Derived.Test.YtlapdamopclojaaSkMergeSpec
namespace Go.Proofs.Ytlapdamopclojaa
open Go.RowKit
theorem Sk.ok_facts {s : Sk} (h : s.ok = true) : 0 ≤ s.min ∧ s.min ≤ s.max ∧ (s.count = 0 → s.max = 0) := by
  unfold Sk.ok okHead okZero at h
  simp only [Bool.and_eq_true, decide_eq_true_eq, Bool.or_eq_true, Bool.not_eq_true', decide_eq_false_iff_not] at h
  obtain ⟨⟨h1, h2⟩, _⟩ := h
  refine ⟨h1.1.1.1.2.1, h1.1.2, fun e => ?_⟩
  rcases h2 with h2 | h2
  · exact absurd e h2
  · exact h2.2
theorem merge_tl {s t : Sk} (hs : s.ok = true) (ht : t.ok = true) : skOf (plusL s.tl t.tl 28) = s.merge t := by
  obtain ⟨f1, f2, f3⟩ := Sk.ok_facts hs
  obtain ⟨g1, g2, g3⟩ := Sk.ok_facts ht
  obtain ⟨h0, h1, h2, h3, h4, h5, h6, h7, r0, r1, r2, r3, r4, r5, r6, r7, p0, p1, p2, p3, q0, q1, q2, q3, e⟩ := Sk.written (Sk.ok_shaped hs)
  obtain ⟨k0, k1, k2, k3, k4, k5, k6, k7, m0, m1, m2, m3, m4, m5, m6, m7, n0, n1, n2, n3, o0, o1, o2, o3, e'⟩ := Sk.written (Sk.ok_shaped ht)
  clear hs ht
  generalize s.count = c at e f1 f2 f3
  generalize s.sum = sm at e
  generalize s.min = mn at e f1 f2 f3
  generalize s.max = mx at e f1 f2 f3
  generalize t.count = c' at e' g1 g2 g3
  generalize t.sum = sm' at e'
  generalize t.min = mn' at e' g1 g2 g3
  generalize t.max = mx' at e' g1 g2 g3
  subst e e'
  refine Sk.eq_of rfl rfl ?_ ?_ rfl rfl rfl
  · show (if c = 0 then (mn', mx') else if c' = 0 then (mn, mx) else (min mn mn', max mx mx')).1 = if c' = 0 then mn else if c = 0 then mn' else Min.min mn mn'
    by_cases a : c = 0
    · rw [if_pos a]
      by_cases b : c' = 0
      · rw [if_pos b]
        have := f3 a; have := g3 b
        show mn' = mn
        omega
      · rw [if_neg b, if_pos a]
    · rw [if_neg a]
      by_cases b : c' = 0
      · rw [if_pos b, if_pos b]
      · rw [if_neg b, if_neg b, if_neg a]
  · show (if c = 0 then (mn', mx') else if c' = 0 then (mn, mx) else (min mn mn', max mx mx')).2 = Max.max mx mx'
    by_cases a : c = 0
    · rw [if_pos a]
      have := f3 a
      show mx' = _
      omega
    · rw [if_neg a]
      by_cases b : c' = 0
      · rw [if_pos b]
        have := g3 b
        show mx = _
        omega
      · rw [if_neg b]
theorem mergeR_cases (s t : Sk) : s.mergeR t = Sk.zero ∨ ((s.mergeR t).hist.length = 8 ∧ (s.mergeR t).regs.length = 8 ∧ ∃ x y, (s.mergeR t).rows = [x, y] ∧ x.length = 4 ∧ y.length = 4) := by
  cases hs : s.ok
  · exact .inl (by unfold Sk.mergeR; rw [hs]; rfl)
  · cases ht : t.ok
    · exact .inl (by unfold Sk.mergeR; rw [hs, ht]; rfl)
    · right
      obtain ⟨a1, a2, x, y, a3, a4, a5⟩ := Sk.shaped_parts (Sk.ok_shaped hs)
      obtain ⟨b1, b2, z, u, b3, b4, b5⟩ := Sk.shaped_parts (Sk.ok_shaped ht)
      have e : s.mergeR t = s.merge t := by unfold Sk.mergeR; rw [hs, ht]; rfl
      rw [e]
      refine ⟨by simp [Sk.merge, sumL, a1, b1], by simp [Sk.merge, maxL, a2, b2], sumL x z, sumL y u, by simp [Sk.merge, a3, b3], by simp [sumL, a4, b4], by simp [sumL, a5, b5]⟩
theorem mergeR_wide {s t : Sk} (_h : s.fits) (_k : t.fits) : (s.mergeR t).wide := by
  rcases mergeR_cases s t with e | ⟨e1, e2, x, y, e3, e4, e5⟩
  · rw [e]; exact ⟨by simp [Sk.zero], by simp [Sk.zero], by simp [Sk.zero], by simp [Sk.zero]⟩
  · refine ⟨by omega, by omega, by rw [e3]; simp, fun z hz => ?_⟩
    rw [e3] at hz
    simp at hz
    rcases hz with rfl | rfl <;> omega
theorem mergeR_many {s t : Sk} (_h : s.fits) (_k : t.fits) : 0 ≤ (s.mergeR t).many ∧ (s.mergeR t).many ≤ 1048576 := by
  rcases mergeR_cases s t with e | ⟨e1, e2, x, y, e3, e4, e5⟩
  · rw [e]; simp [Sk.many, Sk.zero, sumLen]
  · unfold Sk.many sumLen
    rw [e1, e2, e3]
    simp [e4, e5]
set_option maxHeartbeats 4000000 in
theorem mergeImpl_any (v u : Value) (s t : Sk) (F G : List Nat) (w : World) (h : RdSk w v s F) (k : RdSk w u t G) (hw : s.wide) (kw : t.wide) :
    Calls Try.prog 27 #[v, u] w fun e w' => NewSk2 w (s.mergeR t) (s.ok && t.ok) e w' := by
  have HH : Hid (RdSk w v s F ∧ RdSk w u t G ∧ s.wide ∧ t.wide) := ⟨h, k, hw, kw⟩
  obtain ⟨cs, rfl, hc7, hc1⟩ := h.cells
  obtain ⟨ds, rfl, hd7, hd1⟩ := k.cells
  have HC : Hid (cs.size = 7 ∧ ds.size = 7) := ⟨hc7, hd7⟩
  have HT : Hid (_ ∧ _ ∧ _ ∧ _) := three_made w cs ds #[.int .i64 0, .int .i64 0, .int .i64 0, .int .i64 0, .slice none 0 0, .slice none 0 0, .slice none 0 0] 41 41 41
  clear h k hw kw hc7 hc1 hd7 hd1
  go_enter Try.func27, Try.ntmps27
  go_wp2_with (first | go_skip | (with_reducible refine stopLoad 41 rfl ?_) | (with_reducible refine stopStore 41 rfl ?_) | (with_reducible refine stopLoad 66 rfl ?_) | (with_reducible refine stopStore 66 rfl ?_))
  refine load_known 41 w.heap.size cs 41 _ HT.out.1 rfl rfl rfl Try.underlying41 rfl (skSize HC.out.1) ?_
  go_wp2_with fail
  refine (okTally_any _ s F _ (HH.out.1.below HT.out.2.2.2) HH.out.2.2.1).mono ?_
  rintro e w1 ⟨xs, ys, rfl, xl, yl, xt, yx, b1⟩
  have HX : Hid (ys.length = 28 ∧ okT s xs = s.ok ∧ (s.ok = true → ys = s.tl)) := ⟨yl, okT_ok xt, fun e => by rw [yx (by rw [okT_ok xt]; exact e)]; exact xt (Sk.ok_shaped e)⟩
  have HW1 : Hid (Blk w1 (w.heap.size + 1) ds 41 ∧ Blk w1 (w.heap.size + 1 + 1) #[.int .i64 0, .int .i64 0, .int .i64 0, .int .i64 0, .slice none 0 0, .slice none 0 0, .slice none 0 0] 41 ∧ Below w.heap.size w w1) := ⟨HT.out.2.1.below b1, HT.out.2.2.1.below b1, Below.next HT.out.2.2.2 b1⟩
  rw [HX.out.2.1]
  clear xl yl xt yx b1 HT
  go_wp2_with (first | go_skip | (with_reducible refine stopLoad 41 rfl ?_) | (with_reducible refine stopStore 41 rfl ?_) | (with_reducible refine stopLoad 66 rfl ?_) | (with_reducible refine stopStore 66 rfl ?_))
  refine store_fresh 66 w1.heap.size rfl (tc (List.replicate 28 0)) (tc ys) 66 rfl rfl rfl rfl (tallySize HX.out.1) (by rw [tc_size, tc_size, HX.out.1]; rfl) (tc_one _) ?_
  intro W2 hg2 b2
  have HW2 : Hid (Blk W2 (w.heap.size + 1) ds 41 ∧ Blk W2 (w.heap.size + 1 + 1) #[.int .i64 0, .int .i64 0, .int .i64 0, .int .i64 0, .slice none 0 0, .slice none 0 0, .slice none 0 0] 41 ∧ Below w.heap.size w W2 ∧ Blk W2 w1.heap.size (tc ys) 66) := ⟨HW1.out.1.below b2, HW1.out.2.1.below b2, Below.next HW1.out.2.2 b2, hg2⟩
  clear hg2 b2 HW1
  go_wp2_with (first | go_skip | (with_reducible refine stopLoad 41 rfl ?_) | (with_reducible refine stopStore 41 rfl ?_) | (with_reducible refine stopLoad 66 rfl ?_) | (with_reducible refine stopStore 66 rfl ?_))
  refine load_known 41 (w.heap.size + 1) ds 41 _ HW2.out.1 rfl rfl rfl Try.underlying41 rfl (skSize HC.out.2) ?_
  go_wp2_with fail
  refine (okTally_any _ t G _ (HH.out.2.1.below HW2.out.2.2.1) HH.out.2.2.2).mono ?_
  rintro e w3 ⟨xs', zs, rfl, xl, yl, xt, yx, b3⟩
  have HX2 : Hid (zs.length = 28 ∧ okT t xs' = t.ok ∧ (t.ok = true → zs = t.tl)) := ⟨yl, okT_ok xt, fun e => by rw [yx (by rw [okT_ok xt]; exact e)]; exact xt (Sk.ok_shaped e)⟩
  have HW3 : Hid (Blk w3 (w.heap.size + 1 + 1) #[.int .i64 0, .int .i64 0, .int .i64 0, .int .i64 0, .slice none 0 0, .slice none 0 0, .slice none 0 0] 41 ∧ Below w.heap.size w w3 ∧ Blk w3 w1.heap.size (tc ys) 66) := ⟨HW2.out.2.1.below b3, Below.next HW2.out.2.2.1 b3, HW2.out.2.2.2.below b3⟩
  rw [HX2.out.2.1]
  clear xl yl xt yx b3 HW2
  go_wp2_with (first | go_skip | (with_reducible refine stopLoad 41 rfl ?_) | (with_reducible refine stopStore 41 rfl ?_) | (with_reducible refine stopLoad 66 rfl ?_) | (with_reducible refine stopStore 66 rfl ?_))
  refine store_fresh 66 w3.heap.size rfl (tc (List.replicate 28 0)) (tc zs) 66 rfl rfl rfl rfl (tallySize HX2.out.1) (by rw [tc_size, tc_size, HX2.out.1]; rfl) (tc_one _) ?_
  intro W4 hg4 b4
  have HW4 : Hid (Blk W4 (w.heap.size + 1 + 1) #[.int .i64 0, .int .i64 0, .int .i64 0, .int .i64 0, .slice none 0 0, .slice none 0 0, .slice none 0 0] 41 ∧ Below w.heap.size w W4 ∧ Blk W4 w1.heap.size (tc ys) 66 ∧ Blk W4 w3.heap.size (tc zs) 66) := ⟨HW3.out.1.below b4, Below.next HW3.out.2.1 b4, HW3.out.2.2.below b4, hg4⟩
  have HWX : Hid (Blk W4 (w.heap.size + 1 + 1) #[.int .i64 0, .int .i64 0, .int .i64 0, .int .i64 0, .slice none 0 0, .slice none 0 0, .slice none 0 0] 41 ∧ Below w.heap.size w W4) := ⟨HW4.out.1, HW4.out.2.1⟩
  clear hg4 b4 HW3
  cases es : s.ok
  · have HN : Hid (s.mergeR t = Sk.zero ∧ (s.ok && t.ok) = false) := ⟨by unfold Sk.mergeR; rw [es]; rfl, by rw [es]; rfl⟩
    clear es
    go_wp2_with (first | go_skip | (with_reducible refine stopLoad 41 rfl ?_) | (with_reducible refine stopStore 41 rfl ?_) | (with_reducible refine stopLoad 66 rfl ?_) | (with_reducible refine stopStore 66 rfl ?_))
    refine store_known 41 (w.heap.size + 1 + 1) _ #[.int .i64 0, .int .i64 0, .int .i64 0, .int .i64 0, .slice none 0 0, .slice none 0 0, .slice none 0 0] 41 HWX.out.1 rfl rfl rfl rfl (by kernel_rfl) rfl (by kernel_rfl) ?_
    go_wp2
    refine bodyPost_ret (results_row_tmp Try.results27 _ _ (w.heap.size + 1 + 1) _ _ _ _ rfl HWX.out.1.setRow Try.underlying41 rfl (by kernel_rfl)) rfl ?_
    rw [HN.out.1, HN.out.2]
    exact ⟨_, [], rfl, ⟨none, 0, 0, none, 0, 0, none, 0, 0, [], [], [], rfl, ⟨rfl, .inl ⟨rfl, rfl⟩⟩, ⟨rfl, .inl ⟨rfl, rfl⟩⟩, ⟨rfl, .inl ⟨rfl, rfl⟩⟩, rfl⟩, Own.nil, below_setRow HWX.out.2 (by omega) _⟩
  have ES : Hid (s.ok = true) := es
  cases et : t.ok
  · have HN : Hid (s.mergeR t = Sk.zero ∧ (s.ok && t.ok) = false) := ⟨by unfold Sk.mergeR; rw [es, et]; rfl, by rw [es, et]; rfl⟩
    clear es et
    go_wp2_with (first | go_skip | (with_reducible refine stopLoad 41 rfl ?_) | (with_reducible refine stopStore 41 rfl ?_) | (with_reducible refine stopLoad 66 rfl ?_) | (with_reducible refine stopStore 66 rfl ?_))
    refine store_known 41 (w.heap.size + 1 + 1) _ #[.int .i64 0, .int .i64 0, .int .i64 0, .int .i64 0, .slice none 0 0, .slice none 0 0, .slice none 0 0] 41 HWX.out.1 rfl rfl rfl rfl (by kernel_rfl) rfl (by kernel_rfl) ?_
    go_wp2
    refine bodyPost_ret (results_row_tmp Try.results27 _ _ (w.heap.size + 1 + 1) _ _ _ _ rfl HWX.out.1.setRow Try.underlying41 rfl (by kernel_rfl)) rfl ?_
    rw [HN.out.1, HN.out.2]
    exact ⟨_, [], rfl, ⟨none, 0, 0, none, 0, 0, none, 0, 0, [], [], [], rfl, ⟨rfl, .inl ⟨rfl, rfl⟩⟩, ⟨rfl, .inl ⟨rfl, rfl⟩⟩, ⟨rfl, .inl ⟨rfl, rfl⟩⟩, rfl⟩, Own.nil, below_setRow HWX.out.2 (by omega) _⟩
  have ET : Hid (t.ok = true) := et
  clear es et
  have EY : Hid (ys = s.tl ∧ zs = t.tl) := ⟨HX.out.2.2 ES.out, HX2.out.2.2 ET.out⟩
  go_wp2_with (first | go_skip | (with_reducible refine stopLoad 41 rfl ?_) | (with_reducible refine stopStore 41 rfl ?_) | (with_reducible refine stopLoad 66 rfl ?_) | (with_reducible refine stopStore 66 rfl ?_))
  refine load_known 66 w1.heap.size (tc ys) 66 _ HW4.out.2.2.1 rfl rfl rfl Try.underlying66 rfl (tallySize HX.out.1) ?_
  go_wp2_with (first | go_skip | (with_reducible refine stopLoad 41 rfl ?_) | (with_reducible refine stopStore 41 rfl ?_) | (with_reducible refine stopLoad 66 rfl ?_) | (with_reducible refine stopStore 66 rfl ?_))
  refine load_known 66 w3.heap.size (tc zs) 66 _ HW4.out.2.2.2 rfl rfl rfl Try.underlying66 rfl (tallySize HX2.out.1) ?_
  go_wp2_with fail
  refine (plus_any ys zs _ HX.out.1 HX2.out.1).mono ?_
  rintro e w5 ⟨rfl, b5⟩
  have HW5 : Hid (Blk w5 (w.heap.size + 1 + 1) #[.int .i64 0, .int .i64 0, .int .i64 0, .int .i64 0, .slice none 0 0, .slice none 0 0, .slice none 0 0] 41 ∧ Below w.heap.size w w5) := ⟨HW4.out.1.below b5, Below.next HW4.out.2.1 b5⟩
  clear b5
  go_wp2_with fail
  refine (sketch_any (plusL ys zs 28) _ (plusL_length _ _ _)).mono ?_
  rintro e w6 ⟨v6, F6, rfl, r6, o6, b6⟩
  have eM : skOf (plusL ys zs 28) = s.mergeR t := by
    rw [EY.out.1, EY.out.2, merge_tl ES.out ET.out]
    unfold Sk.mergeR; rw [ES.out, ET.out]; rfl
  rw [eM] at r6
  obtain ⟨fs, rfl, hf7, hf1⟩ := r6.cells
  have HW6 : Hid (Blk w6 (w.heap.size + 1 + 1) #[.int .i64 0, .int .i64 0, .int .i64 0, .int .i64 0, .slice none 0 0, .slice none 0 0, .slice none 0 0] 41 ∧ Below w.heap.size w w6 ∧ RdSk w6 (.agg fs) (s.mergeR t) F6 ∧ Own w5.heap.size w6 F6 ∧ fs.size = 7 ∧ fs.all (·.oneCell') = true ∧ w.heap.size + 1 + 1 < w5.heap.size) := ⟨HW5.out.1.below b6, Below.next HW5.out.2 b6, r6, o6, hf7, hf1, HW5.out.1.lt⟩
  clear r6 o6 b6 hf7 hf1 eM
  go_wp2_with (first | go_skip | (with_reducible refine stopLoad 41 rfl ?_) | (with_reducible refine stopStore 41 rfl ?_) | (with_reducible refine stopLoad 66 rfl ?_) | (with_reducible refine stopStore 66 rfl ?_))
  refine store_known 41 (w.heap.size + 1 + 1) _ fs 41 HW6.out.1 rfl rfl rfl rfl (skSize HW6.out.2.2.2.2.1) HW6.out.2.2.2.2.1.symm HW6.out.2.2.2.2.2.1 ?_
  go_wp2
  refine bodyPost_ret (results_row_tmp Try.results27 _ _ (w.heap.size + 1 + 1) _ _ _ _ rfl HW6.out.1.setRow Try.underlying41 rfl (skSize HW6.out.2.2.2.2.1)) rfl ?_
  have nr : w.heap.size + 1 + 1 ∉ F6 := fun hx => by have := HW6.out.2.2.2.1.ge _ hx; have := HW6.out.2.2.2.2.2.2; omega
  have ag : Agree w6 (w6.setRow (w.heap.size + 1 + 1) fs) F6 := fun b hb => setRow_other w6 _ b _ (fun e => nr (e ▸ hb))
  exact ⟨_, F6, by rw [ES.out, ET.out]; rfl, HW6.out.2.2.1.agree ag, (HW6.out.2.2.2.1.agree ag).mono (by have := HW6.out.2.2.2.2.2.2; omega), below_setRow HW6.out.2.1 (by omega) _⟩
end Go.Proofs.Ytlapdamopclojaa
