/- Several texts of mine, laid together. No statement of the seat is proved here. -/
import Derived.Test.YtbmbmnhamogghabTallyMath
import Derived.Test.YtbmbmnhamogghabTallyP
import Derived.Test.YtbmbmnhamogghabTallyS
import Derived.Test.YtbmbmnhamogghabSkLaw
import Derived.Test.YtbmbmnhamogghabB3
import Derived.Test.YtbmbmnhamogghabB1
import Derived.Test.YtbmbmnhamogghabItModel
import Derived.Test.YtbmbmnhamogghabSkOk
import Derived.Test.YtbmbmnhamogghabItHelp2
import Derived.Maps.AppendAt
import Derived.BigRegion
import Derived.Deep.RegionHeld3
import Derived.Laws.StructEq
import Derived.Test.YtbmbmnhamogghabTallyB
import Derived.Test.YtbmbmnhamogghabTallyC
/- The walk through the program's Merge: what it answers is what the model's answers. No statement of the seat is proved here. -/
namespace Go.Proofs.Ytbmbmnhamogghab
open Go.RowKit
theorem Sk.ok_facts {s : Sk} (h : s.ok = true) : 0 ≤ s.min ∧ s.min ≤ s.max ∧ (s.count = 0 → s.max = 0) := by
  unfold Sk.ok okHead okZero at h
  simp only [Bool.and_eq_true, decide_eq_true_eq, Bool.or_eq_true, Bool.not_eq_true', decide_eq_false_iff_not] at h
  obtain ⟨⟨h1, h2⟩, _⟩ := h
  refine ⟨h1.1.1.1.2.1, h1.1.2, fun e => ?_⟩
  rcases h2 with h2 | h2
  · exact absurd e h2
  · exact h2.2
theorem merge_tl {s t : Sk} (hs : s.ok = true) (ht : t.ok = true) : skOf (plusL s.tl t.tl 28) = s.merge t := by
  obtain ⟨f1, f2, f3⟩ := Sk.ok_facts hs
  obtain ⟨g1, g2, g3⟩ := Sk.ok_facts ht
  obtain ⟨h0, h1, h2, h3, h4, h5, h6, h7, r0, r1, r2, r3, r4, r5, r6, r7, p0, p1, p2, p3, q0, q1, q2, q3, e⟩ := Sk.written (Sk.ok_shaped hs)
  obtain ⟨k0, k1, k2, k3, k4, k5, k6, k7, m0, m1, m2, m3, m4, m5, m6, m7, n0, n1, n2, n3, o0, o1, o2, o3, e'⟩ := Sk.written (Sk.ok_shaped ht)
  clear hs ht
  generalize s.count = c at e f1 f2 f3
  generalize s.sum = sm at e
  generalize s.min = mn at e f1 f2 f3
  generalize s.max = mx at e f1 f2 f3
  generalize t.count = c' at e' g1 g2 g3
  generalize t.sum = sm' at e'
  generalize t.min = mn' at e' g1 g2 g3
  generalize t.max = mx' at e' g1 g2 g3
  subst e e'
  refine Sk.eq_of rfl rfl ?_ ?_ rfl rfl rfl
  · show (if c = 0 then (mn', mx') else if c' = 0 then (mn, mx) else (min mn mn', max mx mx')).1 = if c' = 0 then mn else if c = 0 then mn' else Min.min mn mn'
    by_cases a : c = 0
    · rw [if_pos a]
      by_cases b : c' = 0
      · rw [if_pos b]
        have := f3 a; have := g3 b
        show mn' = mn
        omega
      · rw [if_neg b, if_pos a]
    · rw [if_neg a]
      by_cases b : c' = 0
      · rw [if_pos b, if_pos b]
      · rw [if_neg b, if_neg b, if_neg a]
  · show (if c = 0 then (mn', mx') else if c' = 0 then (mn, mx) else (min mn mn', max mx mx')).2 = Max.max mx mx'
    by_cases a : c = 0
    · rw [if_pos a]
      have := f3 a
      show mx' = _
      omega
    · rw [if_neg a]
      by_cases b : c' = 0
      · rw [if_pos b]
        have := g3 b
        show mx = _
        omega
      · rw [if_neg b]
theorem mergeR_cases (s t : Sk) : s.mergeR t = Sk.zero ∨ ((s.mergeR t).hist.length = 8 ∧ (s.mergeR t).regs.length = 8 ∧ ∃ x y, (s.mergeR t).rows = [x, y] ∧ x.length = 4 ∧ y.length = 4) := by
  cases hs : s.ok
  · exact .inl (by unfold Sk.mergeR; rw [hs]; rfl)
  · cases ht : t.ok
    · exact .inl (by unfold Sk.mergeR; rw [hs, ht]; rfl)
    · right
      obtain ⟨a1, a2, x, y, a3, a4, a5⟩ := Sk.shaped_parts (Sk.ok_shaped hs)
      obtain ⟨b1, b2, z, u, b3, b4, b5⟩ := Sk.shaped_parts (Sk.ok_shaped ht)
      have e : s.mergeR t = s.merge t := by unfold Sk.mergeR; rw [hs, ht]; rfl
      rw [e]
      refine ⟨by simp [Sk.merge, sumL, a1, b1], by simp [Sk.merge, maxL, a2, b2], sumL x z, sumL y u, by simp [Sk.merge, a3, b3], by simp [sumL, a4, b4], by simp [sumL, a5, b5]⟩
theorem mergeR_wide {s t : Sk} (_h : s.fits) (_k : t.fits) : (s.mergeR t).wide := by
  rcases mergeR_cases s t with e | ⟨e1, e2, x, y, e3, e4, e5⟩
  · rw [e]; exact ⟨by simp [Sk.zero], by simp [Sk.zero], by simp [Sk.zero], by simp [Sk.zero]⟩
  · refine ⟨by omega, by omega, by rw [e3]; simp, fun z hz => ?_⟩
    rw [e3] at hz
    simp at hz
    rcases hz with rfl | rfl <;> omega
theorem mergeR_many {s t : Sk} (_h : s.fits) (_k : t.fits) : 0 ≤ (s.mergeR t).many ∧ (s.mergeR t).many ≤ 1048576 := by
  rcases mergeR_cases s t with e | ⟨e1, e2, x, y, e3, e4, e5⟩
  · rw [e]; simp [Sk.many, Sk.zero, sumLen]
  · unfold Sk.many sumLen
    rw [e1, e2, e3]
    simp [e4, e5]
end Go.Proofs.Ytbmbmnhamogghab
/- Merging of summaries that are right: it commutes, it associates, it keeps them right; with nothing it changes nothing. No statement of the seat is proved here. -/
namespace Go.Proofs.Ytbmbmnhamogghab
open Go.RowKit
theorem new_ok : Sk.new.ok = true := by decide
theorem okN_iff (m : Int) (z : Bool) (x : Int) : okN m z x = true ↔ (0 ≤ x ∧ x ≤ m) ∧ (z = true → x = 0) := by
  unfold okN; cases z <;> simp
set_option maxHeartbeats 4000000 in
theorem merge_comm {s t : Sk} (hs : s.ok = true) (ht : t.ok = true) : s.merge t = t.merge s := by
  obtain ⟨f1, f2, f3⟩ := Sk.ok_facts hs
  obtain ⟨g1, g2, g3⟩ := Sk.ok_facts ht
  refine Sk.eq_of (addN_comm _ _) (addN_comm _ _) ?_ (Int.max_comm _ _) ?_ ?_ ?_
  · show (if t.count = 0 then s.min else if s.count = 0 then t.min else Min.min s.min t.min) = (if s.count = 0 then t.min else if t.count = 0 then s.min else Min.min t.min s.min)
    by_cases a : s.count = 0
    · by_cases b : t.count = 0
      · rw [if_pos a, if_pos b]; have := f3 a; have := g3 b; omega
      · rw [if_neg b, if_pos a, if_pos a]
    · by_cases b : t.count = 0
      · rw [if_pos b, if_neg a, if_pos b]
      · rw [if_neg b, if_neg a, if_neg a, if_neg b]; omega
  · show sumL _ _ = sumL _ _
    unfold sumL; exact List.zipWith_comm_of_comm addN_comm
  · show maxL _ _ = maxL _ _
    unfold maxL; exact List.zipWith_comm_of_comm Int.max_comm
  · show [sumL _ _, sumL _ _] = [sumL _ _, sumL _ _]
    unfold sumL; rw [List.zipWith_comm_of_comm addN_comm, List.zipWith_comm_of_comm (l' := t.rows.getD 1 []) addN_comm]
theorem zip_assoc (f : Int → Int → Int) (hf : ∀ a b c, f (f a b) c = f a (f b c)) : ∀ xs ys zs : List Int, List.zipWith f (List.zipWith f xs ys) zs = List.zipWith f xs (List.zipWith f ys zs)
  | [], _, _ => by simp
  | _ :: _, [], _ => by simp
  | _ :: _, _ :: _, [] => by simp
  | x :: xs, y :: ys, z :: zs => by simp [hf, zip_assoc f hf xs ys zs]
theorem all_sum : ∀ xs ys : List Int, (sumL xs ys).all (okN 1000000000 false) = true
  | [], _ => by simp [sumL]
  | _ :: _, [] => by simp [sumL]
  | x :: xs, y :: ys => by
    have := all_sum xs ys
    have h := addN_range x y
    simp only [sumL] at this
    simp [sumL, this, okN, h]
theorem all_max : ∀ xs ys : List Int, xs.all (okN 17 false) = true → ys.all (okN 17 false) = true → (maxL xs ys).all (okN 17 false) = true
  | [], _, _, _ => by simp [maxL]
  | _ :: _, [], _, _ => by simp [maxL]
  | x :: xs, y :: ys, hx, hy => by
    simp only [List.all_cons, Bool.and_eq_true] at hx hy
    have := all_max xs ys hx.2 hy.2
    have h1 := (okN_iff 17 false x).1 hx.1
    have h2 := (okN_iff 17 false y).1 hy.1
    simp only [maxL] at this
    simp only [maxL, List.zipWith_cons_cons, List.all_cons, Bool.and_eq_true]
    exact ⟨(okN_iff _ _ _).2 ⟨by omega, by simp⟩, this⟩
theorem all_weak {l : List Int} {m : Int} {z : Bool} (h : l.all (okN m z) = true) : l.all (okN m false) = true := by
  rw [List.all_eq_true] at h ⊢
  intro x hx
  exact (okN_iff _ _ _).2 ⟨((okN_iff _ _ _).1 (h x hx)).1, by simp⟩
theorem okL_parts {l : List Int} {n : Nat} {m : Int} {z : Bool} (h : okL l n m z = true) : l.length = n ∧ l.all (okN m z) = true := by
  unfold okL at h; simpa only [Bool.and_eq_true, decide_eq_true_eq] using h
theorem all_zero : ∀ {l : List Int} {m : Int}, l.all (okN m true) = true → l = List.replicate l.length 0
  | [], _, _ => rfl
  | x :: l, m, h => by
    simp only [List.all_cons, Bool.and_eq_true] at h
    have h1 := ((okN_iff _ _ _).1 h.1).2 rfl
    have h2 := all_zero h.2
    rw [h1, List.length_cons, List.replicate_succ, ← h2]
theorem Sk.ok_parts {s : Sk} (h : s.ok = true) : (0 ≤ s.count ∧ s.count ≤ 1000000000) ∧ (0 ≤ s.sum ∧ s.sum ≤ 1000000000) ∧ (0 ≤ s.min ∧ s.min ≤ 1000000) ∧ (0 ≤ s.max ∧ s.max ≤ 1000000) ∧ s.min ≤ s.max ∧ (s.count = 0 → s.sum = 0 ∧ s.max = 0) ∧
    okL s.hist 8 1000000000 (decide (s.count = 0)) = true ∧ okL s.regs 8 17 (decide (s.count = 0)) = true ∧ okL (s.rows.getD 0 []) 4 1000000000 (decide (s.count = 0)) = true ∧ okL (s.rows.getD 1 []) 4 1000000000 (decide (s.count = 0)) = true ∧ s.rows.length = 2 := by
  unfold Sk.ok okHead okZero okLists at h
  simp only [Bool.and_eq_true, decide_eq_true_eq, Bool.or_eq_true, Bool.not_eq_true', decide_eq_false_iff_not] at h
  obtain ⟨⟨⟨⟨⟨⟨⟨h1, h2⟩, h3⟩, h4⟩, h5⟩, h6⟩, h7⟩, ⟨⟨⟨h8, h9⟩, h10⟩, h11⟩⟩ := h
  exact ⟨h1, h2, h3, h4, h5, fun e => by rcases h7 with h7 | h7; exact absurd e h7; exact h7, h8, h9, h10, h11, h6⟩
theorem Sk.ok_of {s : Sk} (h1 : 0 ≤ s.count ∧ s.count ≤ 1000000000) (h2 : 0 ≤ s.sum ∧ s.sum ≤ 1000000000) (h3 : 0 ≤ s.min ∧ s.min ≤ 1000000) (h4 : 0 ≤ s.max ∧ s.max ≤ 1000000) (h5 : s.min ≤ s.max) (h7 : s.count ≠ 0)
    (h8 : s.hist.length = 8 ∧ s.hist.all (okN 1000000000 false) = true) (h9 : s.regs.length = 8 ∧ s.regs.all (okN 17 false) = true) (h10 : (s.rows.getD 0 []).length = 4 ∧ (s.rows.getD 0 []).all (okN 1000000000 false) = true) (h11 : (s.rows.getD 1 []).length = 4 ∧ (s.rows.getD 1 []).all (okN 1000000000 false) = true) (h6 : s.rows.length = 2) : s.ok = true := by
  unfold Sk.ok okHead okZero okLists okL
  rw [dec_false h7, dec_true h1, dec_true h2, dec_true h3, dec_true h4, dec_true h5, dec_true h6, dec_true h8.1, dec_true h9.1, dec_true h10.1, dec_true h11.1, h8.2, h9.2, h10.2, h11.2]
  rfl
theorem ok_zero {s : Sk} (h : s.ok = true) (hc : s.count = 0) : s = Sk.new := by
  obtain ⟨_, _, h3, _, h5, h6, h8, h9, h10, h11, h12⟩ := Sk.ok_parts h
  obtain ⟨e1, e2⟩ := h6 hc
  rw [dec_true hc] at h8 h9 h10 h11
  obtain ⟨l8, z8⟩ := okL_parts h8
  obtain ⟨l9, z9⟩ := okL_parts h9
  obtain ⟨l10, z10⟩ := okL_parts h10
  obtain ⟨l11, z11⟩ := okL_parts h11
  have y8 := all_zero z8; have y9 := all_zero z9; have y10 := all_zero z10; have y11 := all_zero z11
  rw [l8] at y8; rw [l9] at y9; rw [l10] at y10; rw [l11] at y11
  refine Sk.eq_of hc e1 (show s.min = 0 by omega) e2 y8 y9 ?_
  match e : s.rows, h12 with
  | [x, y], _ =>
    rw [e] at y10 y11
    simp at y10 y11
    rw [y10, y11]; rfl
theorem merge_count {s t : Sk} (hs : s.ok = true) (ht : t.ok = true) (h : ¬ (s.count = 0 ∧ t.count = 0)) : addN s.count t.count ≠ 0 := by
  have h1 := (Sk.ok_parts hs).1
  have h2 := (Sk.ok_parts ht).1
  have e1 := clip_id s.count 1000000000 h1.1 h1.2
  have e2 := clip_id t.count 1000000000 h2.1 h2.2
  unfold addN
  rw [e1, e2]
  split <;> omega
theorem merge_new_new : Sk.new.merge Sk.new = Sk.new := by decide
theorem merge_ok {s t : Sk} (hs : s.ok = true) (ht : t.ok = true) : (s.merge t).ok = true := by
  by_cases z : s.count = 0 ∧ t.count = 0
  · rw [ok_zero hs z.1, ok_zero ht z.2, merge_new_new]; exact new_ok
  · have hc := merge_count hs ht z
    obtain ⟨a1, a2, a3, a4, a5, a6, a8, a9, a10, a11, a12⟩ := Sk.ok_parts hs
    obtain ⟨b1, b2, b3, b4, b5, b6, b8, b9, b10, b11, b12⟩ := Sk.ok_parts ht
    obtain ⟨l8, z8⟩ := okL_parts a8; obtain ⟨l9, z9⟩ := okL_parts a9; obtain ⟨l10, z10⟩ := okL_parts a10; obtain ⟨l11, z11⟩ := okL_parts a11
    obtain ⟨m8, y8⟩ := okL_parts b8; obtain ⟨m9, y9⟩ := okL_parts b9; obtain ⟨m10, y10⟩ := okL_parts b10; obtain ⟨m11, y11⟩ := okL_parts b11
    refine Sk.ok_of (addN_range _ _) (addN_range _ _) ?_ ?_ ?_ hc ⟨by show (sumL _ _).length = 8; exact sumL_length _ _ 8 l8 m8, all_sum _ _⟩ ⟨by show (maxL _ _).length = 8; simp [maxL, l9, m9], all_max _ _ (all_weak z9) (all_weak y9)⟩ ⟨by show (sumL _ _).length = 4; exact sumL_length _ _ 4 l10 m10, all_sum _ _⟩ ⟨by show (sumL _ _).length = 4; exact sumL_length _ _ 4 l11 m11, all_sum _ _⟩ rfl
    · show 0 ≤ (if t.count = 0 then s.min else if s.count = 0 then t.min else Min.min s.min t.min) ∧ (if t.count = 0 then s.min else if s.count = 0 then t.min else Min.min s.min t.min) ≤ 1000000
      split
      · omega
      · split <;> omega
    · show 0 ≤ Max.max s.max t.max ∧ Max.max s.max t.max ≤ 1000000
      omega
    · show (if t.count = 0 then s.min else if s.count = 0 then t.min else Min.min s.min t.min) ≤ Max.max s.max t.max
      split
      · omega
      · split <;> omega
theorem merge_zero_right {s : Sk} (hs : s.ok = true) : s.merge Sk.new = s := by
  by_cases z : s.count = 0
  · rw [ok_zero hs z]; exact merge_new_new
  · obtain ⟨a1, a2, a3, a4, a5, a6, a8, a9, a10, a11, a12⟩ := Sk.ok_parts hs
    obtain ⟨h0, h1, h2, h3, h4, h5, h6, h7, r0, r1, r2, r3, r4, r5, r6, r7, p0, p1, p2, p3, q0, q1, q2, q3, e⟩ := Sk.written (Sk.ok_shaped hs)
    have w8 := all_weak (okL_parts a8).2; have w9 := all_weak (okL_parts a9).2; have w10 := all_weak (okL_parts a10).2; have w11 := all_weak (okL_parts a11).2
    have id0 : ∀ x : Int, 0 ≤ x → x ≤ 1000000000 → addN x 0 = x := fun x h1 h2 => by
      have e1 := clip_id x 1000000000 h1 h2
      have e2 := clip_id 0 1000000000 (by omega) (by omega)
      unfold addN; rw [e1, e2]; split <;> omega
    have idL : ∀ l : List Int, l.all (okN 1000000000 false) = true → ∀ n, n = l.length → sumL l (List.replicate n 0) = l := by
      intro l
      induction l with
      | nil => intro _ n hn; subst hn; rfl
      | cons x l ih =>
        intro h n hn
        subst hn
        simp only [List.all_cons, Bool.and_eq_true] at h
        have b := ((okN_iff _ _ _).1 h.1).1
        have := ih h.2 l.length rfl
        simp only [sumL] at this
        simp [sumL, List.replicate_succ, id0 x b.1 b.2, this]
    have idM : ∀ l : List Int, l.all (okN 17 false) = true → ∀ n, n = l.length → maxL l (List.replicate n 0) = l := by
      intro l
      induction l with
      | nil => intro _ n hn; subst hn; rfl
      | cons x l ih =>
        intro h n hn
        subst hn
        simp only [List.all_cons, Bool.and_eq_true] at h
        have b := ((okN_iff _ _ _).1 h.1).1
        have := ih h.2 l.length rfl
        simp only [maxL] at this
        simp [maxL, List.replicate_succ, this]
        omega
    refine Sk.eq_of (id0 _ a1.1 a1.2) (id0 _ a2.1 a2.2) rfl (show Max.max s.max 0 = s.max by omega) (idL s.hist w8 8 (okL_parts a8).1.symm) (idM s.regs w9 8 (okL_parts a9).1.symm) ?_
    show [sumL (s.rows.getD 0 []) [0, 0, 0, 0], sumL (s.rows.getD 1 []) [0, 0, 0, 0]] = s.rows
    have v0 := idL _ w10 4 (okL_parts a10).1.symm
    have v1 := idL _ w11 4 (okL_parts a11).1.symm
    rw [show ([0, 0, 0, 0] : List Int) = List.replicate 4 0 from rfl, v0, v1]
    match e' : s.rows, a12 with
    | [x, y], _ => simp
theorem merge_assoc {s t u : Sk} (hs : s.ok = true) (ht : t.ok = true) (hu : u.ok = true) : (s.merge t).merge u = s.merge (t.merge u) := by
  by_cases zs : s.count = 0
  · rw [ok_zero hs zs, merge_comm new_ok ht, merge_zero_right ht, merge_comm new_ok (merge_ok ht hu), merge_zero_right (merge_ok ht hu)]
  by_cases zt : t.count = 0
  · rw [ok_zero ht zt, merge_zero_right hs, merge_comm new_ok hu, merge_zero_right hu]
  by_cases zu : u.count = 0
  · rw [ok_zero hu zu, merge_zero_right (merge_ok hs ht), merge_zero_right ht]
  have c1 := merge_count hs ht (fun h => zs h.1)
  have c2 := merge_count ht hu (fun h => zt h.1)
  refine Sk.eq_of (addN_assoc _ _ _) (addN_assoc _ _ _) ?_ (Int.max_assoc _ _ _) (zip_assoc _ addN_assoc _ _ _) (zip_assoc _ (fun a b c => Int.max_assoc a b c) _ _ _) ?_
  · show (if u.count = 0 then (if t.count = 0 then s.min else if s.count = 0 then t.min else Min.min s.min t.min) else if addN s.count t.count = 0 then u.min else Min.min (if t.count = 0 then s.min else if s.count = 0 then t.min else Min.min s.min t.min) u.min) = (if addN t.count u.count = 0 then s.min else if s.count = 0 then (if u.count = 0 then t.min else if t.count = 0 then u.min else Min.min t.min u.min) else Min.min s.min (if u.count = 0 then t.min else if t.count = 0 then u.min else Min.min t.min u.min))
    rw [if_neg zu, if_neg c1, if_neg zt, if_neg zs, if_neg c2, if_neg zs, if_neg zu, if_neg zt]
    omega
  · show [sumL (sumL _ _) _, sumL (sumL _ _) _] = [sumL _ (sumL _ _), sumL _ (sumL _ _)]
    unfold sumL
    rw [zip_assoc _ addN_assoc, zip_assoc _ addN_assoc]
end Go.Proofs.Ytbmbmnhamogghab
/- A set in memory of the law's own: between which blocks it lies; what a marking of another one leaves. No statement of the seat is proved here. -/
namespace Go.Proofs.Ytbmbmnhamogghab
open Go.RowKit
structure VP (W : World) (lo hi : Nat) (a : Option Addr) (len : Nat) (zs : List Int) (F : List Nat) : Prop where
  rd : RdI W a (2 * len) zs F
  own : Own lo W F
  lt : ∀ b ∈ F, b < hi
theorem VP.below {W W' : World} {lo hi : Nat} {a : Option Addr} {len : Nat} {zs : List Int} {F : List Nat} (h : VP W lo hi a len zs F) (b : Below W.heap.size W W') : VP W' lo hi a len zs F := ⟨h.rd.below b, h.own.below h.rd.lt b, h.lt⟩
theorem VP.of {W W' : World} {a : Option Addr} {len : Nat} {ps : Sp} {F : List Nat} (r : RdP W' a len ps F) (o : Own W.heap.size W' F) : VP W' W.heap.size W'.heap.size a len (flat ps) F := ⟨r.rd, o, r.lt⟩
theorem VP.rdp {W : World} {lo hi : Nat} {a : Option Addr} {len : Nat} {ps : Sp} {F : List Nat} (h : VP W lo hi a len (flat ps) F) (hl : ps.length = len) : RdP W a len ps F := ⟨hl, h.rd⟩
theorem VP.mark {W W' : World} {lo hi : Nat} {a : Option Addr} {len : Nat} {zs : List Int} {F : List Nat} {k : Int} (h : VP W lo hi a len zs F) (m : MarkedP lo W a len k F W') : VP W' lo hi a len (marksI k (2 * len)) F := ⟨m.rd, m.own, h.lt⟩
theorem VP.only {W W' : World} {lo hi lo' hi' : Nat} {a a' : Option Addr} {len len' : Nat} {zs zs' : List Int} {F G : List Nat} (h : VP W lo hi a len zs F) (k : VP W lo' hi' a' len' zs' G) (o : Only G W W') (hd : hi ≤ lo' ∨ hi' ≤ lo) : VP W' lo hi a len zs F := by
  have d : ∀ b ∈ F, b ∉ G := fun b hb hg => by have := h.lt b hb; have := h.own.ge b hb; have := k.lt b hg; have := k.own.ge b hg; omega
  exact ⟨h.rd.agree (o.agree h.rd.lt d), h.own.agree (o.agree h.rd.lt d), h.lt⟩
theorem VP.bel {w W W' : World} {lo hi : Nat} {a : Option Addr} {len : Nat} {zs : List Int} {F : List Nat} (h : VP W lo hi a len zs F) (o : Only F W W') (b : Below w.heap.size w W) (hl : w.heap.size ≤ lo) : Below w.heap.size w W' := o.below b b.size (fun x hx => by have := h.own.ge x hx; omega)
theorem Only.size' {F : List Nat} {a b : World} (h : Only F a b) : a.heap.size ≤ b.heap.size := h.size
theorem add_length (ps : Sp) (n : Int) : (ps.add n).1.length ≤ ps.length + 1 := by
  unfold Sp.add
  split
  · exact put_length _ _ _
  · simp
theorem join_length (ps qs : Sp) : (ps.join qs).length ≤ ps.length + qs.length := by
  unfold Sp.join
  split
  · exact joinTo_length _ (Nat.le_refl _)
  · simp
end Go.Proofs.Ytbmbmnhamogghab
/- Entries that are added up: the mathematics. No statement of the seat is proved here. -/
namespace Go.Proofs.Ytbmbmnhamogghab
open Go.RowKit
theorem addOk_parts {x y : En} (h : x.addOk y = true) : x.ok = true ∧ y.ok = true ∧ x.key = y.key ∧ x.window = y.window ∧ x.ids.apart y.ids = true := by
  unfold En.addOk at h
  simp only [Bool.and_eq_true, decide_eq_true_eq] at h
  exact ⟨h.1.1.1.1, h.1.1.1.2, h.1.1.2, h.1.2, h.2⟩
theorem apart_comm (a b : Sp) : a.apart b = b.apart a := by rw [apart_eq, apart_eq, noMeet_comm, Bool.and_comm a.ok b.ok]
theorem addOk_comm (x y : En) : x.addOk y = y.addOk x := by
  unfold En.addOk
  rw [apart_comm, Bool.and_comm x.ok y.ok]
  congr 2
  · congr 1
    exact decide_eq_decide.2 eq_comm
  · exact decide_eq_decide.2 eq_comm
theorem En.ok_place {x : En} (h : x.ok = true) : placeOk x.key x.window = true := by
  unfold En.ok at h
  simp only [Bool.and_eq_true] at h
  exact h.1.1.1
theorem En.add_ids {x y : En} (hx : x.ok = true) (hy : y.ok = true) : (x.add y).ids = x.ids.join y.ids := by
  rw [Sp.join_yes (En.ok_ids hx).1 (En.ok_ids hy).1]
  rfl
theorem addR_comm {x y : En} (h : x.addOk y = true) : x.addR y = y.addR x := by
  obtain ⟨h1, h2, h3, h4, _⟩ := addOk_parts h
  rw [En.addR_yes h, En.addR_yes (by rw [addOk_comm]; exact h)]
  refine En.eq_of h3 h4 ?_ (merge_comm (En.ok_sk h1) (En.ok_sk h2))
  rw [En.add_ids h1 h2, En.add_ids h2 h1]
  exact join_comm (En.ok_ids h1).1 (En.ok_ids h2).1
/-- A set that is right and not empty has some number. -/
theorem some_in {a : Sp} (h : a.ok = true) (hp : 0 < a.length) : ∃ n, a.has n = true := by
  match a, hp with
  | p :: ps, _ =>
    have := ok_iff.1 h
    exact ⟨p.1, by simp [Sp.has, this.1.2.1]⟩
theorem has_pos {a : Sp} {n : Int} (h : a.has n = true) : 0 < a.length := by
  match a, h with
  | p :: ps, _ => simp
theorem addR_ok {x y : En} (h : x.addOk y = true) : (x.addR y).ok = true := by
  obtain ⟨h1, h2, _, _, _⟩ := addOk_parts h
  have i1 := En.ok_ids h1
  have i2 := En.ok_ids h2
  obtain ⟨j1, j2⟩ := join_right i1.1 i2.1
  obtain ⟨n, hn⟩ := some_in i1.1 i1.2
  have hp : 0 < (x.ids.join y.ids).length := has_pos (n := n) (by rw [j2, hn]; rfl)
  rw [En.addR_yes h]
  unfold En.ok
  rw [En.add_ids h1 h2, j1]
  show (placeOk x.key x.window && decide (0 < (x.ids.join y.ids).length) && true && (x.sk.merge y.sk).ok) = true
  rw [En.ok_place h1, merge_ok (En.ok_sk h1) (En.ok_sk h2), decide_eq_true hp]
  rfl
theorem apart_not {a b : Sp} {n : Int} (h1 : a.has n = true) (h2 : b.has n = true) : a.apart b = false := by
  cases e : a.apart b
  · rfl
  · rw [apart_eq] at e
    simp only [Bool.and_eq_true] at e
    have := (noMeet_iff (ok_iff.1 e.1.1) (ok_iff.1 e.1.2)).1 e.2 n
    rw [h1, h2] at this
    cases this
theorem addR_twice {x y : En} (h : x.addOk y = true) : (x.addR y).addOk y = false := by
  obtain ⟨h1, h2, _, _, _⟩ := addOk_parts h
  have i1 := En.ok_ids h1
  have i2 := En.ok_ids h2
  obtain ⟨n, hn⟩ := some_in i2.1 i2.2
  have e : (x.addR y).ids.apart y.ids = false := by
    rw [En.addR_yes h, En.add_ids h1 h2]
    exact apart_not (n := n) (by rw [(join_right i1.1 i2.1).2, hn]; simp) hn
  unfold En.addOk
  rw [e]
  simp
theorem self_not {x : En} (h : x.ok = true) : x.addOk x = false := by
  have i := En.ok_ids h
  obtain ⟨n, hn⟩ := some_in i.1 i.2
  unfold En.addOk
  rw [apart_not hn hn]
  simp
theorem addR_idsize {x y : En} (h : x.addOk y = true) : (x.addR y).ids.size = x.ids.size + y.ids.size := by
  obtain ⟨h1, h2, _, _, h5⟩ := addOk_parts h
  rw [En.addR_yes h, En.add_ids h1 h2]
  exact (join_size (En.ok_ids h1).1 (En.ok_ids h2).1).2.1 h5
theorem cntUp_cons (x : Int) (l : List Int) : cntUp (x :: l) = (if 0 < x then 1 else 0) + cntUp l := by
  unfold cntUp
  by_cases h : 0 < x
  · simp [h]; omega
  · simp [h]
theorem cntUp_zip {f : Int → Int → Int} (hf : ∀ a b, 0 < f a b → 0 < a ∨ 0 < b) : ∀ xs ys : List Int, cntUp (List.zipWith f xs ys) ≤ cntUp xs + cntUp ys
  | [], ys => by have := (cntUp_range ys).1; simp [cntUp]
  | x :: xs, [] => by have := (cntUp_range (x :: xs)).1; simp [cntUp] at this ⊢
  | x :: xs, y :: ys => by
    have ih := cntUp_zip hf xs ys
    have h1 := hf x y
    simp only [List.zipWith_cons_cons]
    rw [cntUp_cons, cntUp_cons, cntUp_cons]
    split <;> split <;> split <;> first | omega | (rename_i h2 h3 h4; rcases h1 h2 with h | h <;> contradiction)
theorem addN_pos (a b : Int) (h : 0 < addN a b) : 0 < a ∨ 0 < b := by
  by_cases ha : 0 < a
  · exact .inl ha
  · by_cases hb : 0 < b
    · exact .inr hb
    · have e1 : clip a 1000000000 = 0 := by unfold clip; split <;> first | omega | (split <;> omega)
      have e2 : clip b 1000000000 = 0 := by unfold clip; split <;> first | omega | (split <;> omega)
      unfold addN at h
      rw [e1, e2] at h
      simp at h
theorem max_pos (a b : Int) (h : 0 < max a b) : 0 < a ∨ 0 < b := by omega
theorem addR_esize {x y : En} (h : x.addOk y = true) : (x.addR y).size ≤ x.size + y.size := by
  obtain ⟨h1, h2, _, _, h5⟩ := addOk_parts h
  rw [En.size_ok h1, En.size_ok h2, En.size_ok (addR_ok h), En.addR_yes h, En.add_ids h1 h2]
  have hl := join_length x.ids y.ids
  have e1 := cntUp_zip addN_pos x.sk.hist y.sk.hist
  have e2 := cntUp_zip max_pos x.sk.regs y.sk.regs
  have e3 := cntUp_zip addN_pos (x.sk.rows.getD 0 []) (y.sk.rows.getD 0 [])
  have e4 := cntUp_zip addN_pos (x.sk.rows.getD 1 []) (y.sk.rows.getD 1 [])
  have d1 : (x.add y).sk.hist = List.zipWith addN x.sk.hist y.sk.hist := rfl
  have d2 : (x.add y).sk.regs = List.zipWith max x.sk.regs y.sk.regs := rfl
  have d3 : (x.add y).sk.rows.getD 0 [] = List.zipWith addN (x.sk.rows.getD 0 []) (y.sk.rows.getD 0 []) := rfl
  have d4 : (x.add y).sk.rows.getD 1 [] = List.zipWith addN (x.sk.rows.getD 1 []) (y.sk.rows.getD 1 []) := rfl
  rw [d1, d2, d3, d4]
  omega
theorem addR_count {x y : En} (h : x.addOk y = true) : x.sk.count ≤ (x.addR y).sk.count := by
  obtain ⟨h1, h2, _, _, _⟩ := addOk_parts h
  rw [En.addR_yes h]
  show x.sk.count ≤ addN x.sk.count y.sk.count
  have p1 := (Sk.ok_parts (En.ok_sk h1)).1
  have p2 := (Sk.ok_parts (En.ok_sk h2)).1
  unfold addN
  rw [clip_id _ _ p1.1 p1.2, clip_id _ _ p2.1 p2.2]
  split <;> omega
theorem cnt_le (f : Int → Bool) : ∀ N : Nat, cnt f N ≤ N
  | 0 => Int.le_refl _
  | k + 1 => by have := cnt_le f k; rw [cnt]; split <;> omega
/-- What all of them come to in numbers that can be added up. -/
theorem size_range {ps : Sp} : 0 ≤ ps.size ∧ ps.size ≤ 10000 := by
  unfold Sp.size
  split
  · rename_i h
    have e := size_cnt h
    unfold Sp.size at e
    rw [if_pos h] at e
    rw [e]
    exact ⟨cnt_nonneg _ _, cnt_le _ _⟩
  · omega
theorem esize_range {x : En} (hl : x.ids.length ≤ 1048576) : 0 ≤ x.size ∧ x.size ≤ 3000000 := by
  cases h : x.ok
  · rw [En.size_not h]; omega
  · rw [En.size_ok h]
    have s := Sk.shaped_parts (Sk.ok_shaped (En.ok_sk h))
    obtain ⟨s1, s2, a, b, s3, s4, s5⟩ := s
    have c1 := cntUp_range x.sk.hist
    have c2 := cntUp_range x.sk.regs
    have c3 := cntUp_range (x.sk.rows.getD 0 [])
    have c4 := cntUp_range (x.sk.rows.getD 1 [])
    rw [s3] at c3 c4 ⊢
    simp at c3 c4
    simp
    omega
theorem addR_len {x y : En} : (x.addR y).ids.length ≤ x.ids.length + y.ids.length := by
  cases h : x.addOk y
  · rw [En.addR_not h]; simp [En.zero]
  · obtain ⟨h1, h2, _, _, _⟩ := addOk_parts h
    rw [En.addR_yes h, En.add_ids h1 h2]
    exact join_length _ _
theorem addR_skwide {x y : En} : (x.addR y).sk.wide := by
  cases h : x.addOk y
  · rw [En.addR_not h]
    exact ⟨by simp [En.zero, Sk.zero], by simp [En.zero, Sk.zero], by simp [En.zero, Sk.zero], by simp [En.zero, Sk.zero]⟩
  · have hs := Sk.ok_shaped (En.ok_sk (addR_ok h))
    obtain ⟨s1, s2, a, b, s3, s4, s5⟩ := Sk.shaped_parts hs
    refine ⟨by omega, by omega, by rw [s3]; simp, fun z hz => ?_⟩
    rw [s3] at hz
    simp at hz
    rcases hz with rfl | rfl <;> omega
end Go.Proofs.Ytbmbmnhamogghab
/- The walks through the program's SketchOk. No statement of the seat is proved here. -/
namespace Go.Proofs.Ytbmbmnhamogghab
open Go.RowKit
set_option maxRecDepth 200000 in
set_option maxHeartbeats 1000000 in
theorem okImpl_any (v : Value) (s : Sk) (F : List Nat) (w : World) (h : RdSk w v s F) (hw : s.wide) :
    Calls Try.prog 47 #[v] w fun e w' => e = .returned (.bool s.ok) ∧ Below w.heap.size w w' := by
  have HH : Hid (RdSk w v s F ∧ s.wide) := ⟨h, hw⟩
  obtain ⟨a1, n1, c1, a2, n2, c2, a3, n3, c3, F1, F2, F3, rfl, h1, h2, h3, _⟩ := h
  clear h1 h2 h3 hw
  have HT : Hid (Below w.heap.size w (w.alloc (.cells #[.int .i64 s.count, .int .i64 s.sum, .int .i64 s.min, .int .i64 s.max, .slice a1 n1 c1, .slice a2 n2 c2, .slice a3 n3 c3] 28))) := (Below.refl _ _).alloc (Nat.le_refl _) _
  go_enter Try.func47, Try.ntmps47
  go_wp2_with fail
  refine (okTally_any _ s F _ (HH.out.1.below HT.out) HH.out.2).mono ?_
  rintro e w1 ⟨xs, ys, rfl, _, hy, hx, _, hb1⟩
  have HB : Hid (ys.length = 28 ∧ okT s xs = s.ok ∧ Below w.heap.size w w1) := ⟨hy, okT_ok hx, Below.next HT.out hb1⟩
  clear hb1 hy hx
  go_wp2_with (with_reducible refine stopStore 56 rfl ?_)
  refine store_fresh 56 w1.heap.size rfl (tc (List.replicate 28 0)) (tc ys) 56 rfl rfl rfl rfl (tallySize HB.out.1) (by rw [tc_size, tc_size, HB.out.1]; rfl) (tc_one _) ?_
  intro W2 _ hb2
  have HB2 : Hid (Below w.heap.size w W2) := Below.next HB.out.2.2 hb2
  clear hb2
  go_wp2
  go_ret
  exact ⟨ret_bool HB.out.2.1, HB2.out⟩
end Go.Proofs.Ytbmbmnhamogghab
/- The walks through the program's SetOk, SetHas and SetSize. No statement of the seat is proved here. -/
namespace Go.Proofs.Ytbmbmnhamogghab
open Go.RowKit
theorem cells_of {w : World} {a : Option Addr} {len : Nat} {ps : Sp} {F : List Nat} (h : RdP w a len ps F) : len = 0 ∨ ∃ b off, a = some ⟨b, off, none⟩ ∧ b < w.heap.size ∧ SpCells w b off len ps := by
  rcases h.cells with ⟨h0, _⟩ | ⟨b, off, hp, e, _, hc⟩
  · exact .inl h0
  · exact .inr ⟨b, off, e, World.block_lt_of_cell? _ _ (hc 0 hp).1, hc⟩
theorem floorAt_succ (ps : Sp) (k : Nat) : floorAt ps (k + 1) = (ps.at k).2 + 2 := by unfold floorAt; rw [if_neg (by omega), show k + 1 - 1 = k by omega]
set_option maxRecDepth 200000 in
set_option maxHeartbeats 2000000 in
theorem setOkImpl_any (a : Option Addr) (len cap : Nat) (ps : Sp) (F : List Nat) (w : World) (h : RdP w a len ps F) (hlen : len ≤ 2097152) :
    Calls Try.prog 32 #[.slice a len cap] w fun e w' => e = .returned (.bool ps.ok) ∧ Below w.heap.size w w' := by
  have HL : Hid (ps.length = len) := h.length
  have HC : Hid (len = 0 ∨ ∃ b off, a = some ⟨b, off, none⟩ ∧ b < w.heap.size ∧ SpCells w b off len ps) := cells_of h
  clear h
  go_enter Try.func32, Try.ntmps32
  go_wp2
  go_loopw [3, 8] (fun q i wr => ∃ (k : Nat) (l : Int), k ≤ len ∧ i = .int .i64 k ∧ q = .int .i64 l ∧ 0 ≤ l ∧ l ≤ 10001 ∧ Hid (Below w.heap.size w wr) ∧ Hid (l = floorAt ps k ∧ ∀ j, j < k → ps.okAt j = true)) (fun _ i _ => len - (intOf i).toNat)
  case atStart => exact ⟨0, 0, by omega, rfl, rfl, by omega, by omega, Below.refl _ _, rfl, fun j hj => by omega⟩
  case round =>
    obtain ⟨k, l, hk, rfl, rfl, l0, l1, HB, HN⟩ := hrel
    by_cases hlt : k < len
    · have hca := HC.out
      rcases hca with h0 | ⟨b, off, rfl, hbw, hc⟩
      · omega
      obtain ⟨x, hx⟩ : ∃ x, x = (ps.at k).1 := ⟨_, rfl⟩
      obtain ⟨y, hy⟩ : ∃ x, x = (ps.at k).2 := ⟨_, rfl⟩
      have e := hc k hlt
      rw [← hx, ← hy] at e
      have d1 : wr.cell? ⟨b, off + k * 2, none⟩ = some (.int .i64 x) := (HB.out.cell (by exact hbw)).trans e.1
      have d2 : wr.cell? ⟨b, off + k * 2 + 1, none⟩ = some (.int .i64 y) := (HB.out.cell (by exact hbw)).trans e.2
      have HX : Hid (x = (ps.at k).1 ∧ y = (ps.at k).2) := ⟨hx, hy⟩
      have HB2 : Hid (Below w.heap.size w (wr.alloc (.cells #[.int .i64 x, .int .i64 y] 68))) := Below.allocW _ HB.out (Nat.le_refl _)
      have HOK : Hid (ps.okAt k = true ↔ l ≤ x ∧ 0 ≤ x ∧ x ≤ y ∧ y ≤ 9999) := by
        have := okAt_iff ps k
        rw [← hx, ← hy] at this
        rw [HN.out.1]
        exact this
      have hI : (k : Int) < (len : Int) := by omega
      have hkl : k < ps.length := by rw [HL.out]; exact hlt
      clear e hx hy hc HB
      by_cases c1 : x < l
      · have c1d : decide (x < l) = true := decT c1
        have HV : Hid (ps.ok = false) := Sp.ok_not hkl (by rw [Bool.eq_false_iff]; exact fun e => by have := HOK.out.1 e; omega)
        go_wp2
        go_ret
        rw [HV.out]
        exact ⟨rfl, HB2.out⟩
      have c1d : decide (x < l) = false := decF c1
      by_cases c2 : y < x
      · have c2d : decide (y < x) = true := decT c2
        have HV : Hid (ps.ok = false) := Sp.ok_not hkl (by rw [Bool.eq_false_iff]; exact fun e => by have := HOK.out.1 e; omega)
        go_wp2
        go_ret
        rw [HV.out]
        exact ⟨rfl, HB2.out⟩
      have c2d : decide (y < x) = false := decF c2
      by_cases c3 : 9999 < y
      · have c3d : decide (9999 < y) = true := decT c3
        have HV : Hid (ps.ok = false) := Sp.ok_not hkl (by rw [Bool.eq_false_iff]; exact fun e => by have := HOK.out.1 e; omega)
        go_wp2
        go_ret
        rw [HV.out]
        exact ⟨rfl, HB2.out⟩
      have c3d : decide (9999 < y) = false := decF c3
      have HN2 : Hid (y + 2 = floorAt ps (k + 1) ∧ ∀ j, j < k + 1 → ps.okAt j = true) := ⟨by rw [floorAt_succ, HX.out.2], all_up HN.out.2 (HOK.out.2 ⟨by omega, by omega, by omega, by omega⟩)⟩
      go_wp2
      go_roundw
      case rel => exact ⟨k + 1, y + 2, by omega, by go_num, by go_num, by omega, by omega, HB2, HN2⟩
      case measure => simp [intOf]; omega
    · obtain rfl : k = len := by omega
      have HV : Hid (ps.ok = true) := Sp.ok_all (fun j hj => HN.out.2 j (by rw [← HL.out]; exact hj))
      go_wp2
      go_ret
      rw [HV.out]
      exact ⟨rfl, HB.out⟩
set_option maxRecDepth 200000 in
set_option maxHeartbeats 2000000 in
theorem hasImpl_any (a : Option Addr) (len cap : Nat) (ps : Sp) (n : Int) (F : List Nat) (w : World) (h : RdP w a len ps F) (hlen : len ≤ 2097152) :
    Calls Try.prog 20 #[.slice a len cap, .int .i64 n] w fun e w' => e = .returned (.bool (ps.has n)) ∧ Below w.heap.size w w' := by
  have HL : Hid (ps.length = len) := h.length
  have HC : Hid (len = 0 ∨ ∃ b off, a = some ⟨b, off, none⟩ ∧ b < w.heap.size ∧ SpCells w b off len ps) := cells_of h
  clear h
  go_enter Try.func20, Try.ntmps20
  go_wp2
  go_loopw [9] (fun i wr => ∃ (k : Nat), k ≤ len ∧ i = .int .i64 k ∧ Hid (Below w.heap.size w wr) ∧ Hid (∀ j, j < k → ¬ ((ps.at j).1 ≤ n ∧ n ≤ (ps.at j).2))) (fun i _ => len - (intOf i).toNat)
  case atStart => exact ⟨0, by omega, rfl, Below.refl _ _, fun j hj => by omega⟩
  case round =>
    obtain ⟨k, hk, rfl, HB, HN⟩ := hrel
    by_cases hlt : k < len
    · have hca := HC.out
      rcases hca with h0 | ⟨b, off, rfl, hbw, hc⟩
      · omega
      obtain ⟨x, hx⟩ : ∃ x, x = (ps.at k).1 := ⟨_, rfl⟩
      obtain ⟨y, hy⟩ : ∃ x, x = (ps.at k).2 := ⟨_, rfl⟩
      have e := hc k hlt
      rw [← hx, ← hy] at e
      have d1 : wr.cell? ⟨b, off + k * 2, none⟩ = some (.int .i64 x) := (HB.out.cell (by exact hbw)).trans e.1
      have d2 : wr.cell? ⟨b, off + k * 2 + 1, none⟩ = some (.int .i64 y) := (HB.out.cell (by exact hbw)).trans e.2
      have HX : Hid (x = (ps.at k).1 ∧ y = (ps.at k).2) := ⟨hx, hy⟩
      have HB2 : Hid (Below w.heap.size w (wr.alloc (.cells #[.int .i64 x, .int .i64 y] 68))) := Below.allocW _ HB.out (Nat.le_refl _)
      have hI : (k : Int) < (len : Int) := by omega
      have hkl : k < ps.length := by rw [HL.out]; exact hlt
      clear e hx hy hc HB
      by_cases hin : x ≤ n ∧ n ≤ y
      · have HV : Hid (ps.has n = true) := Sp.has_at hkl (by rw [← HX.out.1, ← HX.out.2]; exact hin)
        have c1d : decide (x ≤ n) = true := decT hin.1
        have c2d : decide (n ≤ y) = true := decT hin.2
        go_wp2
        go_ret
        rw [HV.out]
        exact ⟨rfl, HB2.out⟩
      have HN2 : Hid (∀ j, j < k + 1 → ¬ ((ps.at j).1 ≤ n ∧ n ≤ (ps.at j).2)) := all_up HN.out (by rw [← HX.out.1, ← HX.out.2]; exact hin)
      by_cases c1 : x ≤ n
      · have c1d : decide (x ≤ n) = true := decT c1
        have c2d : decide (n ≤ y) = false := decF (fun e => hin ⟨c1, e⟩)
        clear hin c1
        go_wp2
        go_roundw
        case rel => exact ⟨k + 1, by omega, by go_num, HB2, HN2⟩
        case measure => simp [intOf]; omega
      · have c1d : decide (x ≤ n) = false := decF c1
        clear hin c1
        go_wp2
        go_roundw
        case rel => exact ⟨k + 1, by omega, by go_num, HB2, HN2⟩
        case measure => simp [intOf]; omega
    · obtain rfl : k = len := by omega
      have HV : Hid (ps.has n = false) := Sp.has_not (fun j hj => HN.out j (by rw [← HL.out]; exact hj))
      go_wp2
      go_ret
      rw [HV.out]
      exact ⟨rfl, HB.out⟩
set_option maxRecDepth 200000 in
set_option maxHeartbeats 2000000 in
theorem sizeImpl_any (a : Option Addr) (len cap : Nat) (ps : Sp) (F : List Nat) (w : World) (h : RdP w a len ps F) (hlen : len ≤ 2097152) :
    Calls Try.prog 11 #[.slice a len cap] w fun e w' => e = .returned (.int .i64 ps.size) ∧ Below w.heap.size w w' := by
  have HL : Hid (ps.length = len) := h.length
  have HR : Hid (RdP w a len ps F) := h
  have HC : Hid (len = 0 ∨ ∃ b off, a = some ⟨b, off, none⟩ ∧ b < w.heap.size ∧ SpCells w b off len ps) := cells_of h
  clear h
  go_enter Try.func11, Try.ntmps11
  go_wp2_with fail
  refine (setOkImpl_any a len cap ps F _ HR.out (by omega)).mono ?_
  rintro e w1 ⟨rfl, hb⟩
  have HB0 : Hid (Below w.heap.size w w1) := hb
  clear hb HR
  obtain ⟨d, hd⟩ : ∃ d, d = ps.ok := ⟨_, rfl⟩
  rw [← hd]
  have HD : Hid (d = ps.ok) := hd
  clear hd
  cases d
  · go_wp2
    go_ret
    rw [Sp.size_not HD.out.symm]
    exact ⟨rfl, HB0.out⟩
  go_wp2
  go_loopw [3, 11] (fun q i wr => ∃ (k : Nat) (u : Int), k ≤ len ∧ i = .int .i64 k ∧ q = .int .i64 u ∧ 0 ≤ u ∧ u ≤ 20971520000 ∧ Hid (Below w.heap.size w wr) ∧ Hid (u = Sp.sum (ps.take k))) (fun _ i _ => len - (intOf i).toNat)
  case atStart => exact ⟨0, 0, by omega, rfl, rfl, by omega, by omega, HB0, rfl⟩
  case round =>
    clear HB0
    obtain ⟨k, u, hk, rfl, rfl, u0, u1, HB, HN⟩ := hrel
    by_cases hlt : k < len
    · have hca := HC.out
      rcases hca with h0 | ⟨b, off, rfl, hbw, hc⟩
      · omega
      obtain ⟨x, hx⟩ : ∃ x, x = (ps.at k).1 := ⟨_, rfl⟩
      obtain ⟨y, hy⟩ : ∃ x, x = (ps.at k).2 := ⟨_, rfl⟩
      have e := hc k hlt
      have hok := (Sp.okAt_parts (Sp.ok_at HD.out.symm k (by rw [HL.out]; exact hlt))).1
      have hst := Sp.sum_step (ps := ps) (k := k) (by rw [HL.out]; exact hlt)
      have hrg := Sp.sum_range HD.out.symm (k + 1) (by rw [HL.out]; exact hlt)
      rw [← hx, ← hy] at e hok hst
      have d1 : wr.cell? ⟨b, off + k * 2, none⟩ = some (.int .i64 x) := (HB.out.cell (by exact hbw)).trans e.1
      have d2 : wr.cell? ⟨b, off + k * 2 + 1, none⟩ = some (.int .i64 y) := (HB.out.cell (by exact hbw)).trans e.2
      have HB2 : Hid (Below w.heap.size w (wr.alloc (.cells #[.int .i64 x, .int .i64 y] 68))) := Below.allocW _ HB.out (Nat.le_refl _)
      have hI : (k : Int) < (len : Int) := by omega
      have x0 : 0 ≤ x := by omega
      have x1 : x ≤ 9999 := by omega
      have y0 : 0 ≤ y := by omega
      have y1 : y ≤ 9999 := by omega
      have HN2 : Hid (u + (y - x + 1) = Sp.sum (ps.take (k + 1)) ∧ 0 ≤ u + (y - x + 1) ∧ u + (y - x + 1) ≤ 20971520000) := by
        have := HN.out
        rw [hst, ← this] at hrg
        exact ⟨by rw [hst, ← this], by omega, by omega⟩
      clear e hx hy hok hst hrg hc HB
      go_wp2
      go_roundw
      case rel => exact ⟨k + 1, u + (y - x + 1), by omega, by go_num, by go_num, HN2.out.2.1, HN2.out.2.2, HB2, HN2.out.1⟩
      case measure => simp [intOf]; omega
    · obtain rfl : k = len := by omega
      have HV : Hid (u = ps.size) := by
        show _ = _
        rw [Sp.size_ok HD.out.symm, HN.out, List.take_of_length_le (by rw [HL.out]; omega)]
      go_wp2
      go_ret
      rw [← HV.out]
      exact ⟨rfl, HB.out⟩
end Go.Proofs.Ytbmbmnhamogghab
/- The walks through the program's IdOf, ItemOk and the reading of an entry. No statement of the seat is proved here. -/
namespace Go.Proofs.Ytbmbmnhamogghab
open Go.RowKit
set_option maxRecDepth 200000 in
theorem isSeq_any (n : Int) (w : World) : Calls Try.prog 43 #[.int .i64 n] w fun e w' => e = .returned (.bool (decide (1 ≤ n ∧ n ≤ 60))) ∧ w' = w := by
  have hd : ∀ d : Bool, d = decide (1 ≤ n ∧ n ≤ 60) → (d = true ↔ 1 ≤ n ∧ n ≤ 60) := by rintro d rfl; simp
  generalize decide (1 ≤ n ∧ n ≤ 60) = d at *
  have hd := hd d rfl
  by_cases h : 1 ≤ n
  · by_cases h2 : n ≤ 60
    · have e : Hid (d = true) := hd.2 ⟨h, h2⟩
      clear hd
      go_enter Try.func43, Try.ntmps43
      go_wp2
      go_ret
      rw [e.out]; exact ⟨rfl, rfl⟩
    · have e : Hid (d = false) := show d = false by cases d; rfl; exact absurd (hd.1 rfl).2 h2
      clear hd
      go_enter Try.func43, Try.ntmps43
      go_wp2
      go_ret
      rw [e.out]; exact ⟨rfl, rfl⟩
  · have e : Hid (d = false) := show d = false by cases d; rfl; exact absurd (hd.1 rfl).1 h
    clear hd
    go_enter Try.func43, Try.ntmps43
    go_wp2
    go_ret
    rw [e.out]; exact ⟨rfl, rfl⟩
set_option maxRecDepth 200000 in
theorem idImpl_any (a s : Int) (w : World) : Calls Try.prog 17 #[.int .i64 a, .int .i64 s] w fun e w' => e = .returned (.int .i64 (idOf a s)) ∧ w' = w := by
  go_enter Try.func17, Try.ntmps17
  go_wp2_with fail
  refine (inRange_any _ _ _).mono ?_
  rintro e w2 ⟨rfl, hw2⟩
  have hw2' := hw2.symm
  subst hw2'
  clear hw2
  by_cases h1 : 0 ≤ a ∧ a ≤ 2
  rotate_left
  · rw [decF h1]
    have HV : Hid (idOf a s = -1) := by show _ = _; unfold idOf; rw [if_neg (fun e => h1 e.1)]
    clear h1
    go_wp2
    go_ret
    rw [HV.out]
    exact ⟨rfl, rfl⟩
  rw [decT h1]
  go_wp2_with fail
  refine (isSeq_any _ _).mono ?_
  rintro e w2 ⟨rfl, hw2⟩
  have hw2' := hw2.symm
  subst hw2'
  clear hw2
  by_cases h2 : 1 ≤ s ∧ s ≤ 60
  rotate_left
  · rw [decF h2]
    have HV : Hid (idOf a s = -1) := by show _ = _; unfold idOf; rw [if_neg (fun e => h2 e.2)]
    clear h1 h2
    go_wp2
    go_ret
    rw [HV.out]
    exact ⟨rfl, rfl⟩
  rw [decT h2]
  have HV : Hid (idOf a s = 100 * a + s) := by show _ = _; unfold idOf; rw [if_pos ⟨h1, h2⟩]
  obtain ⟨a0, a1⟩ := h1
  obtain ⟨s0, s1⟩ := h2
  go_wp2
  go_ret
  rw [HV.out]
  exact ⟨rfl, rfl⟩
set_option maxRecDepth 200000 in
theorem isPlace_any (k p : Int) (w : World) : Calls Try.prog 46 #[.agg #[.int .i64 k, .int .i64 p]] w fun e w' => e = .returned (.bool (placeOk k p)) ∧ Below w.heap.size w w' := by
  have HB : Hid (Below w.heap.size w (w.alloc (.cells #[.int .i64 k, .int .i64 p] 51))) := (Below.refl _ _).alloc (Nat.le_refl _) _
  go_enter Try.func46, Try.ntmps46
  go_wp2_with fail
  refine (inRange_any _ _ _).mono ?_
  rintro e w2 ⟨rfl, hw2⟩
  have hw2' := hw2.symm
  subst hw2'
  clear hw2
  obtain ⟨d1, hd1⟩ : ∃ d, d = decide (0 ≤ k ∧ k ≤ 4) := ⟨_, rfl⟩
  rw [← hd1]
  have HD1 : Hid (d1 = decide (0 ≤ k ∧ k ≤ 4)) := hd1
  clear hd1
  cases d1
  · have HV : Hid (placeOk k p = false) := by show _ = _; unfold placeOk; rw [← HD1.out]; rfl
    go_wp2
    go_ret
    exact ⟨ret_bool HV.out.symm, HB.out⟩
  go_wp2_with fail
  refine (inRange_any _ _ _).mono ?_
  rintro e w2 ⟨rfl, hw2⟩
  have hw2' := hw2.symm
  subst hw2'
  clear hw2
  obtain ⟨d2, hd2⟩ : ∃ d, d = decide (0 ≤ p ∧ p ≤ 20) := ⟨_, rfl⟩
  rw [← hd2]
  have HV : Hid (d2 = placeOk k p) := by show _ = _; unfold placeOk; rw [← HD1.out, ← hd2]; rfl
  clear hd2
  go_wp2
  go_ret
  exact ⟨ret_bool HV.out, HB.out⟩
set_option maxRecDepth 200000 in
set_option maxHeartbeats 2000000 in
theorem itemOkImpl_any (v : Value) (x : It) (F : List Nat) (w : World) (h : RdIt w v x F) (hw : x.sk.wide) :
    Calls Try.prog 19 #[v] w fun e w' => e = .returned (.bool x.ok) ∧ Below w.heap.size w w' := by
  obtain ⟨a1, n1, c1, a2, n2, c2, a3, n3, c3, rfl, hr⟩ := h
  have HR : Hid (RdSk w (.agg #[.int .i64 x.sk.count, .int .i64 x.sk.sum, .int .i64 x.sk.min, .int .i64 x.sk.max, .slice a1 n1 c1, .slice a2 n2 c2, .slice a3 n3 c3]) x.sk F ∧ x.sk.wide) := ⟨hr, hw⟩
  have HB : Hid (Below w.heap.size w (w.alloc (.cells #[.int .i64 x.seq, .int .i64 x.cls, .int .i64 x.key, .int .i64 x.window, .int .i64 x.sk.count, .int .i64 x.sk.sum, .int .i64 x.sk.min, .int .i64 x.sk.max, .slice a1 n1 c1, .slice a2 n2 c2, .slice a3 n3 c3] 40)) ∧ Blk (w.alloc (.cells #[.int .i64 x.seq, .int .i64 x.cls, .int .i64 x.key, .int .i64 x.window, .int .i64 x.sk.count, .int .i64 x.sk.sum, .int .i64 x.sk.min, .int .i64 x.sk.max, .slice a1 n1 c1, .slice a2 n2 c2, .slice a3 n3 c3] 40)) w.heap.size #[.int .i64 x.seq, .int .i64 x.cls, .int .i64 x.key, .int .i64 x.window, .int .i64 x.sk.count, .int .i64 x.sk.sum, .int .i64 x.sk.min, .int .i64 x.sk.max, .slice a1 n1 c1, .slice a2 n2 c2, .slice a3 n3 c3] 40) := ⟨Below.allocW _ (Below.refl _ _) (Nat.le_refl _), Blk.made _ _ _⟩
  clear hr hw
  go_enter Try.func19, Try.ntmps19
  go_wp2_with fail
  refine (isSeq_any _ _).mono ?_
  rintro e w2 ⟨rfl, hw2⟩
  have hw2' := hw2.symm
  subst hw2'
  clear hw2
  obtain ⟨d1, hd1⟩ : ∃ d, d = decide (1 ≤ x.seq ∧ x.seq ≤ 60) := ⟨_, rfl⟩
  rw [← hd1]
  have HD1 : Hid (d1 = decide (1 ≤ x.seq ∧ x.seq ≤ 60)) := hd1
  clear hd1
  cases d1
  · have HV : Hid (x.ok = false) := by show _ = _; unfold It.ok; rw [← HD1.out]; rfl
    go_wp2
    go_ret
    exact ⟨ret_bool HV.out.symm, HB.out.1⟩
  go_wp2_with fail
  refine (inRange_any _ _ _).mono ?_
  rintro e w2 ⟨rfl, hw2⟩
  have hw2' := hw2.symm
  subst hw2'
  clear hw2
  obtain ⟨d2, hd2⟩ : ∃ d, d = decide (0 ≤ x.cls ∧ x.cls ≤ 1) := ⟨_, rfl⟩
  rw [← hd2]
  have HD2 : Hid (d2 = decide (0 ≤ x.cls ∧ x.cls ≤ 1)) := hd2
  clear hd2
  cases d2
  · have HV : Hid (x.ok = false) := by show _ = _; unfold It.ok; rw [← HD1.out, ← HD2.out]; rfl
    go_wp2
    go_ret
    exact ⟨ret_bool HV.out.symm, HB.out.1⟩
  go_wp2_with fail
  refine (isPlace_any _ _ _).mono ?_
  rintro e w2 ⟨rfl, hb2⟩
  have HB2 : Hid (Below w.heap.size w w2 ∧ Blk w2 w.heap.size #[.int .i64 x.seq, .int .i64 x.cls, .int .i64 x.key, .int .i64 x.window, .int .i64 x.sk.count, .int .i64 x.sk.sum, .int .i64 x.sk.min, .int .i64 x.sk.max, .slice a1 n1 c1, .slice a2 n2 c2, .slice a3 n3 c3] 40) := ⟨Below.next HB.out.1 hb2, HB.out.2.below hb2⟩
  clear hb2
  obtain ⟨d3, hd3⟩ : ∃ d, d = placeOk x.key x.window := ⟨_, rfl⟩
  rw [← hd3]
  have HD3 : Hid (d3 = placeOk x.key x.window) := hd3
  clear hd3
  cases d3
  · have HV : Hid (x.ok = false) := by show _ = _; unfold It.ok; rw [← HD1.out, ← HD2.out, ← HD3.out]; rfl
    go_wp2
    go_ret
    exact ⟨ret_bool HV.out.symm, HB2.out.1⟩
  go_wp2_with (first | go_skip | (with_reducible refine stopLoad 28 rfl ?_))
  refine load_cutw 28 w.heap.size 4 7 _ #[.int .i64 x.sk.count, .int .i64 x.sk.sum, .int .i64 x.sk.min, .int .i64 x.sk.max, .slice a1 n1 c1, .slice a2 n2 c2, .slice a3 n3 c3] 40 _ HB2.out.2 rfl rfl rfl Try.underlying28 rfl infoSkI (by simp) rfl ?_
  go_wp2_with fail
  refine (okImpl_any _ x.sk F _ (HR.out.1.below HB2.out.1) HR.out.2).mono ?_
  rintro e w3 ⟨rfl, hb3⟩
  have HB3 : Hid (Below w.heap.size w w3) := Below.next HB2.out.1 hb3
  have HV : Hid (x.ok = x.sk.ok) := by show _ = _; unfold It.ok; rw [← HD1.out, ← HD2.out, ← HD3.out]; rfl
  clear hb3
  obtain ⟨d4, hd4⟩ : ∃ d, d = x.sk.ok := ⟨_, rfl⟩
  rw [← hd4] at HV ⊢
  clear hd4
  go_wp2
  go_ret
  exact ⟨ret_bool HV.out.symm, HB3.out⟩
/-- The cells of an entry as the program holds it. -/
def hc (k p : Int) (a : Option Addr) (l c : Nat) (ys : List Int) : Array Value := (.int .i64 k :: .int .i64 p :: .slice a l c :: ys.map (Value.int .i64)).toArray
theorem hc_size {k p : Int} {a : Option Addr} {l c : Nat} {ys : List Int} (h : ys.length = 28) : (hc k p a l c ys).size = 31 := by
  unfold hc; simp [h]
theorem hc_one (k p : Int) (a : Option Addr) (l c : Nat) (ys : List Int) : (hc k p a l c ys).all (·.oneCell') = true := by
  unfold hc
  simp [Value.oneCell']
section
variable {P : Program} {ops : Array Oper} {Q : Exit → Act → World → Prop} {rest : List Oper} {a : Act} {w : World} {o : Oper}
theorem stopBuild (ty : TypeId) {fs : Array (Nat × Operand)} (_ho : o.op = .build ty fs) (h : Stop (wpList P ops Q (o :: rest) a w)) : wpList P ops Q (o :: rest) a w := h
/-- A value that is put together, by a law of its own. -/
theorem built_any {ty : TypeId} {fs : Array (Nat × Operand)} (v : Value) (hw : Region.wanted o (yielded ops a.tmps) = true) (ho : o.op = .build ty fs) (hr : (Instr.build ty (fs.map fun p => (p.1, a.eval p.2))).run P w = .ok v w) (h : wpList P ops Q rest (a.put o.dst v) w) : Stop (wpList P ops Q (o :: rest) a w) :=
  wpList_step fun K hK => by
    rw [if_pos hw]
    unfold Oper.wp execOp
    simp only [ho]
    simp [hr]
    exact hK _ _ h
end
set_option maxRecDepth 200000 in
theorem build_hold (w : World) (k p : Int) (a : Option Addr) (l c : Nat) (ys : List Int) (h : ys.length = 28) : (Instr.build 58 #[(0, .agg #[.int .i64 k, .int .i64 p]), (1, .slice a l c), (2, .agg (tc ys))]).run Try.prog w = .ok (.agg (hc k p a l c ys)) w := by
  have key : ∀ y0 y1 y2 y3 y4 y5 y6 y7 y8 y9 y10 y11 y12 y13 y14 y15 y16 y17 y18 y19 y20 y21 y22 y23 y24 y25 y26 y27 : Int, (Instr.build 58 #[(0, .agg #[.int .i64 k, .int .i64 p]), (1, .slice a l c), (2, .agg (tc [y0, y1, y2, y3, y4, y5, y6, y7, y8, y9, y10, y11, y12, y13, y14, y15, y16, y17, y18, y19, y20, y21, y22, y23, y24, y25, y26, y27]))]).run Try.prog w = .ok (.agg (hc k p a l c [y0, y1, y2, y3, y4, y5, y6, y7, y8, y9, y10, y11, y12, y13, y14, y15, y16, y17, y18, y19, y20, y21, y22, y23, y24, y25, y26, y27])) w := by
    intro y0 y1 y2 y3 y4 y5 y6 y7 y8 y9 y10 y11 y12 y13 y14 y15 y16 y17 y18 y19 y20 y21 y22 y23 y24 y25 y26 y27
    kernel_rfl
  match ys, h with
  | [y0, y1, y2, y3, y4, y5, y6, y7, y8, y9, y10, y11, y12, y13, y14, y15, y16, y17, y18, y19, y20, y21, y22, y23, y24, y25, y26, y27], _ => exact key y0 y1 y2 y3 y4 y5 y6 y7 y8 y9 y10 y11 y12 y13 y14 y15 y16 y17 y18 y19 y20 y21 y22 y23 y24 y25 y26 y27
theorem holdSize {cs : Array Value} (h : cs.size = 31) : (Try.prog.info? 58).map (·.size) = some cs.size := by rw [h]; kernel_rfl
set_option maxRecDepth 200000 in
set_option maxHeartbeats 4000000 in
theorem okHolding_any (v : Value) (x : En) (F G : List Nat) (w : World) (h : RdEn w v x F G) (hw : x.sk.wide) (hl : x.ids.length ≤ 2097152) :
    Calls Try.prog 23 #[v] w fun e w' => ∃ k p a l c ys, e = .returned (.tuple #[.agg (hc k p a l c ys), .bool x.ok]) ∧ ys.length = 28 ∧ (x.ok = true → k = x.key ∧ p = x.window ∧ ys = x.sk.tl ∧ RdP w a l x.ids F ∧ Capd a l c) ∧ Below w.heap.size w w' := by
  obtain ⟨b, l, c, a1, n1, c1, a2, n2, c2, a3, n3, c3, rfl, hp, hr, hcp⟩ := h
  have HR : Hid (RdSk w (.agg #[.int .i64 x.sk.count, .int .i64 x.sk.sum, .int .i64 x.sk.min, .int .i64 x.sk.max, .slice a1 n1 c1, .slice a2 n2 c2, .slice a3 n3 c3]) x.sk G ∧ x.sk.wide) := ⟨hr, hw⟩
  have HP : Hid (RdP w b l x.ids F ∧ l ≤ 2097152 ∧ x.ids.length = l ∧ Capd b l c) := ⟨hp, by rw [← hp.length]; exact hl, hp.length, hcp⟩
  have hl2 : l ≤ 2097152 := HP.out.2.1
  have Z := two_made w #[.int .i64 x.key, .int .i64 x.window, .slice b l c, .int .i64 x.sk.count, .int .i64 x.sk.sum, .int .i64 x.sk.min, .int .i64 x.sk.max, .slice a1 n1 c1, .slice a2 n2 c2, .slice a3 n3 c3] (hc 0 0 none 0 0 (List.replicate 28 0)) 30 58
  have HZ : Hid (_ ∧ _ ∧ _) := Z
  clear hr hw hp hl Z hcp
  go_enter Try.func23, Try.ntmps23
  go_wp2_with (first | go_skip | (with_reducible refine stopLoad 28 rfl ?_))
  refine load_cutw 28 w.heap.size 3 7 _ #[.int .i64 x.sk.count, .int .i64 x.sk.sum, .int .i64 x.sk.min, .int .i64 x.sk.max, .slice a1 n1 c1, .slice a2 n2 c2, .slice a3 n3 c3] 30 _ HZ.out.1 rfl rfl rfl Try.underlying28 rfl infoSkI (by simp) rfl ?_
  go_wp2_with fail
  refine (okTally_any _ x.sk G _ (HR.out.1.below HZ.out.2.2) HR.out.2).mono ?_
  rintro e w1 ⟨xs, ys, rfl, _, hy, hx, hyx, hb1⟩
  have hok := okT_ok hx
  have HY : Hid (ys.length = 28 ∧ (x.sk.ok = true → ys = x.sk.tl)) := ⟨hy, fun e => by rw [hyx (hok.trans e)]; exact hx (Sk.ok_shaped e)⟩
  have HS1 : Hid (Blk w1 w.heap.size #[.int .i64 x.key, .int .i64 x.window, .slice b l c, .int .i64 x.sk.count, .int .i64 x.sk.sum, .int .i64 x.sk.min, .int .i64 x.sk.max, .slice a1 n1 c1, .slice a2 n2 c2, .slice a3 n3 c3] 30 ∧ Blk w1 (w.heap.size + 1) (hc 0 0 none 0 0 (List.replicate 28 0)) 58 ∧ Below w.heap.size w w1) := ⟨HZ.out.1.below hb1, HZ.out.2.1.below hb1, Below.next HZ.out.2.2 hb1⟩
  rw [hok]
  clear hb1 hy hx hyx hok HZ
  obtain ⟨d, hd⟩ : ∃ d, d = x.sk.ok := ⟨_, rfl⟩
  rw [← hd]
  have HD : Hid (d = x.sk.ok) := hd
  clear hd
  go_wp2_with (first | go_skip | (with_reducible refine stopStore 56 rfl ?_))
  refine store_fresh 56 w1.heap.size rfl (tc (List.replicate 28 0)) (tc ys) 56 rfl rfl rfl rfl (tallySize HY.out.1) (by rw [tc_size, tc_size, HY.out.1]; rfl) (tc_one _) ?_
  intro W2 hg2 hb2
  have HS2 : Hid (Blk W2 w.heap.size #[.int .i64 x.key, .int .i64 x.window, .slice b l c, .int .i64 x.sk.count, .int .i64 x.sk.sum, .int .i64 x.sk.min, .int .i64 x.sk.max, .slice a1 n1 c1, .slice a2 n2 c2, .slice a3 n3 c3] 30 ∧ Blk W2 (w.heap.size + 1) (hc 0 0 none 0 0 (List.replicate 28 0)) 58 ∧ Below w.heap.size w W2) := ⟨HS1.out.1.below hb2, HS1.out.2.1.below hb2, Below.next HS1.out.2.2 hb2⟩
  have HG2 : Hid (Blk W2 w1.heap.size (tc ys) 56) := hg2
  clear hb2 hg2 HS1
  have k0 : W2.cell? ⟨w.heap.size, 0, none⟩ = some (.int .i64 x.key) := by rw [HS2.out.1.cell]; rfl
  have k1 : W2.cell? ⟨w.heap.size, 1, none⟩ = some (.int .i64 x.window) := by rw [HS2.out.1.cell]; rfl
  go_wp2_with (first | go_skip | (with_reducible refine stopStore 51 rfl ?_))
  refine store_fresh 51 W2.heap.size rfl #[.int .i64 0, .int .i64 0] #[.int .i64 x.key, .int .i64 x.window] 51 rfl rfl rfl rfl (by kernel_rfl) rfl (by kernel_rfl) ?_
  intro W3 hg3 hb3
  have HS3 : Hid (Blk W3 w.heap.size #[.int .i64 x.key, .int .i64 x.window, .slice b l c, .int .i64 x.sk.count, .int .i64 x.sk.sum, .int .i64 x.sk.min, .int .i64 x.sk.max, .slice a1 n1 c1, .slice a2 n2 c2, .slice a3 n3 c3] 30 ∧ Blk W3 (w.heap.size + 1) (hc 0 0 none 0 0 (List.replicate 28 0)) 58 ∧ Below w.heap.size w W3) := ⟨HS2.out.1.below hb3, HS2.out.2.1.below hb3, Below.next HS2.out.2.2 hb3⟩
  have HG3 : Hid (Blk W3 w1.heap.size (tc ys) 56 ∧ Blk W3 W2.heap.size #[.int .i64 x.key, .int .i64 x.window] 51) := ⟨HG2.out.below hb3, hg3⟩
  clear hb3 hg3 HS2 HG2 k0 k1
  cases d
  · have HV : Hid (x.ok = false) := by show _ = _; unfold En.ok; rw [← HD.out]; simp
    have HS := HS3
    go_wp2_with (first | go_skip | (with_reducible refine stopStore 58 rfl ?_))
    refine store_known 58 (w.heap.size + 1) _ (hc 0 0 none 0 0 (List.replicate 28 0)) 58 HS.out.2.1 rfl rfl rfl rfl (by kernel_rfl) rfl (by kernel_rfl) ?_
    go_wp2
    refine bodyPost_ret (results_row_tmp Try.results23 _ _ (w.heap.size + 1) _ _ _ _ rfl HS.out.2.1.setRow Try.underlying58 rfl (by kernel_rfl)) rfl ?_
    exact ⟨0, 0, none, 0, 0, List.replicate 28 0, (by rw [HV.out]; rfl), rfl, fun e => (by rw [HV.out] at e; cases e), below_setRow HS.out.2.2 (by omega) _⟩

  go_wp2_with (first | go_skip | (with_reducible refine stopLoad 51 rfl ?_))
  refine load_any 51 W2.heap.size _ 51 _ HG3.out.2 rfl rfl rfl Try.underlying51 rfl (by kernel_rfl) ?_
  go_wp2_with fail
  refine (isPlace_any _ _ _).mono ?_
  rintro e w4 ⟨rfl, hb4⟩
  have HS4 : Hid (Blk w4 w.heap.size #[.int .i64 x.key, .int .i64 x.window, .slice b l c, .int .i64 x.sk.count, .int .i64 x.sk.sum, .int .i64 x.sk.min, .int .i64 x.sk.max, .slice a1 n1 c1, .slice a2 n2 c2, .slice a3 n3 c3] 30 ∧ Blk w4 (w.heap.size + 1) (hc 0 0 none 0 0 (List.replicate 28 0)) 58 ∧ Below w.heap.size w w4) := ⟨HS3.out.1.below hb4, HS3.out.2.1.below hb4, Below.next HS3.out.2.2 hb4⟩
  have HG4 : Hid (Blk w4 w1.heap.size (tc ys) 56 ∧ Blk w4 W2.heap.size #[.int .i64 x.key, .int .i64 x.window] 51) := ⟨HG3.out.1.below hb4, HG3.out.2.below hb4⟩
  clear hb4 HS3 HG3
  obtain ⟨d2, hd2⟩ : ∃ d, d = placeOk x.key x.window := ⟨_, rfl⟩
  rw [← hd2]
  have HD2 : Hid (d2 = placeOk x.key x.window) := hd2
  clear hd2
  cases d2
  · have HV : Hid (x.ok = false) := by show _ = _; unfold En.ok; rw [← HD2.out]; simp
    have HS := HS4
    go_wp2_with (first | go_skip | (with_reducible refine stopStore 58 rfl ?_))
    refine store_known 58 (w.heap.size + 1) _ (hc 0 0 none 0 0 (List.replicate 28 0)) 58 HS.out.2.1 rfl rfl rfl rfl (by kernel_rfl) rfl (by kernel_rfl) ?_
    go_wp2
    refine bodyPost_ret (results_row_tmp Try.results23 _ _ (w.heap.size + 1) _ _ _ _ rfl HS.out.2.1.setRow Try.underlying58 rfl (by kernel_rfl)) rfl ?_
    exact ⟨0, 0, none, 0, 0, List.replicate 28 0, (by rw [HV.out]; rfl), rfl, fun e => (by rw [HV.out] at e; cases e), below_setRow HS.out.2.2 (by omega) _⟩

  have k2 : w4.cell? ⟨w.heap.size, 2, none⟩ = some (.slice b l c) := by rw [HS4.out.1.cell]; rfl
  go_wp2_with fail
  refine (setOkImpl_any b l c x.ids F _ (HP.out.1.below HS4.out.2.2) HP.out.2.1).mono ?_
  rintro e w5 ⟨rfl, hb5⟩
  have HS5 : Hid (Blk w5 w.heap.size #[.int .i64 x.key, .int .i64 x.window, .slice b l c, .int .i64 x.sk.count, .int .i64 x.sk.sum, .int .i64 x.sk.min, .int .i64 x.sk.max, .slice a1 n1 c1, .slice a2 n2 c2, .slice a3 n3 c3] 30 ∧ Blk w5 (w.heap.size + 1) (hc 0 0 none 0 0 (List.replicate 28 0)) 58 ∧ Below w.heap.size w w5) := ⟨HS4.out.1.below hb5, HS4.out.2.1.below hb5, Below.next HS4.out.2.2 hb5⟩
  have HG5 : Hid (Blk w5 w1.heap.size (tc ys) 56 ∧ Blk w5 W2.heap.size #[.int .i64 x.key, .int .i64 x.window] 51) := ⟨HG4.out.1.below hb5, HG4.out.2.below hb5⟩
  have k5 : w5.cell? ⟨w.heap.size, 2, none⟩ = some (.slice b l c) := by rw [HS5.out.1.cell]; rfl
  clear hb5 HS4 HG4 k2
  obtain ⟨d3, hd3⟩ : ∃ d, d = x.ids.ok := ⟨_, rfl⟩
  rw [← hd3]
  have HD3 : Hid (d3 = x.ids.ok) := hd3
  clear hd3
  cases d3
  · have HV : Hid (x.ok = false) := by show _ = _; unfold En.ok; rw [← HD3.out]; simp
    have HS := HS5
    go_wp2_with (first | go_skip | (with_reducible refine stopStore 58 rfl ?_))
    refine store_known 58 (w.heap.size + 1) _ (hc 0 0 none 0 0 (List.replicate 28 0)) 58 HS.out.2.1 rfl rfl rfl rfl (by kernel_rfl) rfl (by kernel_rfl) ?_
    go_wp2
    refine bodyPost_ret (results_row_tmp Try.results23 _ _ (w.heap.size + 1) _ _ _ _ rfl HS.out.2.1.setRow Try.underlying58 rfl (by kernel_rfl)) rfl ?_
    exact ⟨0, 0, none, 0, 0, List.replicate 28 0, (by rw [HV.out]; rfl), rfl, fun e => (by rw [HV.out] at e; cases e), below_setRow HS.out.2.2 (by omega) _⟩

  by_cases h0 : l = 0
  · have HV : Hid (x.ok = false) := by show _ = _; unfold En.ok; rw [HP.out.2.2.1, h0]; simp
    subst h0
    have HS := HS5
    go_wp2_with (first | go_skip | (with_reducible refine stopStore 58 rfl ?_))
    refine store_known 58 (w.heap.size + 1) _ (hc 0 0 none 0 0 (List.replicate 28 0)) 58 HS.out.2.1 rfl rfl rfl rfl (by kernel_rfl) rfl (by kernel_rfl) ?_
    go_wp2
    refine bodyPost_ret (results_row_tmp Try.results23 _ _ (w.heap.size + 1) _ _ _ _ rfl HS.out.2.1.setRow Try.underlying58 rfl (by kernel_rfl)) rfl ?_
    exact ⟨0, 0, none, 0, 0, List.replicate 28 0, (by rw [HV.out]; rfl), rfl, fun e => (by rw [HV.out] at e; cases e), below_setRow HS.out.2.2 (by omega) _⟩

  have g1 : ((l : Int) == 0) = false := by simp; omega
  have HV : Hid (x.ok = true) := by show _ = _; unfold En.ok; rw [← HD.out, ← HD2.out, ← HD3.out, HP.out.2.2.1]; simp; omega
  clear h0
  go_wp2_with (first | go_skip | (with_reducible refine stopLoad 51 rfl ?_))
  refine load_any 51 W2.heap.size _ 51 _ HG5.out.2 rfl rfl rfl Try.underlying51 rfl (by kernel_rfl) ?_
  go_wp2_with (first | go_skip | (with_reducible refine stopLoad 56 rfl ?_))
  refine load_any 56 w1.heap.size (tc ys) 56 _ HG5.out.1 rfl rfl rfl Try.underlying56 rfl (tallySize HY.out.1) ?_
  go_wp2_with (first | go_skip | (with_reducible refine stopBuild 58 rfl ?_))
  refine built_any (.agg (hc x.key x.window b l c ys)) rfl rfl (by simp only [List.map_toArray, List.map_cons, List.map_nil]; exact build_hold _ _ _ _ _ _ _ HY.out.1) ?_
  go_wp2_with (first | go_skip | (with_reducible refine stopStore 58 rfl ?_))
  refine store_known 58 (w.heap.size + 1) _ (hc x.key x.window b l c ys) 58 HS5.out.2.1 rfl rfl rfl rfl (holdSize (hc_size HY.out.1)) (by rw [hc_size HY.out.1]; rfl) (hc_one ..) ?_
  go_wp2
  refine bodyPost_ret (results_row_tmp Try.results23 _ _ (w.heap.size + 1) _ _ _ _ rfl HS5.out.2.1.setRow Try.underlying58 rfl (holdSize (hc_size HY.out.1))) rfl ?_
  exact ⟨x.key, x.window, b, l, c, ys, (by rw [HV.out]; rfl), HY.out.1, fun _ => ⟨rfl, rfl, HY.out.2 HD.out.symm, HP.out.1, HP.out.2.2.2⟩, below_setRow HS5.out.2.2 (by omega) _⟩
set_option maxRecDepth 200000 in
set_option maxHeartbeats 1000000 in
theorem entryOkImpl_en (v : Value) (x : En) (F G : List Nat) (w : World) (h : RdEn w v x F G) (hw : x.sk.wide) (hl : x.ids.length ≤ 2097152) :
    Calls Try.prog 10 #[v] w fun e w' => e = .returned (.bool x.ok) ∧ Below w.heap.size w w' := by
  have HH : Hid (RdEn w v x F G ∧ x.sk.wide ∧ x.ids.length ≤ 2097152) := ⟨h, hw, hl⟩
  obtain ⟨b, l, c, a1, n1, c1, a2, n2, c2, a3, n3, c3, rfl, hp, hr, hcp⟩ := h
  have HT : Hid (Blk (w.alloc (.cells #[.int .i64 x.key, .int .i64 x.window, .slice b l c, .int .i64 x.sk.count, .int .i64 x.sk.sum, .int .i64 x.sk.min, .int .i64 x.sk.max, .slice a1 n1 c1, .slice a2 n2 c2, .slice a3 n3 c3] 30)) w.heap.size #[.int .i64 x.key, .int .i64 x.window, .slice b l c, .int .i64 x.sk.count, .int .i64 x.sk.sum, .int .i64 x.sk.min, .int .i64 x.sk.max, .slice a1 n1 c1, .slice a2 n2 c2, .slice a3 n3 c3] 30 ∧ Below w.heap.size w (w.alloc (.cells #[.int .i64 x.key, .int .i64 x.window, .slice b l c, .int .i64 x.sk.count, .int .i64 x.sk.sum, .int .i64 x.sk.min, .int .i64 x.sk.max, .slice a1 n1 c1, .slice a2 n2 c2, .slice a3 n3 c3] 30))) := ⟨Blk.made _ _ _, (Below.refl _ _).alloc (Nat.le_refl _) _⟩
  clear hp hr hcp hw hl
  go_enter Try.func10, Try.ntmps10
  go_wp2_with (first | go_skip | (with_reducible refine stopLoad 30 rfl ?_))
  refine load_any 30 w.heap.size _ 30 _ HT.out.1 rfl rfl rfl Try.underlying30 rfl (by kernel_rfl) ?_
  go_wp2_with fail
  refine (okHolding_any _ x F G _ (HH.out.1.below HT.out.2) HH.out.2.1 HH.out.2.2).mono ?_
  rintro e w1 ⟨k, p, a, l', c', ys, rfl, hy, _, hb1⟩
  have HB : Hid (ys.length = 28 ∧ Below w.heap.size w w1) := ⟨hy, Below.next HT.out.2 hb1⟩
  clear hb1 hy
  obtain ⟨d, hd⟩ : ∃ d, d = x.ok := ⟨_, rfl⟩
  rw [← hd]
  have HD : Hid (d = x.ok) := hd
  clear hd
  go_wp2_with (first | go_skip | (with_reducible refine stopStore 58 rfl ?_))
  refine store_fresh 58 w1.heap.size rfl (hc 0 0 none 0 0 (List.replicate 28 0)) (hc k p a l' c' ys) 58 rfl rfl rfl rfl (holdSize (hc_size HB.out.1)) (by rw [hc_size HB.out.1]; rfl) (hc_one ..) ?_
  intro W2 _ hb2
  have HB2 : Hid (Below w.heap.size w W2) := Below.next HB.out.2 hb2
  clear hb2
  go_wp2
  go_ret
  exact ⟨ret_bool HD.out, HB2.out⟩
end Go.Proofs.Ytbmbmnhamogghab
/- An entry as the program holds it, in memory. No statement of the seat is proved here. -/
namespace Go.Proofs.Ytbmbmnhamogghab
open Go.RowKit
theorem cutOf_hc {k p : Int} {a : Option Addr} {l c : Nat} {ys : List Int} (h : ys.length = 28) : cutOf (hc k p a l c ys) 3 28 = tc ys := by
  unfold cutOf hc tc
  show (List.take 28 (ys.map (Value.int .i64))).toArray = _
  rw [List.take_of_length_le (by simp; omega)]
theorem cutOf_place (k p : Int) (a : Option Addr) (l c : Nat) (ys : List Int) : cutOf (hc k p a l c ys) 0 2 = #[.int .i64 k, .int .i64 p] := by
  unfold cutOf hc
  simp
/-- The program's entry lies in block g. -/
def HoldS (g : Nat) (k p : Int) (a : Option Addr) (l c : Nat) (ys : List Int) (W : World) : Prop := Blk W g (hc k p a l c ys) 58 ∧ W.cell? ⟨g, 0, none⟩ = some (.int .i64 k) ∧ W.cell? ⟨g, 1, none⟩ = some (.int .i64 p) ∧ W.cell? ⟨g, 2, none⟩ = some (.slice a l c)
theorem holdS {g : Nat} {k p : Int} {a : Option Addr} {l c : Nat} {ys : List Int} {W : World} (h : Blk W g (hc k p a l c ys) 58) : HoldS g k p a l c ys W := ⟨h, by rw [h.cell]; rfl, by rw [h.cell]; rfl, by rw [h.cell]; rfl⟩
theorem HoldS.below {g : Nat} {k p : Int} {a : Option Addr} {l c : Nat} {ys : List Int} {W W' : World} (h : HoldS g k p a l c ys W) (b : Below W.heap.size W W') : HoldS g k p a l c ys W' := holdS (h.1.below b)
theorem HoldS.setRow {g j : Nat} {k p : Int} {a : Option Addr} {l c : Nat} {ys : List Int} {W : World} {ds : Array Value} (h : HoldS g k p a l c ys W) (hj : g ≠ j) : HoldS g k p a l c ys (W.setRow j ds) := holdS (h.1.setRowOther hj)
theorem infoPlace : (Try.prog.info? 51).map (·.size) = some 2 := by kernel_rfl
theorem enSizeA {cs : Array Value} (h : cs.size = 10) : (Try.prog.info? 30).map (·.size) = some cs.size := by rw [h]; exact infoEnA
theorem value_ok {P : Program} {w : World} {m : Sem Value} {v : Value} (h : m.run P w = .ok v w) : Sem.run P (do pure (Next.value (← m))) w = .ok (.value v) w := by
  simp [h]
theorem wrapI {n : Int} (h : -9223372036854775808 ≤ n ∧ n ≤ 9223372036854775807) : IntKind.i64.wrap n = n := by
  simp [IntKind.wrap, IntKind.bits, IntKind.signed]
  omega
end Go.Proofs.Ytbmbmnhamogghab
/- The walks through Mean, of the program and of the model. No statement of the seat is proved here. -/
namespace Go.Proofs.Ytbmbmnhamogghab
open Go.RowKit
theorem okHead_of {s : Sk} (h : s.ok = true) : (0 ≤ s.count ∧ s.count ≤ 1000000000) ∧ (0 ≤ s.sum ∧ s.sum ≤ 1000000000) ∧ (0 ≤ s.min ∧ s.min ≤ 1000000) ∧ (0 ≤ s.max ∧ s.max ≤ 1000000) := by
  unfold Sk.ok okHead at h
  simp only [Bool.and_eq_true, decide_eq_true_eq] at h
  exact ⟨h.1.1.1.1.1.1.1, h.1.1.1.1.1.1.2, h.1.1.1.1.1.2, h.1.1.1.1.2⟩
def meanN (s : Sk) : Int := if s.ok = true ∧ s.count ≠ 0 then s.sum / s.count else 0
theorem meanN_not {s : Sk} (h : s.ok = false) : meanN s = 0 := by unfold meanN; rw [if_neg (by rw [h]; simp)]
theorem meanN_zero {s : Sk} (h : s.count = 0) : meanN s = 0 := by unfold meanN; rw [if_neg (by simp [h])]
theorem meanN_pos {s : Sk} (h : s.ok = true) (h0 : ¬ s.count = 0) : meanN s = s.sum / s.count := by unfold meanN; rw [if_pos ⟨h, h0⟩]
end Go.Proofs.Ytbmbmnhamogghab
/- The walks through Different, of the program and of the model. No statement of the seat is proved here. -/
namespace Go.Proofs.Ytbmbmnhamogghab
open Go.RowKit
theorem run_index_int {P : Program} (w : World) (t e : TypeId) (zs : List Int) (m k : Nat) (hm : zs.length = m) (hk : k < m) (ht : P.underlying t = some (.array m e)) (he : P.underlying e = some (.int .i64)) (hs : ∀ w, (sizeOf e).run P w = .ok 1 w) :
    (Instr.index t (.agg (tc zs)) (.int .i64 k)).run P w = .ok (.int .i64 (zs[k]?.getD 0)) w := by
  have hagg : ∀ w, (isAgg e).run P w = .ok false w := fun w => by unfold isAgg; rw [Sem.run_bind, run_underlying he w]; simp
  have h3 : (0 : Int) ≤ k ∧ (k : Int) < m := by omega
  unfold Instr.index part
  simp [asIntOf, run_underlying ht, Sem.run_bind, h3, hs, hagg, tc]
  rw [List.getElem?_eq_getElem (by omega)]
  simp
  intro h; omega
def cntPos (l : List Int) : Int := ((l.filter (fun x => decide (0 < x))).length : Nat)
theorem cntPos_range (l : List Int) : 0 ≤ cntPos l ∧ cntPos l ≤ l.length := by
  unfold cntPos
  have := List.length_filter_le (fun x : Int => decide (0 < x)) l
  omega
theorem cntPos_yes {l : List Int} {k : Nat} (hk : k < l.length) (h : 0 < l[k]?.getD 0) : cntPos (l.take (k + 1)) = cntPos (l.take k) + 1 := by
  rw [take_succ' l k hk]
  unfold cntPos
  simp [h]
theorem cntPos_no {l : List Int} {k : Nat} (hk : k < l.length) (h : ¬ 0 < l[k]?.getD 0) : cntPos (l.take (k + 1)) = cntPos (l.take k) := by
  rw [take_succ' l k hk]
  unfold cntPos
  simp [h]
def diffN (s : Sk) : Int := if s.ok = true then cntPos s.regs else 0
theorem diffN_not {s : Sk} (h : s.ok = false) : diffN s = 0 := by unfold diffN; rw [h]; rfl
theorem diffN_ok {s : Sk} (h : s.ok = true) : diffN s = cntPos s.regs := by unfold diffN; rw [if_pos h]
theorem tl_regs {s : Sk} (h : s.ok = true) : (s.tl.drop 12).take 8 = s.regs ∧ s.regs.length = 8 := by
  obtain ⟨e1, e2, x, y, e3, e4, e5⟩ := Sk.shaped_parts (Sk.ok_shaped h)
  obtain ⟨h0, h1, h2, h3, h4, h5, h6, h7, eh⟩ := len8 e1
  obtain ⟨r0, r1, r2, r3, r4, r5, r6, r7, er⟩ := len8 e2
  unfold Sk.tl
  rw [eh, er]
  exact ⟨rfl, rfl⟩
theorem tl_hist {s : Sk} (h : s.ok = true) : (s.tl.drop 4).take 8 = s.hist ∧ s.hist.length = 8 := by
  obtain ⟨e1, e2, x, y, e3, e4, e5⟩ := Sk.shaped_parts (Sk.ok_shaped h)
  obtain ⟨h0, h1, h2, h3, h4, h5, h6, h7, eh⟩ := len8 e1
  unfold Sk.tl
  rw [eh]
  exact ⟨rfl, rfl⟩
set_option maxRecDepth 200000 in
set_option maxHeartbeats 1000000 in
theorem aboveZero_any (a : Option Addr) (len cap : Nat) (zs : List Int) (F : List Nat) (w : World) (h : RdI w a len zs F) (hlen : len ≤ 140737488355328) :
    Calls Try.prog 67 #[.slice a len cap] w fun e w' => e = .returned (.int .i64 (cntPos zs)) ∧ w' = w := by
  obtain ⟨n, hn⟩ : ∃ n, n = cntPos zs := ⟨_, rfl⟩
  rw [← hn]
  have HL : Hid (zs.length = len) := h.length
  have HN : Hid (n = cntPos zs) := hn
  clear hn
  rcases h.cells with ⟨h0, _⟩ | ⟨b, off, hp, rfl, _, hc⟩
  · subst h0
    have hz : zs = [] := List.eq_nil_of_length_eq_zero h.length
    subst hz
    clear h
    go_enter Try.func67, Try.ntmps67
    go_wp2
    refine wp_loop_rounds 1 ?_
    rw [rounds_succ]
    go_wp2
    go_ret
    exact ⟨ret_int (by rw [HN.out]; rfl), rfl⟩
  · have HC : Hid (∀ i, i < len → w.cell? ⟨b, off + i, none⟩ = some (.int .i64 (zs.getD i 0))) := hc
    clear h hc
    go_enter Try.func67, Try.ntmps67
    go_wp2
    go_loop [3, 8] (fun c i => ∃ (k : Nat) (m : Int), k ≤ len ∧ i = .int .i64 k ∧ c = .int .i64 m ∧ 0 ≤ m ∧ m ≤ 140737488355328 ∧ Hid (m = cntPos (zs.take k))) (fun _ i => len - (intOf i).toNat)
    case atStart => exact ⟨0, 0, by omega, rfl, rfl, by omega, by omega, show _ = _ by simp [cntPos]⟩
    case round =>
      obtain ⟨k, m, hk, rfl, rfl, m0, m8, HM⟩ := hrel
      by_cases hlt : k < len
      · have hck := HC.out k hlt
        obtain ⟨x, hx⟩ : ∃ x, x = zs[k]?.getD 0 := ⟨_, rfl⟩
        have hck2 : w.cell? ⟨b, off + k, none⟩ = some (.int .i64 x) := by rw [hx, hck]; simp
        have HX : Hid (x = zs[k]?.getD 0) := hx
        clear hck hx
        by_cases hpx : 0 < x
        · have hm7 : m + 1 ≤ 140737488355328 := by
            have e := cntPos_yes (l := zs) (by rw [HL.out]; exact hlt) (by rw [← HX.out]; exact hpx)
            have e2 := cntPos_range (zs.take (k + 1))
            rw [e, ← HM.out] at e2
            have : (zs.take (k + 1)).length ≤ len := by rw [List.length_take]; omega
            omega
          have HM2 : Hid (m + 1 = cntPos (zs.take (k + 1))) := by
            show _ = _
            rw [cntPos_yes (by rw [HL.out]; exact hlt) (by rw [← HX.out]; exact hpx), ← HM.out]
          go_wp2
          go_round
          case rel => exact ⟨k + 1, m + 1, by omega, by go_num, by go_num, by omega, by omega, HM2⟩
          case measure => simp [intOf]; omega
        · have HM2 : Hid (m = cntPos (zs.take (k + 1))) := by
            show _ = _
            rw [cntPos_no (by rw [HL.out]; exact hlt) (by rw [← HX.out]; exact hpx), ← HM.out]
          go_wp2
          go_round
          case rel => exact ⟨k + 1, m, by omega, by go_num, rfl, by omega, by omega, HM2⟩
          case measure => simp [intOf]; omega
      · obtain rfl : k = len := by omega
        have HV : Hid (m = n) := by
          show _ = _
          rw [HN.out, HM.out, List.take_of_length_le (by rw [HL.out]; omega)]
        go_wp2
        go_ret
        exact ⟨ret_int HV.out, rfl⟩
end Go.Proofs.Ytbmbmnhamogghab
/- The walks through the program's EntrySize. No statement of the seat is proved here. -/
namespace Go.Proofs.Ytbmbmnhamogghab
open Go.RowKit
def filledN (xs : List Int) : Int := cntPos ((xs.drop 4).take 8) + cntPos ((xs.drop 12).take 8) + cntPos ((xs.drop 20).take 4) + cntPos ((xs.drop 24).take 4)
theorem filledN_range (xs : List Int) : 0 ≤ filledN xs ∧ filledN xs ≤ 24 := by
  have h1 := cntPos_range ((xs.drop 4).take 8)
  have h2 := cntPos_range ((xs.drop 12).take 8)
  have h3 := cntPos_range ((xs.drop 20).take 4)
  have h4 := cntPos_range ((xs.drop 24).take 4)
  have l1 : ((xs.drop 4).take 8).length ≤ 8 := List.length_take_le _ _
  have l2 : ((xs.drop 12).take 8).length ≤ 8 := List.length_take_le _ _
  have l3 : ((xs.drop 20).take 4).length ≤ 4 := List.length_take_le _ _
  have l4 : ((xs.drop 24).take 4).length ≤ 4 := List.length_take_le _ _
  unfold filledN
  omega
theorem filled_tl {s : Sk} (h : s.ok = true) : filledN s.tl = cntUp s.hist + cntUp s.regs + cntUp (s.rows.getD 0 []) + cntUp (s.rows.getD 1 []) := by
  obtain ⟨h0, h1, h2, h3, h4, h5, h6, h7, r0, r1, r2, r3, r4, r5, r6, r7, p0, p1, p2, p3, q0, q1, q2, q3, e⟩ := Sk.written (Sk.ok_shaped h)
  rw [e]
  rfl
set_option maxRecDepth 200000 in
set_option maxHeartbeats 2000000 in
theorem filled_any (xs : List Int) (w : World) (hx : xs.length = 28) :
    Calls Try.prog 33 #[.agg (tc xs)] w fun e w' => e = .returned (.int .i64 (filledN xs)) ∧ Below w.heap.size w w' := by
  have HL : Hid (xs.length = 28) := hx
  have HT : Hid (Blk (w.alloc (.cells (tc xs) 56)) w.heap.size (tc xs) 56 ∧ Below w.heap.size w (w.alloc (.cells (tc xs) 56))) := ⟨Blk.made _ _ _, (Below.refl _ _).alloc (Nat.le_refl _) _⟩
  obtain ⟨y1, hy1⟩ : ∃ x, x = cntPos ((xs.drop 4).take 8) := ⟨_, rfl⟩
  obtain ⟨y2, hy2⟩ : ∃ x, x = cntPos ((xs.drop 12).take 8) := ⟨_, rfl⟩
  obtain ⟨y3, hy3⟩ : ∃ x, x = cntPos ((xs.drop 20).take 4) := ⟨_, rfl⟩
  obtain ⟨y4, hy4⟩ : ∃ x, x = cntPos ((xs.drop 24).take 4) := ⟨_, rfl⟩
  have b1 : 0 ≤ y1 ∧ y1 ≤ 8 := by have := cntPos_range ((xs.drop 4).take 8); rw [← hy1] at this; have : ((xs.drop 4).take 8).length ≤ 8 := List.length_take_le _ _; omega
  have b2 : 0 ≤ y2 ∧ y2 ≤ 8 := by have := cntPos_range ((xs.drop 12).take 8); rw [← hy2] at this; have : ((xs.drop 12).take 8).length ≤ 8 := List.length_take_le _ _; omega
  have b3 : 0 ≤ y3 ∧ y3 ≤ 4 := by have := cntPos_range ((xs.drop 20).take 4); rw [← hy3] at this; have : ((xs.drop 20).take 4).length ≤ 4 := List.length_take_le _ _; omega
  have b4 : 0 ≤ y4 ∧ y4 ≤ 4 := by have := cntPos_range ((xs.drop 24).take 4); rw [← hy4] at this; have : ((xs.drop 24).take 4).length ≤ 4 := List.length_take_le _ _; omega
  have HY : Hid (y1 = cntPos ((xs.drop 4).take 8) ∧ y2 = cntPos ((xs.drop 12).take 8) ∧ y3 = cntPos ((xs.drop 20).take 4) ∧ y4 = cntPos ((xs.drop 24).take 4)) := ⟨hy1, hy2, hy3, hy4⟩
  have HF : Hid (filledN xs = y1 + y2 + y3 + y4) := by show _ = _; rw [hy1, hy2, hy3, hy4]; rfl
  rw [HF.out]
  obtain ⟨b10, b11⟩ := b1
  obtain ⟨b20, b21⟩ := b2
  obtain ⟨b30, b31⟩ := b3
  obtain ⟨b40, b41⟩ := b4
  clear hx hy1 hy2 hy3 hy4
  go_enter Try.func33, Try.ntmps33
  go_wp2
  obtain ⟨W0, hW0⟩ : ∃ W0, W0 = w.alloc (.cells (tc xs) 56) := ⟨_, rfl⟩
  rw [← hW0] at HT ⊢
  clear hW0
  refine wp_region_held (S := fun W => W = W0.drew) (by kernel_rfl) ?_
  change wpAnyH _ _ _ _ _ _ _ _ (World.drew _)
  refine takeH (o := ?o1) 0 (.pointer (some ⟨w.heap.size, 4, none⟩)) ?h1 ?r1
  case h1 => simp only [List.getElem?_toArray, List.getElem?_cons_zero]; rfl
  refine ⟨_, by simp [Act.put]; rfl, by kernel_rfl, by kernel_rfl, by kernel_rfl, fun _ _ _ h => h, (.inl ⟨rfl, fun W _ => by go_simp⟩), rfl, ?_⟩
  refine takeH (o := ?o2) 1 (.slice (some ⟨w.heap.size, 4, none⟩) 8 8) ?h2 ?r2
  case h2 => simp only [List.getElem?_toArray, List.getElem?_cons_succ, List.getElem?_cons_zero]; rfl
  refine ⟨_, by simp [Act.put]; rfl, by kernel_rfl, by kernel_rfl, by kernel_rfl, fun _ _ _ h => h, (.inl ⟨rfl, fun W _ => by go_simp⟩), rfl, ?_⟩
  refine takeH (o := ?o3) 3 (.pointer (some ⟨w.heap.size, 12, none⟩)) ?h3 ?r3
  case h3 => simp only [List.getElem?_toArray, List.getElem?_cons_succ, List.getElem?_cons_zero]; rfl
  refine ⟨_, by simp [Act.put]; rfl, by kernel_rfl, by kernel_rfl, by kernel_rfl, fun _ _ _ h => h, (.inl ⟨rfl, fun W _ => by go_simp⟩), rfl, ?_⟩
  refine takeH (o := ?o4) 4 (.slice (some ⟨w.heap.size, 12, none⟩) 8 8) ?h4 ?r4
  case h4 => simp only [List.getElem?_toArray, List.getElem?_cons_succ, List.getElem?_cons_zero]; rfl
  refine ⟨_, by simp [Act.put]; rfl, by kernel_rfl, by kernel_rfl, by kernel_rfl, fun _ _ _ h => h, (.inl ⟨rfl, fun W _ => by go_simp⟩), rfl, ?_⟩
  refine onlyH (o := ?o5) 2 (by kernel_rfl) ?h5 ?r5
  case h5 => simp only [List.getElem?_toArray, List.getElem?_cons_succ, List.getElem?_cons_zero]; rfl
  intro K hK
  refine op_call1 67 _ _ Try.f67 (fun v w' => v = .int .i64 y1 ∧ w' = W0.drew) rfl rfl Try.func67 (by kernel_rfl) (by kernel_rfl) ((aboveZero_any (some ⟨w.heap.size, 4, none⟩) 8 8 ((xs.drop 4).take 8) _ W0.drew (rdI_tc HT.out.1.drew (by rw [HL.out]; omega) (by omega)) (by omega)).mono (by rintro e w' ⟨rfl, h3⟩; exact ⟨_, rfl, by rw [HY.out.1], h3⟩)) ?_
  rintro _ _ ⟨rfl, rfl⟩
  refine ⟨_, by simp [Act.put]; rfl, hK _ _ ⟨rfl, ?_⟩⟩
  clear hK
  refine onlyH (o := ?o6) 5 (by kernel_rfl) ?h6 ?r6
  case h6 => simp only [List.getElem?_toArray, List.getElem?_cons_succ, List.getElem?_cons_zero]; rfl
  intro K hK
  refine op_call1 67 _ _ Try.f67 (fun v w' => v = .int .i64 y2 ∧ w' = W0.drew) rfl rfl Try.func67 (by kernel_rfl) (by kernel_rfl) ((aboveZero_any (some ⟨w.heap.size, 12, none⟩) 8 8 ((xs.drop 12).take 8) _ W0.drew (rdI_tc HT.out.1.drew (by rw [HL.out]; omega) (by omega)) (by omega)).mono (by rintro e w' ⟨rfl, h3⟩; exact ⟨_, rfl, by rw [HY.out.2.1], h3⟩)) ?_
  rintro _ _ ⟨rfl, rfl⟩
  refine ⟨_, by simp [Act.put]; rfl, hK _ _ ⟨rfl, ?_⟩⟩
  clear hK
  refine takeH (o := ?o7) 6 (.int .i64 (y1 + y2)) ?h7 ?r7
  case h7 => simp only [List.getElem?_toArray, List.getElem?_cons_succ, List.getElem?_cons_zero]; rfl
  refine ⟨_, by simp [Act.put]; rfl, by kernel_rfl, by kernel_rfl, by kernel_rfl, fun _ _ _ h => h, (.inl ⟨rfl, fun W _ => by go_simp; exact wrapI (by omega)⟩), rfl, ?_⟩
  refine takeH (o := ?o8) 7 (.int .i64 (y1 + y2)) ?h8 ?r8
  case h8 => simp only [List.getElem?_toArray, List.getElem?_cons_succ, List.getElem?_cons_zero]; rfl
  refine ⟨_, by simp [Act.put]; rfl, by kernel_rfl, by kernel_rfl, by kernel_rfl, fun _ _ _ h => h, (.inl ⟨rfl, fun W _ => by go_simp⟩), rfl, ?_⟩
  refine wpAnyH_done (by kernel_rfl) ?_ _
  obtain ⟨y5, hy5⟩ : ∃ y, y = y1 + y2 := ⟨_, rfl⟩
  rw [← hy5]
  have b50 : 0 ≤ y5 := by omega
  have b51 : y5 ≤ 16 := by omega
  have HY5 : Hid (y5 = y1 + y2) := hy5
  clear hy5
  have HT2 : Hid (Blk W0.drew w.heap.size (tc xs) 56 ∧ Below w.heap.size w W0.drew) := ⟨HT.out.1.drew, HT.out.2.drew⟩
  obtain ⟨W1, hW1⟩ : ∃ W1, W1 = W0.drew := ⟨_, rfl⟩
  rw [← hW1] at HT2 ⊢
  clear hW1 HT
  go_wp2_with (first | go_skip | (with_reducible refine stopLoad 54 rfl ?_))
  refine load_part 54 w.heap.size 20 8 xs 56 _ HT2.out.1 rfl rfl rfl Try.underlying54 rfl (by kernel_rfl) (by rw [HL.out]; omega) ?_
  obtain ⟨A, hA⟩ : ∃ A, A = (xs.drop 20).take 8 := ⟨_, rfl⟩
  rw [← hA]
  obtain ⟨R0, hR0⟩ : ∃ A, A = (xs.drop 20).take 4 := ⟨_, rfl⟩
  obtain ⟨R1, hR1⟩ : ∃ A, A = (xs.drop 24).take 4 := ⟨_, rfl⟩
  have HRE : Hid (R0 = (xs.drop 20).take 4 ∧ R1 = (xs.drop 24).take 4) := ⟨hR0, hR1⟩
  have HRL : Hid (R0.length = 4 ∧ R1.length = 4) := ⟨by rw [hR0]; simp; have := HL.out; omega, by rw [hR1]; simp; have := HL.out; omega⟩
  have i0 : ∀ w, (Instr.index 54 (.agg (tc A)) (.int .i64 0)).run Try.prog w = .ok (.agg (tc R0)) w := fun w => by
    rw [run_index_row w 54 53 3 A 0 0 rfl (by omega) Try.underlying54 Try.underlying53 (fun _ => by simp), hA, hR0]
    simp [List.take_take]
  have i1 : ∀ w, (Instr.index 54 (.agg (tc A)) (.int .i64 1)).run Try.prog w = .ok (.agg (tc R1)) w := fun w => by
    rw [run_index_row w 54 53 3 A 1 1 rfl (by omega) Try.underlying54 Try.underlying53 (fun _ => by simp), hA, hR1]
    rw [List.drop_take, List.drop_drop, List.take_take]
    rfl
  clear hA hR0 hR1
  go_wp2
  refine wp_loop_rounds 3 ?_
  rw [rounds_succ]
  go_wp2_with (first | (with_reducible refine stopStore 53 rfl ?_))
  refine store_fresh 53 W1.heap.size (by simp) (tc (List.replicate 4 0)) (tc R0) 53 rfl rfl rfl rfl (by rw [tc_size, HRL.out.1]; kernel_rfl) (by rw [tc_size, tc_size, HRL.out.1]; rfl) (tc_one _) ?_
  intro W2 hg0 hb0
  have HB0 : Hid (Below w.heap.size w W2) := Below.next HT2.out.2 hb0
  have HG0 : Hid (Blk W2 _ (tc R0) 53) := hg0
  clear hg0 hb0
  go_wp2_with fail
  refine (aboveZero_any _ 4 _ R0 _ _ (rdI_tc0 HG0.out HRL.out.1 (by omega)) (by omega)).mono ?_
  rintro e w1 ⟨rfl, hw1⟩
  have hw1' := hw1.symm
  subst hw1'
  clear hw1
  rw [HRE.out.1, ← HY.out.2.2.1]
  go_wp2
  rw [rounds_succ]
  go_wp2_with (first | (with_reducible refine stopStore 53 rfl ?_))
  refine store_fresh 53 W2.heap.size (by simp) (tc (List.replicate 4 0)) (tc R1) 53 rfl rfl rfl rfl (by rw [tc_size, HRL.out.2]; kernel_rfl) (by rw [tc_size, tc_size, HRL.out.2]; rfl) (tc_one _) ?_
  intro W3 hg0 hb0
  have HB3 : Hid (Below w.heap.size w W3) := Below.next HB0.out hb0
  have HG3 : Hid (Blk W3 _ (tc R1) 53) := hg0
  clear hg0 hb0
  go_wp2_with fail
  refine (aboveZero_any _ 4 _ R1 _ _ (rdI_tc0 HG3.out HRL.out.2 (by omega)) (by omega)).mono ?_
  rintro e w1 ⟨rfl, hw1⟩
  have hw1' := hw1.symm
  subst hw1'
  clear hw1
  rw [HRE.out.2, ← HY.out.2.2.2]
  go_wp2
  rw [rounds_succ]
  go_wp2
  go_ret
  exact ⟨ret_int (by have := HY5.out; omega), HB3.out⟩
set_option maxRecDepth 200000 in
set_option maxHeartbeats 4000000 in
theorem entrySizeImpl_en (v : Value) (x : En) (F G : List Nat) (w : World) (h : RdEn w v x F G) (hw : x.sk.wide) (hl : x.ids.length ≤ 1048576) :
    Calls Try.prog 12 #[v] w fun e w' => e = .returned (.int .i64 x.size) ∧ Below w.heap.size w w' := by
  have HH : Hid (RdEn w v x F G ∧ x.sk.wide ∧ x.ids.length ≤ 1048576) := ⟨h, hw, hl⟩
  obtain ⟨b, l, c, a1, n1, c1, a2, n2, c2, a3, n3, c3, rfl, hp, hr, hcp⟩ := h
  have HT : Hid (Blk (w.alloc (.cells #[.int .i64 x.key, .int .i64 x.window, .slice b l c, .int .i64 x.sk.count, .int .i64 x.sk.sum, .int .i64 x.sk.min, .int .i64 x.sk.max, .slice a1 n1 c1, .slice a2 n2 c2, .slice a3 n3 c3] 30)) w.heap.size #[.int .i64 x.key, .int .i64 x.window, .slice b l c, .int .i64 x.sk.count, .int .i64 x.sk.sum, .int .i64 x.sk.min, .int .i64 x.sk.max, .slice a1 n1 c1, .slice a2 n2 c2, .slice a3 n3 c3] 30 ∧ Below w.heap.size w (w.alloc (.cells #[.int .i64 x.key, .int .i64 x.window, .slice b l c, .int .i64 x.sk.count, .int .i64 x.sk.sum, .int .i64 x.sk.min, .int .i64 x.sk.max, .slice a1 n1 c1, .slice a2 n2 c2, .slice a3 n3 c3] 30))) := ⟨Blk.made _ _ _, (Below.refl _ _).alloc (Nat.le_refl _) _⟩
  clear hp hr hcp hw hl
  go_enter Try.func12, Try.ntmps12
  go_wp2_with (first | go_skip | (with_reducible refine stopLoad 30 rfl ?_))
  refine load_any 30 w.heap.size _ 30 _ HT.out.1 rfl rfl rfl Try.underlying30 rfl (by kernel_rfl) ?_
  go_wp2_with fail
  refine (okHolding_any _ x F G _ (HH.out.1.below HT.out.2) HH.out.2.1 (by have := HH.out.2.2; omega)).mono ?_
  rintro e w1 ⟨k, p, a, l', c', ys, rfl, hy, hok, hb1⟩
  have HB : Hid (ys.length = 28 ∧ Below w.heap.size w w1 ∧ (x.ok = true → ys = x.sk.tl ∧ x.ids.length = l')) := ⟨hy, Below.next HT.out.2 hb1, fun e => ⟨(hok e).2.2.1, (hok e).2.2.2.1.length⟩⟩
  clear hb1 hy hok
  obtain ⟨d, hd⟩ : ∃ d, d = x.ok := ⟨_, rfl⟩
  rw [← hd]
  have HD : Hid (d = x.ok) := hd
  clear hd
  go_wp2_with (first | go_skip | (with_reducible refine stopStore 58 rfl ?_))
  refine store_fresh 58 w1.heap.size rfl (hc 0 0 none 0 0 (List.replicate 28 0)) (hc k p a l' c' ys) 58 rfl rfl rfl rfl (holdSize (hc_size HB.out.1)) (by rw [hc_size HB.out.1]; rfl) (hc_one ..) ?_
  intro W2 hg2 hb2
  have HB2 : Hid (HoldS w1.heap.size k p a l' c' ys W2 ∧ Below w.heap.size w W2) := ⟨holdS hg2, Below.next HB.out.2.1 hb2⟩
  clear hb2 hg2
  cases d
  · go_wp2
    go_ret
    exact ⟨ret_int (En.size_not HD.out.symm).symm, HB2.out.2⟩
  have HY := (HB.out.2.2 HD.out.symm)
  have hl' : l' ≤ 1048576 := by rw [← HY.2]; exact HH.out.2.2
  obtain ⟨fn, hfn⟩ : ∃ n, n = filledN ys := ⟨_, rfl⟩
  have f0 : 0 ≤ fn ∧ fn ≤ 24 := by rw [hfn]; exact filledN_range ys
  have HV : Hid (x.size = 4 + fn + 2 * (l' : Int)) := by
    show _ = _
    rw [En.size_ok HD.out.symm, hfn, HY.1, ← HY.2, filled_tl (En.ok_sk HD.out.symm)]
    omega
  have HF : Hid (fn = filledN ys) := hfn
  obtain ⟨f00, f01⟩ := f0
  clear hfn HY
  go_wp2
  have HS : Hid (HoldS w1.heap.size k p a l' c' ys W2.drew) := holdS HB2.out.1.1.drew
  have HX : Hid (Below w.heap.size w W2.drew) := HB2.out.2.drew
  refine wp_region_held (S := HoldS w1.heap.size k p a l' c' ys) (by kernel_rfl) ?_
  change wpAnyH _ _ _ _ _ _ _ _ (World.drew _)
  refine takeH (o := ?o1) 0 (.pointer (some ⟨w1.heap.size, 3, none⟩)) ?h1 ?r1
  case h1 => simp only [List.getElem?_toArray, List.getElem?_cons_zero]; rfl
  refine ⟨_, by simp [Act.put]; rfl, by kernel_rfl, by kernel_rfl, by kernel_rfl, fun _ _ _ h => h, (.inl ⟨rfl, fun W _ => by go_simp⟩), HS.out, ?_⟩
  refine takeH (o := ?o2) 1 (.agg (tc ys)) ?h2 ?r2
  case h2 => simp only [List.getElem?_toArray, List.getElem?_cons_succ, List.getElem?_cons_zero]; rfl
  refine ⟨_, by simp [Act.put]; rfl, by kernel_rfl, by kernel_rfl, by kernel_rfl, fun _ _ _ h => h, (yields_cut 56 w1.heap.size 3 28 _ (tc ys) 58 _ rfl rfl rfl Try.underlying56 rfl infoTally (by rw [hc_size HB.out.1]; omega) (cutOf_hc HB.out.1) (fun W hW => hW.1)), HS.out, ?_⟩
  refine takeH (o := ?o3) 4 (.pointer (some ⟨w1.heap.size, 2, none⟩)) ?h3 ?r3
  case h3 => simp only [List.getElem?_toArray, List.getElem?_cons_succ, List.getElem?_cons_zero]; rfl
  refine ⟨_, by simp [Act.put]; rfl, by kernel_rfl, by kernel_rfl, by kernel_rfl, fun _ _ _ h => h, (.inl ⟨rfl, fun W _ => by go_simp⟩), HS.out, ?_⟩
  refine takeH (o := ?o4) 5 (.slice a l' c') ?h4 ?r4
  case h4 => simp only [List.getElem?_toArray, List.getElem?_cons_succ, List.getElem?_cons_zero]; rfl
  refine ⟨_, by simp [Act.put]; rfl, by kernel_rfl, by kernel_rfl, by kernel_rfl, fun _ _ _ h => h, (.inl ⟨rfl, fun W hW => by have c := hW.2.2.2; go_simp⟩), HS.out, ?_⟩
  refine takeH (o := ?o5) 6 (.int .i64 l') ?h5 ?r5
  case h5 => simp only [List.getElem?_toArray, List.getElem?_cons_succ, List.getElem?_cons_zero]; rfl
  refine ⟨_, by simp [Act.put]; rfl, by kernel_rfl, by kernel_rfl, by kernel_rfl, fun _ _ _ h => h, (.inl ⟨rfl, fun W _ => by go_simp⟩), HS.out, ?_⟩
  refine takeH (o := ?o6) 7 (.int .i64 (2 * (l' : Int))) ?h6 ?r6
  case h6 => simp only [List.getElem?_toArray, List.getElem?_cons_succ, List.getElem?_cons_zero]; rfl
  refine ⟨_, by simp [Act.put]; rfl, by kernel_rfl, by kernel_rfl, by kernel_rfl, fun _ _ _ h => h, (.inl ⟨rfl, fun W _ => by go_simp; exact wrapI (by omega)⟩), HS.out, ?_⟩
  refine onlyH (o := ?o7) 2 (by kernel_rfl) ?h7 ?r7
  case h7 => simp only [List.getElem?_toArray, List.getElem?_cons_succ, List.getElem?_cons_zero]; rfl
  intro K hK
  refine op_call1 33 _ _ Try.f33 (fun v w' => v = .int .i64 fn ∧ Below W2.drew.heap.size W2.drew w') rfl rfl Try.func33 (by kernel_rfl) (by kernel_rfl) ((filled_any ys W2.drew HB.out.1).mono (by rintro e w' ⟨rfl, h1⟩; exact ⟨_, rfl, by rw [HF.out], h1⟩)) ?_
  rintro _ W3 ⟨rfl, bz⟩
  refine ⟨_, by simp [Act.put]; rfl, hK _ _ ⟨HS.out.below bz, ?_⟩⟩
  have HS3 : Hid (HoldS w1.heap.size k p a l' c' ys W3) := HS.out.below bz
  have HX3 : Hid (Below w.heap.size w W3) := Below.next HX.out bz
  clear hK bz HS HX
  refine takeH (o := ?o8) 3 (.int .i64 (4 + fn)) ?h8 ?r8
  case h8 => simp only [List.getElem?_toArray, List.getElem?_cons_succ, List.getElem?_cons_zero]; rfl
  refine ⟨_, by simp [Act.put]; rfl, by kernel_rfl, by kernel_rfl, by kernel_rfl, fun _ _ _ h => h, (.inl ⟨rfl, fun W _ => by go_simp; exact wrapI (by omega)⟩), HS3.out, ?_⟩
  refine takeH (o := ?o9) 8 (.int .i64 (4 + fn + 2 * (l' : Int))) ?h9 ?r9
  case h9 => simp only [List.getElem?_toArray, List.getElem?_cons_succ, List.getElem?_cons_zero]; rfl
  refine ⟨_, by simp [Act.put]; rfl, by kernel_rfl, by kernel_rfl, by kernel_rfl, fun _ _ _ h => h, (.inl ⟨rfl, fun W _ => by go_simp; exact wrapI (by omega)⟩), HS3.out, ?_⟩
  refine takeH (o := ?o10) 9 (.int .i64 (4 + fn + 2 * (l' : Int))) ?h10 ?r10
  case h10 => simp only [List.getElem?_toArray, List.getElem?_cons_succ, List.getElem?_cons_zero]; rfl
  refine ⟨_, by simp [Act.put]; rfl, by kernel_rfl, by kernel_rfl, by kernel_rfl, fun _ _ _ h => h, (.inl ⟨rfl, fun W _ => by go_simp⟩), HS3.out, ?_⟩
  refine wpAnyH_done (by kernel_rfl) ?_ _
  go_wp2
  go_ret
  exact ⟨ret_int HV.out.symm, HX3.out⟩
end Go.Proofs.Ytbmbmnhamogghab
/- Items and entries that came in. No statement of the seat is proved here. -/
namespace Go.Proofs.Ytbmbmnhamogghab
open Go.RowKit Go.WideShapes Go.ChangeShapes Go.ChangeAt Go.Deep
end Go.Proofs.Ytbmbmnhamogghab
/- What the laws over items and entries share. No statement of the seat is proved here. -/
namespace Go.Proofs.Ytbmbmnhamogghab
open Go.RowKit Go.WideShapes Go.ChangeShapes Go.ChangeAt
theorem RdIt.cells {w : World} {v : Value} {x : It} {F : List Nat} (h : RdIt w v x F) : ∃ cs : Array Value, v = .agg cs ∧ cs.size = 11 ∧ cs.all (·.oneCell') = true := by
  obtain ⟨a1, n1, c1, a2, n2, c2, a3, n3, c3, rfl, _⟩ := h
  exact ⟨_, rfl, rfl, by simp [Value.oneCell']⟩
/-- An entry's value that can be read; F: its blocks. -/
def RdE (w : World) (v : Value) (x : En) (F : List Nat) : Prop := ∃ F1 F2, F = F1 ++ F2 ∧ RdEn w v x F1 F2
theorem RdE.agree {w w' : World} {v : Value} {x : En} {F : List Nat} (h : RdE w v x F) (ha : Agree w w' F) : RdE w' v x F := by
  obtain ⟨F1, F2, rfl, h⟩ := h
  exact ⟨F1, F2, rfl, h.agree (fun b hb => ha b (List.mem_append_left _ hb)) (fun b hb => ha b (List.mem_append_right _ hb))⟩
theorem RdE.lt {w : World} {v : Value} {x : En} {F : List Nat} (h : RdE w v x F) : ∀ b ∈ F, b < w.heap.size := by
  obtain ⟨F1, F2, rfl, h⟩ := h
  exact fun b hb => (List.mem_append.1 hb).elim (h.lt1 b) (h.lt2 b)
theorem RdE.below {w w' : World} {v : Value} {x : En} {F : List Nat} (h : RdE w v x F) (hb : Below w.heap.size w w') : RdE w' v x F := h.agree (.below hb h.lt)
theorem RdE.cells {w : World} {v : Value} {x : En} {F : List Nat} (h : RdE w v x F) : ∃ cs : Array Value, v = .agg cs ∧ cs.size = 10 ∧ cs.all (·.oneCell') = true := by
  obtain ⟨F1, F2, rfl, b, l, c, a1, n1, c1, a2, n2, c2, a3, n3, c3, rfl, _⟩ := h
  exact ⟨_, rfl, rfl, by simp [Value.oneCell']⟩
def It.vast (x : It) : Prop := x.sk.vast
def It.fits (x : It) : Prop := x.sk.fits
def It.wide (x : It) : Prop := x.sk.wide
theorem It.fits.wide {x : It} (h : x.fits) : x.wide := Sk.fits.wide h
def En.vast (x : En) : Prop := x.sk.vast ∧ x.ids.length ≤ 9223372036854775807
def En.fits (x : En) : Prop := x.sk.fits ∧ x.ids.length ≤ 1048576
def En.wide (x : En) : Prop := x.sk.wide ∧ x.ids.length ≤ 1048576
theorem En.fits.wide {x : En} (h : x.fits) : x.wide := ⟨h.1.wide, h.2⟩
theorem It.fits_of {x : It} {r left : Int} (h : r = left - x.sk.size) (h0 : 0 ≤ r) (hl : left ≤ 1048576) : x.fits := Sk.fits_of (by omega)
set_option maxRecDepth 200000 in
theorem En.fits_of {x : En} {r left : Int} (h : r = left - x.ids.length - x.sk.size ∧ (x.ids.length : Int) ≤ left ∧ x.sk.size ≤ left) (_h0 : 0 ≤ r) (hl : left ≤ 1048576) : x.fits := ⟨Sk.fits_of (by omega), by omega⟩
set_option maxRecDepth 200000 in
theorem entryOkE_any (v : Value) (x : En) (F : List Nat) (w : World) (h : RdE w v x F) (hw : x.wide) :
    Calls Try.prog 28 #[v] w fun e w' => e = .returned (.bool x.ok) ∧ Below w.heap.size w w' := by
  obtain ⟨F1, F2, rfl, h⟩ := h
  exact entryOkSpec_any v x F1 F2 w h hw.1 (by have := hw.2; omega)
end Go.Proofs.Ytbmbmnhamogghab
/- The walk through the program's laying of spans behind a set that it makes. No statement of the seat is proved here. -/
namespace Go.Proofs.Ytbmbmnhamogghab
open Go.RowKit
theorem lay1_apart {o : Sp} {x : Int × Int} (h : o = [] ∨ (o.at (o.length - 1)).2 + 1 < x.1) : lay1 o x = o ++ [x] := by unfold lay1; rw [if_pos h]
theorem lay1_widen {o : Sp} {x : Int × Int} (h : ¬ (o = [] ∨ (o.at (o.length - 1)).2 + 1 < x.1)) : lay1 o x = o.take (o.length - 1) ++ [((o.at (o.length - 1)).1, max (o.at (o.length - 1)).2 x.2)] := by unfold lay1; rw [if_neg h]
theorem lay_drop {o xs : Sp} {k : Nat} (hk : k < xs.length) : lay o (xs.drop k) = lay (lay1 o (xs.at k)) (xs.drop (k + 1)) := by rw [drop_at hk]; rfl
theorem lay1_inb {o : Sp} {x : Int × Int} (h : ∀ p ∈ o, InB p) (hx : InB x) : ∀ p ∈ lay1 o x, InB p := by
  intro p hp
  unfold lay1 at hp
  split at hp
  · rcases List.mem_append.1 hp with hp | hp
    · exact h p hp
    · obtain rfl : p = x := by simpa using hp
      exact hx
  · rename_i hc
    rcases List.mem_append.1 hp with hp | hp
    · exact h p (List.mem_of_mem_take hp)
    · have e : p = ((o.at (o.length - 1)).1, max (o.at (o.length - 1)).2 x.2) := by simpa using hp
      have hne : 0 < o.length := List.length_pos_iff.2 (fun e => hc (.inl e))
      have := h _ (Sp.at_mem (ps := o) (k := o.length - 1) (by omega))
      subst e
      unfold InB at this hx ⊢
      simp only
      omega
theorem lay1_length (o : Sp) (x : Int × Int) : (lay1 o x).length ≤ o.length + 1 := by
  unfold lay1
  split
  · simp
  · simp
theorem lay_length : ∀ (xs o : Sp), (lay o xs).length ≤ o.length + xs.length
  | [], o => by simp [lay]
  | x :: xs, o => by
    have h1 := lay_length xs (lay1 o x)
    have h2 := lay1_length o x
    rw [show lay o (x :: xs) = lay (lay1 o x) xs from rfl]
    simp
    omega
theorem lay_inb : ∀ {xs o : Sp}, (∀ p ∈ o, InB p) → (∀ p ∈ xs, InB p) → ∀ p ∈ lay o xs, InB p
  | [], _, h, _ => h
  | x :: xs, o, h, hx => lay_inb (xs := xs) (lay1_inb h (hx x (by simp))) (fun p hp => hx p (by simp [hp]))
theorem flat_widen {o : Sp} {m : Nat} (hm : o.length = m + 1) (z : Int) : flat (o.take m ++ [((o.at m).1, z)]) = (flat o).set (m * 2 + 1) z := by
  have e : o = o.take m ++ [o.at m] := by
    have := takeP_succ o m (by omega)
    rw [List.take_of_length_le (by omega)] at this
    exact this
  have hl : (flat (o.take m)).length = m * 2 := by rw [flat_length]; simp; omega
  conv => rhs; rw [e]
  rw [flat_append, flat_append, List.set_append_right (m * 2 + 1) _ (by omega), hl, show m * 2 + 1 - m * 2 = 1 by omega]
  simp [flat]
/-- The set that is made: what it holds, and that nothing else was written since w. -/
structure LayAt (w : World) (B : Nat) (v0 v : Value) (o : Sp) (W : World) : Prop where
  own : W.ownsRow B 68 2 v o.length ((flat o).map (Value.int .i64))
  grown : w.grownBy W v0.ownBlock
  fresh : v.ownBlock = v0.ownBlock ∨ ∀ g, v.ownBlock = some g → w.heap.size ≤ g
theorem LayAt.alloc {w W : World} {B : Nat} {v0 v : Value} {o : Sp} (h : LayAt w B v0 v o W) (ob : Obj) : LayAt w B v0 v o (W.alloc ob) :=
  ⟨h.own.alloc _, ⟨h.grown.os, h.grown.tape, h.grown.output, by have := h.grown.size; simp; omega, fun k hk hne => (Below.heap_alloc W ob k (by have := h.grown.size; omega)).trans (h.grown.block k hk hne)⟩, h.fresh⟩
theorem LayAt.drewN {w W : World} {B : Nat} {v0 v : Value} {o : Sp} (h : LayAt w B v0 v o W) (m : Nat) : LayAt w B v0 v o (W.drewN m) :=
  ⟨⟨h.own.1, h.own.2⟩, ⟨h.grown.os, h.grown.tape, h.grown.output, h.grown.size, h.grown.block⟩, h.fresh⟩
theorem LayAt.app {w W W6 : World} {B : Nat} {v0 v v' : Value} {o : Sp} {p q : Int} {ob : Obj} (h : LayAt w B v0 v o W) (hown : W6.ownsRow B 68 2 v' (o.length + 1) ((flat o).map (Value.int .i64) ++ [.int .i64 p, .int .i64 q])) (hgrow : (W.alloc ob).grownBy W6 v.ownBlock) (hob : v'.ownBlock = v.ownBlock ∨ v'.ownBlock = some (W.alloc ob).heap.size) : LayAt w B v0 v' (o ++ [(p, q)]) W6 := by
  have ha := h.alloc ob
  refine ⟨?_, ⟨hgrow.os.trans ha.grown.os, hgrow.tape.trans ha.grown.tape, hgrow.output.trans ha.grown.output, Nat.le_trans ha.grown.size hgrow.size, fun k hk hne => ?_⟩, ?_⟩
  · rw [flat_append, List.map_append, List.length_append]
    exact hown
  · refine (hgrow.block k (Nat.lt_of_lt_of_le hk ha.grown.size) (fun e => ?_)).trans (ha.grown.block k hk hne)
    rcases h.fresh with f | f
    · exact hne (e.trans f)
    · have := f k e.symm; omega
  · rcases hob with e | e
    · rw [e]; exact h.fresh
    · right
      intro g hg
      rw [e] at hg
      cases hg
      exact ha.grown.size
theorem LayAt.widen {w W : World} {B g n cap m : Nat} {v0 : Value} {o : Sp} (h : LayAt w B v0 (.slice (some ⟨g, 0, none⟩) n cap) o W) (hm : o.length = m + 1) (z : Int) : LayAt w B v0 (.slice (some ⟨g, 0, none⟩) n cap) (o.take m ++ [((o.at m).1, z)]) (W.setCell ⟨g, m * 2 + 1, none⟩ (.int .i64 z)) := by
  refine ⟨?_, ⟨h.grown.os, h.grown.tape, h.grown.output, by have := h.grown.size; simp; omega, fun k hk hne => ?_⟩, h.fresh⟩
  · have hl : (o.take m ++ [((o.at m).1, z)]).length = o.length := by simp; omega
    rw [hl, flat_widen hm]
    refine ⟨by have := h.own.1; simpa using this, ?_⟩
    rcases h.own.2 with ⟨e, _⟩ | ⟨g', cap', cur, e, h2, h3, h4, h5, h6, h7⟩
    · cases e
    · cases e
      refine .inr ⟨g, cap, cur.setIfInBounds (m * 2 + 1) (.int .i64 z), rfl, h2, ?_, h4, h5, by simpa using h6, ?_⟩
      · exact Blk.set (w := W) (g := g) (cs := cur) h3 (m * 2 + 1) _
      · rw [Array.toList_setIfInBounds, List.take_set, h7]
        simp
  · have hg : k ≠ g := by
      rintro rfl
      rcases h.fresh with f | f
      · exact hne f
      · have := f k rfl; omega
    exact (Below.heap_setCell W ⟨g, m * 2 + 1, none⟩ _ k hg).trans (h.grown.block k hk hne)
theorem LayAt.cells {w W : World} {B g n cap : Nat} {v0 : Value} {o : Sp} (h : LayAt w B v0 (.slice (some ⟨g, 0, none⟩) n cap) o W) {m : Nat} (hm : m < o.length) : W.cell? ⟨g, m * 2, none⟩ = some (.int .i64 (o.at m).1) ∧ W.cell? ⟨g, m * 2 + 1, none⟩ = some (.int .i64 (o.at m).2) ∧ ∀ j, W.frozen? ⟨g, j, none⟩ = false := by
  have hn : o.length = n := by
    rcases h.own.2 with ⟨e, _⟩ | ⟨g', cap', cur, e, _⟩
    · cases e
    · cases e; rfl
  have own := h.own
  rw [hn] at own
  have hl := flat_length o
  have e1 := own.cellAt (m * 2) (by omega)
  have e2 := own.cellAt (m * 2 + 1) (by omega)
  refine ⟨?_, ?_, fun j => own.frozenAt j⟩
  · rw [e1]
    have := flat_lo o m
    rw [show 2 * m = m * 2 by omega, List.getElem?_eq_getElem (by omega)] at this
    simp only [List.getElem?_map, List.getElem?_eq_getElem (show m * 2 < (flat o).length by omega), Option.map_some]
    unfold Sp.at
    rw [← this]; rfl
  · rw [e2]
    have := flat_hi o m
    rw [show 2 * m = m * 2 by omega, List.getElem?_eq_getElem (by omega)] at this
    simp only [List.getElem?_map, List.getElem?_eq_getElem (show m * 2 + 1 < (flat o).length by omega), Option.map_some]
    unfold Sp.at
    rw [← this]; rfl
end Go.Proofs.Ytbmbmnhamogghab
/- The walk through the program's laying of spans behind a set that it makes. No statement of the seat is proved here. -/
namespace Go.Proofs.Ytbmbmnhamogghab
open Go.RowKit
/-- A set of the maker's own: not nil. -/
theorem own_cases {W : World} {B e n : Nat} {v : Value} {xs : List Value} (h : W.ownsRow B e 2 v n xs) : (v = .slice none 0 0 ∧ n = 0) ∨ ∃ g cap n', v = .slice (some ⟨g, 0, none⟩) n' cap ∧ n' = n ∧ n ≤ cap := by
  rcases h.2 with e | ⟨g, cap, cur, e, _, _, h4, _⟩
  · exact .inl e
  · exact .inr ⟨g, cap, n, e, rfl, h4⟩
set_option maxRecDepth 100000 in
set_option maxHeartbeats 8000000 in
theorem laid_any (B : Nat) (v0 : Value) (o0 : Sp) (a : Option Addr) (len cap : Nat) (xs : Sp) (F : List Nat) (w : World) (hown : w.ownsRow B 68 2 v0 o0.length ((flat o0).map (Value.int .i64))) (hB : B ≤ w.heap.size) (h : RdP w a len xs F) (hF : ∀ b ∈ F, some b ≠ v0.ownBlock) (hlen : o0.length + len ≤ 4194304) (ho : ∀ p ∈ o0, InB p) (hx : ∀ p ∈ xs, InB p) :
    Calls Try.prog 79 #[v0, .slice a len cap] w fun e w' => ∃ v, e = .returned v ∧ LayAt w B v0 v (lay o0 xs) w' := by
  obtain ⟨t0, hi, hz0, hz1, hz2⟩ := info_parts infoSpan
  have HL : Hid (xs.length = len) := h.length
  have HIN : Hid (∀ p ∈ xs, InB p) := hx
  have HP0 : Hid (LayAt w B v0 v0 o0 w) := ⟨hown, ⟨rfl, rfl, rfl, Nat.le_refl _, fun _ _ _ => rfl⟩, .inl rfl⟩
  have HI0 : Hid (∀ p ∈ o0, InB p) := ho
  have HC : Hid (len = 0 ∨ ∃ b off, a = some ⟨b, off, none⟩ ∧ (b < w.heap.size ∧ some b ≠ v0.ownBlock) ∧ SpCells w b off len xs) := by
    rcases h.cells with ⟨h0, _⟩ | ⟨b, off, hp, e, hFb, hc⟩
    · exact .inl h0
    · exact .inr ⟨b, off, e, ⟨World.block_lt_of_cell? _ _ (hc 0 hp).1, hF b (by rw [hFb]; simp)⟩, hc⟩
  clear h hown hF ho hx
  go_enter Try.func79, Try.ntmps79
  go_wp2
  go_loopw [0, 10] (fun v i wr => ∃ (k : Nat) (o : Sp), k ≤ len ∧ i = .int .i64 k ∧ o.length ≤ o0.length + k ∧ Hid (LayAt w B v0 v o wr) ∧ Hid (∀ p ∈ o, InB p) ∧ Hid (lay o (xs.drop k) = lay o0 xs)) (fun _ i _ => len - (intOf i).toNat)
  case atStart => exact ⟨0, o0, by omega, rfl, by omega, HP0, HI0, rfl⟩
  case round =>
    clear HP0 HI0
    obtain ⟨k, o, hk, rfl, hol, HP, HI, HN⟩ := hrel
    by_cases hlt : k < len
    · have hca := HC.out
      rcases hca with h0 | ⟨b, off, rfl, hbw, hc⟩
      · omega
      obtain ⟨x, hx⟩ : ∃ x, x = (xs.at k).1 := ⟨_, rfl⟩
      obtain ⟨y, hy⟩ : ∃ x, x = (xs.at k).2 := ⟨_, rfl⟩
      have e := hc k hlt
      have hkl : k < xs.length := by rw [HL.out]; exact hlt
      have hb := HIN.out _ (Sp.at_mem hkl)
      have HXY : Hid (xs.at k = (x, y)) := by rw [hx, hy]; rfl
      rw [HXY.out] at hb e
      have HINX : Hid (InB (x, y)) := hb
      obtain ⟨⟨x0, x1⟩, y0, y1⟩ := hb
      have hblk := HP.out.grown.block b hbw.1 hbw.2
      have d1 : wr.cell? ⟨b, off + k * 2, none⟩ = some (.int .i64 x) := (World.cell?_of_block (w := w) (a := ⟨b, off + k * 2, none⟩) hblk).trans e.1
      have d2 : wr.cell? ⟨b, off + k * 2 + 1, none⟩ = some (.int .i64 y) := (World.cell?_of_block (w := w) (a := ⟨b, off + k * 2 + 1, none⟩) hblk).trans e.2
      have hI : (k : Int) < (len : Int) := by omega
      have HBW : Hid (B ≤ wr.heap.size) := Nat.le_trans hB HP.out.grown.size
      clear e hx hy hc hblk
      have hos := own_cases HP.out.own
      rcases hos with ⟨rfl, h0⟩ | ⟨g, cp, nn, rfl, hnn, hcp⟩
      · have HLA : Hid (lay1 o (x, y) = o ++ [(x, y)]) := lay1_apart (.inl (List.eq_nil_of_length_eq_zero h0))
        have HN2 : Hid (lay (o ++ [(x, y)]) (xs.drop (k + 1)) = lay o0 xs) := by
          rw [lay_drop hkl, HXY.out, HLA.out] at HN
          exact HN
        have HI2 : Hid (∀ p ∈ o ++ [(x, y)], InB p) := by rw [← HLA.out]; exact lay1_inb HI.out HINX.out
        go_wp2
        go_quiet (fail)
        obtain ⟨wq, hwq⟩ : ∃ W, W = (wr.alloc (.cells #[.int .i64 x, .int .i64 y] 68)).drewN nq := ⟨_, rfl⟩
        have HPq : Hid (LayAt w B v0 (.slice none 0 0) o wq) := by rw [hwq]; exact (HP.out.alloc _).drewN nq
        have b1 : wq.cell? ⟨wr.heap.size, 0, none⟩ = some (.int .i64 x) := by rw [hwq]; exact (Blk.made wr _ _).cell 0
        have b2 : wq.cell? ⟨wr.heap.size, 1, none⟩ = some (.int .i64 y) := by rw [hwq]; exact (Blk.made wr _ _).cell 1
        have HBq : Hid (B ≤ wq.heap.size) := by have := HBW.out; rw [hwq]; simp [World.drewN]; show _ ≤ _; omega
        rw [← hwq]
        clear hwq HP
        go_wp2_with (first | go_skip | (with_reducible refine stopAppend2 rfl ?_))
        refine Stop.intro (wpList_append_own_at _ rfl _ _ 24 rfl B 68 t0 (.agg #[.int .i64 0, .int .i64 0]) 2 16 Try.underlying24 hi hz0 hz1 hz2 rfl (by decide) _ (o).length ((flat (o)).map (Value.int .i64)) rfl (HPq.out.own.alloc _) ⟨wq.heap.size, 0, none⟩ 1 1 [.int .i64 x, .int .i64 y] rfl rfl (cell_new2 _ _ _ _) (by intro u hu; simp at hu; rcases hu with rfl | rfl <;> rfl) (by unfold maxLen; omega) (by omega) (by have := HBq.out; simp; omega) ?_)
        intro v2 w2 hown hgrow _ hob
        have HP2 : Hid (LayAt w B v0 v2 (o ++ [(x, y)]) w2) := HPq.out.app hown hgrow hob
        clear hown hgrow HPq hob
        go_wp2
        go_roundw
        case rel => exact ⟨k + 1, o ++ [(x, y)], by omega, by go_num, by simp; omega, HP2, HI2, HN2⟩
        case measure => simp [intOf]; omega
      have HNN : Hid (nn = o.length) := hnn
      clear hnn hcp
      rcases nn with _ | m
      · have HLA : Hid (lay1 o (x, y) = o ++ [(x, y)]) := lay1_apart (.inl (List.eq_nil_of_length_eq_zero HNN.out.symm))
        have HN2 : Hid (lay (o ++ [(x, y)]) (xs.drop (k + 1)) = lay o0 xs) := by
          rw [lay_drop hkl, HXY.out, HLA.out] at HN
          exact HN
        have HI2 : Hid (∀ p ∈ o ++ [(x, y)], InB p) := by rw [← HLA.out]; exact lay1_inb HI.out HINX.out
        go_wp2
        go_quiet (fail)
        obtain ⟨wq, hwq⟩ : ∃ W, W = (wr.alloc (.cells #[.int .i64 x, .int .i64 y] 68)).drewN nq := ⟨_, rfl⟩
        have HPq : Hid (LayAt w B v0 (.slice (some ⟨g, 0, none⟩) 0 cp) o wq) := by rw [hwq]; exact (HP.out.alloc _).drewN nq
        have b1 : wq.cell? ⟨wr.heap.size, 0, none⟩ = some (.int .i64 x) := by rw [hwq]; exact (Blk.made wr _ _).cell 0
        have b2 : wq.cell? ⟨wr.heap.size, 1, none⟩ = some (.int .i64 y) := by rw [hwq]; exact (Blk.made wr _ _).cell 1
        have HBq : Hid (B ≤ wq.heap.size) := by have := HBW.out; rw [hwq]; simp [World.drewN]; show _ ≤ _; omega
        rw [← hwq]
        clear hwq HP
        go_wp2_with (first | go_skip | (with_reducible refine stopAppend2 rfl ?_))
        refine Stop.intro (wpList_append_own_at _ rfl _ _ 24 rfl B 68 t0 (.agg #[.int .i64 0, .int .i64 0]) 2 16 Try.underlying24 hi hz0 hz1 hz2 rfl (by decide) _ (o).length ((flat (o)).map (Value.int .i64)) rfl (HPq.out.own.alloc _) ⟨wq.heap.size, 0, none⟩ 1 1 [.int .i64 x, .int .i64 y] rfl rfl (cell_new2 _ _ _ _) (by intro u hu; simp at hu; rcases hu with rfl | rfl <;> rfl) (by unfold maxLen; omega) (by omega) (by have := HBq.out; simp; omega) ?_)
        intro v2 w2 hown hgrow _ hob
        have HP2 : Hid (LayAt w B v0 v2 (o ++ [(x, y)]) w2) := HPq.out.app hown hgrow hob
        clear hown hgrow HPq hob
        go_wp2
        go_roundw
        case rel => exact ⟨k + 1, o ++ [(x, y)], by omega, by go_num, by simp; omega, HP2, HI2, HN2⟩
        case measure => simp [intOf]; omega
      have hm : o.length = m + 1 := HNN.out.symm
      obtain ⟨s, hs⟩ : ∃ x, x = (o.at m).1 := ⟨_, rfl⟩
      obtain ⟨t, ht⟩ : ∃ x, x = (o.at m).2 := ⟨_, rfl⟩
      have hcm := HP.out.cells (m := m) (by omega)
      have him := HI.out _ (Sp.at_mem (ps := o) (k := m) (by omega))
      unfold InB at him
      rw [← hs, ← ht] at hcm him
      have HST : Hid (o.at (o.length - 1) = (s, t)) := by rw [hm, show m + 1 - 1 = m by omega, hs, ht]; rfl
      obtain ⟨f1, f2, f3⟩ := hcm
      obtain ⟨⟨s0, s1⟩, t1, t2⟩ := him
      have HFZ : Hid (∀ j, wr.frozen? ⟨g, j, none⟩ = false) := f3
      have gd : decide ((m : Int) < 0) = false := decF (by omega)
      have hI3 : (m : Int) < (m : Int) + 1 := by omega
      have hM : m ≤ 4194304 := by omega
      have HNE : Hid (¬ o = []) := fun e => by rw [e] at hm; simp at hm
      have HM : Hid (o.length = m + 1) := hm
      clear hs ht f3 hm
      by_cases c : t + 1 < x
      · have cd : decide (t + 1 < x) = true := decT c
        have HLA : Hid (lay1 o (x, y) = o ++ [(x, y)]) := lay1_apart (.inr (by rw [HST.out]; exact c))
        have HN2 : Hid (lay (o ++ [(x, y)]) (xs.drop (k + 1)) = lay o0 xs) := by
          rw [lay_drop hkl, HXY.out, HLA.out] at HN
          exact HN
        have HI2 : Hid (∀ p ∈ o ++ [(x, y)], InB p) := by rw [← HLA.out]; exact lay1_inb HI.out HINX.out
        go_wp2
        obtain ⟨wa, hwa⟩ : ∃ W, W = wr.alloc (.cells #[.int .i64 x, .int .i64 y] 68) := ⟨_, rfl⟩
        have HPa : Hid (LayAt w B v0 (.slice (some ⟨g, 0, none⟩) (m + 1) cp) o wa) := by rw [hwa]; exact HP.out.alloc _
        have a1 : wa.cell? ⟨wr.heap.size, 0, none⟩ = some (.int .i64 x) := by rw [hwa]; exact (Blk.made wr _ _).cell 0
        have a2 : wa.cell? ⟨wr.heap.size, 1, none⟩ = some (.int .i64 y) := by rw [hwa]; exact (Blk.made wr _ _).cell 1
        have a3 : wa.cell? ⟨g, m * 2 + 1, none⟩ = some (.int .i64 t) := by
          have e4 := (HPa.out.cells (m := m) (by have := HM.out; omega)).2.1
          have e5 := HST.out
          rw [HM.out, show m + 1 - 1 = m by omega] at e5
          rw [e5] at e4
          exact e4
        have HBa : Hid (B ≤ wa.heap.size) := by have := HBW.out; rw [hwa]; simp; show _ ≤ _; omega
        rw [← hwa]
        clear hwa HP f1 f2
        go_quiet (fail)
        obtain ⟨wq, hwq⟩ : ∃ W, W = wa.drewN nq := ⟨_, rfl⟩
        have HPq : Hid (LayAt w B v0 (.slice (some ⟨g, 0, none⟩) (m + 1) cp) o wq) := by rw [hwq]; exact HPa.out.drewN nq
        have b1 : wq.cell? ⟨wr.heap.size, 0, none⟩ = some (.int .i64 x) := by rw [hwq]; exact a1
        have b2 : wq.cell? ⟨wr.heap.size, 1, none⟩ = some (.int .i64 y) := by rw [hwq]; exact a2
        have HBq : Hid (B ≤ wq.heap.size) := by rw [hwq]; exact HBa.out
        rw [← hwq]
        clear hwq HPa a1 a2 a3
        go_wp2_with (first | go_skip | (with_reducible refine stopAppend2 rfl ?_))
        refine Stop.intro (wpList_append_own_at _ rfl _ _ 24 rfl B 68 t0 (.agg #[.int .i64 0, .int .i64 0]) 2 16 Try.underlying24 hi hz0 hz1 hz2 rfl (by decide) _ (o).length ((flat (o)).map (Value.int .i64)) rfl (HPq.out.own.alloc _) ⟨wq.heap.size, 0, none⟩ 1 1 [.int .i64 x, .int .i64 y] rfl rfl (cell_new2 _ _ _ _) (by intro u hu; simp at hu; rcases hu with rfl | rfl <;> rfl) (by unfold maxLen; omega) (by omega) (by have := HBq.out; simp; omega) ?_)
        intro v2 w2 hown hgrow _ hob
        have HP2 : Hid (LayAt w B v0 v2 (o ++ [(x, y)]) w2) := HPq.out.app hown hgrow hob
        clear hown hgrow HPq hob
        go_wp2
        go_roundw
        case rel => exact ⟨k + 1, o ++ [(x, y)], by omega, by go_num, by simp; omega, HP2, HI2, HN2⟩
        case measure => simp [intOf]; omega
      have cd : decide (t + 1 < x) = false := decF c
      have HLA : Hid (lay1 o (x, y) = o.take m ++ [((o.at m).1, max t y)]) := by
        have := lay1_widen (o := o) (x := (x, y)) (fun e => by rw [HST.out] at e; exact e.elim HNE.out c)
        show _ = _
        rw [this, HST.out, HM.out, show m + 1 - 1 = m by omega]
        have e2 := HST.out
        rw [HM.out, show m + 1 - 1 = m by omega] at e2
        rw [e2]
      have HN2 : Hid (lay (o.take m ++ [((o.at m).1, max t y)]) (xs.drop (k + 1)) = lay o0 xs) := by
        rw [lay_drop hkl, HXY.out, HLA.out] at HN
        exact HN
      have HI2 : Hid (∀ p ∈ o.take m ++ [((o.at m).1, max t y)], InB p) := by rw [← HLA.out]; exact lay1_inb HI.out HINX.out
      go_wp2
      obtain ⟨wa, hwa⟩ : ∃ W, W = wr.alloc (.cells #[.int .i64 x, .int .i64 y] 68) := ⟨_, rfl⟩
      have HPa : Hid (LayAt w B v0 (.slice (some ⟨g, 0, none⟩) (m + 1) cp) o wa) := by rw [hwa]; exact HP.out.alloc _
      have a1 : wa.cell? ⟨wr.heap.size, 0, none⟩ = some (.int .i64 x) := by rw [hwa]; exact (Blk.made wr _ _).cell 0
      have a2 : wa.cell? ⟨wr.heap.size, 1, none⟩ = some (.int .i64 y) := by rw [hwa]; exact (Blk.made wr _ _).cell 1
      have a3 : wa.cell? ⟨g, m * 2 + 1, none⟩ = some (.int .i64 t) := by
        have e4 := (HPa.out.cells (m := m) (by have := HM.out; omega)).2.1
        have e5 := HST.out
        rw [HM.out, show m + 1 - 1 = m by omega] at e5
        rw [e5] at e4
        exact e4
      have HBa : Hid (B ≤ wa.heap.size) := by have := HBW.out; rw [hwa]; simp; show _ ≤ _; omega
      rw [← hwa]
      clear hwa HP f1 f2
      go_quiet (fail)
      obtain ⟨wq, hwq⟩ : ∃ W, W = wa.drewN nq := ⟨_, rfl⟩
      have HPq : Hid (LayAt w B v0 (.slice (some ⟨g, 0, none⟩) (m + 1) cp) o wq) := by rw [hwq]; exact HPa.out.drewN nq
      have b1 : wq.cell? ⟨wr.heap.size, 0, none⟩ = some (.int .i64 x) := by rw [hwq]; exact a1
      have b2 : wq.cell? ⟨wr.heap.size, 1, none⟩ = some (.int .i64 y) := by rw [hwq]; exact a2
      have hcq := HPq.out.cells (m := m) (by have := HM.out; omega)
      have e3 := HST.out
      rw [HM.out, show m + 1 - 1 = m by omega] at e3
      rw [e3] at hcq
      obtain ⟨f1, f2, f3⟩ := hcq
      have f4 := f3 (m * 2 + 1)
      rw [← hwq]
      have HPw : Hid (LayAt w B v0 (.slice (some ⟨g, 0, none⟩) (m + 1) cp) (o.take m ++ [((o.at m).1, max t y)]) (wq.setCell ⟨g, m * 2 + 1, none⟩ (.int .i64 (max t y)))) := HPq.out.widen HM.out _
      clear hwq HPa a1 a2 a3 f3 e3 HPq
      go_wp2
      go_region
      go_wp2
      go_roundw
      case rel => exact ⟨k + 1, o.take m ++ [((o.at m).1, max t y)], by omega, by go_num, by have := HM.out; simp; omega, (by rw [show (if t < y then y else t) = max t y by split <;> omega]; exact HPw.out.drewN 1), HI2, HN2⟩
      case measure => simp [intOf]; omega
    · obtain rfl : k = len := by omega
      have HV : Hid (o = lay o0 xs) := by
        have := HN.out
        rw [List.drop_eq_nil_of_le (by rw [HL.out]; omega)] at this
        exact this
      go_wp2
      go_ret
      rw [← HV.out]
      exact ⟨_, rfl, HP.out⟩
end Go.Proofs.Ytbmbmnhamogghab
/- The walks through the program's cutting of a set, and its going through two sets. No statement of the seat is proved here. -/
namespace Go.Proofs.Ytbmbmnhamogghab
open Go.RowKit
theorem flat_take : ∀ (ps : Sp) (k : Nat), flat (ps.take k) = (flat ps).take (2 * k)
  | [], k => by simp [flat]
  | p :: ps, 0 => by simp [flat]
  | p :: ps, k + 1 => by rw [List.take_succ_cons, flat, flat, flat_take ps k, show 2 * (k + 1) = 2 * k + 1 + 1 by omega, List.take_succ_cons, List.take_succ_cons]
theorem flat_drop : ∀ (ps : Sp) (k : Nat), flat (ps.drop k) = (flat ps).drop (2 * k)
  | [], k => by simp [flat]
  | p :: ps, 0 => by simp [flat]
  | p :: ps, k + 1 => by rw [List.drop_succ_cons, flat, flat_drop ps k, show 2 * (k + 1) = 2 * k + 1 + 1 by omega, List.drop_succ_cons, List.drop_succ_cons]
theorem RdP.take {w : World} {a : Option Addr} {len : Nat} {ps : Sp} {F : List Nat} (h : RdP w a len ps F) {k : Nat} (hk : k ≤ len) : ∃ G, RdP w a k (ps.take k) G ∧ ∀ b ∈ G, b ∈ F := by
  have hl := h.length
  by_cases h0 : k = 0
  · subst h0
    exact ⟨[], by simpa using (RdP.nil (w := w) (a := a)), by simp⟩
  · rcases h.rd.cells with ⟨e, _⟩ | ⟨b, off, hp, e, eF, hc⟩
    · omega
    · refine ⟨F, ⟨by simp; omega, ?_, .inr ⟨b, off, by omega, e, eF, fun i hi => ?_⟩⟩, fun b hb => hb⟩
      · rw [flat_length]; simp; omega
      · rw [hc i (by omega), flat_take]
        simp [List.getD_eq_getElem?_getD, hi]
theorem RdP.drop {w : World} {b off len : Nat} {ps : Sp} {F : List Nat} (h : RdP w (some ⟨b, off, none⟩) len ps F) {k : Nat} (hk : k < len) : RdP w (some ⟨b, off + k * 2, none⟩) (len - k) (ps.drop k) F := by
  have hl := h.length
  rcases h.rd.cells with ⟨e, _⟩ | ⟨b', off', hp, e, eF, hc⟩
  · omega
  · obtain ⟨rfl, rfl⟩ : b = b' ∧ off = off' := by simpa using e
    refine ⟨by simp; omega, ?_, .inr ⟨b, off + k * 2, by omega, rfl, eF, fun i hi => ?_⟩⟩
    · rw [flat_length]; simp; omega
    · rw [show off + k * 2 + i = off + (2 * k + i) by omega, hc (2 * k + i) (by omega), flat_drop]
      simp [List.getD_eq_getElem?_getD]
theorem cutN_at {ps : Sp} {k : Nat} {n : Int} (hk : k < ps.length) (h : (ps.at k).1 ≤ n) : cutN (ps.drop k) n = cutN (ps.drop (k + 1)) n + 1 := by rw [drop_at hk, cutN, if_pos h]
theorem cutN_stop {ps : Sp} {k : Nat} {n : Int} (hk : k < ps.length) (h : ¬ (ps.at k).1 ≤ n) : cutN (ps.drop k) n = 0 := by rw [drop_at hk, cutN, if_neg h]
/-- What a cut tells: the part ahead, the part behind, both out of what was there. -/
def CutTo (w : World) (ps : Sp) (F : List Nat) (k : Nat) (e : Ending) (w' : World) : Prop :=
  ∃ a1 l1 c1 a2 l2 c2 F1 F2, e = .returned (.tuple #[.slice a1 l1 c1, .slice a2 l2 c2]) ∧ RdP w a1 l1 (ps.take k) F1 ∧ RdP w a2 l2 (ps.drop k) F2 ∧ (∀ b ∈ F1, b ∈ F) ∧ (∀ b ∈ F2, b ∈ F) ∧ l2 ≤ c2 ∧ QuietTo w w'
set_option maxRecDepth 200000 in
set_option maxHeartbeats 4000000 in
theorem cutAt_any (a : Option Addr) (len cap : Nat) (ps : Sp) (n : Int) (F : List Nat) (w : World) (h : RdP w a len ps F) (hlen : len ≤ 4194304) (hcap : len ≤ cap) :
    Calls Try.prog 78 #[.slice a len cap, .int .i64 n] w fun e w' => CutTo w ps F (cutN ps n) e w' := by
  have HL : Hid (ps.length = len) := h.length
  have HR : Hid (RdP w a len ps F) := h
  have HC : Hid (len = 0 ∨ ∃ b off, a = some ⟨b, off, none⟩ ∧ b < w.heap.size ∧ SpCells w b off len ps) := cells_of h
  have HS : Hid (∀ k, k ≤ len → ∀ w', QuietTo w w' → CutTo w ps F k (.returned (.tuple #[.slice a k k, .slice (if len = k then a else a.map (·.add (k * 2))) (len - k) (len - k)])) w') := by
    intro k hk w' hq
    obtain ⟨F1, r1, g1⟩ := h.take hk
    by_cases e : len = k
    · refine ⟨_, _, _, _, _, _, F1, [], rfl, r1, ?_, g1, by simp, Nat.le_refl _, hq⟩
      rw [List.drop_eq_nil_of_le (by rw [h.length]; omega), show len - k = 0 by omega]
      exact RdP.nil
    · rcases cells_of h with h0 | ⟨b, off, rfl, _, _⟩
      · omega
      · refine ⟨_, _, _, _, _, _, F1, F, rfl, r1, ?_, g1, fun b hb => hb, Nat.le_refl _, hq⟩
        rw [if_neg e]
        simp only [Option.map_some, Addr.add_lit]
        exact h.drop (k := k) (by omega)
  clear h
  go_enter Try.func78, Try.ntmps78
  go_wp2
  go_loopw [6] (fun i wr => ∃ (k : Nat), k ≤ len ∧ i = .int .i64 k ∧ Hid (QuietTo w wr) ∧ Hid (cutN ps n = k + cutN (ps.drop k) n)) (fun i _ => len - (intOf i).toNat)
  case atStart => exact ⟨0, by omega, rfl, QuietTo.refl _, by show _ = _; simp⟩
  case round =>
    obtain ⟨k, hk, rfl, HW, HN⟩ := hrel
    by_cases hlt : k < len
    · have hca := HC.out
      rcases hca with h0 | ⟨b, off, rfl, hbw, hc⟩
      · omega
      obtain ⟨x, hx⟩ : ∃ x, x = (ps.at k).1 := ⟨_, rfl⟩
      have e := (hc k hlt).1
      rw [← hx] at e
      have d1 : wr.cell? ⟨b, off + k * 2, none⟩ = some (.int .i64 x) := (HW.out.cell _).trans e
      have HX : Hid (x = (ps.at k).1) := hx
      have hI : (k : Int) < (len : Int) := by omega
      have hkl : k < ps.length := by rw [HL.out]; exact hlt
      clear hx hc e
      by_cases c : x ≤ n
      · have cd : decide (x ≤ n) = true := decT c
        have HN2 : Hid (cutN ps n = k + 1 + cutN (ps.drop (k + 1)) n) := by
          have := HN.out
          rw [cutN_at hkl (by rw [← HX.out]; exact c)] at this
          show _ = _
          omega
        go_wp2
        go_roundw
        case rel => exact ⟨k + 1, by omega, by go_num, HW, HN2⟩
        case measure => simp [intOf]; omega
      · have cd : decide (x ≤ n) = false := decF c
        have HK : Hid (cutN ps n = k) := by
          have := HN.out
          rw [cutN_stop hkl (by rw [← HX.out]; exact c)] at this
          show _ = _
          omega
        have hne : ¬ len = k := by omega
        have i1 : (k : Int) ≤ (len : Int) := by omega
        have i2 : (len : Int) ≤ (cap : Int) := by omega
        have i3 : (k : Int) ≤ (cap : Int) := by omega
        have HT : Hid (∀ w', QuietTo w w' → CutTo w ps F (cutN ps n) (.returned (.tuple #[.slice (some ⟨b, off, none⟩) k k, .slice (some ⟨b, off + k * 2, none⟩) (len - k) (len - k)])) w') := by
          intro w' hq
          have := HS.out k (by omega) w' hq
          rw [if_neg hne] at this
          simp only [Option.map_some, Addr.add_lit] at this
          rw [HK.out]
          exact this
        go_wp2
        go_quiet (fail)
        go_wp2
        go_ret2
        exact HT.out _ (HW.out.drewN _)
    · obtain rfl : k = len := by omega
      have HK : Hid (cutN ps n = k) := by
        have := HN.out
        rw [List.drop_eq_nil_of_le (by rw [HL.out]; omega)] at this
        exact this
      have hg : decide ((k : Int) < (k : Int)) = false := decF (by omega)
      have i2 : (k : Int) ≤ (cap : Int) := by omega
      have HT : Hid (∀ w', QuietTo w w' → CutTo w ps F (cutN ps n) (.returned (.tuple #[.slice a k k, .slice a 0 0])) w') := by
        intro w' hq
        have := HS.out k (by omega) w' hq
        rw [if_pos rfl, Nat.sub_self] at this
        rw [HK.out]
        exact this
      go_wp2
      go_quiet (fail)
      go_wp2
      go_ret2
      exact HT.out _ (HW.out.drewN _)
end Go.Proofs.Ytbmbmnhamogghab
/- The walk through the program's going through two sets. No statement of the seat is proved here. -/
namespace Go.Proofs.Ytbmbmnhamogghab
open Go.RowKit
theorem RdP.move {w W : World} {B : Nat} {a : Option Addr} {len : Nat} {ps : Sp} {F : List Nat} (h : RdP w a len ps F) (hF : ∀ b ∈ F, b < B) (h1 : Below B w W) : RdP W a len ps F := h.agree (fun b hb => h1.block b (hF b hb))
theorem RdP.back {w W : World} {B : Nat} {a : Option Addr} {len : Nat} {ps : Sp} {F : List Nat} (h : RdP W a len ps F) (hF : ∀ b ∈ F, b < B) (h1 : Below B w W) : RdP w a len ps F := h.agree (fun b hb => (h1.block b (hF b hb)).symm)
theorem LayAt.below {w W : World} {B n : Nat} {v0 v : Value} {o : Sp} {xs : List Value} (h : LayAt w B v0 v o W) (h0 : w.ownsRow B 68 2 v0 n xs) (hB : B ≤ w.heap.size) : Below B w W :=
  ⟨h.grown.os, h.grown.tape, h.grown.output, h.grown.size, fun k hk => h.grown.block k (by omega) (fun e => by have := (h0.lt k e.symm).1; omega)⟩
/-- Midway in a round: the set that is made, the span's box. -/
structure MidB (w : World) (nb : Nat) (x y : Int) (v : Value) (o : Sp) (W : World) : Prop where
  own : W.ownsRow w.heap.size 68 2 v o.length ((flat o).map (Value.int .i64))
  bel : Below w.heap.size w W
  box : Blk W nb #[.int .i64 x, .int .i64 y] 68
  ne : some nb ≠ v.ownBlock
theorem MidB.alloc {w : World} {nb : Nat} {x y : Int} {v : Value} {o : Sp} {W : World} (h : MidB w nb x y v o W) (ob : Obj) : MidB w nb x y v o (W.alloc ob) := ⟨h.own.alloc _, Below.allocW _ h.bel (Nat.le_refl _), h.box.alloc _, h.ne⟩
theorem MidB.drew {w : World} {nb : Nat} {x y : Int} {v : Value} {o : Sp} {W : World} (h : MidB w nb x y v o W) : MidB w nb x y v o W.drew := ⟨⟨h.own.1, h.own.2⟩, h.bel.drew, h.box, h.ne⟩
/-- Behind the first laying: what lay beside lies there still. -/
structure AftB (w : World) (nb : Nat) (x y : Int) (v v' : Value) (o' : Sp) (W W' : World) : Prop where
  mid : MidB w nb x y v' o' W'
  old : ∀ g cs t, Blk W g cs t → some g ≠ v.ownBlock → Blk W' g cs t ∧ some g ≠ v'.ownBlock
theorem AftB.of {w : World} {nb : Nat} {x y : Int} {v v' : Value} {o o' : Sp} {W W' : World} (h : MidB w nb x y v o W) (k : LayAt W w.heap.size v v' o' W') : AftB w nb x y v v' o' W W' := by
  have hold : ∀ g cs t, Blk W g cs t → some g ≠ v.ownBlock → Blk W' g cs t ∧ some g ≠ v'.ownBlock := fun g cs t hb hne => by
    refine ⟨hb.agree (k.grown.block g hb.lt hne), ?_⟩
    rcases k.fresh with e | e
    · rw [e]; exact hne
    · intro e2; have := e g e2.symm; have := hb.lt; omega
  obtain ⟨h1, h2⟩ := hold _ _ _ h.box h.ne
  exact ⟨⟨k.own, h.bel.trans (k.below h.own h.bel.size), h1, h2⟩, hold⟩
/-- Ahead of the second laying: the one span's slice. -/
structure TwoB (w : World) (nb : Nat) (x y : Int) (v' : Value) (o' : Sp) (g : Nat) (W : World) : Prop where
  mid : MidB w nb x y v' o' W
  one : Blk W g #[.int .i64 x, .int .i64 y] 68
  ne : some g ≠ v'.ownBlock
theorem AftB.two {w : World} {nb : Nat} {x y : Int} {v v' : Value} {o o' : Sp} {W W' : World} (h : AftB w nb x y v v' o' (W.alloc (.cells #[.int .i64 x, .int .i64 y] 68)).drew W') (k : MidB w nb x y v o W) : TwoB w nb x y v' o' W.heap.size W' := by
  obtain ⟨h1, h2⟩ := h.old _ _ _ (Blk.made W _ _) (fun e => by have := (k.own.lt _ e.symm).2; omega)
  exact ⟨h.mid, h1, h2⟩
theorem AftB.new {w : World} {nb : Nat} {x y : Int} {v v' : Value} {o' : Sp} {W W' : World} (h : AftB w nb x y v v' o' W W') : TwoB w nb x y v' o' W'.heap.size (W'.alloc (.cells #[.int .i64 x, .int .i64 y] 68)) :=
  ⟨h.mid.alloc _, Blk.made _ _ _, fun e => by have := (h.mid.own.lt _ e.symm).2; omega⟩
theorem rdP_one {W : World} {g : Nat} {x y : Int} {t : TypeId} (h : Blk W g #[.int .i64 x, .int .i64 y] t) : RdP W (some ⟨g, 0, none⟩) 1 [(x, y)] [g] :=
  ⟨rfl, rdI_tcv (xs := flat [(x, y)]) (by simpa [tcv, flat] using h) (by simp [flat]) (by omega)⟩
/-- Ahead of a round. -/
structure BInv (w : World) (ps qs : Sp) (k : Nat) (o rs : Sp) (aa : Option Addr) (la ca : Nat) (F : List Nat) (v : Value) (wr : World) : Prop where
  own : wr.ownsRow w.heap.size 68 2 v o.length ((flat o).map (Value.int .i64))
  bel : Below w.heap.size w wr
  rd : RdP w aa la rs F
  lt : ∀ b ∈ F, b < w.heap.size
  cap : la ≤ ca
  len : o.length + rs.length ≤ ps.length + k
  ino : ∀ p ∈ o, InB p
  ina : ∀ p ∈ rs, InB p
  eq : both rs (qs.drop k) o = both ps qs []
set_option maxRecDepth 100000 in
set_option maxHeartbeats 8000000 in
theorem spansOfBoth_any (a b : Option Addr) (la lb ca cb : Nat) (ps qs : Sp) (F G : List Nat) (w : World) (h : RdP w a la ps F) (k : RdP w b lb qs G) (hlen : la + lb ≤ 2097153) (hca : la ≤ ca) (h1 : ∀ p ∈ ps, InB p) (h2 : ∀ p ∈ qs, InB p) :
    Calls Try.prog 57 #[.slice a la ca, .slice b lb cb] w fun e w' => NewP w (both ps qs []) e w' := by
  have HL : Hid (ps.length = la ∧ qs.length = lb) := ⟨h.length, k.length⟩
  have HI : Hid (∀ p ∈ qs, InB p) := h2
  have HP0 : Hid (BInv w ps qs 0 [] ps a la ca F (.slice none 0 0) w) := ⟨⟨by simp [flat], .inl ⟨rfl, rfl⟩⟩, Below.refl _ _, h, h.lt, hca, by simp, by simp, h1, rfl⟩
  have HCB : Hid (lb = 0 ∨ ∃ b1 o1, b = some ⟨b1, o1, none⟩ ∧ b1 < w.heap.size ∧ SpCells w b1 o1 lb qs) := cells_of k
  clear h k h1 h2
  go_enter Try.func57, Try.ntmps57
  go_wp2
  go_loopw [0, 5, 12] (fun av v i wr => ∃ (k : Nat) (o rs : Sp) (aa : Option Addr) (la ca : Nat) (F : List Nat), k ≤ lb ∧ i = .int .i64 k ∧ av = .slice aa la ca ∧ Hid (BInv w ps qs k o rs aa la ca F v wr)) (fun _ _ i _ => lb - (intOf i).toNat)
  case atStart => exact ⟨0, [], ps, a, la, ca, F, by omega, rfl, rfl, HP0⟩
  case round =>
    clear HP0
    obtain ⟨k, o, rs, aa, l0, c0, F0, hk, rfl, rfl, HP⟩ := hrel
    by_cases hlt : k < lb
    · have hcb := HCB.out
      rcases hcb with h0 | ⟨b1, o1, rfl, hbw, hc⟩
      · omega
      obtain ⟨x, hx⟩ : ∃ x, x = (qs.at k).1 := ⟨_, rfl⟩
      obtain ⟨y, hy⟩ : ∃ x, x = (qs.at k).2 := ⟨_, rfl⟩
      have e := hc k hlt
      have hql : k < qs.length := by rw [HL.out.2]; exact hlt
      have HXY : Hid (qs.at k = (x, y)) := by rw [hx, hy]; rfl
      have HINX : Hid (InB (x, y)) := by rw [← HXY.out]; exact HI.out _ (Sp.at_mem hql)
      rw [HXY.out] at e
      have d1 : wr.cell? ⟨b1, o1 + k * 2, none⟩ = some (.int .i64 x) := (HP.out.bel.cell (by exact hbw)).trans e.1
      have d2 : wr.cell? ⟨b1, o1 + k * 2 + 1, none⟩ = some (.int .i64 y) := (HP.out.bel.cell (by exact hbw)).trans e.2
      have hI : (k : Int) < (lb : Int) := by omega
      have HLN : Hid (o.length + rs.length ≤ 2097153) := by have := HP.out.len; have := HL.out; show _ ≤ _; omega
      have HLA : Hid (rs.length = l0) := HP.out.rd.length
      clear e hx hy hc
      go_wp2_with fail
      have HWA : Hid (Below w.heap.size w (wr.alloc (.cells #[.int .i64 x, .int .i64 y] 68))) := Below.allocW _ HP.out.bel (Nat.le_refl _)
      refine (cutAt_any aa l0 c0 rs x F0 _ (HP.out.rd.move HP.out.lt HWA.out) (by have := HLN.out; have := HLA.out; omega) HP.out.cap).mono ?_
      rintro e w2 ⟨a1, l1, c1, a2, l2, c2, F1, F2, rfl, r1, r2, s1, s2, hcp2, hq⟩
      obtain ⟨cn, hcn⟩ : ∃ c, c = cutN rs x := ⟨_, rfl⟩
      rw [← hcn] at r1 r2
      have HQ1 : Hid (RdP w a1 l1 (rs.take cn) F1 ∧ (∀ b ∈ F1, b < w.heap.size) ∧ l1 ≤ rs.length) := ⟨r1.back (fun b hb => HP.out.lt b (s1 b hb)) HWA.out, fun b hb => HP.out.lt b (s1 b hb), by have e := r1.length; rw [List.length_take] at e; omega⟩
      have HQ2 : Hid (RdP w a2 l2 (rs.drop cn) F2 ∧ (∀ b ∈ F2, b < w.heap.size) ∧ l2 ≤ c2) := ⟨r2.back (fun b hb => HP.out.lt b (s2 b hb)) HWA.out, fun b hb => HP.out.lt b (s2 b hb), hcp2⟩
      have HM : Hid (MidB w wr.heap.size x y u5 o w2) := by
        obtain ⟨m, rfl⟩ := hq
        have hal := HP.out.own.alloc (.cells #[.int .i64 x, .int .i64 y] 68)
        exact ⟨⟨hal.1, hal.2⟩, ⟨HWA.out.os, HWA.out.tape, HWA.out.output, HWA.out.size, HWA.out.block⟩, Blk.made wr _ _, fun e => by have := (HP.out.own.lt _ e.symm).2; omega⟩
      have HCN : Hid (cn = cutN rs x) := hcn
      have q1 : w2.cell? ⟨wr.heap.size, 0, none⟩ = some (.int .i64 x) := HM.out.box.cell 0
      have q2 : w2.cell? ⟨wr.heap.size, 1, none⟩ = some (.int .i64 y) := HM.out.box.cell 1
      clear r1 r2 s1 s2 hcp2 hq hcn HWA d1 d2
      have HC1 : Hid (∀ W, MidB w wr.heap.size x y u5 o W → Calls Try.prog 79 #[u5, .slice a1 l1 c1] W (fun e w' => ∃ v', e = .returned v' ∧ AftB w wr.heap.size x y u5 v' (lay o (rs.take cn)) W w')) := by
        intro W hW
        refine (laid_any w.heap.size u5 o a1 l1 c1 (rs.take cn) F1 W hW.own hW.bel.size (HQ1.out.1.move HQ1.out.2.1 hW.bel) (fun b hb e => by have := HQ1.out.2.1 b hb; have := (hW.own.lt _ e.symm).1; omega) (by have := HLN.out; have := HQ1.out.2.2; omega) HP.out.ino (fun p hp => HP.out.ina p (List.mem_of_mem_take hp))).mono ?_
        rintro e w' ⟨v, rfl, hl⟩
        exact ⟨v, rfl, AftB.of hW hl⟩
      have HC2 : Hid (∀ v' W g, TwoB w wr.heap.size x y v' (lay o (rs.take cn)) g W → Calls Try.prog 79 #[v', .slice (some ⟨g, 0, none⟩) 1 1] W (fun e w' => ∃ v'', e = .returned v'' ∧ MidB w wr.heap.size x y v'' (lay1 (lay o (rs.take cn)) (x, y)) w')) := by
        intro v' W g hW
        refine (laid_any w.heap.size v' (lay o (rs.take cn)) (some ⟨g, 0, none⟩) 1 1 [(x, y)] [g] W hW.mid.own hW.mid.bel.size (rdP_one hW.one) (fun b hb => by rw [List.mem_singleton.1 hb]; exact hW.ne) (by have e := lay_length (rs.take cn) o; have := HLN.out; rw [List.length_take] at e; omega) (lay_inb HP.out.ino (fun p hp => HP.out.ina p (List.mem_of_mem_take hp))) (fun p hp => by rw [List.mem_singleton.1 hp]; exact HINX.out)).mono ?_
        rintro e w' ⟨v, rfl, hl⟩
        exact ⟨v, rfl, (AftB.of hW.mid hl).mid⟩
      have HFIN : Hid (∀ v' W, MidB w wr.heap.size x y v' (lay1 (lay o (rs.take cn)) (x, y)) W → BInv w ps qs (k + 1) (lay1 (lay o (rs.take cn)) (x, y)) (rs.drop cn) a2 l2 c2 F2 v' W) := by
        intro v' W hW
        refine ⟨hW.own, hW.bel, HQ2.out.1, HQ2.out.2.1, HQ2.out.2.2, ?_, lay1_inb (lay_inb HP.out.ino (fun p hp => HP.out.ina p (List.mem_of_mem_take hp))) HINX.out, fun p hp => HP.out.ina p (List.mem_of_mem_drop hp), ?_⟩
        · have e1 := lay1_length (lay o (rs.take cn)) (x, y)
          have e2 := lay_length (rs.take cn) o
          have e3 := HP.out.len
          rw [List.length_take] at e2
          rw [List.length_drop]
          omega
        · have e := HP.out.eq
          rw [drop_at hql, HXY.out, both] at e
          rw [HCN.out]
          exact e
      have HKE : Hid (∀ W, Blk W wr.heap.size #[.int .i64 x, .int .i64 y] 68 → W.cell? ⟨wr.heap.size, 0, none⟩ = some (.int .i64 x) ∧ W.cell? ⟨wr.heap.size, 1, none⟩ = some (.int .i64 y)) := fun W hW => ⟨hW.cell 0, hW.cell 1⟩
      have HMD : Hid (MidB w wr.heap.size x y u5 o w2.drew) := HM.out.drew
      have HMA : Hid (MidB w wr.heap.size x y u5 o (w2.alloc (.cells #[.int .i64 x, .int .i64 y] 68)).drew) := (HM.out.alloc _).drew
      go_wp2
      go_region_held3 (fun W => W.cell? ⟨wr.heap.size, 0, none⟩ = some (.int .i64 x) ∧ W.cell? ⟨wr.heap.size, 1, none⟩ = some (.int .i64 y))
        ((refine HKE.out _ ?_; first | (with_reducible exact k2.box) | (with_reducible exact k1.mid.box) | (with_reducible exact k1.mid.box.alloc _) | (with_reducible exact HMD.out.box) | (with_reducible exact HMA.out.box)))
        (first
          | (have zz := k1; clear zz; go_at_call 79; refine (HC2.out _ _ _ (by first | (with_reducible exact k1.two HM.out) | (with_reducible exact k1.new))).mono ?_; rintro e w4 ⟨v4, rfl, k2⟩)
          | (go_at_call 79; refine (HC1.out _ (by first | (with_reducible exact HMD.out) | (with_reducible exact HMA.out))).mono ?_; rintro e w3 ⟨v3, rfl, k1⟩))
      all_goals
        have HB2 := HFIN.out _ _ k2
        have HB3 : Hid (BInv w ps qs (k + 1) (lay1 (lay o (rs.take cn)) (x, y)) (rs.drop cn) a2 l2 c2 F2 v4 w4) := HB2
        clear HB2 k2 k1 HC1 HC2 HKE HFIN q1 q2 HMD HMA HM
        go_wp2
        go_roundw
      all_goals first | exact ⟨k + 1, _, _, a2, l2, c2, F2, by omega, by go_num, rfl, HB3⟩ | (simp [intOf]; omega)
    · obtain rfl : k = lb := by omega
      have HE : Hid (lay o rs = both ps qs []) := by
        have := HP.out.eq
        rw [List.drop_eq_nil_of_le (by rw [HL.out.2]; omega)] at this
        exact this
      go_wp2_with fail
      refine (laid_any w.heap.size u5 o aa l0 c0 rs F0 _ HP.out.own HP.out.bel.size (HP.out.rd.move HP.out.lt HP.out.bel) (fun b hb e => by have := HP.out.lt b hb; have := (HP.out.own.lt _ e.symm).1; omega) (by have := HP.out.len; have := HL.out; have := HP.out.rd.length; omega) HP.out.ino HP.out.ina).mono ?_
      rintro e w2 ⟨v, rfl, hl⟩
      have HV : Hid (LayAt wr w.heap.size u5 v (lay o rs) w2 ∧ Below w.heap.size w w2) := ⟨hl, HP.out.bel.trans (hl.below HP.out.own HP.out.bel.size)⟩
      clear hl
      go_wp2
      go_ret
      obtain ⟨a', c', F', rfl, hr, ho, hnn⟩ := rdP_of_own HV.out.1.own
      rw [← HE.out]
      exact ⟨_, _, _, F', rfl, hr, ho, HV.out.2, hnn⟩
end Go.Proofs.Ytbmbmnhamogghab
/- The walks through the program's copying of a set, and the library's comparing of two. No statement of the seat is proved here. -/
namespace Go.Proofs.Ytbmbmnhamogghab
open Go.RowKit
theorem run_copy_row2 {P : Program} (w : World) (dT sT ty elem : TypeId) (g len dCap : Nat) (a : Addr) (sCap : Nat) (cur : Array Value) (t : TypeId) (cs : List Value)
    (hu : P.underlying dT = some (.slice elem)) (hs : (P.info? elem).map (·.size) = some 2)
    (hg : w.heap[g]? = some (.cells cur t (0, 0))) (hn : cs.length = len * 2)
    (hsrc : ∀ j v, cs[j]? = some v → w.cell? (a.add j) = some v) (hfit : cs.length ≤ cur.size) (h1 : ∀ v ∈ cs, v.oneCell' = true) :
    (Builtin.copy_ #[dT, sT] ty #[.slice (some ⟨g, 0, none⟩) len dCap, .slice (some a) len sCap]).run P w =
      .ok (goInt len) (w.setRow g (cs ++ cur.toList.drop cs.length).toArray) := by
  have hl := run_loadCells_list (P := P) w a cs hsrc
  have hst := run_storeCells_at P g 0 t cs 0 cur w hg (by simpa using hfit) h1
  rw [hn] at hl
  cases hq : P.info? elem with
  | none => simp [hq] at hs
  | some i =>
    have hi : i.size = 2 := by simpa [hq] using hs
    simp [Builtin.copy_, run_underlying hu, Builtin.lenOf, Builtin.firstCells, sizeOf, typeInfo, hq, hi, hl, hst]
theorem run_copy_none2 {P : Program} (w : World) (dT sT ty elem : TypeId) (d a : Option Addr) (dCap sCap : Nat) (hu : P.underlying dT = some (.slice elem)) (hs : (P.info? elem).map (·.size) = some 2) :
    (Builtin.copy_ #[dT, sT] ty #[.slice d 0 dCap, .slice a 0 sCap]).run P w = .ok (goInt 0) w := by
  cases hq : P.info? elem with
  | none => simp [hq] at hs
  | some i =>
    have hl : ∀ (x : Addr), (loadCells x 0).run P w = .ok #[] w := fun x => by simpa using run_loadCells_list (P := P) w x [] (by simp)
    cases d <;> cases a <;> simp [Builtin.copy_, run_underlying hu, Builtin.lenOf, Builtin.firstCells, sizeOf, typeInfo, hq, storeCells, hl]
theorem wpList_copy_none2 {P : Program} {w : World} {ops : Array Oper} {rest : List Oper} {o : Oper} {a : Act} {Q : Exit → Act → World → Prop} (hgd : o.guard = none) (d s : Operand) (dT sT : TypeId)
    (ho : o.op = .call { callee := .builtin .copy, args := #[d, s], argTypes := #[dT, sT] }) (elem : TypeId) (hu : P.underlying dT = some (.slice elem)) (hsz : (P.info? elem).map (·.size) = some 2)
    (dp sp : Option Addr) (dCap sCap : Nat) (hd : a.eval d = .slice dp 0 dCap) (hs : a.eval s = .slice sp 0 sCap)
    (h : wpList P ops Q rest (a.put o.dst (goInt 0)) w) : wpList P ops Q (o :: rest) a w := by
  refine wpList_plain hgd fun K hK => ?_
  have hrun := run_copy_none2 (P := P) w dT sT o.type elem dp sp dCap sCap hu hsz
  unfold Oper.wp
  simp [execOp, ho, resolve, invoke, builtin, hd, hs, hrun, Result.andThen]
  exact hK _ _ h
theorem wpList_copy_own2 {P : Program} {w : World} {ops : Array Oper} {rest : List Oper} {o : Oper} {a : Act} {Q : Exit → Act → World → Prop} (hgd : o.guard = none) (d s : Operand) (dT sT : TypeId)
    (ho : o.op = .call { callee := .builtin .copy, args := #[d, s], argTypes := #[dT, sT] }) (elem : TypeId) (hu : P.underlying dT = some (.slice elem)) (hsz : (P.info? elem).map (·.size) = some 2)
    (g len dCap : Nat) (ad : Addr) (sCap : Nat) (hd : a.eval d = .slice (some ⟨g, 0, none⟩) len dCap) (hs : a.eval s = .slice (some ad) len sCap)
    (cur : Array Value) (t : TypeId) (hg : w.heap[g]? = some (.cells cur t (0, 0))) (cs : List Value) (hn : cs.length = len * 2)
    (hsrc : ∀ j v, cs[j]? = some v → w.cell? (ad.add j) = some v) (hfit : cs.length ≤ cur.size) (h1 : ∀ v ∈ cs, v.oneCell' = true)
    (h : wpList P ops Q rest (a.put o.dst (goInt len)) (w.setRow g (cs ++ cur.toList.drop cs.length).toArray)) : wpList P ops Q (o :: rest) a w := by
  refine wpList_plain hgd fun K hK => ?_
  have hrun := run_copy_row2 (P := P) w dT sT o.type elem g len dCap ad sCap cur t cs hu hsz hg hn hsrc hfit h1
  unfold Oper.wp
  simp [execOp, ho, resolve, invoke, builtin, hd, hs, hrun, Result.andThen]
  exact hK _ _ h
theorem infoSpan2 : (Try.prog.info? 68).map (·.size) = some 2 := by kernel_rfl
theorem flat_one {ps : Sp} : ∀ v ∈ (flat ps).map (Value.int .i64), v.oneCell' = true := by
  intro v hv
  obtain ⟨x, _, rfl⟩ := List.mem_map.1 hv
  rfl
set_option maxRecDepth 200000 in
set_option maxHeartbeats 2000000 in
theorem copiedSpans_any (a : Option Addr) (len cap : Nat) (ps : Sp) (F : List Nat) (w : World) (h : RdP w a len ps F) (hlen : len ≤ 2097152) :
    Calls Try.prog 60 #[.slice a len cap] w fun e w' => NewP w ps e w' := by
  obtain ⟨i0, hi, hz0, hz1, hz2⟩ := info_parts infoSpan
  have HL : Hid (ps.length = len) := h.length
  have HR : Hid (RdP w a len ps F) := h
  rcases h.cells with ⟨rfl, _, rfl⟩ | ⟨b, off, hp, rfl, _, _⟩
  · clear h
    go_enter Try.func60, Try.ntmps60
    go_wp2_with (at_make; refine wpList_make_full _ rfl _ _ 24 rfl w.heap.size 68 i0 (.agg #[.int .i64 0, .int .i64 0]) 2 Try.underlying24 hi hz0 hz1 .i64 .i64 _ _ 0 rfl rfl (by simp) (by simp) (by omega) (by unfold maxLen; omega) (Nat.le_refl _) ?_; intro w1 hown hgrow)
    have hcp := run_copy_none2 (P := Try.prog) w1 24 24 3 68 (some ⟨w.heap.size, 0, none⟩) a 0 cap Try.underlying24 infoSpan2
    rw [hcp]
    go_wp2
    go_ret
    exact ⟨_, 0, 0, [], rfl, RdP.nil, Own.nil, (Below.refl _ _).grown hgrow (Nat.le_refl _) (fun k hk => by cases hk), (fun e => by cases e), Nat.le_refl _⟩
  · clear h
    go_enter Try.func60, Try.ntmps60
    go_wp2_with (at_make; refine wpList_make_full _ rfl _ _ 24 rfl w.heap.size 68 i0 (.agg #[.int .i64 0, .int .i64 0]) 2 Try.underlying24 hi hz0 hz1 .i64 .i64 _ _ len rfl rfl rfl rfl (by rw [hz2]; omega) (by unfold maxLen; omega) (Nat.le_refl _) ?_; intro w1 hown hgrow)
    have HM : Hid (Blk w1 w.heap.size (tcv (List.replicate (2 * len) 0)) 68 ∧ Below w.heap.size w w1) := by
      refine ⟨?_, (Below.refl _ _).grown hgrow (Nat.le_refl _) (fun k hk => by cases hk)⟩
      have e := own_blk hown hp
      have e2 : (madeCells (Value.agg #[Value.int IntKind.i64 0, Value.int IntKind.i64 0]).cells (len * 2)).toList.toArray = tcv (List.replicate (2 * len) 0) := made_flat len
      rw [← e2]
      exact e
    clear hown hgrow
    have HLF : Hid ((flat ps).length = 2 * len) := by rw [flat_length, HL.out]; rfl
    have hcp := run_copy_row2 (P := Try.prog) w1 24 24 3 68 w.heap.size len len ⟨b, off, none⟩ cap _ 68 ((flat ps).map (Value.int .i64)) Try.underlying24 infoSpan2 HM.out.1 (by have := HLF.out; simp; omega) (cells_flat (HR.out.below HM.out.2) hp) (by have := HLF.out; simp [tcv]; omega) flat_one
    have hrow : ((flat ps).map (Value.int .i64) ++ (tcv (List.replicate (2 * len) 0)).toList.drop ((flat ps).map (Value.int .i64)).length).toArray = tcv (flat ps) := by
      have := HLF.out
      rw [List.drop_eq_nil_of_le (by simp [tcv]; omega), List.append_nil]
      rfl
    rw [hrow] at hcp
    have HW : Hid (Blk (w1.setRow w.heap.size (tcv (flat ps))) w.heap.size (tcv (flat ps)) 68 ∧ Below w.heap.size w (w1.setRow w.heap.size (tcv (flat ps)))) := ⟨HM.out.1.setRow, below_setRow HM.out.2 (Nat.le_refl _) _⟩
    clear hrow
    rw [hcp]
    go_wp2
    go_ret
    exact ⟨_, len, len, [w.heap.size], rfl, ⟨HL.out, rdI_tcv HW.out.1 HLF.out (by omega)⟩, ⟨by simp, fun b hb o => by simp at hb; subst hb; exact HW.out.1.frozen o, by simp⟩, HW.out.2, (fun e => by cases e), Nat.le_refl _⟩
theorem sp_eta (p : Int × Int) : p = (p.1, p.2) := rfl
set_option maxRecDepth 200000 in
set_option maxHeartbeats 2000000 in
theorem slEqualP_any (a b : Option Addr) (la lb ca cb : Nat) (xs ys : Sp) (F G : List Nat) (w : World) (ha : RdP w a la xs F) (hb : RdP w b lb ys G) (hla : la ≤ 140737488355328) (hlb : lb ≤ 140737488355328) :
    Calls Try.prog 31 #[.slice a la ca, .slice b lb cb] w fun e w' => e = .returned (.bool (decide (xs = ys))) ∧ QuietTo w w' := by
  have Hx : Hid (xs.length = la) := ha.length
  have Hy : Hid (ys.length = lb) := hb.length
  by_cases hl : la = lb
  · subst hl
    have hbne : ((la : Int) != (la : Int)) = false := by simp
    have HCA : Hid (la = 0 ∨ ∃ b1 o1, a = some ⟨b1, o1, none⟩ ∧ b1 < w.heap.size ∧ SpCells w b1 o1 la xs) := cells_of ha
    have HCB : Hid (la = 0 ∨ ∃ b1 o1, b = some ⟨b1, o1, none⟩ ∧ b1 < w.heap.size ∧ SpCells w b1 o1 la ys) := cells_of hb
    clear ha hb
    go_enter Try.func31, Try.ntmps31
    go_wp2
    go_loopw [13] (fun i wr => ∃ k : Nat, k ≤ la ∧ i = .int .i64 k ∧ Hid (xs.take k = ys.take k) ∧ Hid (QuietTo w wr)) (fun i _ => la - (intOf i).toNat)
    case atStart => exact ⟨0, by omega, rfl, rfl, QuietTo.refl _⟩
    case round =>
      obtain ⟨k, hk, rfl, HT, HQ⟩ := hrel
      by_cases hlt : k < la
      · rcases HCA.out with h0 | ⟨b1, o1, rfl, hbw1, hc1⟩
        · omega
        rcases HCB.out with h0 | ⟨b2, o2, rfl, hbw2, hc2⟩
        · omega
        obtain ⟨x, hx⟩ : ∃ x, x = (xs.at k).1 := ⟨_, rfl⟩
        obtain ⟨y, hy⟩ : ∃ x, x = (xs.at k).2 := ⟨_, rfl⟩
        obtain ⟨x', hx'⟩ : ∃ x, x = (ys.at k).1 := ⟨_, rfl⟩
        obtain ⟨y', hy'⟩ : ∃ x, x = (ys.at k).2 := ⟨_, rfl⟩
        have e1 := hc1 k hlt
        have e2 := hc2 k hlt
        rw [← hx, ← hy] at e1
        rw [← hx', ← hy'] at e2
        have d1 : wr.cell? ⟨b1, o1 + k * 2, none⟩ = some (.int .i64 x) := (HQ.out.cell _).trans e1.1
        have d2 : wr.cell? ⟨b1, o1 + k * 2 + 1, none⟩ = some (.int .i64 y) := (HQ.out.cell _).trans e1.2
        have d3 : wr.cell? ⟨b2, o2 + k * 2, none⟩ = some (.int .i64 x') := (HQ.out.cell _).trans e2.1
        have d4 : wr.cell? ⟨b2, o2 + k * 2 + 1, none⟩ = some (.int .i64 y') := (HQ.out.cell _).trans e2.2
        have HE : Hid ((x = x' ∧ y = y') ↔ xs[k]?.getD (0, 0) = ys[k]?.getD (0, 0)) := by rw [hx, hy, hx', hy']; exact Prod.ext_iff.symm
        have hI : (k : Int) < (la : Int) := by omega
        clear e1 e2 hx hy hx' hy' hc1 hc2
        by_cases c : x = x' ∧ y = y'
        · have e1 : (x == x') = true := by simp [c.1]
          have e2 : (y == y') = true := by simp [c.2]
          have HT2 : Hid (xs.take (k + 1) = ys.take (k + 1)) := eqP_step (by rw [Hx.out, Hy.out]) (by rw [Hx.out]; exact hlt) HT.out (HE.out.1 c)
          clear c
          go_wp2
          go_quiet (fail)
          go_wp2
          go_roundw
          case rel => exact ⟨k + 1, by omega, by go_num, HT2, HQ.out.drewN _⟩
          case measure => simp [intOf]; omega
        have HV : Hid (decide (xs = ys) = false) := neP_of_at (fun e => c (HE.out.2 e))
        by_cases c1 : x = x'
        · have e1 : (x == x') = true := by simp [c1]
          have e2 : (y == y') = false := by simpa using (fun e => c ⟨c1, e⟩)
          clear c c1
          go_wp2
          go_quiet (fail)
          go_wp2
          go_ret
          exact ⟨ret_bool HV.out.symm, HQ.out.drewN _⟩
        · have e1 : (x == x') = false := by simpa using c1
          clear c c1
          go_wp2
          go_quiet (fail)
          go_wp2
          go_ret
          exact ⟨ret_bool HV.out.symm, HQ.out.drewN _⟩
      · obtain rfl : k = la := by omega
        go_wp2
        go_ret
        exact ⟨ret_bool (eqP_end Hx.out Hy.out HT.out).symm, HQ.out⟩
  · have hbne : ((la : Int) != (lb : Int)) = true := by simp; omega
    have e : decide (xs = ys) = false := by
      rw [decide_eq_false_iff_not]; intro e; subst e; exact hl (Hx.out.symm.trans Hy.out)
    clear ha hb
    go_enter Try.func31, Try.ntmps31
    go_wp2
    go_ret
    exact ⟨ret_bool e.symm, QuietTo.refl _⟩
end Go.Proofs.Ytbmbmnhamogghab
/- The walks through the program's SetAdd and SetJoin. No statement of the seat is proved here. -/
namespace Go.Proofs.Ytbmbmnhamogghab
open Go.RowKit
set_option maxRecDepth 200000 in
theorem inRangeP_any (n m : Int) (w : World) : Calls Try.prog 42 #[.int .i64 n, .int .i64 m] w fun e w' => e = .returned (.bool (decide (0 ≤ n ∧ n ≤ m))) ∧ w' = w := by
  by_cases h1 : 0 ≤ n
  · have e1 : decide (0 ≤ n) = true := decT h1
    by_cases h2 : n ≤ m
    · have e2 : decide (n ≤ m) = true := decT h2
      have HV : Hid (decide (0 ≤ n ∧ n ≤ m) = true) := decT ⟨h1, h2⟩
      clear h1 h2
      go_enter Try.func42, Try.ntmps42
      go_wp2
      go_ret
      exact ⟨ret_bool HV.out.symm, rfl⟩
    · have e2 : decide (n ≤ m) = false := decF h2
      have HV : Hid (decide (0 ≤ n ∧ n ≤ m) = false) := decF (fun e => h2 e.2)
      clear h1 h2
      go_enter Try.func42, Try.ntmps42
      go_wp2
      go_ret
      exact ⟨ret_bool HV.out.symm, rfl⟩
  · have e1 : decide (0 ≤ n) = false := decF h1
    have HV : Hid (decide (0 ≤ n ∧ n ≤ m) = false) := decF (fun e => h1 e.1)
    clear h1
    go_enter Try.func42, Try.ntmps42
    go_wp2
    go_ret
    exact ⟨ret_bool HV.out.symm, rfl⟩
set_option maxRecDepth 200000 in
theorem single_any (n : Int) (w : World) : Calls Try.prog 37 #[.int .i64 n] w fun e w' => e = .returned (.agg #[.int .i64 n, .int .i64 n]) ∧ Below w.heap.size w w' := by
  have HB : Hid (Below w.heap.size w (w.alloc (.cells #[.int .i64 n, .int .i64 n] 68))) := Below.allocW _ (Below.refl _ _) (Nat.le_refl _)
  have HK : Hid (Blk (w.alloc (.cells #[.int .i64 n, .int .i64 n] 68)) w.heap.size #[.int .i64 n, .int .i64 n] 68) := Blk.made _ _ _
  go_enter Try.func37, Try.ntmps37
  go_wp2
  refine bodyPost_ret (results_cell_row Try.results37 _ _ w.heap.size _ _ (0, 0) _ rfl HK.out Try.underlying68 rfl (by kernel_rfl)) rfl ?_
  exact ⟨rfl, HB.out⟩
theorem inb_ok {ps : Sp} (h : ps.ok = true) : ∀ p ∈ ps, InB p := inb_iff.1 (ok_inb h)
set_option maxRecDepth 200000 in
set_option maxHeartbeats 4000000 in
theorem joinImpl_any (a b : Option Addr) (la lb ca cb : Nat) (ps qs : Sp) (F G : List Nat) (w : World) (h : RdP w a la ps F) (k : RdP w b lb qs G) (hlen : la + lb ≤ 2097152) (hca : la ≤ ca) :
    Calls Try.prog 25 #[.slice a la ca, .slice b lb cb] w fun e w' => NewP2 w (ps.join qs) (ps.ok && qs.ok) e w' := by
  have HR : Hid (RdP w a la ps F ∧ RdP w b lb qs G) := ⟨h, k⟩
  clear h k
  go_enter Try.func25, Try.ntmps25
  go_wp2_with fail
  refine (setOkImpl_any a la ca ps F _ HR.out.1 (by omega)).mono ?_
  rintro e w1 ⟨rfl, hb⟩
  have HB0 : Hid (Below w.heap.size w w1) := hb
  clear hb
  obtain ⟨d, hd⟩ : ∃ d, d = ps.ok := ⟨_, rfl⟩
  rw [← hd]
  have HD : Hid (d = ps.ok) := hd
  clear hd
  cases d
  · have HV : Hid (ps.join qs = [] ∧ (ps.ok && qs.ok) = false) := ⟨Sp.join_not (by rw [← HD.out]; rfl), by rw [← HD.out]; rfl⟩
    go_wp2
    go_ret2
    rw [HV.out.1, HV.out.2]
    exact ⟨_, 0, 0, [], rfl, RdP.nil, Own.nil, HB0.out, fun _ => rfl, Nat.le_refl _⟩
  go_wp2_with fail
  refine (setOkImpl_any b lb cb qs G _ (HR.out.2.below HB0.out) (by omega)).mono ?_
  rintro e w2 ⟨rfl, hb⟩
  have HB1 : Hid (Below w.heap.size w w2) := Below.next HB0.out hb
  clear hb HB0
  obtain ⟨d, hd⟩ : ∃ d, d = qs.ok := ⟨_, rfl⟩
  rw [← hd]
  have HE : Hid (d = qs.ok) := hd
  clear hd
  cases d
  · have HV : Hid (ps.join qs = [] ∧ (ps.ok && qs.ok) = false) := ⟨Sp.join_not (by rw [← HD.out, ← HE.out]; rfl), by rw [← HD.out, ← HE.out]; rfl⟩
    go_wp2
    go_ret2
    rw [HV.out.1, HV.out.2]
    exact ⟨_, 0, 0, [], rfl, RdP.nil, Own.nil, HB1.out, fun _ => rfl, Nat.le_refl _⟩
  have HV : Hid (both ps qs [] = ps.join qs ∧ (ps.ok && qs.ok) = true) := ⟨both_join HD.out.symm HE.out.symm, by rw [← HD.out, ← HE.out]; rfl⟩
  go_wp2_with fail
  refine (spansOfBoth_any a b la lb ca cb ps qs F G _ (HR.out.1.below HB1.out) (HR.out.2.below HB1.out) (by omega) hca (inb_ok HD.out.symm) (inb_ok HE.out.symm)).mono ?_
  rintro e w3 ⟨a', l', c', F', rfl, g1, g2, g3, g4⟩
  have HN : Hid (RdP w3 a' l' (ps.join qs) F' ∧ Own w.heap.size w3 F' ∧ Below w.heap.size w w3 ∧ Capd a' l' c') := ⟨by rw [← HV.out.1]; exact g1, g2.mono HB1.out.size, Below.next HB1.out g3, g4⟩
  clear g1 g2 g3 g4
  go_wp2
  go_ret2
  rw [HV.out.2]
  exact ⟨a', l', c', F', rfl, HN.out⟩
end Go.Proofs.Ytbmbmnhamogghab
/- The walks through the program's SetApart. No statement of the seat is proved here. -/
namespace Go.Proofs.Ytbmbmnhamogghab
open Go.RowKit
def slLen : Value → Nat
  | .slice _ n _ => n
  | _ => 0
/-- One of the two sets: where it lies. -/
structure ARd (w : World) (a : Option Addr) (l c : Nat) (xs : Sp) : Prop where
  rd : ∃ F, RdP w a l xs F
  cap : l ≤ c
  ok : okFrom 0 xs
theorem ARd.length {w : World} {a : Option Addr} {l c : Nat} {xs : Sp} (h : ARd w a l c xs) : xs.length = l := by
  obtain ⟨F, h⟩ := h.rd
  exact h.length
theorem okFrom_drop1 {xs : Sp} (h : okFrom 0 xs) (k : Nat) : okFrom 0 (xs.drop k) := by
  have h' := h
  rw [← List.take_append_drop k xs, okFrom_append] at h'
  have e : 0 ≤ endOf 0 (xs.take k) := by
    have : ∀ (ys : Sp) (l : Int), 0 ≤ l → okFrom l ys → 0 ≤ endOf l ys := by
      intro ys
      induction ys with
      | nil => intro l h _; exact h
      | cons p ys ih => intro l hl h; exact ih _ (by have := h.1; omega) h.2
    exact this _ _ (Int.le_refl _) h'.1
  exact okFrom_mono h'.2 e
theorem ARd.cells {w : World} {a : Option Addr} {l c : Nat} {xs : Sp} (h : ARd w a l c xs) (hl : 0 < l) : ∃ b off, a = some ⟨b, off, none⟩ ∧ w.cell? ⟨b, off, none⟩ = some (.int .i64 (xs.at 0).1) ∧ w.cell? ⟨b, off + 1, none⟩ = some (.int .i64 (xs.at 0).2) := by
  obtain ⟨F, h⟩ := h.rd
  rcases cells_of h with h0 | ⟨b, off, e, _, hc⟩
  · omega
  · have := hc 0 hl
    exact ⟨b, off, e, by simpa using this.1, by simpa using this.2⟩
theorem ARd.last {w : World} {a : Option Addr} {l : Nat} {xs : Sp} (h : ARd w a l 1 xs) (hl : 0 < l) : ARd w a (l - 1) 0 (xs.drop 1) := by
  have e := h.length
  have c := h.cap
  refine ⟨⟨[], ?_⟩, by omega, okFrom_drop1 h.ok 1⟩
  rw [List.drop_eq_nil_of_le (by omega), show l - 1 = 0 by omega]
  exact RdP.nil
theorem ARd.step {w : World} {b off : Nat} {l c : Nat} {xs : Sp} (h : ARd w (some ⟨b, off, none⟩) l c xs) (hl : 0 < l) : ARd w (some ⟨b, off + 2, none⟩) (l - 1) (c - 1) (xs.drop 1) := by
  have e := h.length
  have c := h.cap
  obtain ⟨F, hr⟩ := h.rd
  by_cases h1 : l = 1
  · refine ⟨⟨[], ?_⟩, by omega, okFrom_drop1 h.ok 1⟩
    rw [List.drop_eq_nil_of_le (by omega), show l - 1 = 0 by omega]
    exact RdP.nil
  · exact ⟨⟨F, by simpa using hr.drop (k := 1) (by omega)⟩, by omega, okFrom_drop1 h.ok 1⟩
theorem head_drop {xs : Sp} (h : 0 < xs.length) : xs = xs.at 0 :: xs.drop 1 := by simpa using drop_at (ps := xs) (k := 0) h
theorem meet_false {as' bs : Sp} (_ : okFrom 0 as') (hb : okFrom 0 bs) (la : 0 < as'.length) (lb : 0 < bs.length) (h1 : (as'.at 0).1 ≤ (bs.at 0).1) (h2 : (bs.at 0).1 ≤ (as'.at 0).2) : noMeet as' bs = false := by
  rw [head_drop la, head_drop lb]
  exact noMeet_hit h1 h2 (okFrom_at hb lb).2.1
theorem meet_step {as' bs : Sp} (hb : okFrom 0 bs) (la : 0 < as'.length) (lb : 0 < bs.length) (h2 : (as'.at 0).2 < (bs.at 0).1) : noMeet (as'.drop 1) bs = noMeet as' bs := by
  have e := head_drop lb
  have hb' := hb
  rw [e] at hb'
  conv => rhs; rw [head_drop la, e]
  rw [noMeet_drop hb' h2, ← e]
set_option maxRecDepth 200000 in
set_option maxHeartbeats 8000000 in
theorem noneInBoth_any (a b : Option Addr) (la lb ca cb : Nat) (ps qs : Sp) (w : World) (h : ARd w a la ca ps) (k : ARd w b lb cb qs) (hlen : la + lb ≤ 4194304) :
    Calls Try.prog 56 #[.slice a la ca, .slice b lb cb] w fun e w' => e = .returned (.bool (noMeet ps qs)) ∧ QuietTo w w' := by
  have HP0 : Hid (ARd w a la ca ps ∧ ARd w b lb cb qs) := ⟨h, k⟩
  clear h k
  go_enter Try.func56, Try.ntmps56
  go_wp2
  go_loopw [0, 1] (fun av bv wr => ∃ (as' bs : Sp) (aa bb : Option Addr) (l1 c1 l2 c2 : Nat), av = .slice aa l1 c1 ∧ bv = .slice bb l2 c2 ∧ l1 + l2 ≤ 4194304 ∧ Hid (ARd w aa l1 c1 as' ∧ ARd w bb l2 c2 bs) ∧ Hid (noMeet as' bs = noMeet ps qs) ∧ Hid (QuietTo w wr)) (fun av bv _ => slLen av + slLen bv)
  case atStart => exact ⟨ps, qs, a, b, la, ca, lb, cb, rfl, rfl, hlen, HP0, rfl, QuietTo.refl _⟩
  case round =>
    clear HP0
    obtain ⟨xs, ys, aa, bb, l1, c1, l2, c2, rfl, rfl, hl12, HP, HN, HQ⟩ := hrel
    by_cases h1 : l1 = 0
    · subst h1
      have HV : Hid (noMeet ps qs = true) := by
        have := HN.out
        rw [List.eq_nil_of_length_eq_zero HP.out.1.length, noMeet_nil] at this
        exact this.symm
      go_wp2
      go_ret
      rw [HV.out]
      exact ⟨rfl, HQ.out⟩
    have g1 : decide ((0 : Int) < (l1 : Int)) = true := decT (by omega)
    by_cases h2 : l2 = 0
    · subst h2
      have HV : Hid (noMeet ps qs = true) := by
        have := HN.out
        rw [List.eq_nil_of_length_eq_zero HP.out.2.length, noMeet_comm, noMeet_nil] at this
        exact this.symm
      go_wp2
      go_ret
      rw [HV.out]
      exact ⟨rfl, HQ.out⟩
    have g2 : decide ((0 : Int) < (l2 : Int)) = true := decT (by omega)
    have i1 : (0 : Int) < (l1 : Int) := by omega
    have i2 : (0 : Int) < (l2 : Int) := by omega
    have i3 : (1 : Int) ≤ (l1 : Int) := by omega
    have i4 : (1 : Int) ≤ (l2 : Int) := by omega
    obtain ⟨b1, o1, rfl, e1, e2⟩ := HP.out.1.cells (by omega)
    obtain ⟨b2, o2, rfl, e3, e4⟩ := HP.out.2.cells (by omega)
    obtain ⟨x, hx⟩ : ∃ x, x = (xs.at 0).1 := ⟨_, rfl⟩
    obtain ⟨y, hy⟩ : ∃ x, x = (xs.at 0).2 := ⟨_, rfl⟩
    obtain ⟨x', hx'⟩ : ∃ x, x = (ys.at 0).1 := ⟨_, rfl⟩
    obtain ⟨y', hy'⟩ : ∃ x, x = (ys.at 0).2 := ⟨_, rfl⟩
    rw [← hx] at e1
    rw [← hy] at e2
    rw [← hx'] at e3
    rw [← hy'] at e4
    have d1 : wr.cell? ⟨b1, o1, none⟩ = some (.int .i64 x) := (HQ.out.cell _).trans e1
    have d2 : wr.cell? ⟨b1, o1 + 1, none⟩ = some (.int .i64 y) := (HQ.out.cell _).trans e2
    have d3 : wr.cell? ⟨b2, o2, none⟩ = some (.int .i64 x') := (HQ.out.cell _).trans e3
    have d4 : wr.cell? ⟨b2, o2 + 1, none⟩ = some (.int .i64 y') := (HQ.out.cell _).trans e4
    have HX : Hid ((x = (xs.at 0).1 ∧ y = (xs.at 0).2) ∧ x' = (ys.at 0).1 ∧ y' = (ys.at 0).2) := ⟨⟨hx, hy⟩, hx', hy'⟩
    have HLN : Hid (0 < xs.length ∧ 0 < ys.length) := by rw [HP.out.1.length, HP.out.2.length]; exact ⟨by omega, by omega⟩
    clear hx hy hx' hy' e1 e2 e3 e4
    by_cases c : x' < x
    · have cd : decide (x' < x) = true := decT c
      by_cases m : x ≤ y'
      · have md : decide (x ≤ y') = true := decT m
        have HV : Hid (noMeet ps qs = false) := by
          show _ = _
          rw [← HN.out, noMeet_comm]
          exact meet_false HP.out.2.ok HP.out.1.ok HLN.out.2 HLN.out.1 (by rw [← HX.out.1.1, ← HX.out.2.1]; omega) (by rw [← HX.out.1.1, ← HX.out.2.2]; exact m)
        go_wp2
        go_quiet (fail)
        obtain ⟨wq, hwq⟩ : ∃ W, W = wr.drewN nq := ⟨_, rfl⟩
        have q1 : wq.cell? ⟨b1, o1, none⟩ = some (.int .i64 x) := by rw [hwq]; exact d1
        have q2 : wq.cell? ⟨b2, o2 + 1, none⟩ = some (.int .i64 y') := by rw [hwq]; exact d4
        have HQ2 : Hid (QuietTo w wq) := by rw [hwq]; exact HQ.out.drewN _
        rw [← hwq]
        clear hwq d1 d2 d3 d4
        go_wp2
        go_quiet (fail)
        go_wp2
        go_ret
        rw [HV.out]
        exact ⟨rfl, HQ2.out.drewN _⟩
      · have md : decide (x ≤ y') = false := decF m
        have HN2 : Hid (noMeet (ys.drop 1) xs = noMeet ps qs) := by
          show _ = _
          rw [meet_step HP.out.1.ok HLN.out.2 HLN.out.1 (by rw [← HX.out.1.1, ← HX.out.2.2]; omega), noMeet_comm]
          exact HN.out
        by_cases hc1 : c2 = 1
        · subst hc1
          have HA2 : Hid (ARd w (some ⟨b2, o2, none⟩) (l2 - 1) 0 (ys.drop 1) ∧ ARd w (some ⟨b1, o1, none⟩) l1 c1 xs) := ⟨HP.out.2.last (by omega), HP.out.1⟩
          go_wp2
          go_quiet (fail)
          obtain ⟨wq, hwq⟩ : ∃ W, W = wr.drewN nq := ⟨_, rfl⟩
          have q1 : wq.cell? ⟨b1, o1, none⟩ = some (.int .i64 x) := by rw [hwq]; exact d1
          have q2 : wq.cell? ⟨b2, o2 + 1, none⟩ = some (.int .i64 y') := by rw [hwq]; exact d4
          have HQ2 : Hid (QuietTo w wq) := by rw [hwq]; exact HQ.out.drewN _
          rw [← hwq]
          clear hwq d1 d2 d3 d4
          go_wp2
          go_quiet (fail)
          go_wp2
          go_roundw
          case rel => exact ⟨ys.drop 1, xs, _, _, _, _, _, _, rfl, rfl, by omega, HA2, HN2, HQ2.out.drewN _⟩
          case measure => simp [slLen]; omega
        · have HA2 : Hid (ARd w (some ⟨b2, o2 + 2, none⟩) (l2 - 1) (c2 - 1) (ys.drop 1) ∧ ARd w (some ⟨b1, o1, none⟩) l1 c1 xs) := ⟨HP.out.2.step (by omega), HP.out.1⟩
          go_wp2
          go_quiet (fail)
          obtain ⟨wq, hwq⟩ : ∃ W, W = wr.drewN nq := ⟨_, rfl⟩
          have q1 : wq.cell? ⟨b1, o1, none⟩ = some (.int .i64 x) := by rw [hwq]; exact d1
          have q2 : wq.cell? ⟨b2, o2 + 1, none⟩ = some (.int .i64 y') := by rw [hwq]; exact d4
          have HQ2 : Hid (QuietTo w wq) := by rw [hwq]; exact HQ.out.drewN _
          rw [← hwq]
          clear hwq d1 d2 d3 d4
          go_wp2
          go_quiet (fail)
          go_wp2
          go_roundw
          case rel => exact ⟨ys.drop 1, xs, _, _, _, _, _, _, rfl, rfl, by omega, HA2, HN2, HQ2.out.drewN _⟩
          case measure => simp [slLen]; omega
    · have cd : decide (x' < x) = false := decF c
      by_cases m : x' ≤ y
      · have md : decide (x' ≤ y) = true := decT m
        have HV : Hid (noMeet ps qs = false) := by
          show _ = _
          rw [← HN.out]
          exact meet_false HP.out.1.ok HP.out.2.ok HLN.out.1 HLN.out.2 (by rw [← HX.out.1.1, ← HX.out.2.1]; omega) (by rw [← HX.out.1.2, ← HX.out.2.1]; exact m)
        go_wp2
        go_quiet (fail)
        obtain ⟨wq, hwq⟩ : ∃ W, W = wr.drewN nq := ⟨_, rfl⟩
        have q1 : wq.cell? ⟨b2, o2, none⟩ = some (.int .i64 x') := by rw [hwq]; exact d3
        have q2 : wq.cell? ⟨b1, o1 + 1, none⟩ = some (.int .i64 y) := by rw [hwq]; exact d2
        have HQ2 : Hid (QuietTo w wq) := by rw [hwq]; exact HQ.out.drewN _
        rw [← hwq]
        clear hwq d1 d2 d3 d4
        go_wp2
        go_quiet (fail)
        go_wp2
        go_ret
        rw [HV.out]
        exact ⟨rfl, HQ2.out.drewN _⟩
      · have md : decide (x' ≤ y) = false := decF m
        have HN2 : Hid (noMeet (xs.drop 1) ys = noMeet ps qs) := by
          show _ = _
          rw [meet_step HP.out.2.ok HLN.out.1 HLN.out.2 (by rw [← HX.out.1.2, ← HX.out.2.1]; omega)]
          exact HN.out
        by_cases hc1 : c1 = 1
        · subst hc1
          have HA2 : Hid (ARd w (some ⟨b1, o1, none⟩) (l1 - 1) 0 (xs.drop 1) ∧ ARd w (some ⟨b2, o2, none⟩) l2 c2 ys) := ⟨HP.out.1.last (by omega), HP.out.2⟩
          go_wp2
          go_quiet (fail)
          obtain ⟨wq, hwq⟩ : ∃ W, W = wr.drewN nq := ⟨_, rfl⟩
          have q1 : wq.cell? ⟨b2, o2, none⟩ = some (.int .i64 x') := by rw [hwq]; exact d3
          have q2 : wq.cell? ⟨b1, o1 + 1, none⟩ = some (.int .i64 y) := by rw [hwq]; exact d2
          have HQ2 : Hid (QuietTo w wq) := by rw [hwq]; exact HQ.out.drewN _
          rw [← hwq]
          clear hwq d1 d2 d3 d4
          go_wp2
          go_quiet (fail)
          go_wp2
          go_roundw
          case rel => exact ⟨xs.drop 1, ys, _, _, _, _, _, _, rfl, rfl, by omega, HA2, HN2, HQ2.out.drewN _⟩
          case measure => simp [slLen]; omega
        · have HA2 : Hid (ARd w (some ⟨b1, o1 + 2, none⟩) (l1 - 1) (c1 - 1) (xs.drop 1) ∧ ARd w (some ⟨b2, o2, none⟩) l2 c2 ys) := ⟨HP.out.1.step (by omega), HP.out.2⟩
          go_wp2
          go_quiet (fail)
          obtain ⟨wq, hwq⟩ : ∃ W, W = wr.drewN nq := ⟨_, rfl⟩
          have q1 : wq.cell? ⟨b2, o2, none⟩ = some (.int .i64 x') := by rw [hwq]; exact d3
          have q2 : wq.cell? ⟨b1, o1 + 1, none⟩ = some (.int .i64 y) := by rw [hwq]; exact d2
          have HQ2 : Hid (QuietTo w wq) := by rw [hwq]; exact HQ.out.drewN _
          rw [← hwq]
          clear hwq d1 d2 d3 d4
          go_wp2
          go_quiet (fail)
          go_wp2
          go_roundw
          case rel => exact ⟨xs.drop 1, ys, _, _, _, _, _, _, rfl, rfl, by omega, HA2, HN2, HQ2.out.drewN _⟩
          case measure => simp [slLen]; omega
set_option maxRecDepth 200000 in
set_option maxHeartbeats 4000000 in
theorem apartImpl_any (a b : Option Addr) (la lb ca cb : Nat) (ps qs : Sp) (F G : List Nat) (w : World) (h : RdP w a la ps F) (k : RdP w b lb qs G) (hla : la ≤ 2097152) (hlb : lb ≤ 2097152) (hca : la ≤ ca) (hcb : lb ≤ cb) :
    Calls Try.prog 24 #[.slice a la ca, .slice b lb cb] w fun e w' => e = .returned (.bool (ps.apart qs)) ∧ Below w.heap.size w w' := by
  have HR : Hid (RdP w a la ps F ∧ RdP w b lb qs G) := ⟨h, k⟩
  clear h k
  go_enter Try.func24, Try.ntmps24
  go_wp2_with fail
  refine (setOkImpl_any a la ca ps F _ HR.out.1 hla).mono ?_
  rintro e w1 ⟨rfl, hb⟩
  have HB0 : Hid (Below w.heap.size w w1) := hb
  clear hb
  obtain ⟨d, hd⟩ : ∃ d, d = ps.ok := ⟨_, rfl⟩
  rw [← hd]
  have HD : Hid (d = ps.ok) := hd
  clear hd
  cases d
  · go_wp2
    go_ret
    rw [Sp.apart_not (by rw [← HD.out]; rfl)]
    exact ⟨rfl, HB0.out⟩
  go_wp2_with fail
  refine (setOkImpl_any b lb cb qs G _ (HR.out.2.below HB0.out) hlb).mono ?_
  rintro e w2 ⟨rfl, hb⟩
  have HB1 : Hid (Below w.heap.size w w2) := Below.next HB0.out hb
  clear hb HB0
  obtain ⟨d, hd⟩ : ∃ d, d = qs.ok := ⟨_, rfl⟩
  rw [← hd]
  have HE : Hid (d = qs.ok) := hd
  clear hd
  cases d
  · go_wp2
    go_ret
    rw [Sp.apart_not (by rw [← HD.out, ← HE.out]; rfl)]
    exact ⟨rfl, HB1.out⟩
  have HV : Hid (ps.apart qs = noMeet ps qs) := by
    show _ = _
    rw [apart_eq, ← HD.out, ← HE.out]
    rfl
  go_wp2_with fail
  refine (noneInBoth_any a b la lb ca cb ps qs _ ⟨⟨F, HR.out.1.below HB1.out⟩, hca, ok_iff.1 HD.out.symm⟩ ⟨⟨G, HR.out.2.below HB1.out⟩, hcb, ok_iff.1 HE.out.symm⟩ (by omega)).mono ?_
  rintro e w3 ⟨rfl, hq⟩
  have HB2 : Hid (Below w.heap.size w w3) := Below.next HB1.out (quiet_below hq)
  clear hq
  go_wp2
  go_ret
  rw [HV.out]
  exact ⟨rfl, HB2.out⟩
end Go.Proofs.Ytbmbmnhamogghab
/- The walks through the program's adding up of two entries. No statement of the seat is proved here. -/
namespace Go.Proofs.Ytbmbmnhamogghab
open Go.RowKit
set_option maxRecDepth 200000 in
set_option maxHeartbeats 4000000 in
theorem holdEntry_any (k p : Int) (a : Option Addr) (l c : Nat) (ps : Sp) (ys : List Int) (F : List Nat) (w : World) (h : RdP w a l ps F) (hl : l ≤ 2097152) (hy : ys.length = 28) :
    Calls Try.prog 27 #[.agg (hc k p a l c ys)] w fun e w' => NewEn w ⟨k, p, ps, skOf ys⟩ e w' := by
  have HP : Hid (RdP w a l ps F ∧ ys.length = 28) := ⟨h, hy⟩
  have HT : Hid (_ ∧ _ ∧ _) := two_made w (hc k p a l c ys) #[.int .i64 0, .int .i64 0, .slice none 0 0, .int .i64 0, .int .i64 0, .int .i64 0, .int .i64 0, .slice none 0 0, .slice none 0 0, .slice none 0 0] 58 30
  clear h hy
  go_enter Try.func27, Try.ntmps27
  go_wp2
  obtain ⟨W0, hW0⟩ : ∃ W0, W0 = (w.alloc (.cells (hc k p a l c ys) 58)).alloc (.cells #[.int .i64 0, .int .i64 0, .slice none 0 0, .int .i64 0, .int .i64 0, .int .i64 0, .int .i64 0, .slice none 0 0, .slice none 0 0, .slice none 0 0] 30) := ⟨_, rfl⟩
  rw [← hW0] at HT ⊢
  clear hW0
  have HS : Hid (HoldS w.heap.size k p a l c ys W0.drew) := holdS HT.out.1.drew
  have sz0 : w.heap.size + 1 < W0.drew.heap.size := HT.out.2.1.drew.lt
  refine wp_region_held (S := HoldS w.heap.size k p a l c ys) (by kernel_rfl) ?_
  change wpAnyH _ _ _ _ _ _ _ _ (World.drew _)
  refine takeH (o := ?o1) 0 (.pointer (some ⟨w.heap.size, 0, none⟩)) ?h1 ?r1
  case h1 => simp only [List.getElem?_toArray, List.getElem?_cons_zero]; rfl
  refine ⟨_, by simp [Act.put]; rfl, by kernel_rfl, by kernel_rfl, by kernel_rfl, fun _ _ _ h => h, (.inl ⟨rfl, fun W _ => by go_simp⟩), HS.out, ?_⟩
  refine takeH (o := ?o2) 1 (.pointer (some ⟨w.heap.size, 0, none⟩)) ?h2 ?r2
  case h2 => simp only [List.getElem?_toArray, List.getElem?_cons_succ, List.getElem?_cons_zero]; rfl
  refine ⟨_, by simp [Act.put]; rfl, by kernel_rfl, by kernel_rfl, by kernel_rfl, fun _ _ _ h => h, (.inl ⟨rfl, fun W _ => by go_simp⟩), HS.out, ?_⟩
  refine takeH (o := ?o3) 2 (.int .i64 k) ?h3 ?r3
  case h3 => simp only [List.getElem?_toArray, List.getElem?_cons_succ, List.getElem?_cons_zero]; rfl
  refine ⟨_, by simp [Act.put]; rfl, by kernel_rfl, by kernel_rfl, by kernel_rfl, fun _ _ _ h => h, (.inl ⟨rfl, fun W hW => by have c := hW.2.1; go_simp⟩), HS.out, ?_⟩
  refine takeH (o := ?o4) 3 (.pointer (some ⟨w.heap.size, 0, none⟩)) ?h4 ?r4
  case h4 => simp only [List.getElem?_toArray, List.getElem?_cons_succ, List.getElem?_cons_zero]; rfl
  refine ⟨_, by simp [Act.put]; rfl, by kernel_rfl, by kernel_rfl, by kernel_rfl, fun _ _ _ h => h, (.inl ⟨rfl, fun W _ => by go_simp⟩), HS.out, ?_⟩
  refine takeH (o := ?o5) 4 (.pointer (some ⟨w.heap.size, 1, none⟩)) ?h5 ?r5
  case h5 => simp only [List.getElem?_toArray, List.getElem?_cons_succ, List.getElem?_cons_zero]; rfl
  refine ⟨_, by simp [Act.put]; rfl, by kernel_rfl, by kernel_rfl, by kernel_rfl, fun _ _ _ h => h, (.inl ⟨rfl, fun W _ => by go_simp⟩), HS.out, ?_⟩
  refine takeH (o := ?o6) 5 (.int .i64 p) ?h6 ?r6
  case h6 => simp only [List.getElem?_toArray, List.getElem?_cons_succ, List.getElem?_cons_zero]; rfl
  refine ⟨_, by simp [Act.put]; rfl, by kernel_rfl, by kernel_rfl, by kernel_rfl, fun _ _ _ h => h, (.inl ⟨rfl, fun W hW => by have c := hW.2.2.1; go_simp⟩), HS.out, ?_⟩
  refine takeH (o := ?o7) 6 (.pointer (some ⟨w.heap.size, 2, none⟩)) ?h7 ?r7
  case h7 => simp only [List.getElem?_toArray, List.getElem?_cons_succ, List.getElem?_cons_zero]; rfl
  refine ⟨_, by simp [Act.put]; rfl, by kernel_rfl, by kernel_rfl, by kernel_rfl, fun _ _ _ h => h, (.inl ⟨rfl, fun W _ => by go_simp⟩), HS.out, ?_⟩
  refine takeH (o := ?o8) 7 (.slice a l c) ?h8 ?r8
  case h8 => simp only [List.getElem?_toArray, List.getElem?_cons_succ, List.getElem?_cons_zero]; rfl
  refine ⟨_, by simp [Act.put]; rfl, by kernel_rfl, by kernel_rfl, by kernel_rfl, fun _ _ _ h => h, (.inl ⟨rfl, fun W hW => by have c := hW.2.2.2; go_simp⟩), HS.out, ?_⟩
  refine takeH (o := ?o9) 9 (.pointer (some ⟨w.heap.size, 3, none⟩)) ?h9 ?r9
  case h9 => simp only [List.getElem?_toArray, List.getElem?_cons_succ, List.getElem?_cons_zero]; rfl
  refine ⟨_, by simp [Act.put]; rfl, by kernel_rfl, by kernel_rfl, by kernel_rfl, fun _ _ _ h => h, (.inl ⟨rfl, fun W _ => by go_simp⟩), HS.out, ?_⟩
  refine takeH (o := ?o10) 10 (.agg (tc ys)) ?h10 ?r10
  case h10 => simp only [List.getElem?_toArray, List.getElem?_cons_succ, List.getElem?_cons_zero]; rfl
  refine ⟨_, by simp [Act.put]; rfl, by kernel_rfl, by kernel_rfl, by kernel_rfl, fun _ _ _ h => h, (yields_cut 56 w.heap.size 3 28 _ (tc ys) 58 _ rfl rfl rfl Try.underlying56 rfl infoTally (by rw [hc_size HP.out.2]; omega) (cutOf_hc HP.out.2) (fun W hW => hW.1)), HS.out, ?_⟩
  refine onlyH (o := ?o11) 8 (by kernel_rfl) ?h11 ?r11
  case h11 => simp only [List.getElem?_toArray, List.getElem?_cons_succ, List.getElem?_cons_zero]; rfl
  intro K hK
  refine op_call1 60 _ _ Try.f60 (fun v w' => ∃ a len cap F, v = .slice a len cap ∧ RdP w' a len ps F ∧ Own W0.drew.heap.size w' F ∧ Below W0.drew.heap.size W0.drew w' ∧ Capd a len cap) rfl rfl Try.func60 (by kernel_rfl) (by kernel_rfl) ((copiedSpans_any a l c ps F W0.drew (HP.out.1.below HT.out.2.2.drew) hl).mono (by rintro e w' ⟨a, len, cap, F, rfl, h1, h2, h3, h4⟩; exact ⟨_, rfl, a, len, cap, F, rfl, h1, h2, h3, h4⟩)) ?_
  rintro _ w1 ⟨aj, lj, cj, Fj, rfl, rj, oj, bz, hcj⟩
  refine ⟨_, by simp [Act.put]; rfl, hK _ _ ⟨HS.out.below bz, ?_⟩⟩
  have HJ : Hid (RdP w1 aj lj ps Fj ∧ Own (w.heap.size + 2) w1 Fj ∧ Capd aj lj cj) := ⟨rj, oj.mono (by omega), hcj⟩
  have HS1 : Hid (HoldS w.heap.size k p a l c ys w1) := HS.out.below bz
  have HZ1 : Hid (Blk w1 (w.heap.size + 1) #[.int .i64 0, .int .i64 0, .slice none 0 0, .int .i64 0, .int .i64 0, .int .i64 0, .int .i64 0, .slice none 0 0, .slice none 0 0, .slice none 0 0] 30 ∧ Below w.heap.size w w1) := ⟨HT.out.2.1.drew.below bz, Below.next HT.out.2.2.drew bz⟩
  clear hK bz rj oj HS hcj
  refine onlyH (o := ?o12) 11 (by kernel_rfl) ?h12 ?r12
  case h12 => simp only [List.getElem?_toArray, List.getElem?_cons_succ, List.getElem?_cons_zero]; rfl
  intro K hK
  refine op_call1 61 _ _ Try.f61 (fun v w' => ∃ X, RdSk w' v (skOf ys) X ∧ Own w1.heap.size w' X ∧ Below w1.heap.size w1 w') rfl rfl Try.func61 (by kernel_rfl) (by kernel_rfl) ((sketch_any ys w1 HP.out.2).mono (by rintro e w' ⟨v, X, rfl, h1, h2, h3⟩; exact ⟨_, rfl, X, h1, h2, h3⟩)) ?_
  rintro vm w2 ⟨X, rm, om, bz⟩
  obtain ⟨e1, r1, f1, e2, r2, f2, e3, r3, f3, rfl⟩ := rm.cells7
  refine ⟨_, by simp [Act.put]; rfl, hK _ _ ⟨HS1.out.below bz, ?_⟩⟩
  obtain ⟨M, hM⟩ : ∃ M, M = skOf ys := ⟨_, rfl⟩
  rw [← hM] at rm ⊢
  have HM : Hid (M = skOf ys) := hM
  have HS2 : Hid (HoldS w.heap.size k p a l c ys w2) := HS1.out.below bz
  have HZ2 : Hid (Blk w2 (w.heap.size + 1) #[.int .i64 0, .int .i64 0, .slice none 0 0, .int .i64 0, .int .i64 0, .int .i64 0, .int .i64 0, .slice none 0 0, .slice none 0 0, .slice none 0 0] 30 ∧ Below w.heap.size w w2) := ⟨HZ1.out.1.below bz, Below.next HZ1.out.2 bz⟩
  have HJ2 : Hid (RdP w2 aj lj ps Fj ∧ Own (w.heap.size + 2) w2 Fj ∧ RdSk w2 (.agg #[.int .i64 M.count, .int .i64 M.sum, .int .i64 M.min, .int .i64 M.max, .slice e1 r1 f1, .slice e2 r2 f2, .slice e3 r3 f3]) M X ∧ Own (w.heap.size + 2) w2 X ∧ ∀ b ∈ Fj, b ∉ X) := ⟨HJ.out.1.below bz, HJ.out.2.1.below HJ.out.1.lt bz, rm, om.mono HZ1.out.1.lt, fun b hb hx => by have := HJ.out.1.lt b hb; have := om.ge b hx; omega⟩
  clear hK bz rm om HS1 HZ1 hM
  refine takeH (o := ?o13) 12 (.agg #[.int .i64 k, .int .i64 p, .slice aj lj cj, .int .i64 M.count, .int .i64 M.sum, .int .i64 M.min, .int .i64 M.max, .slice e1 r1 f1, .slice e2 r2 f2, .slice e3 r3 f3]) ?h13 ?r13
  case h13 => simp only [List.getElem?_toArray, List.getElem?_cons_succ, List.getElem?_cons_zero]; rfl
  refine ⟨_, by simp [Act.put]; rfl, by kernel_rfl, by kernel_rfl, by kernel_rfl, fun _ _ _ h => h, (.inl ⟨rfl, fun W _ => by go_simp⟩), HS2.out, ?_⟩
  refine onlyH (o := ?o14) 13 (by kernel_rfl) ?h14 ?r14
  case h14 => simp only [List.getElem?_toArray, List.getElem?_cons_succ, List.getElem?_cons_zero]; rfl
  intro K hK
  refine op_store 30 (w.heap.size + 1) #[.int .i64 0, .int .i64 0, .slice none 0 0, .int .i64 0, .int .i64 0, .int .i64 0, .int .i64 0, .slice none 0 0, .slice none 0 0, .slice none 0 0] #[.int .i64 k, .int .i64 p, .slice aj lj cj, .int .i64 M.count, .int .i64 M.sum, .int .i64 M.min, .int .i64 M.max, .slice e1 r1 f1, .slice e2 r2 f2, .slice e3 r3 f3] 30 rfl rfl rfl rfl HZ2.out.1 (by kernel_rfl) rfl (by simp [Value.oneCell']) ⟨_, by simp [Act.put]; rfl, hK _ _ ⟨HS2.out.setRow (by omega), ?_⟩⟩
  clear hK
  refine wpAnyH_done (by kernel_rfl) ?_ _
  have nf : w.heap.size + 1 ∉ Fj := fun hx => by have := HJ2.out.2.1.ge _ hx; omega
  have nx : w.heap.size + 1 ∉ X := fun hx => by have := HJ2.out.2.2.2.1.ge _ hx; omega
  obtain ⟨E, hE⟩ : ∃ E : Array Value, E = #[.int .i64 k, .int .i64 p, .slice aj lj cj, .int .i64 M.count, .int .i64 M.sum, .int .i64 M.min, .int .i64 M.max, .slice e1 r1 f1, .slice e2 r2 f2, .slice e3 r3 f3] := ⟨_, rfl⟩
  rw [← hE]
  obtain ⟨w3, hw3⟩ : ∃ W, W = w2.setRow (w.heap.size + 1) E := ⟨_, rfl⟩
  have HF : Hid (Blk w3 (w.heap.size + 1) E 30 ∧ RdP w3 aj lj ps Fj ∧ Own w.heap.size w3 Fj ∧ RdSk w3 (.agg #[.int .i64 M.count, .int .i64 M.sum, .int .i64 M.min, .int .i64 M.max, .slice e1 r1 f1, .slice e2 r2 f2, .slice e3 r3 f3]) M X ∧ Own w.heap.size w3 X ∧ (∀ b ∈ Fj, b ∉ X) ∧ Below w.heap.size w w3) := by
    rw [hw3]
    exact ⟨HZ2.out.1.setRow, HJ2.out.1.agree (Agree.row nf E), (HJ2.out.2.1.agree (Agree.row nf E)).mono (by omega), HJ2.out.2.2.1.agree (Agree.row nx E), (HJ2.out.2.2.2.1.agree (Agree.row nx E)).mono (by omega), HJ2.out.2.2.2.2, below_setRow HZ2.out.2 (by omega) _⟩
  have HE : Hid (E = #[.int .i64 k, .int .i64 p, .slice aj lj cj, .int .i64 M.count, .int .i64 M.sum, .int .i64 M.min, .int .i64 M.max, .slice e1 r1 f1, .slice e2 r2 f2, .slice e3 r3 f3] ∧ E.size = 10) := ⟨hE, by rw [hE]; rfl⟩
  rw [← hw3]
  clear hE hw3 HJ2 HZ2 HS2 nf nx
  go_wp2
  refine bodyPost_ret (results_cell_row Try.results27 _ _ (w.heap.size + 1) _ _ (0, 0) _ rfl HF.out.1 Try.underlying30 rfl (by rw [HE.out.2]; exact infoEnA)) rfl ?_
  have hM := HM.out
  subst hM
  exact ⟨_, Fj, X, rfl, ⟨aj, lj, cj, e1, r1, f1, e2, r2, f2, e3, r3, f3, by rw [HE.out.1], HF.out.2.1, HF.out.2.2.2.1, HJ.out.2.2⟩, HF.out.2.2.1, HF.out.2.2.2.2.1, HF.out.2.2.2.2.2.1, HF.out.2.2.2.2.2.2⟩
set_option maxRecDepth 200000 in
set_option maxHeartbeats 8000000 in
theorem entryAddImpl_any (v u : Value) (x y : En) (F F' G G' : List Nat) (w : World) (h : RdEn w v x F F') (k : RdEn w u y G G') (hx : x.sk.wide) (hy : y.sk.wide) (hlen : x.ids.length + y.ids.length ≤ 2097152) :
    Calls Try.prog 7 #[v, u] w fun e w' => NewEn2 w (x.addR y) (x.addOk y) e w' := by
  have HX : Hid (RdEn w v x F F' ∧ RdEn w u y G G' ∧ x.sk.wide ∧ y.sk.wide ∧ x.ids.length + y.ids.length ≤ 2097152) := ⟨h, k, hx, hy, hlen⟩
  obtain ⟨p, l, g, a1, n1, nc1, a2, n2, nc2, a3, n3, nc3, rfl, px, _, cx⟩ := h
  obtain ⟨q, k, j, b1, m1, mc1, b2, m2, mc2, b3, m3, mc3, rfl, py, _, cy⟩ := k
  have HT := three_madeE w #[.int .i64 x.key, .int .i64 x.window, .slice p l g, .int .i64 x.sk.count, .int .i64 x.sk.sum, .int .i64 x.sk.min, .int .i64 x.sk.max, .slice a1 n1 nc1, .slice a2 n2 nc2, .slice a3 n3 nc3] #[.int .i64 y.key, .int .i64 y.window, .slice q k j, .int .i64 y.sk.count, .int .i64 y.sk.sum, .int .i64 y.sk.min, .int .i64 y.sk.max, .slice b1 m1 mc1, .slice b2 m2 mc2, .slice b3 m3 mc3] #[.int .i64 0, .int .i64 0, .slice none 0 0, .int .i64 0, .int .i64 0, .int .i64 0, .int .i64 0, .slice none 0 0, .slice none 0 0, .slice none 0 0] 30
  have HTT : Hid (_ ∧ _ ∧ _ ∧ _) := HT
  clear px py hx hy hlen HT cx cy
  go_enter Try.func7, Try.ntmps7
  go_wp2_with (first | go_skip | (with_reducible refine stopLoad 30 rfl ?_) | (with_reducible refine stopStore 58 rfl ?_) | (with_reducible refine stopLoad 51 rfl ?_) | (with_reducible refine stopStore 30 rfl ?_))
  refine load_any 30 w.heap.size _ 30 _ HTT.out.1 rfl rfl rfl Try.underlying30 rfl (by kernel_rfl) ?_
  go_wp2_with fail
  refine (okHolding_any _ x F F' _ (HX.out.1.below HTT.out.2.2.2) HX.out.2.2.1 (by have := HX.out.2.2.2.2; omega)).mono ?_
  rintro e w1 ⟨kx, wx, ax, lx, cx, ys, rfl, hy, hok, hb1⟩
  have HY : Hid (ys.length = 28 ∧ (x.ok = true → kx = x.key ∧ wx = x.window ∧ ys = x.sk.tl ∧ RdP w1 ax lx x.ids F ∧ Capd ax lx cx)) := ⟨hy, fun e => by obtain ⟨h1, h2, h3, h4, h5⟩ := hok e; exact ⟨h1, h2, h3, h4.below hb1, h5⟩⟩
  have HB1 : Hid (Blk w1 (w.heap.size + 1) #[.int .i64 y.key, .int .i64 y.window, .slice q k j, .int .i64 y.sk.count, .int .i64 y.sk.sum, .int .i64 y.sk.min, .int .i64 y.sk.max, .slice b1 m1 mc1, .slice b2 m2 mc2, .slice b3 m3 mc3] 30 ∧ Blk w1 (w.heap.size + 1 + 1) #[.int .i64 0, .int .i64 0, .slice none 0 0, .int .i64 0, .int .i64 0, .int .i64 0, .int .i64 0, .slice none 0 0, .slice none 0 0, .slice none 0 0] 30 ∧ Below w.heap.size w w1) := ⟨HTT.out.2.1.below hb1, HTT.out.2.2.1.below hb1, Below.next HTT.out.2.2.2 hb1⟩
  have LZ1 : Hid (w.heap.size + 1 + 1 < w1.heap.size) := HB1.out.2.1.lt
  clear hy hok hb1 HTT
  obtain ⟨d1, hd1⟩ : ∃ d, d = x.ok := ⟨_, rfl⟩
  rw [← hd1]
  have HD1 : Hid (d1 = x.ok) := hd1
  clear hd1
  go_wp2_with (first | go_skip | (with_reducible refine stopLoad 30 rfl ?_) | (with_reducible refine stopStore 58 rfl ?_) | (with_reducible refine stopLoad 51 rfl ?_) | (with_reducible refine stopStore 30 rfl ?_))
  refine store_fresh 58 w1.heap.size rfl (hc 0 0 none 0 0 (List.replicate 28 0)) (hc kx wx ax lx cx ys) 58 rfl rfl rfl rfl (holdSize (hc_size HY.out.1)) (by rw [hc_size HY.out.1]; rfl) (hc_one ..) ?_
  intro W2 hg2 hb2
  have HG2 : Hid (HoldS w1.heap.size kx wx ax lx cx ys W2 ∧ Below w1.heap.size w1 W2) := ⟨holdS hg2, hb2⟩
  have HB2 : Hid (Blk W2 (w.heap.size + 1) #[.int .i64 y.key, .int .i64 y.window, .slice q k j, .int .i64 y.sk.count, .int .i64 y.sk.sum, .int .i64 y.sk.min, .int .i64 y.sk.max, .slice b1 m1 mc1, .slice b2 m2 mc2, .slice b3 m3 mc3] 30 ∧ Blk W2 (w.heap.size + 1 + 1) #[.int .i64 0, .int .i64 0, .slice none 0 0, .int .i64 0, .int .i64 0, .int .i64 0, .int .i64 0, .slice none 0 0, .slice none 0 0, .slice none 0 0] 30 ∧ Below w.heap.size w W2) := ⟨HB1.out.1.below hb2, HB1.out.2.1.below hb2, Below.next HB1.out.2.2 hb2⟩
  clear hg2 hb2 HB1
  go_wp2_with (first | go_skip | (with_reducible refine stopLoad 30 rfl ?_) | (with_reducible refine stopStore 58 rfl ?_) | (with_reducible refine stopLoad 51 rfl ?_) | (with_reducible refine stopStore 30 rfl ?_))
  refine load_any 30 (w.heap.size + 1) _ 30 _ HB2.out.1 rfl rfl rfl Try.underlying30 rfl (by kernel_rfl) ?_
  go_wp2_with fail
  refine (okHolding_any _ y G G' _ (HX.out.2.1.below HB2.out.2.2) HX.out.2.2.2.1 (by have := HX.out.2.2.2.2; omega)).mono ?_
  rintro e w3 ⟨ky, wy, ay, ly, cy, zs, rfl, hy, hok, hb3⟩
  have HY' : Hid (zs.length = 28 ∧ (y.ok = true → ky = y.key ∧ wy = y.window ∧ zs = y.sk.tl ∧ RdP w3 ay ly y.ids G ∧ Capd ay ly cy)) := ⟨hy, fun e => by obtain ⟨h1, h2, h3, h4, h5⟩ := hok e; exact ⟨h1, h2, h3, h4.below hb3, h5⟩⟩
  have HB3 : Hid (Blk w3 (w.heap.size + 1 + 1) #[.int .i64 0, .int .i64 0, .slice none 0 0, .int .i64 0, .int .i64 0, .int .i64 0, .int .i64 0, .slice none 0 0, .slice none 0 0, .slice none 0 0] 30 ∧ Below w.heap.size w w3 ∧ HoldS w1.heap.size kx wx ax lx cx ys w3 ∧ Below w1.heap.size w1 w3) := ⟨HB2.out.2.1.below hb3, Below.next HB2.out.2.2 hb3, HG2.out.1.below hb3, Below.next HG2.out.2 hb3⟩
  clear hy hok hb3 HB2 HG2
  obtain ⟨d2, hd2⟩ : ∃ d, d = y.ok := ⟨_, rfl⟩
  rw [← hd2]
  have HD2 : Hid (d2 = y.ok) := hd2
  clear hd2
  go_wp2_with (first | go_skip | (with_reducible refine stopLoad 30 rfl ?_) | (with_reducible refine stopStore 58 rfl ?_) | (with_reducible refine stopLoad 51 rfl ?_) | (with_reducible refine stopStore 30 rfl ?_))
  refine store_fresh 58 w3.heap.size rfl (hc 0 0 none 0 0 (List.replicate 28 0)) (hc ky wy ay ly cy zs) 58 rfl rfl rfl rfl (holdSize (hc_size HY'.out.1)) (by rw [hc_size HY'.out.1]; rfl) (hc_one ..) ?_
  intro W4 hg4 hb4
  have HS4 : Hid (HoldS w1.heap.size kx wx ax lx cx ys W4 ∧ HoldS w3.heap.size ky wy ay ly cy zs W4) := ⟨HB3.out.2.2.1.below hb4, holdS hg4⟩
  have HZ : Hid (Blk W4 (w.heap.size + 1 + 1) #[.int .i64 0, .int .i64 0, .slice none 0 0, .int .i64 0, .int .i64 0, .int .i64 0, .int .i64 0, .slice none 0 0, .slice none 0 0, .slice none 0 0] 30 ∧ Below w.heap.size w W4) := ⟨HB3.out.1.below hb4, Below.next HB3.out.2.1 hb4⟩
  have HL4 : Hid (Below w1.heap.size w1 W4 ∧ Below w3.heap.size w3 W4) := ⟨Below.next HB3.out.2.2.2 hb4, hb4⟩
  have LZ : Hid (w.heap.size + 1 + 1 < w1.heap.size ∧ w1.heap.size < w3.heap.size) := ⟨LZ1.out, HB3.out.2.2.1.1.lt⟩
  clear hg4 hb4 HB3
  cases d1
  · have HV : Hid (x.addOk y = false) := by show _ = _; unfold En.addOk; rw [← HD1.out]; rfl
    go_wp2_with (first | go_skip | (with_reducible refine stopLoad 30 rfl ?_) | (with_reducible refine stopStore 58 rfl ?_) | (with_reducible refine stopLoad 51 rfl ?_) | (with_reducible refine stopStore 30 rfl ?_))
    refine store_known 30 (w.heap.size + 1 + 1) _ #[.int .i64 0, .int .i64 0, .slice none 0 0, .int .i64 0, .int .i64 0, .int .i64 0, .int .i64 0, .slice none 0 0, .slice none 0 0, .slice none 0 0] 30 HZ.out.1 rfl rfl rfl rfl (by kernel_rfl) rfl (by kernel_rfl) ?_
    go_wp2
    refine bodyPost_ret (results_row_tmp Try.results7 _ _ (w.heap.size + 1 + 1) _ _ _ _ rfl HZ.out.1.setRow Try.underlying30 rfl (by kernel_rfl)) rfl ?_
    rw [HV.out, En.addR_not HV.out]
    exact ⟨_, [], [], rfl, rdEn_zero _, Own.nil, Own.nil, by simp, below_setRow HZ.out.2 (by omega) _⟩
  cases d2
  · have HV : Hid (x.addOk y = false) := by show _ = _; unfold En.addOk; rw [← HD1.out, ← HD2.out]; rfl
    go_wp2_with (first | go_skip | (with_reducible refine stopLoad 30 rfl ?_) | (with_reducible refine stopStore 58 rfl ?_) | (with_reducible refine stopLoad 51 rfl ?_) | (with_reducible refine stopStore 30 rfl ?_))
    refine store_known 30 (w.heap.size + 1 + 1) _ #[.int .i64 0, .int .i64 0, .slice none 0 0, .int .i64 0, .int .i64 0, .int .i64 0, .int .i64 0, .slice none 0 0, .slice none 0 0, .slice none 0 0] 30 HZ.out.1 rfl rfl rfl rfl (by kernel_rfl) rfl (by kernel_rfl) ?_
    go_wp2
    refine bodyPost_ret (results_row_tmp Try.results7 _ _ (w.heap.size + 1 + 1) _ _ _ _ rfl HZ.out.1.setRow Try.underlying30 rfl (by kernel_rfl)) rfl ?_
    rw [HV.out, En.addR_not HV.out]
    exact ⟨_, [], [], rfl, rdEn_zero _, Own.nil, Own.nil, by simp, below_setRow HZ.out.2 (by omega) _⟩
  obtain ⟨ek, ew, ey, hpx, hcx⟩ := HY.out.2 HD1.out.symm
  obtain ⟨fk, fw, fz, hpy, hcy⟩ := HY'.out.2 HD2.out.symm
  subst ek ew fk fw
  have HP : Hid (RdP W4 ax lx x.ids F ∧ RdP W4 ay ly y.ids G ∧ Capd ax lx cx ∧ Capd ay ly cy ∧ lx + ly ≤ 2097152) := ⟨hpx.below HL4.out.1, hpy.below HL4.out.2, hcx, hcy, by rw [← hpx.length, ← hpy.length]; exact HX.out.2.2.2.2⟩
  have HE : Hid (ys = x.sk.tl ∧ zs = y.sk.tl) := ⟨ey, fz⟩
  clear ey fz hpx hpy hcx hcy
  have q1 : ∀ W, HoldS w1.heap.size x.key x.window ax lx cx ys W → W.cell? ⟨w1.heap.size, 2, none⟩ = some (.slice ax lx cx) := fun W h => h.2.2.2
  go_wp2_with (first | go_skip | (with_reducible refine stopLoad 30 rfl ?_) | (with_reducible refine stopStore 58 rfl ?_) | (with_reducible refine stopLoad 51 rfl ?_) | (with_reducible refine stopStore 30 rfl ?_))
  refine load_cutw 51 w1.heap.size 0 2 _ #[.int .i64 x.key, .int .i64 x.window] 58 _ HS4.out.1.1 rfl rfl rfl Try.underlying51 rfl infoPlace (by rw [hc_size HY.out.1]; omega) (cutOf_place ..) ?_
  go_wp2_with (first | go_skip | (with_reducible refine stopLoad 30 rfl ?_) | (with_reducible refine stopStore 58 rfl ?_) | (with_reducible refine stopLoad 51 rfl ?_) | (with_reducible refine stopStore 30 rfl ?_))
  refine load_cutw 51 w3.heap.size 0 2 _ #[.int .i64 y.key, .int .i64 y.window] 58 _ HS4.out.2.1 rfl rfl rfl Try.underlying51 rfl infoPlace (by rw [hc_size HY'.out.1]; omega) (cutOf_place ..) ?_
  clear q1
  by_cases c1 : x.key = y.key
  rotate_left
  · have HV : Hid (x.addOk y = false) := by show _ = _; unfold En.addOk; rw [dec_false c1]; simp
    have z1 : (x.key == y.key) = false := by simpa using c1
    clear c1
    go_wp2_with (first | go_skip | (with_reducible refine stopLoad 30 rfl ?_) | (with_reducible refine stopStore 58 rfl ?_) | (with_reducible refine stopLoad 51 rfl ?_) | (with_reducible refine stopStore 30 rfl ?_))
    refine store_known 30 (w.heap.size + 1 + 1) _ #[.int .i64 0, .int .i64 0, .slice none 0 0, .int .i64 0, .int .i64 0, .int .i64 0, .int .i64 0, .slice none 0 0, .slice none 0 0, .slice none 0 0] 30 HZ.out.1 rfl rfl rfl rfl (by kernel_rfl) rfl (by kernel_rfl) ?_
    go_wp2
    refine bodyPost_ret (results_row_tmp Try.results7 _ _ (w.heap.size + 1 + 1) _ _ _ _ rfl HZ.out.1.setRow Try.underlying30 rfl (by kernel_rfl)) rfl ?_
    rw [HV.out, En.addR_not HV.out]
    exact ⟨_, [], [], rfl, rdEn_zero _, Own.nil, Own.nil, by simp, below_setRow HZ.out.2 (by omega) _⟩
  by_cases c2 : x.window = y.window
  rotate_left
  · have HV : Hid (x.addOk y = false) := by show _ = _; unfold En.addOk; rw [dec_false c2]; simp
    have z1 : (x.key == y.key) = true := by simpa using c1
    have z2 : (x.window == y.window) = false := by simpa using c2
    clear c1 c2
    go_wp2_with (first | go_skip | (with_reducible refine stopLoad 30 rfl ?_) | (with_reducible refine stopStore 58 rfl ?_) | (with_reducible refine stopLoad 51 rfl ?_) | (with_reducible refine stopStore 30 rfl ?_))
    refine store_known 30 (w.heap.size + 1 + 1) _ #[.int .i64 0, .int .i64 0, .slice none 0 0, .int .i64 0, .int .i64 0, .int .i64 0, .int .i64 0, .slice none 0 0, .slice none 0 0, .slice none 0 0] 30 HZ.out.1 rfl rfl rfl rfl (by kernel_rfl) rfl (by kernel_rfl) ?_
    go_wp2
    refine bodyPost_ret (results_row_tmp Try.results7 _ _ (w.heap.size + 1 + 1) _ _ _ _ rfl HZ.out.1.setRow Try.underlying30 rfl (by kernel_rfl)) rfl ?_
    rw [HV.out, En.addR_not HV.out]
    exact ⟨_, [], [], rfl, rdEn_zero _, Own.nil, Own.nil, by simp, below_setRow HZ.out.2 (by omega) _⟩
  have z1 : (x.key == y.key) = true := by simpa using c1
  have z2 : (x.window == y.window) = true := by simpa using c2
  have HC : Hid (x.addOk y = x.ids.apart y.ids) := by show _ = _; unfold En.addOk; rw [← HD1.out, ← HD2.out, dec_true c1, dec_true c2]; rfl
  clear c1 c2
  have k1 := HS4.out.1.2.2.2
  have k2 := HS4.out.2.2.2.2
  go_wp2_with fail
  refine (apartImpl_any ax ay lx ly cx cy x.ids y.ids F G _ HP.out.1 HP.out.2.1 (by have := HP.out.2.2.2.2; omega) (by have := HP.out.2.2.2.2; omega) HP.out.2.2.1.2 HP.out.2.2.2.1.2).mono ?_
  rintro e w5 ⟨rfl, hb5⟩
  have HZ5 : Hid (Blk w5 (w.heap.size + 1 + 1) #[.int .i64 0, .int .i64 0, .slice none 0 0, .int .i64 0, .int .i64 0, .int .i64 0, .int .i64 0, .slice none 0 0, .slice none 0 0, .slice none 0 0] 30 ∧ Below w.heap.size w w5) := ⟨HZ.out.1.below hb5, Below.next HZ.out.2 hb5⟩
  have HS5 : Hid (HoldS w1.heap.size x.key x.window ax lx cx ys w5 ∧ HoldS w3.heap.size y.key y.window ay ly cy zs w5) := ⟨HS4.out.1.below hb5, HS4.out.2.below hb5⟩
  have HP5 : Hid (RdP w5 ax lx x.ids F ∧ RdP w5 ay ly y.ids G) := ⟨HP.out.1.below hb5, HP.out.2.1.below hb5⟩
  clear hb5 HS4 HZ HL4 k1 k2 z1 z2
  obtain ⟨d3, hd3⟩ : ∃ d, d = x.ids.apart y.ids := ⟨_, rfl⟩
  rw [← hd3] at HC ⊢
  clear hd3
  have HZ := HZ5
  cases d3
  · have HV : Hid (x.addOk y = false) := HC
    go_wp2_with (first | go_skip | (with_reducible refine stopLoad 30 rfl ?_) | (with_reducible refine stopStore 58 rfl ?_) | (with_reducible refine stopLoad 51 rfl ?_) | (with_reducible refine stopStore 30 rfl ?_))
    refine store_known 30 (w.heap.size + 1 + 1) _ #[.int .i64 0, .int .i64 0, .slice none 0 0, .int .i64 0, .int .i64 0, .int .i64 0, .int .i64 0, .slice none 0 0, .slice none 0 0, .slice none 0 0] 30 HZ.out.1 rfl rfl rfl rfl (by kernel_rfl) rfl (by kernel_rfl) ?_
    go_wp2
    refine bodyPost_ret (results_row_tmp Try.results7 _ _ (w.heap.size + 1 + 1) _ _ _ _ rfl HZ.out.1.setRow Try.underlying30 rfl (by kernel_rfl)) rfl ?_
    rw [HV.out, En.addR_not HV.out]
    exact ⟨_, [], [], rfl, rdEn_zero _, Own.nil, Own.nil, by simp, below_setRow HZ.out.2 (by omega) _⟩
  have k1 := HS5.out.1.2.2.2
  have k2 := HS5.out.2.2.2.2
  go_wp2_with fail
  refine (joinImpl_any ax ay lx ly cx cy x.ids y.ids F G _ HP5.out.1 HP5.out.2 HP.out.2.2.2.2 HP.out.2.2.1.2).mono ?_
  rintro e w6 ⟨aj, lj, cj, Fj, rfl, rj, oj, bj, hcj⟩
  have HJ : Hid (RdP w6 aj lj (x.ids.join y.ids) Fj ∧ lj ≤ 2097152) := ⟨rj, by rw [← rj.length]; have := join_length x.ids y.ids; have := HX.out.2.2.2.2; omega⟩
  have HZ6 : Hid (Blk w6 (w.heap.size + 1 + 1) #[.int .i64 0, .int .i64 0, .slice none 0 0, .int .i64 0, .int .i64 0, .int .i64 0, .int .i64 0, .slice none 0 0, .slice none 0 0, .slice none 0 0] 30 ∧ Below w.heap.size w w6) := ⟨HZ.out.1.below bj, Below.next HZ.out.2 bj⟩
  have HS6 : Hid (HoldS w1.heap.size x.key x.window ax lx cx ys w6 ∧ HoldS w3.heap.size y.key y.window ay ly cy zs w6) := ⟨HS5.out.1.below bj, HS5.out.2.below bj⟩
  clear rj oj bj hcj HS5 HZ5 HP5 HZ k1 k2
  obtain ⟨dj, hdj⟩ : ∃ d, d = (x.ids.ok && y.ids.ok) := ⟨_, rfl⟩
  rw [← hdj]
  clear hdj
  go_wp2
  have HS : Hid (HoldS w1.heap.size x.key x.window ax lx cx ys w6.drew ∧ HoldS w3.heap.size y.key y.window ay ly cy zs w6.drew) := ⟨holdS HS6.out.1.1.drew, holdS HS6.out.2.1.drew⟩
  have HZ : Hid (Blk w6.drew (w.heap.size + 1 + 1) #[.int .i64 0, .int .i64 0, .slice none 0 0, .int .i64 0, .int .i64 0, .int .i64 0, .int .i64 0, .slice none 0 0, .slice none 0 0, .slice none 0 0] 30 ∧ Below w.heap.size w w6.drew) := ⟨HZ6.out.1.drew, HZ6.out.2.drew⟩
  have HJ : Hid (RdP w6.drew aj lj (x.ids.join y.ids) Fj ∧ lj ≤ 2097152) := ⟨HJ.out.1.below (Below.refl _ _).drew, HJ.out.2⟩
  obtain ⟨W7, hW7⟩ : ∃ W, W = w6.drew := ⟨_, rfl⟩
  have HSS : ∀ W W', (HoldS w1.heap.size x.key x.window ax lx cx ys W ∧ HoldS w3.heap.size y.key y.window ay ly cy zs W) → Below W.heap.size W W' → (HoldS w1.heap.size x.key x.window ax lx cx ys W' ∧ HoldS w3.heap.size y.key y.window ay ly cy zs W') := fun W W' h b => ⟨h.1.below b, h.2.below b⟩
  refine wp_region_held (S := fun W => HoldS w1.heap.size x.key x.window ax lx cx ys W ∧ HoldS w3.heap.size y.key y.window ay ly cy zs W) (by kernel_rfl) ?_
  change wpAnyH _ _ _ _ _ _ _ _ (World.drew _)
  rw [← hW7] at HS HZ HJ ⊢
  clear hW7 HS6 HZ6
  refine takeH (o := ?o1) 0 (.pointer (some ⟨w1.heap.size, 0, none⟩)) ?h1 ?r1
  case h1 => simp only [List.getElem?_toArray, List.getElem?_cons_zero]; rfl
  refine ⟨_, by simp [Act.put]; rfl, by kernel_rfl, by kernel_rfl, by kernel_rfl, fun _ _ _ h => h, (.inl ⟨rfl, fun W _ => by go_simp⟩), HS.out, ?_⟩
  refine takeH (o := ?o2) 1 (.agg #[.int .i64 x.key, .int .i64 x.window]) ?h2 ?r2
  case h2 => simp only [List.getElem?_toArray, List.getElem?_cons_succ, List.getElem?_cons_zero]; rfl
  refine ⟨_, by simp [Act.put]; rfl, by kernel_rfl, by kernel_rfl, by kernel_rfl, fun _ _ _ h => h, (yields_cut 51 w1.heap.size 0 2 _ #[.int .i64 x.key, .int .i64 x.window] 58 _ rfl rfl rfl Try.underlying51 rfl infoPlace (by rw [hc_size HY.out.1]; omega) (cutOf_place ..) (fun W hW => hW.1.1)), HS.out, ?_⟩
  refine takeH (o := ?o3) 2 (.slice aj lj cj) ?h3 ?r3
  case h3 => simp only [List.getElem?_toArray, List.getElem?_cons_succ, List.getElem?_cons_zero]; rfl
  refine ⟨_, by simp [Act.put]; rfl, by kernel_rfl, by kernel_rfl, by kernel_rfl, fun _ _ _ h => h, (.inl ⟨rfl, fun W _ => by go_simp⟩), HS.out, ?_⟩
  refine takeH (o := ?o4) 3 (.pointer (some ⟨w1.heap.size, 3, none⟩)) ?h4 ?r4
  case h4 => simp only [List.getElem?_toArray, List.getElem?_cons_succ, List.getElem?_cons_zero]; rfl
  refine ⟨_, by simp [Act.put]; rfl, by kernel_rfl, by kernel_rfl, by kernel_rfl, fun _ _ _ h => h, (.inl ⟨rfl, fun W _ => by go_simp⟩), HS.out, ?_⟩
  refine takeH (o := ?o5) 4 (.agg (tc ys)) ?h5 ?r5
  case h5 => simp only [List.getElem?_toArray, List.getElem?_cons_succ, List.getElem?_cons_zero]; rfl
  refine ⟨_, by simp [Act.put]; rfl, by kernel_rfl, by kernel_rfl, by kernel_rfl, fun _ _ _ h => h, (yields_cut 56 w1.heap.size 3 28 _ (tc ys) 58 _ rfl rfl rfl Try.underlying56 rfl infoTally (by rw [hc_size HY.out.1]; omega) (cutOf_hc HY.out.1) (fun W hW => hW.1.1)), HS.out, ?_⟩
  refine takeH (o := ?o6) 5 (.pointer (some ⟨w3.heap.size, 3, none⟩)) ?h6 ?r6
  case h6 => simp only [List.getElem?_toArray, List.getElem?_cons_succ, List.getElem?_cons_zero]; rfl
  refine ⟨_, by simp [Act.put]; rfl, by kernel_rfl, by kernel_rfl, by kernel_rfl, fun _ _ _ h => h, (.inl ⟨rfl, fun W _ => by go_simp⟩), HS.out, ?_⟩
  refine takeH (o := ?o7) 6 (.agg (tc zs)) ?h7 ?r7
  case h7 => simp only [List.getElem?_toArray, List.getElem?_cons_succ, List.getElem?_cons_zero]; rfl
  refine ⟨_, by simp [Act.put]; rfl, by kernel_rfl, by kernel_rfl, by kernel_rfl, fun _ _ _ h => h, (yields_cut 56 w3.heap.size 3 28 _ (tc zs) 58 _ rfl rfl rfl Try.underlying56 rfl infoTally (by rw [hc_size HY'.out.1]; omega) (cutOf_hc HY'.out.1) (fun W hW => hW.2.1)), HS.out, ?_⟩
  refine onlyH (o := ?o8) 7 (by kernel_rfl) ?h8 ?r8
  case h8 => simp only [List.getElem?_toArray, List.getElem?_cons_succ, List.getElem?_cons_zero]; rfl
  intro K hK
  refine op_call2' 26 _ _ _ Try.f26 (fun v w' => v = .agg (tc (plusL ys zs 28)) ∧ Below W7.heap.size W7 w') rfl rfl Try.func26 (by kernel_rfl) (by kernel_rfl) ((plus_any ys zs W7 HY.out.1 HY'.out.1).mono (by rintro e w' ⟨rfl, h1⟩; exact ⟨_, rfl, rfl, h1⟩)) ?_
  rintro _ W8 ⟨rfl, bz⟩
  refine ⟨_, by simp [Act.put]; rfl, hK _ _ ⟨HSS _ _ HS.out bz, ?_⟩⟩
  have HS8 : Hid (HoldS w1.heap.size x.key x.window ax lx cx ys W8 ∧ HoldS w3.heap.size y.key y.window ay ly cy zs W8) := HSS _ _ HS.out bz
  have HZ8 : Hid (Blk W8 (w.heap.size + 1 + 1) #[.int .i64 0, .int .i64 0, .slice none 0 0, .int .i64 0, .int .i64 0, .int .i64 0, .int .i64 0, .slice none 0 0, .slice none 0 0, .slice none 0 0] 30 ∧ Below w.heap.size w W8) := ⟨HZ.out.1.below bz, Below.next HZ.out.2 bz⟩
  have HJ8 : Hid (RdP W8 aj lj (x.ids.join y.ids) Fj ∧ lj ≤ 2097152) := ⟨HJ.out.1.below bz, HJ.out.2⟩
  clear hK bz HS HZ HJ
  refine takeH (o := ?o9) 8 (.agg (hc x.key x.window aj lj cj (plusL ys zs 28))) ?h9 ?r9
  case h9 => simp only [List.getElem?_toArray, List.getElem?_cons_succ, List.getElem?_cons_zero]; rfl
  refine ⟨_, by simp [Act.put]; rfl, by kernel_rfl, by kernel_rfl, by kernel_rfl, fun _ _ _ h => h, (.inl ⟨rfl, fun W _ => by unfold execOp; simp only [List.map_toArray, List.map_cons, List.map_nil]; exact value_ok (build_hold _ _ _ _ _ _ _ (plusL_length _ _ _))⟩), HS8.out, ?_⟩
  refine onlyH (o := ?o10) 9 (by kernel_rfl) ?h10 ?r10
  case h10 => simp only [List.getElem?_toArray, List.getElem?_cons_succ, List.getElem?_cons_zero]; rfl
  intro K hK
  refine op_call1 27 _ _ Try.f27 (fun v w' => ∃ X Y, RdEn w' v ⟨x.key, x.window, x.ids.join y.ids, skOf (plusL ys zs 28)⟩ X Y ∧ Own W8.heap.size w' X ∧ Own W8.heap.size w' Y ∧ (∀ b ∈ X, b ∉ Y) ∧ Below W8.heap.size W8 w') rfl rfl Try.func27 (by kernel_rfl) (by kernel_rfl) ((holdEntry_any x.key x.window aj lj cj (x.ids.join y.ids) (plusL ys zs 28) Fj W8 HJ8.out.1 HJ8.out.2 (plusL_length _ _ _)).mono (by rintro e w' ⟨v, X, Y, rfl, h1, h2, h3, h4, h5⟩; exact ⟨_, rfl, X, Y, h1, h2, h3, h4, h5⟩)) ?_
  rintro vm W9 ⟨X, Y, rm, oX, oY, hXY, bz⟩
  have hT : (⟨x.key, x.window, x.ids.join y.ids, skOf (plusL ys zs 28)⟩ : En) = x.addR y := by
    rw [En.addR_yes (HC.out), HE.out.1, HE.out.2]
    unfold En.add
    rw [merge_tl (En.ok_sk HD1.out.symm) (En.ok_sk HD2.out.symm), Sp.join_yes (En.ok_ids HD1.out.symm).1 (En.ok_ids HD2.out.symm).1]
  rw [hT] at rm
  obtain ⟨E, rfl, hE10, hE1⟩ := (show RdE W9 vm (x.addR y) (X ++ Y) from ⟨X, Y, rfl, rm⟩).cells
  refine ⟨_, by simp [Act.put]; rfl, hK _ _ ⟨HSS _ _ HS8.out bz, ?_⟩⟩
  have HS9 : Hid (HoldS w1.heap.size x.key x.window ax lx cx ys W9 ∧ HoldS w3.heap.size y.key y.window ay ly cy zs W9) := HSS _ _ HS8.out bz
  have HZ9 : Hid (Blk W9 (w.heap.size + 1 + 1) #[.int .i64 0, .int .i64 0, .slice none 0 0, .int .i64 0, .int .i64 0, .int .i64 0, .int .i64 0, .slice none 0 0, .slice none 0 0, .slice none 0 0] 30 ∧ Below w.heap.size w W9) := ⟨HZ8.out.1.below bz, Below.next HZ8.out.2 bz⟩
  have HR9 : Hid (RdEn W9 (.agg E) (x.addR y) X Y ∧ Own (w.heap.size + 3) W9 X ∧ Own (w.heap.size + 3) W9 Y ∧ (∀ b ∈ X, b ∉ Y) ∧ E.size = 10 ∧ E.all (·.oneCell') = true) := ⟨rm, oX.mono HZ8.out.1.lt, oY.mono HZ8.out.1.lt, hXY, hE10, hE1⟩
  clear hK bz rm oX oY hXY hT hE10 hE1 HS8 HZ8 HJ8
  refine onlyH (o := ?o11) 10 (by kernel_rfl) ?h11 ?r11
  case h11 => simp only [List.getElem?_toArray, List.getElem?_cons_succ, List.getElem?_cons_zero]; rfl
  intro K hK
  refine op_store 30 (w.heap.size + 1 + 1) #[.int .i64 0, .int .i64 0, .slice none 0 0, .int .i64 0, .int .i64 0, .int .i64 0, .int .i64 0, .slice none 0 0, .slice none 0 0, .slice none 0 0] E 30 rfl rfl rfl rfl HZ9.out.1 (enSizeA HR9.out.2.2.2.2.1) HR9.out.2.2.2.2.1.symm HR9.out.2.2.2.2.2 ⟨_, by simp [Act.put]; rfl, hK _ _ ⟨⟨HS9.out.1.setRow (by have := LZ.out; omega), HS9.out.2.setRow (by have := LZ.out; omega)⟩, ?_⟩⟩
  clear hK
  have HSF : Hid (HoldS w1.heap.size x.key x.window ax lx cx ys (W9.setRow (w.heap.size + 1 + 1) E) ∧ HoldS w3.heap.size y.key y.window ay ly cy zs (W9.setRow (w.heap.size + 1 + 1) E)) := ⟨HS9.out.1.setRow (by have := LZ.out; omega), HS9.out.2.setRow (by have := LZ.out; omega)⟩
  refine takeH (o := ?o12) 11 (.bool true) ?h12 ?r12
  case h12 => simp only [List.getElem?_toArray, List.getElem?_cons_succ, List.getElem?_cons_zero]; rfl
  refine ⟨_, by simp [Act.put]; rfl, by kernel_rfl, by kernel_rfl, by kernel_rfl, fun _ _ _ h => h, (.inl ⟨rfl, fun W _ => by go_simp⟩), HSF.out, ?_⟩
  refine wpAnyH_done (by kernel_rfl) ?_ _
  go_wp2
  refine bodyPost_ret (results_row_tmp Try.results7 _ _ (w.heap.size + 1 + 1) _ _ _ _ rfl HZ9.out.1.setRow Try.underlying30 rfl (enSizeA HR9.out.2.2.2.2.1)) rfl ?_
  have nX : w.heap.size + 1 + 1 ∉ X := fun hx => by have := HR9.out.2.1.ge _ hx; omega
  have nY : w.heap.size + 1 + 1 ∉ Y := fun hx => by have := HR9.out.2.2.1.ge _ hx; omega
  exact ⟨_, X, Y, by rw [HC.out]; rfl, HR9.out.1.agree (Agree.row nX E) (Agree.row nY E), (HR9.out.2.1.agree (Agree.row nX E)).mono (by omega), (HR9.out.2.2.1.agree (Agree.row nY E)).mono (by omega), HR9.out.2.2.2.1, below_setRow HZ9.out.2 (by omega) _⟩
end Go.Proofs.Ytbmbmnhamogghab
/- Two lists, two summaries held against each other, by the model and by the library. No statement of the seat is proved here. -/
namespace Go.Proofs.Ytbmbmnhamogghab
open Go.RowKit
set_option maxRecDepth 200000 in
set_option maxHeartbeats 1000000 in
theorem slEqual_any (a b : Option Addr) (la lb ca cb : Nat) (xs ys : List Int) (F G : List Nat) (w : World) (ha : RdI w a la xs F) (hb : RdI w b lb ys G) (hla : la ≤ 140737488355328) (hlb : lb ≤ 140737488355328) :
    Calls Try.prog 73 #[.slice a la ca, .slice b lb cb] w fun e w' => e = .returned (.bool (decide (xs = ys))) ∧ Below w.heap.size w w' := by
  have Hx : Hid (xs.length = la) := ha.length
  have Hy : Hid (ys.length = lb) := hb.length
  by_cases hl : la = lb
  · subst hl
    have hbne : ((la : Int) != (la : Int)) = false := by simp
    by_cases h0 : la = 0
    · subst h0
      have ex : xs = [] := List.eq_nil_of_length_eq_zero ha.length
      have ey : ys = [] := List.eq_nil_of_length_eq_zero hb.length
      clear ha hb
      go_enter Try.func73, Try.ntmps73
      go_wp2
      refine wp_loop_rounds 1 ?_
      rw [rounds_succ]
      go_wp2
      go_ret
      exact ⟨ret_bool (by rw [ex, ey]; rfl), Below.refl _ _⟩
    · obtain ⟨b1, o1, rfl, hc1⟩ : ∃ b off, a = some ⟨b, off, none⟩ ∧ ∀ i, i < la → w.cell? ⟨b, off + i, none⟩ = some (.int .i64 (xs.getD i 0)) := by
        rcases ha.cells with h | ⟨b, off, _, h1, _, h2⟩
        · exact absurd h.1 h0
        · exact ⟨b, off, h1, h2⟩
      obtain ⟨b2, o2, rfl, hc2⟩ : ∃ b' off, b = some ⟨b', off, none⟩ ∧ ∀ i, i < la → w.cell? ⟨b', off + i, none⟩ = some (.int .i64 (ys.getD i 0)) := by
        rcases hb.cells with h | ⟨b, off, _, h1, _, h2⟩
        · exact absurd h.1 h0
        · exact ⟨b, off, h1, h2⟩
      have hb1 : b1 < w.heap.size := World.block_lt_of_cell? _ _ (hc1 0 (by omega))
      have hb2 : b2 < w.heap.size := World.block_lt_of_cell? _ _ (hc2 0 (by omega))
      clear ha hb
      go_enter Try.func73, Try.ntmps73
      go_wp2
      go_loopw [13] (fun i wr => ∃ k : Nat, k ≤ la ∧ i = .int .i64 k ∧ Hid (xs.take k = ys.take k) ∧ Below w.heap.size w wr) (fun i _ => la - (intOf i).toNat)
      case atStart => exact ⟨0, by omega, rfl, rfl, Below.refl _ _⟩
      case round =>
        obtain ⟨k, hk, rfl, HT, hbel⟩ := hrel
        by_cases hlt : k < la
        · have d1 : wr.cell? ⟨b1, o1 + k, none⟩ = some (.int .i64 (xs.getD k 0)) := (hbel.cell (by exact hb1)).trans (hc1 k hlt)
          have d2 : wr.cell? ⟨b2, o2 + k, none⟩ = some (.int .i64 (ys.getD k 0)) := (hbel.cell (by exact hb2)).trans (hc2 k hlt)
          by_cases he : xs[k]?.getD 0 = ys[k]?.getD 0
          · have hne : (xs[k]?.getD 0 != ys[k]?.getD 0) = false := by simp [he]
            have HE : Hid (xs[k]?.getD 0 = ys[k]?.getD 0) := he
            clear he hc1 hc2
            go_wp2
            go_region
            all_goals (try go_wp2)
            all_goals
              go_roundw
              case rel => exact ⟨k + 1, by omega, by go_num, eqI_step (by rw [Hx.out, Hy.out]) (by rw [Hx.out]; exact hlt) HT.out HE.out, by repeat (first | exact hbel | apply Below.drew)⟩
              case measure => simp [intOf]; omega
          · have hne : (xs[k]?.getD 0 != ys[k]?.getD 0) = true := by simp [he]
            have HE : Hid (¬ xs[k]?.getD 0 = ys[k]?.getD 0) := he
            clear he hc1 hc2
            go_wp2
            go_region
            all_goals (try go_wp2)
            all_goals
              go_ret
              exact ⟨ret_bool (neI_of_at HE.out).symm, by repeat (first | exact hbel | apply Below.drew)⟩
        · obtain rfl : k = la := by omega
          go_wp2
          go_ret
          exact ⟨ret_bool (eqI_end Hx.out Hy.out HT.out).symm, hbel⟩
  · have hbne : ((la : Int) != (lb : Int)) = true := by simp; omega
    have e : decide (xs = ys) = false := by
      rw [decide_eq_false_iff_not]; intro e; subst e; exact hl (Hx.out.symm.trans Hy.out)
    clear ha hb
    go_enter Try.func73, Try.ntmps73
    go_wp2
    go_ret
    exact ⟨ret_bool e.symm, Below.refl _ _⟩
/-- The two boxes lie there, and nothing elder has changed. -/
structure Boxes (w : World) (A B : Array Value) (t : TypeId) (W : World) : Prop where
  fst : Blk W w.heap.size A t
  snd : Blk W (w.heap.size + 1) B t
  bel : Below w.heap.size w W
theorem Boxes.below {w W W' : World} {A B : Array Value} {t : TypeId} (h : Boxes w A B t W) (b : Below W.heap.size W W') : Boxes w A B t W' := ⟨h.fst.below b, h.snd.below b, Below.next h.bel b⟩
theorem Boxes.drew {w W : World} {A B : Array Value} {t : TypeId} (h : Boxes w A B t W) : Boxes w A B t W.drew := ⟨h.fst, h.snd, h.bel.drew⟩
end Go.Proofs.Ytbmbmnhamogghab
/- The walks through the program's SketchSame. No statement of the seat is proved here. -/
namespace Go.Proofs.Ytbmbmnhamogghab
open Go.RowKit
def numsEq (s t : Sk) : Bool := decide (s.count = t.count ∧ s.sum = t.sum ∧ s.min = t.min ∧ s.max = t.max)
set_option maxRecDepth 200000 in
set_option maxHeartbeats 1000000 in
theorem sameNumbers_any (v u : Value) (s t : Sk) (F G : List Nat) (w : World) (h : RdSk w v s F) (k : RdSk w u t G) :
    Calls Try.prog 50 #[v, u] w fun e w' => e = .returned (.bool (numsEq s t)) ∧ Below w.heap.size w w' := by
  obtain ⟨a1, n1, c1, a2, n2, c2, a3, n3, c3, F1, F2, F3, rfl, _⟩ := h
  obtain ⟨b1, m1, d1, b2, m2, d2, b3, m3, d3, G1, G2, G3, rfl, _⟩ := k
  have HT : Hid (_ ∧ _ ∧ _) := two_made w #[.int .i64 s.count, .int .i64 s.sum, .int .i64 s.min, .int .i64 s.max, .slice a1 n1 c1, .slice a2 n2 c2, .slice a3 n3 c3] #[.int .i64 t.count, .int .i64 t.sum, .int .i64 t.min, .int .i64 t.max, .slice b1 m1 d1, .slice b2 m2 d2, .slice b3 m3 d3] 28 28
  obtain ⟨d, hd⟩ : ∃ d, d = numsEq s t := ⟨_, rfl⟩
  rw [← hd]
  have HD : Hid (d = decide (s.count = t.count ∧ s.sum = t.sum ∧ s.min = t.min ∧ s.max = t.max)) := hd
  clear hd
  go_enter Try.func50, Try.ntmps50
  by_cases q1 : s.count = t.count
  rotate_left
  · have q' : (s.count == t.count) = false := by simpa using q1
    have HN : Hid (d = false) := by show d = _; rw [HD.out]; exact dec_false (fun e => q1 e.1)
    clear q1
    go_wp2
    go_ret
    exact ⟨ret_bool HN.out.symm, HT.out.2.2⟩
  have Q1 : Hid (s.count = t.count) := q1
  have q1' : (s.count == t.count) = true := by simpa using q1
  clear q1
  by_cases q2 : s.sum = t.sum
  rotate_left
  · have q' : (s.sum == t.sum) = false := by simpa using q2
    have HN : Hid (d = false) := by show d = _; rw [HD.out]; exact dec_false (fun e => q2 e.2.1)
    clear q2
    go_wp2
    go_ret
    exact ⟨ret_bool HN.out.symm, HT.out.2.2⟩
  have Q2 : Hid (s.sum = t.sum) := q2
  have q2' : (s.sum == t.sum) = true := by simpa using q2
  clear q2
  by_cases q3 : s.min = t.min
  rotate_left
  · have q' : (s.min == t.min) = false := by simpa using q3
    have HN : Hid (d = false) := by show d = _; rw [HD.out]; exact dec_false (fun e => q3 e.2.2.1)
    clear q3
    go_wp2
    go_ret
    exact ⟨ret_bool HN.out.symm, HT.out.2.2⟩
  have Q3 : Hid (s.min = t.min) := q3
  have q3' : (s.min == t.min) = true := by simpa using q3
  clear q3
  by_cases q4 : s.max = t.max
  rotate_left
  · have q' : (s.max == t.max) = false := by simpa using q4
    have HN : Hid (d = false) := by show d = _; rw [HD.out]; exact dec_false (fun e => q4 e.2.2.2)
    clear q4
    go_wp2
    go_ret
    exact ⟨ret_bool HN.out.symm, HT.out.2.2⟩
  have Q4 : Hid (s.max = t.max) := q4
  have q4' : (s.max == t.max) = true := by simpa using q4
  clear q4
  have HN : Hid (d = true) := by show d = _; rw [HD.out]; exact dec_true ⟨Q1.out, Q2.out, Q3.out, Q4.out⟩
  go_wp2
  go_ret
  exact ⟨ret_bool HN.out.symm, HT.out.2.2⟩
set_option maxRecDepth 200000 in
set_option maxHeartbeats 2000000 in
theorem eqFunc_any (a b : Option Addr) (la lb ca cb : Nat) (xs ys : List (List Int)) (F G : List Nat) (w : World) (ha : RdII w a la xs F) (hb : RdII w b lb ys G) (hla : la ≤ 140737488355328) (hlb : lb ≤ 140737488355328)
    (hxr : ∀ z ∈ xs, z.length ≤ 140737488355328) (hyr : ∀ z ∈ ys, z.length ≤ 140737488355328) :
    Calls Try.prog 74 #[.slice a la ca, .slice b lb cb, .func (.func 73) #[] #[]] w fun e w' => e = .returned (.bool (decide (xs = ys))) ∧ Below w.heap.size w w' := by
  have Hx : Hid (xs.length = la) := ha.length
  have Hy : Hid (ys.length = lb) := hb.length
  have Hxr : Hid (∀ z ∈ xs, z.length ≤ 140737488355328) := hxr
  have Hyr : Hid (∀ z ∈ ys, z.length ≤ 140737488355328) := hyr
  clear hxr hyr
  by_cases hl : la = lb
  · subst hl
    have hbne : ((la : Int) != (la : Int)) = false := by simp
    by_cases h0 : la = 0
    · subst h0
      have ex : xs = [] := List.eq_nil_of_length_eq_zero ha.length
      have ey : ys = [] := List.eq_nil_of_length_eq_zero hb.length
      clear ha hb
      go_enter Try.func74, Try.ntmps74
      go_wp2
      refine wp_loop_rounds 1 ?_
      rw [rounds_succ]
      go_wp2
      go_ret
      exact ⟨ret_bool (by rw [ex, ey]; rfl), Below.refl _ _⟩
    · obtain ⟨b1, o1, F1, rfl, hm1⟩ : ∃ b off F', a = some ⟨b, off, none⟩ ∧ RdM w (xs.map ints) b off F' := by
        rcases ha.cells with h | ⟨b, off, F', _, h1, _, h2⟩
        · exact absurd h.1 h0
        · exact ⟨b, off, F', h1, h2⟩
      obtain ⟨b2, o2, F2, rfl, hm2⟩ : ∃ b' off F', b = some ⟨b', off, none⟩ ∧ RdM w (ys.map ints) b' off F' := by
        rcases hb.cells with h | ⟨b, off, F', _, h1, _, h2⟩
        · exact absurd h.1 h0
        · exact ⟨b, off, F', h1, h2⟩
      have HM1 : Hid (RdM w (xs.map ints) b1 o1 F1) := hm1
      have HM2 : Hid (RdM w (ys.map ints) b2 o2 F2) := hm2
      clear ha hb hm1 hm2
      go_enter Try.func74, Try.ntmps74
      go_wp2
      go_loopw [17] (fun i wr => ∃ k : Nat, k ≤ la ∧ i = .int .i64 k ∧ Hid (xs.take k = ys.take k) ∧ Hid (Below w.heap.size w wr)) (fun i _ => la - (intOf i).toNat)
      case atStart => exact ⟨0, by omega, rfl, rfl, Below.refl _ _⟩
      case round =>
        obtain ⟨k, hk, rfl, HT, HB⟩ := hrel
        by_cases hlt : k < la
        · obtain ⟨a1, n1, c1, G1, hc1, hr1, _⟩ := RdII.row HM1.out Hx.out k hlt
          obtain ⟨a2, n2, c2, G2, hc2, hr2, _⟩ := RdII.row HM2.out Hy.out k hlt
          have hb1 : b1 < w.heap.size := World.block_lt_of_cell? _ _ hc1
          have hb2 : b2 < w.heap.size := World.block_lt_of_cell? _ _ hc2
          have d1 : wr.cell? ⟨b1, o1 + k, none⟩ = some (.slice a1 n1 c1) := (HB.out.cell (by exact hb1)).trans hc1
          have d2 : wr.cell? ⟨b2, o2 + k, none⟩ = some (.slice a2 n2 c2) := (HB.out.cell (by exact hb2)).trans hc2
          have HQ : Hid (RdI w a1 n1 (xs.getD k []) G1 ∧ RdI w a2 n2 (ys.getD k []) G2 ∧ n1 ≤ 140737488355328 ∧ n2 ≤ 140737488355328) := ⟨hr1, hr2, by rw [← hr1.length]; exact Hxr.out _ (mem_getD (by rw [Hx.out]; exact hlt)), by rw [← hr2.length]; exact Hyr.out _ (mem_getD (by rw [Hy.out]; exact hlt))⟩
          clear hr1 hr2 hc1 hc2
          go_wp2_with fail
          refine (slEqual_any a1 a2 n1 n2 c1 c2 _ _ G1 G2 _ (HQ.out.1.below HB.out) (HQ.out.2.1.below HB.out) HQ.out.2.2.1 HQ.out.2.2.2).mono ?_
          rintro e w1 ⟨rfl, hbz⟩
          have HB1 : Hid (Below w.heap.size w w1) := Below.next HB.out hbz
          clear hbz
          cases ee : decide (xs.getD k [] = ys.getD k [])
          · have HE : Hid (¬ xs.getD k [] = ys.getD k []) := (show ¬ xs.getD k [] = ys.getD k [] from of_decide_eq_false ee)
            clear ee
            go_wp2
            go_ret
            exact ⟨ret_bool (neII_of_at HE.out).symm, HB1.out⟩
          · have HE : Hid (xs.take (k + 1) = ys.take (k + 1)) := eqII_step (by rw [Hx.out, Hy.out]) (by rw [Hx.out]; exact hlt) HT.out (of_decide_eq_true ee)
            clear ee
            go_wp2
            go_roundw
            case rel => exact ⟨k + 1, by omega, by go_num, HE, HB1⟩
            case measure => simp [intOf]; omega
        · obtain rfl : k = la := by omega
          go_wp2
          go_ret
          exact ⟨ret_bool (eqII_end Hx.out Hy.out HT.out).symm, HB.out⟩
  · have hbne : ((la : Int) != (lb : Int)) = true := by simp; omega
    have e : decide (xs = ys) = false := by
      rw [decide_eq_false_iff_not]; intro e; subst e; exact hl (Hx.out.symm.trans Hy.out)
    clear ha hb
    go_enter Try.func74, Try.ntmps74
    go_wp2
    go_ret
    exact ⟨ret_bool e.symm, Below.refl _ _⟩
def listsEq (s t : Sk) : Bool := decide (s.hist = t.hist ∧ s.regs = t.regs ∧ s.rows = t.rows)
set_option maxRecDepth 200000 in
set_option maxHeartbeats 2000000 in
theorem sameLists_any (v u : Value) (s t : Sk) (F G : List Nat) (w : World) (h : RdSk w v s F) (k : RdSk w u t G) (hw : s.wide) (kw : t.wide) :
    Calls Try.prog 51 #[v, u] w fun e w' => e = .returned (.bool (listsEq s t)) ∧ Below w.heap.size w w' := by
  obtain ⟨a1, n1, c1, a2, n2, c2, a3, n3, c3, F1, F2, F3, rfl, h1, h2, h3, _⟩ := h
  obtain ⟨b1, m1, d1, b2, m2, d2, b3, m3, d3, G1, G2, G3, rfl, k1, k2, k3, _⟩ := k
  have H1 : Hid (RdI w a1 n1 s.hist F1 ∧ RdI w b1 m1 t.hist G1 ∧ n1 ≤ 140737488355328 ∧ m1 ≤ 140737488355328) := ⟨h1, k1, by rw [← h1.length]; exact hw.hist, by rw [← k1.length]; exact kw.hist⟩
  have H2 : Hid (RdI w a2 n2 s.regs F2 ∧ RdI w b2 m2 t.regs G2 ∧ n2 ≤ 140737488355328 ∧ m2 ≤ 140737488355328) := ⟨h2, k2, by rw [← h2.length]; exact hw.regs, by rw [← k2.length]; exact kw.regs⟩
  have H3 : Hid (RdII w a3 n3 s.rows F3 ∧ RdII w b3 m3 t.rows G3 ∧ n3 ≤ 140737488355328 ∧ m3 ≤ 140737488355328) := ⟨h3, k3, by rw [← h3.length]; exact hw.rows, by rw [← k3.length]; exact kw.rows⟩
  have hn3 : n3 ≤ 140737488355328 := H3.out.2.2.1
  have hm3 : m3 ≤ 140737488355328 := H3.out.2.2.2
  have HW : Hid (s.wide ∧ t.wide) := ⟨hw, kw⟩
  clear h1 h2 h3 k1 k2 k3 hw kw
  have HT : Hid (_ ∧ _ ∧ _) := two_made w #[.int .i64 s.count, .int .i64 s.sum, .int .i64 s.min, .int .i64 s.max, .slice a1 n1 c1, .slice a2 n2 c2, .slice a3 n3 c3] #[.int .i64 t.count, .int .i64 t.sum, .int .i64 t.min, .int .i64 t.max, .slice b1 m1 d1, .slice b2 m2 d2, .slice b3 m3 d3] 28 28
  obtain ⟨d, hd⟩ : ∃ d, d = listsEq s t := ⟨_, rfl⟩
  rw [← hd]
  have HD : Hid (d = decide (s.hist = t.hist ∧ s.regs = t.regs ∧ s.rows = t.rows)) := hd
  clear hd
  go_enter Try.func51, Try.ntmps51
  go_wp2_with fail
  refine (slEqual_any a1 b1 n1 m1 c1 d1 s.hist t.hist F1 G1 _ (H1.out.1.below HT.out.2.2) (H1.out.2.1.below HT.out.2.2) H1.out.2.2.1 H1.out.2.2.2).mono ?_
  rintro e w1 ⟨rfl, hb1⟩
  have HB1 : Hid (Boxes w #[.int .i64 s.count, .int .i64 s.sum, .int .i64 s.min, .int .i64 s.max, .slice a1 n1 c1, .slice a2 n2 c2, .slice a3 n3 c3] #[.int .i64 t.count, .int .i64 t.sum, .int .i64 t.min, .int .i64 t.max, .slice b1 m1 d1, .slice b2 m2 d2, .slice b3 m3 d3] 28 w1) := ⟨HT.out.1.below hb1, HT.out.2.1.below hb1, Below.next HT.out.2.2 hb1⟩
  clear hb1 HT
  cases e5 : decide (s.hist = t.hist)
  · have HN : Hid (d = false) := by show d = _; rw [HD.out]; exact dec_false (fun e => by rw [e.1] at e5; simp at e5)
    clear e5
    go_wp2
    go_ret
    exact ⟨ret_bool HN.out.symm, HB1.out.bel⟩
  have Q5 : Hid (s.hist = t.hist) := (show s.hist = t.hist from of_decide_eq_true e5)
  clear e5
  have x5 := HB1.out.fst.cell 5
  have y5 := HB1.out.snd.cell 5
  simp only [List.getElem?_toArray, List.getElem?_cons_succ, List.getElem?_cons_zero] at x5 y5
  go_wp2_with fail
  refine (slEqual_any a2 b2 n2 m2 c2 d2 s.regs t.regs F2 G2 _ (H2.out.1.below HB1.out.bel) (H2.out.2.1.below HB1.out.bel) H2.out.2.2.1 H2.out.2.2.2).mono ?_
  rintro e w2 ⟨rfl, hb2⟩
  have HB2 : Hid (Boxes w #[.int .i64 s.count, .int .i64 s.sum, .int .i64 s.min, .int .i64 s.max, .slice a1 n1 c1, .slice a2 n2 c2, .slice a3 n3 c3] #[.int .i64 t.count, .int .i64 t.sum, .int .i64 t.min, .int .i64 t.max, .slice b1 m1 d1, .slice b2 m2 d2, .slice b3 m3 d3] 28 w2) := HB1.out.below hb2
  clear hb2 x5 y5 HB1
  cases e6 : decide (s.regs = t.regs)
  · have HN : Hid (d = false) := by show d = _; rw [HD.out]; exact dec_false (fun e => by rw [e.2.1] at e6; simp at e6)
    clear e6
    go_wp2
    go_ret
    exact ⟨ret_bool HN.out.symm, HB2.out.bel⟩
  have Q6 : Hid (s.regs = t.regs) := (show s.regs = t.regs from of_decide_eq_true e6)
  clear e6
  have x6 := HB2.out.fst.cell 6
  have y6 := HB2.out.snd.cell 6
  simp only [List.getElem?_toArray, List.getElem?_cons_succ, List.getElem?_cons_zero] at x6 y6
  go_wp2_with fail
  refine (eqFunc_any a3 b3 n3 m3 c3 d3 s.rows t.rows F3 G3 _ (H3.out.1.below HB2.out.bel) (H3.out.2.1.below HB2.out.bel) hn3 hm3 HW.out.1.row HW.out.2.row).mono ?_
  rintro e w3 ⟨rfl, hb3⟩
  have HB3 : Hid (Below w.heap.size w w3) := Below.next HB2.out.bel hb3
  clear hb3 x6 y6
  obtain ⟨d3', hd3⟩ : ∃ d, d = decide (s.rows = t.rows) := ⟨_, rfl⟩
  rw [← hd3]
  have HN : Hid (d = d3') := by
    show d = _
    rw [HD.out, hd3]
    by_cases e : s.rows = t.rows
    · rw [dec_true e, dec_true ⟨Q5.out, Q6.out, e⟩]
    · rw [dec_false e, dec_false (fun x => e x.2.2)]
  clear hd3
  go_wp2
  go_ret
  exact ⟨ret_bool HN.out.symm, HB3.out⟩
theorem sk_tl {s : Sk} (h : s.shaped = true) : skOf s.tl = s := by
  obtain ⟨h0, h1, h2, h3, h4, h5, h6, h7, r0, r1, r2, r3, r4, r5, r6, r7, p0, p1, p2, p3, q0, q1, q2, q3, e⟩ := Sk.written h
  clear h
  generalize s.count = c at e
  generalize s.sum = sm at e
  generalize s.min = mn at e
  generalize s.max = mx at e
  subst e
  rfl
theorem tl_inj {s t : Sk} (hs : s.shaped = true) (ht : t.shaped = true) : decide (s.tl = t.tl) = decide (s = t) := by
  by_cases e : s = t
  · subst e; simp
  · rw [dec_false e]
    exact dec_false (fun x => e (by rw [← sk_tl hs, ← sk_tl ht, x]))
set_option maxRecDepth 200000 in
set_option maxHeartbeats 4000000 in
theorem sameImpl_any (v u : Value) (s t : Sk) (F G : List Nat) (w : World) (h : RdSk w v s F) (k : RdSk w u t G) (hw : s.wide) (kw : t.wide) :
    Calls Try.prog 21 #[v, u] w fun e w' => e = .returned (.bool (decide (s = t))) ∧ Below w.heap.size w w' := by
  have HH : Hid (RdSk w v s F ∧ RdSk w u t G ∧ s.wide ∧ t.wide) := ⟨h, k, hw, kw⟩
  obtain ⟨cs, rfl, hc7, hc1⟩ := h.cells
  obtain ⟨ds, rfl, hd7, hd1⟩ := k.cells
  have HC : Hid (cs.size = 7 ∧ ds.size = 7) := ⟨hc7, hd7⟩
  have HT : Hid (_ ∧ _ ∧ _) := two_made w cs ds 28 28
  obtain ⟨d, hd⟩ : ∃ d, d = decide (s = t) := ⟨_, rfl⟩
  rw [← hd]
  have HD : Hid (d = decide (s = t)) := hd
  clear h k hw kw hc7 hc1 hd7 hd1 hd
  go_enter Try.func21, Try.ntmps21
  go_wp2_with (first | go_skip | (with_reducible refine stopLoad 28 rfl ?_) | (with_reducible refine stopLoad 56 rfl ?_) | (with_reducible refine stopStore 56 rfl ?_))
  refine load_any 28 w.heap.size cs 28 _ HT.out.1 rfl rfl rfl Try.underlying28 rfl (skSize HC.out.1) ?_
  go_wp2_with fail
  refine (tallyOf_any _ s F _ (HH.out.1.below HT.out.2.2) HH.out.2.2.1).mono ?_
  rintro e w1 ⟨xs, rfl, xl, xe, b1⟩
  have HX : Hid (xs.length = 28 ∧ (s.shaped = true → xs = s.tl)) := ⟨xl, xe⟩
  have HW1 : Hid (Boxes w cs ds 28 w1) := ⟨HT.out.1.below b1, HT.out.2.1.below b1, Below.next HT.out.2.2 b1⟩
  clear xl xe b1 HT
  go_wp2_with (first | go_skip | (with_reducible refine stopLoad 28 rfl ?_) | (with_reducible refine stopLoad 56 rfl ?_) | (with_reducible refine stopStore 56 rfl ?_))
  refine store_fresh 56 w1.heap.size rfl (tc (List.replicate 28 0)) (tc xs) 56 rfl rfl rfl rfl (tallySize HX.out.1) (by rw [tc_size, tc_size, HX.out.1]; rfl) (tc_one _) ?_
  intro W2 hg2 b2
  have HW2 : Hid (Boxes w cs ds 28 W2 ∧ Blk W2 w1.heap.size (tc xs) 56) := ⟨HW1.out.below b2, hg2⟩
  clear hg2 b2 HW1
  go_wp2_with (first | go_skip | (with_reducible refine stopLoad 28 rfl ?_) | (with_reducible refine stopLoad 56 rfl ?_) | (with_reducible refine stopStore 56 rfl ?_))
  refine load_any 28 (w.heap.size + 1) ds 28 _ HW2.out.1.snd rfl rfl rfl Try.underlying28 rfl (skSize HC.out.2) ?_
  go_wp2_with fail
  refine (tallyOf_any _ t G _ (HH.out.2.1.below HW2.out.1.bel) HH.out.2.2.2).mono ?_
  rintro e w3 ⟨ys, rfl, xl, xe, b3⟩
  have HY : Hid (ys.length = 28 ∧ (t.shaped = true → ys = t.tl)) := ⟨xl, xe⟩
  have HW3 : Hid (Boxes w cs ds 28 w3 ∧ Blk w3 w1.heap.size (tc xs) 56) := ⟨HW2.out.1.below b3, HW2.out.2.below b3⟩
  clear xl xe b3 HW2
  go_wp2_with (first | go_skip | (with_reducible refine stopLoad 28 rfl ?_) | (with_reducible refine stopLoad 56 rfl ?_) | (with_reducible refine stopStore 56 rfl ?_))
  refine store_fresh 56 w3.heap.size rfl (tc (List.replicate 28 0)) (tc ys) 56 rfl rfl rfl rfl (tallySize HY.out.1) (by rw [tc_size, tc_size, HY.out.1]; rfl) (tc_one _) ?_
  intro W4 hg4 b4
  have HW4 : Hid (Boxes w cs ds 28 W4 ∧ Blk W4 w1.heap.size (tc xs) 56 ∧ Blk W4 w3.heap.size (tc ys) 56) := ⟨HW3.out.1.below b4, HW3.out.2.below b4, hg4⟩
  clear hg4 b4 HW3
  by_cases both : s.shaped = true ∧ t.shaped = true
  · have HE : Hid (d = decide (xs = ys)) := by show d = _; rw [HD.out, HX.out.2 both.1, HY.out.2 both.2]; exact (tl_inj both.1 both.2).symm
    obtain ⟨sa, sb⟩ := both
    rw [sa, sb]
    clear sa sb
    go_wp2_with (first | go_skip | (with_reducible refine stopLoad 28 rfl ?_) | (with_reducible refine stopLoad 56 rfl ?_) | (with_reducible refine stopStore 56 rfl ?_))
    refine load_any 56 w1.heap.size (tc xs) 56 _ HW4.out.2.1 rfl rfl rfl Try.underlying56 rfl (tallySize HX.out.1) ?_
    go_wp2_with (first | go_skip | (with_reducible refine stopLoad 28 rfl ?_) | (with_reducible refine stopLoad 56 rfl ?_) | (with_reducible refine stopStore 56 rfl ?_))
    refine load_any 56 w3.heap.size (tc ys) 56 _ HW4.out.2.2 rfl rfl rfl Try.underlying56 rfl (tallySize HY.out.1) ?_
    go_wp2_with fail
    refine (same_any xs ys _ HX.out.1 HY.out.1).mono ?_
    rintro e w5 ⟨rfl, b5⟩
    have HB5 : Hid (Below w.heap.size w w5) := Below.next HW4.out.1.bel b5
    rw [← HE.out]
    clear b5
    go_wp2
    go_ret
    exact ⟨rfl, HB5.out⟩
  · have hb : (s.shaped && t.shaped) = false := by
      cases e1 : s.shaped
      · rfl
      · cases e2 : t.shaped
        · rfl
        · exact absurd ⟨e1, e2⟩ both
    have rest : ∀ W (_ : W = W4), True := fun _ _ => trivial
    clear both rest
    cases sa : s.shaped
    · clear hb
      go_wp2_with (first | go_skip | (with_reducible refine stopLoad 28 rfl ?_) | (with_reducible refine stopLoad 56 rfl ?_) | (with_reducible refine stopStore 56 rfl ?_))
      refine load_any 28 w.heap.size cs 28 _ HW4.out.1.fst rfl rfl rfl Try.underlying28 rfl (skSize HC.out.1) ?_
      go_wp2_with (first | go_skip | (with_reducible refine stopLoad 28 rfl ?_) | (with_reducible refine stopLoad 56 rfl ?_) | (with_reducible refine stopStore 56 rfl ?_))
      refine load_any 28 (w.heap.size + 1) ds 28 _ HW4.out.1.snd rfl rfl rfl Try.underlying28 rfl (skSize HC.out.2) ?_
      go_wp2_with fail
      refine (sameNumbers_any _ _ s t F G _ (HH.out.1.below HW4.out.1.bel) (HH.out.2.1.below HW4.out.1.bel)).mono ?_
      rintro e w5 ⟨rfl, b5⟩
      have HB5 : Hid (Boxes w cs ds 28 w5) := HW4.out.1.below b5
      clear b5
      cases en : numsEq s t
      · have HN : Hid (d = false) := by show d = _; rw [HD.out]; exact dec_false (fun e => by rw [e] at en; simp [numsEq] at en)
        clear en
        go_wp2
        go_ret
        exact ⟨ret_bool HN.out.symm, HB5.out.bel⟩
      have HN1 : Hid (s.count = t.count ∧ s.sum = t.sum ∧ s.min = t.min ∧ s.max = t.max) := (show s.count = t.count ∧ s.sum = t.sum ∧ s.min = t.min ∧ s.max = t.max from of_decide_eq_true en)
      clear en
      go_wp2_with (first | go_skip | (with_reducible refine stopLoad 28 rfl ?_) | (with_reducible refine stopLoad 56 rfl ?_) | (with_reducible refine stopStore 56 rfl ?_))
      refine load_any 28 w.heap.size cs 28 _ HB5.out.fst rfl rfl rfl Try.underlying28 rfl (skSize HC.out.1) ?_
      go_wp2_with (first | go_skip | (with_reducible refine stopLoad 28 rfl ?_) | (with_reducible refine stopLoad 56 rfl ?_) | (with_reducible refine stopStore 56 rfl ?_))
      refine load_any 28 (w.heap.size + 1) ds 28 _ HB5.out.snd rfl rfl rfl Try.underlying28 rfl (skSize HC.out.2) ?_
      go_wp2_with fail
      refine (sameLists_any _ _ s t F G _ (HH.out.1.below HB5.out.bel) (HH.out.2.1.below HB5.out.bel) HH.out.2.2.1 HH.out.2.2.2).mono ?_
      rintro e w6 ⟨rfl, b6⟩
      have HB6 : Hid (Below w.heap.size w w6) := Below.next HB5.out.bel b6
      clear b6
      obtain ⟨dl, hdl⟩ : ∃ d, d = listsEq s t := ⟨_, rfl⟩
      rw [← hdl]
      have HN : Hid (d = dl) := by
        show d = _
        rw [HD.out, hdl]
        unfold listsEq
        by_cases e : s.hist = t.hist ∧ s.regs = t.regs ∧ s.rows = t.rows
        · rw [dec_true e, dec_true (Sk.eq_of HN1.out.1 HN1.out.2.1 HN1.out.2.2.1 HN1.out.2.2.2 e.1 e.2.1 e.2.2)]
        · rw [dec_false e]; exact dec_false (fun x => e (by rw [x]; exact ⟨rfl, rfl, rfl⟩))
      clear hdl
      go_wp2
      go_ret
      exact ⟨ret_bool HN.out.symm, HB6.out⟩
    · rw [sa] at hb
      have sb : t.shaped = false := by simpa using hb
      rw [sb]
      clear hb sa sb
      go_wp2_with (first | go_skip | (with_reducible refine stopLoad 28 rfl ?_) | (with_reducible refine stopLoad 56 rfl ?_) | (with_reducible refine stopStore 56 rfl ?_))
      refine load_any 28 w.heap.size cs 28 _ HW4.out.1.fst rfl rfl rfl Try.underlying28 rfl (skSize HC.out.1) ?_
      go_wp2_with (first | go_skip | (with_reducible refine stopLoad 28 rfl ?_) | (with_reducible refine stopLoad 56 rfl ?_) | (with_reducible refine stopStore 56 rfl ?_))
      refine load_any 28 (w.heap.size + 1) ds 28 _ HW4.out.1.snd rfl rfl rfl Try.underlying28 rfl (skSize HC.out.2) ?_
      go_wp2_with fail
      refine (sameNumbers_any _ _ s t F G _ (HH.out.1.below HW4.out.1.bel) (HH.out.2.1.below HW4.out.1.bel)).mono ?_
      rintro e w5 ⟨rfl, b5⟩
      have HB5 : Hid (Boxes w cs ds 28 w5) := HW4.out.1.below b5
      clear b5
      cases en : numsEq s t
      · have HN : Hid (d = false) := by show d = _; rw [HD.out]; exact dec_false (fun e => by rw [e] at en; simp [numsEq] at en)
        clear en
        go_wp2
        go_ret
        exact ⟨ret_bool HN.out.symm, HB5.out.bel⟩
      have HN1 : Hid (s.count = t.count ∧ s.sum = t.sum ∧ s.min = t.min ∧ s.max = t.max) := (show s.count = t.count ∧ s.sum = t.sum ∧ s.min = t.min ∧ s.max = t.max from of_decide_eq_true en)
      clear en
      go_wp2_with (first | go_skip | (with_reducible refine stopLoad 28 rfl ?_) | (with_reducible refine stopLoad 56 rfl ?_) | (with_reducible refine stopStore 56 rfl ?_))
      refine load_any 28 w.heap.size cs 28 _ HB5.out.fst rfl rfl rfl Try.underlying28 rfl (skSize HC.out.1) ?_
      go_wp2_with (first | go_skip | (with_reducible refine stopLoad 28 rfl ?_) | (with_reducible refine stopLoad 56 rfl ?_) | (with_reducible refine stopStore 56 rfl ?_))
      refine load_any 28 (w.heap.size + 1) ds 28 _ HB5.out.snd rfl rfl rfl Try.underlying28 rfl (skSize HC.out.2) ?_
      go_wp2_with fail
      refine (sameLists_any _ _ s t F G _ (HH.out.1.below HB5.out.bel) (HH.out.2.1.below HB5.out.bel) HH.out.2.2.1 HH.out.2.2.2).mono ?_
      rintro e w6 ⟨rfl, b6⟩
      have HB6 : Hid (Below w.heap.size w w6) := Below.next HB5.out.bel b6
      clear b6
      obtain ⟨dl, hdl⟩ : ∃ d, d = listsEq s t := ⟨_, rfl⟩
      rw [← hdl]
      have HN : Hid (d = dl) := by
        show d = _
        rw [HD.out, hdl]
        unfold listsEq
        by_cases e : s.hist = t.hist ∧ s.regs = t.regs ∧ s.rows = t.rows
        · rw [dec_true e, dec_true (Sk.eq_of HN1.out.1 HN1.out.2.1 HN1.out.2.2.1 HN1.out.2.2.2 e.1 e.2.1 e.2.2)]
        · rw [dec_false e]; exact dec_false (fun x => e (by rw [x]; exact ⟨rfl, rfl, rfl⟩))
      clear hdl
      go_wp2
      go_ret
      exact ⟨ret_bool HN.out.symm, HB6.out⟩
end Go.Proofs.Ytbmbmnhamogghab
