/- Several texts of mine, laid together. No statement of the seat is proved here. -/
import Derived.Test.YtjnamoppcklomaaGreatB1
import Derived.Test.YtjnamoppcklomaaGreatTallyP
import Derived.Test.YtjnamoppcklomaaGreatTallyS
import Derived.Test.YtjnamoppcklomaaGreatSkLaw
import Derived.Test.YtjnamoppcklomaaGreatB3
import Derived.Test.YtjnamoppcklomaaGreatB2
import Derived.Test.YtjnamoppcklomaaGreatItHelp2
import Derived.Test.YtjnamoppcklomaaGreatSkCopy
import Derived.Test.YtjnamoppcklomaaGreatAppAny
import Derived.Deep.AppendLies
import Derived.Maps.AppendAt
import Derived.BigRegion
import Derived.Deep.RegionHeld3
import Derived.Laws.StructEq
import Derived.Test.YtjnamoppcklomaaGreatWhole
import Derived.Test.YtjnamoppcklomaaGreatPart
import Derived.Lib.AppendZeros
import Derived.Lib.SliceRun
namespace Go.Proofs.YtjnamoppcklomaaGreat
section
open Go.RowKit
theorem Sk.ok_facts {s : Sk} (h : s.ok = true) : 0 ≤ s.min ∧ s.min ≤ s.max ∧ (s.count = 0 → s.max = 0) := by
 unfold Sk.ok okHead okZero at h
 simp only [Bool.and_eq_true, decide_eq_true_eq, Bool.or_eq_true, Bool.not_eq_true', decide_eq_false_iff_not] at h
 obtain ⟨⟨h1, h2⟩, _⟩ := h
 refine ⟨h1.1.1.1.2.1, h1.1.2, fun e => ?_⟩
 rcases h2 with h2 | h2
 ·
  exact absurd e h2
 ·
  exact h2.2
theorem merge_tl {s t : Sk} (hs : s.ok = true) (ht : t.ok = true) : skOf (plusL s.tl t.tl 28) = s.merge t := by
 obtain ⟨f1, f2, f3⟩ := Sk.ok_facts hs
 obtain ⟨g1, g2, g3⟩ := Sk.ok_facts ht
 obtain ⟨h0, h1, h2, h3, h4, h5, h6, h7, r0, r1, r2, r3, r4, r5, r6, r7, p0, p1, p2, p3, q0, q1, q2, q3, e⟩ := Sk.written (Sk.ok_shaped hs)
 obtain ⟨k0, k1, k2, k3, k4, k5, k6, k7, m0, m1, m2, m3, m4, m5, m6, m7, n0, n1, n2, n3, o0, o1, o2, o3, e'⟩ := Sk.written (Sk.ok_shaped ht)
 clear hs ht
 generalize s.count = c at e f1 f2 f3
 generalize s.sum = sm at e
 generalize s.min = mn at e f1 f2 f3
 generalize s.max = mx at e f1 f2 f3
 generalize t.count = c' at e' g1 g2 g3
 generalize t.sum = sm' at e'
 generalize t.min = mn' at e' g1 g2 g3
 generalize t.max = mx' at e' g1 g2 g3
 subst e e'
 refine Sk.eq_of rfl rfl ?_ ?_ rfl rfl rfl
 ·
  show (if c = 0 then (mn', mx') else if c' = 0 then (mn, mx) else (min mn mn', max mx mx')).1 = if c' = 0 then mn else if c = 0 then mn' else Min.min mn mn'
  by_cases a : c = 0
  ·
   rw [if_pos a]
   by_cases b : c' = 0
   ·
    rw [if_pos b]
    have := f3 a; have := g3 b
    show mn' = mn
    omega
   ·
    rw [if_neg b, if_pos a]
  ·
   rw [if_neg a]
   by_cases b : c' = 0
   ·
    rw [if_pos b, if_pos b]
   ·
    rw [if_neg b, if_neg b, if_neg a]
 ·
  show (if c = 0 then (mn', mx') else if c' = 0 then (mn, mx) else (min mn mn', max mx mx')).2 = Max.max mx mx'
  by_cases a : c = 0
  ·
   rw [if_pos a]
   have := f3 a
   show mx' = _
   omega
  ·
   rw [if_neg a]
   by_cases b : c' = 0
   ·
    rw [if_pos b]
    have := g3 b
    show mx = _
    omega
   ·
    rw [if_neg b]
end
section
set_option maxRecDepth 200000
set_option maxHeartbeats 16000000
open Go.RowKit
theorem new_ok : Sk.new.ok = true := by decide
theorem okN_iff (m : Int) (z : Bool) (x : Int) : okN m z x = true ↔ (0 ≤ x ∧ x ≤ m) ∧ (z = true → x = 0) := by
 unfold okN; cases z <;> simp
theorem merge_comm {s t : Sk} (hs : s.ok = true) (ht : t.ok = true) : s.merge t = t.merge s := by
 obtain ⟨f1, f2, f3⟩ := Sk.ok_facts hs
 obtain ⟨g1, g2, g3⟩ := Sk.ok_facts ht
 refine Sk.eq_of (addN_comm _ _) (addN_comm _ _) ?_ (Int.max_comm _ _) ?_ ?_ ?_
 ·
  show (if t.count = 0 then s.min else if s.count = 0 then t.min else Min.min s.min t.min) = (if s.count = 0 then t.min else if t.count = 0 then s.min else Min.min t.min s.min)
  by_cases a : s.count = 0
  ·
   by_cases b : t.count = 0
   ·
    rw [if_pos a, if_pos b]; have := f3 a; have := g3 b; omega
   ·
    rw [if_neg b, if_pos a, if_pos a]
  ·
   by_cases b : t.count = 0
   ·
    rw [if_pos b, if_neg a, if_pos b]
   ·
    rw [if_neg b, if_neg a, if_neg a, if_neg b]; omega
 ·
  show sumL _ _ = sumL _ _
  unfold sumL; exact List.zipWith_comm_of_comm addN_comm
 ·
  show maxL _ _ = maxL _ _
  unfold maxL; exact List.zipWith_comm_of_comm Int.max_comm
 ·
  show [sumL _ _, sumL _ _] = [sumL _ _, sumL _ _]
  unfold sumL; rw [List.zipWith_comm_of_comm addN_comm, List.zipWith_comm_of_comm (l' := t.rows.getD 1 []) addN_comm]
theorem zip_assoc (f : Int → Int → Int) (hf : ∀ a b c, f (f a b) c = f a (f b c)) : ∀ xs ys zs : List Int, List.zipWith f (List.zipWith f xs ys) zs = List.zipWith f xs (List.zipWith f ys zs)
 | [], _, _ => by simp
 | _ :: _, [], _ => by simp
 | _ :: _, _ :: _, [] => by simp
 | x :: xs, y :: ys, z :: zs => by simp [hf, zip_assoc f hf xs ys zs]
theorem all_sum : ∀ xs ys : List Int, (sumL xs ys).all (okN 1000000000 false) = true
 | [], _ => by simp [sumL]
 | _ :: _, [] => by simp [sumL]
 | x :: xs, y :: ys => by
  have := all_sum xs ys
  have h := addN_range x y
  simp only [sumL] at this
  simp [sumL, this, okN, h]
theorem all_max : ∀ xs ys : List Int, xs.all (okN 17 false) = true → ys.all (okN 17 false) = true → (maxL xs ys).all (okN 17 false) = true
 | [], _, _, _ => by simp [maxL]
 | _ :: _, [], _, _ => by simp [maxL]
 | x :: xs, y :: ys, hx, hy => by
  simp only [List.all_cons, Bool.and_eq_true] at hx hy
  have := all_max xs ys hx.2 hy.2
  have h1 := (okN_iff 17 false x).1 hx.1
  have h2 := (okN_iff 17 false y).1 hy.1
  simp only [maxL] at this
  simp only [maxL, List.zipWith_cons_cons, List.all_cons, Bool.and_eq_true]
  exact ⟨(okN_iff _ _ _).2 ⟨by omega, by simp⟩, this⟩
theorem all_weak {l : List Int} {m : Int} {z : Bool} (h : l.all (okN m z) = true) : l.all (okN m false) = true := by
 rw [List.all_eq_true] at h ⊢
 intro x hx
 exact (okN_iff _ _ _).2 ⟨((okN_iff _ _ _).1 (h x hx)).1, by simp⟩
theorem okL_parts {l : List Int} {n : Nat} {m : Int} {z : Bool} (h : okL l n m z = true) : l.length = n ∧ l.all (okN m z) = true := by
 unfold okL at h; simpa only [Bool.and_eq_true, decide_eq_true_eq] using h
theorem all_zero : ∀ {l : List Int} {m : Int}, l.all (okN m true) = true → l = List.replicate l.length 0
 | [], _, _ => rfl
 | x :: l, m, h => by
  simp only [List.all_cons, Bool.and_eq_true] at h
  have h1 := ((okN_iff _ _ _).1 h.1).2 rfl
  have h2 := all_zero h.2
  rw [h1, List.length_cons, List.replicate_succ, ← h2]
theorem Sk.ok_parts {s : Sk} (h : s.ok = true) : (0 ≤ s.count ∧ s.count ≤ 1000000000) ∧ (0 ≤ s.sum ∧ s.sum ≤ 1000000000) ∧ (0 ≤ s.min ∧ s.min ≤ 1000000) ∧ (0 ≤ s.max ∧ s.max ≤ 1000000) ∧ s.min ≤ s.max ∧ (s.count = 0 → s.sum = 0 ∧ s.max = 0) ∧
 okL s.hist 8 1000000000 (decide (s.count = 0)) = true ∧ okL s.regs 8 17 (decide (s.count = 0)) = true ∧ okL (s.rows.getD 0 []) 4 1000000000 (decide (s.count = 0)) = true ∧ okL (s.rows.getD 1 []) 4 1000000000 (decide (s.count = 0)) = true ∧ s.rows.length = 2 := by
 unfold Sk.ok okHead okZero okLists at h
 simp only [Bool.and_eq_true, decide_eq_true_eq, Bool.or_eq_true, Bool.not_eq_true', decide_eq_false_iff_not] at h
 obtain ⟨⟨⟨⟨⟨⟨⟨h1, h2⟩, h3⟩, h4⟩, h5⟩, h6⟩, h7⟩, ⟨⟨⟨h8, h9⟩, h10⟩, h11⟩⟩ := h
 exact ⟨h1, h2, h3, h4, h5, fun e => by rcases h7 with h7 | h7; exact absurd e h7; exact h7, h8, h9, h10, h11, h6⟩
theorem Sk.ok_of {s : Sk} (h1 : 0 ≤ s.count ∧ s.count ≤ 1000000000) (h2 : 0 ≤ s.sum ∧ s.sum ≤ 1000000000) (h3 : 0 ≤ s.min ∧ s.min ≤ 1000000) (h4 : 0 ≤ s.max ∧ s.max ≤ 1000000) (h5 : s.min ≤ s.max) (h7 : s.count ≠ 0)
 (h8 : s.hist.length = 8 ∧ s.hist.all (okN 1000000000 false) = true) (h9 : s.regs.length = 8 ∧ s.regs.all (okN 17 false) = true) (h10 : (s.rows.getD 0 []).length = 4 ∧ (s.rows.getD 0 []).all (okN 1000000000 false) = true) (h11 : (s.rows.getD 1 []).length = 4 ∧ (s.rows.getD 1 []).all (okN 1000000000 false) = true) (h6 : s.rows.length = 2) : s.ok = true := by
 unfold Sk.ok okHead okZero okLists okL
 rw [dec_false h7, dec_true h1, dec_true h2, dec_true h3, dec_true h4, dec_true h5, dec_true h6, dec_true h8.1, dec_true h9.1, dec_true h10.1, dec_true h11.1, h8.2, h9.2, h10.2, h11.2]
 rfl
theorem ok_zero {s : Sk} (h : s.ok = true) (hc : s.count = 0) : s = Sk.new := by
 obtain ⟨_, _, h3, _, h5, h6, h8, h9, h10, h11, h12⟩ := Sk.ok_parts h
 obtain ⟨e1, e2⟩ := h6 hc
 rw [dec_true hc] at h8 h9 h10 h11
 obtain ⟨l8, z8⟩ := okL_parts h8
 obtain ⟨l9, z9⟩ := okL_parts h9
 obtain ⟨l10, z10⟩ := okL_parts h10
 obtain ⟨l11, z11⟩ := okL_parts h11
 have y8 := all_zero z8; have y9 := all_zero z9; have y10 := all_zero z10; have y11 := all_zero z11
 rw [l8] at y8; rw [l9] at y9; rw [l10] at y10; rw [l11] at y11
 refine Sk.eq_of hc e1 (show s.min = 0 by omega) e2 y8 y9 ?_
 match e : s.rows, h12 with
 | [x, y], _ =>
  rw [e] at y10 y11
  simp at y10 y11
  rw [y10, y11]; rfl
theorem merge_count {s t : Sk} (hs : s.ok = true) (ht : t.ok = true) (h : ¬ (s.count = 0 ∧ t.count = 0)) : addN s.count t.count ≠ 0 := by
 have h1 := (Sk.ok_parts hs).1
 have h2 := (Sk.ok_parts ht).1
 have e1 := clip_id s.count 1000000000 h1.1 h1.2
 have e2 := clip_id t.count 1000000000 h2.1 h2.2
 unfold addN
 rw [e1, e2]
 split <;> omega
theorem merge_new_new : Sk.new.merge Sk.new = Sk.new := by decide
theorem merge_ok {s t : Sk} (hs : s.ok = true) (ht : t.ok = true) : (s.merge t).ok = true := by
 by_cases z : s.count = 0 ∧ t.count = 0
 ·
  rw [ok_zero hs z.1, ok_zero ht z.2, merge_new_new]; exact new_ok
 ·
  have hc := merge_count hs ht z
  obtain ⟨a1, a2, a3, a4, a5, a6, a8, a9, a10, a11, a12⟩ := Sk.ok_parts hs
  obtain ⟨b1, b2, b3, b4, b5, b6, b8, b9, b10, b11, b12⟩ := Sk.ok_parts ht
  obtain ⟨l8, z8⟩ := okL_parts a8; obtain ⟨l9, z9⟩ := okL_parts a9; obtain ⟨l10, z10⟩ := okL_parts a10; obtain ⟨l11, z11⟩ := okL_parts a11
  obtain ⟨m8, y8⟩ := okL_parts b8; obtain ⟨m9, y9⟩ := okL_parts b9; obtain ⟨m10, y10⟩ := okL_parts b10; obtain ⟨m11, y11⟩ := okL_parts b11
  refine Sk.ok_of (addN_range _ _) (addN_range _ _) ?_ ?_ ?_ hc ⟨by show (sumL _ _).length = 8; exact sumL_length _ _ 8 l8 m8, all_sum _ _⟩ ⟨by show (maxL _ _).length = 8; simp [maxL, l9, m9], all_max _ _ (all_weak z9) (all_weak y9)⟩ ⟨by show (sumL _ _).length = 4; exact sumL_length _ _ 4 l10 m10, all_sum _ _⟩ ⟨by show (sumL _ _).length = 4; exact sumL_length _ _ 4 l11 m11, all_sum _ _⟩ rfl
  ·
   show 0 ≤ (if t.count = 0 then s.min else if s.count = 0 then t.min else Min.min s.min t.min) ∧ (if t.count = 0 then s.min else if s.count = 0 then t.min else Min.min s.min t.min) ≤ 1000000
   split
   ·
    omega
   ·
    split <;> omega
  ·
   show 0 ≤ Max.max s.max t.max ∧ Max.max s.max t.max ≤ 1000000
   omega
  ·
   show (if t.count = 0 then s.min else if s.count = 0 then t.min else Min.min s.min t.min) ≤ Max.max s.max t.max
   split
   ·
    omega
   ·
    split <;> omega
theorem merge_zero_right {s : Sk} (hs : s.ok = true) : s.merge Sk.new = s := by
 by_cases z : s.count = 0
 ·
  rw [ok_zero hs z]; exact merge_new_new
 ·
  obtain ⟨a1, a2, a3, a4, a5, a6, a8, a9, a10, a11, a12⟩ := Sk.ok_parts hs
  obtain ⟨h0, h1, h2, h3, h4, h5, h6, h7, r0, r1, r2, r3, r4, r5, r6, r7, p0, p1, p2, p3, q0, q1, q2, q3, e⟩ := Sk.written (Sk.ok_shaped hs)
  have w8 := all_weak (okL_parts a8).2; have w9 := all_weak (okL_parts a9).2; have w10 := all_weak (okL_parts a10).2; have w11 := all_weak (okL_parts a11).2
  have id0 : ∀ x : Int, 0 ≤ x → x ≤ 1000000000 → addN x 0 = x := fun x h1 h2 => by
   have e1 := clip_id x 1000000000 h1 h2
   have e2 := clip_id 0 1000000000 (by omega) (by omega)
   unfold addN; rw [e1, e2]; split <;> omega
  have idL : ∀ l : List Int, l.all (okN 1000000000 false) = true → ∀ n, n = l.length → sumL l (List.replicate n 0) = l := by
   intro l
   induction l with
   | nil => intro _ n hn; subst hn; rfl
   | cons x l ih =>
    intro h n hn
    subst hn
    simp only [List.all_cons, Bool.and_eq_true] at h
    have b := ((okN_iff _ _ _).1 h.1).1
    have := ih h.2 l.length rfl
    simp only [sumL] at this
    simp [sumL, List.replicate_succ, id0 x b.1 b.2, this]
  have idM : ∀ l : List Int, l.all (okN 17 false) = true → ∀ n, n = l.length → maxL l (List.replicate n 0) = l := by
   intro l
   induction l with
   | nil => intro _ n hn; subst hn; rfl
   | cons x l ih =>
    intro h n hn
    subst hn
    simp only [List.all_cons, Bool.and_eq_true] at h
    have b := ((okN_iff _ _ _).1 h.1).1
    have := ih h.2 l.length rfl
    simp only [maxL] at this
    simp [maxL, List.replicate_succ, this]
    omega
  refine Sk.eq_of (id0 _ a1.1 a1.2) (id0 _ a2.1 a2.2) rfl (show Max.max s.max 0 = s.max by omega) (idL s.hist w8 8 (okL_parts a8).1.symm) (idM s.regs w9 8 (okL_parts a9).1.symm) ?_
  show [sumL (s.rows.getD 0 []) [0, 0, 0, 0], sumL (s.rows.getD 1 []) [0, 0, 0, 0]] = s.rows
  have v0 := idL _ w10 4 (okL_parts a10).1.symm
  have v1 := idL _ w11 4 (okL_parts a11).1.symm
  rw [show ([0, 0, 0, 0] : List Int) = List.replicate 4 0 from rfl, v0, v1]
  match e' : s.rows, a12 with
  | [x, y], _ => simp
theorem merge_assoc {s t u : Sk} (hs : s.ok = true) (ht : t.ok = true) (hu : u.ok = true) : (s.merge t).merge u = s.merge (t.merge u) := by
 by_cases zs : s.count = 0
 ·
  rw [ok_zero hs zs, merge_comm new_ok ht, merge_zero_right ht, merge_comm new_ok (merge_ok ht hu), merge_zero_right (merge_ok ht hu)]
 by_cases zt : t.count = 0
 ·
  rw [ok_zero ht zt, merge_zero_right hs, merge_comm new_ok hu, merge_zero_right hu]
 by_cases zu : u.count = 0
 ·
  rw [ok_zero hu zu, merge_zero_right (merge_ok hs ht), merge_zero_right ht]
 have c1 := merge_count hs ht (fun h => zs h.1)
 have c2 := merge_count ht hu (fun h => zt h.1)
 refine Sk.eq_of (addN_assoc _ _ _) (addN_assoc _ _ _) ?_ (Int.max_assoc _ _ _) (zip_assoc _ addN_assoc _ _ _) (zip_assoc _ (fun a b c => Int.max_assoc a b c) _ _ _) ?_
 ·
  show (if u.count = 0 then (if t.count = 0 then s.min else if s.count = 0 then t.min else Min.min s.min t.min) else if addN s.count t.count = 0 then u.min else Min.min (if t.count = 0 then s.min else if s.count = 0 then t.min else Min.min s.min t.min) u.min) = (if addN t.count u.count = 0 then s.min else if s.count = 0 then (if u.count = 0 then t.min else if t.count = 0 then u.min else Min.min t.min u.min) else Min.min s.min (if u.count = 0 then t.min else if t.count = 0 then u.min else Min.min t.min u.min))
  rw [if_neg zu, if_neg c1, if_neg zt, if_neg zs, if_neg c2, if_neg zs, if_neg zu, if_neg zt]
  omega
 ·
  show [sumL (sumL _ _) _, sumL (sumL _ _) _] = [sumL _ (sumL _ _), sumL _ (sumL _ _)]
  unfold sumL
  rw [zip_assoc _ addN_assoc, zip_assoc _ addN_assoc]
end
section
open Go.RowKit
theorem join_length (ps qs : Sp) : (ps.join qs).length ≤ ps.length + qs.length := by
 unfold Sp.join
 split
 ·
  exact joinTo_length _ (Nat.le_refl _)
 ·
  simp
end
section
open Go.RowKit
theorem addOk_parts {x y : En} (h : x.addOk y = true) : x.ok = true ∧ y.ok = true ∧ x.key = y.key ∧ x.window = y.window ∧ x.ids.apart y.ids = true := by
 unfold En.addOk at h
 simp only [Bool.and_eq_true, decide_eq_true_eq] at h
 exact ⟨h.1.1.1.1, h.1.1.1.2, h.1.1.2, h.1.2, h.2⟩
theorem En.ok_place {x : En} (h : x.ok = true) : placeOk x.key x.window = true := by
 unfold En.ok at h
 simp only [Bool.and_eq_true] at h
 exact h.1.1.1
theorem En.add_ids {x y : En} (hx : x.ok = true) (hy : y.ok = true) : (x.add y).ids = x.ids.join y.ids := by
 rw [Sp.join_yes (En.ok_ids hx).1 (En.ok_ids hy).1]
 rfl
theorem some_in {a : Sp} (h : a.ok = true) (hp : 0 < a.length) : ∃ n, a.has n = true := by
 match a, hp with
 | p :: ps, _ =>
  have := ok_iff.1 h
  exact ⟨p.1, by simp [Sp.has, this.1.2.1]⟩
theorem has_pos {a : Sp} {n : Int} (h : a.has n = true) : 0 < a.length := by
 match a, h with
 | p :: ps, _ => simp
theorem addR_ok {x y : En} (h : x.addOk y = true) : (x.addR y).ok = true := by
 obtain ⟨h1, h2, _, _, _⟩ := addOk_parts h
 have i1 := En.ok_ids h1
 have i2 := En.ok_ids h2
 obtain ⟨j1, j2⟩ := join_right i1.1 i2.1
 obtain ⟨n, hn⟩ := some_in i1.1 i1.2
 have hp : 0 < (x.ids.join y.ids).length := has_pos (n := n) (by rw [j2, hn]; rfl)
 rw [En.addR_yes h]
 unfold En.ok
 rw [En.add_ids h1 h2, j1]
 show (placeOk x.key x.window && decide (0 < (x.ids.join y.ids).length) && true && (x.sk.merge y.sk).ok) = true
 rw [En.ok_place h1, merge_ok (En.ok_sk h1) (En.ok_sk h2), decide_eq_true hp]
 rfl
theorem apart_not {a b : Sp} {n : Int} (h1 : a.has n = true) (h2 : b.has n = true) : a.apart b = false := by
 cases e : a.apart b
 ·
  rfl
 ·
  rw [apart_eq] at e
  simp only [Bool.and_eq_true] at e
  have := (noMeet_iff (ok_iff.1 e.1.1) (ok_iff.1 e.1.2)).1 e.2 n
  rw [h1, h2] at this
  cases this
theorem cnt_le (f : Int → Bool) : ∀ N : Nat, cnt f N ≤ N
 | 0 => Int.le_refl _
 | k + 1 => by have := cnt_le f k; rw [cnt]; split <;> omega
theorem size_range {ps : Sp} : 0 ≤ ps.size ∧ ps.size ≤ 10000 := by
 unfold Sp.size
 split
 ·
  rename_i h
  have e := size_cnt h
  unfold Sp.size at e
  rw [if_pos h] at e
  rw [e]
  exact ⟨cnt_nonneg _ _, cnt_le _ _⟩
 ·
  omega
end
section
open Go.RowKit
theorem hitAt_lt {xs : List En} {e : En} {k : Nat} (h : hitAt xs e = some k) : ∃ y, xs[k]? = some y ∧ samePlace y e = true ∧ ∀ z ∈ xs.take k, samePlace z e = false := by
 unfold hitAt at h
 rw [List.findIdx?_eq_some_iff_getElem] at h
 obtain ⟨hk, h1, h2⟩ := h
 refine ⟨xs[k], List.getElem?_eq_getElem hk, h1, fun z hz => ?_⟩
 obtain ⟨j, hj, e⟩ := List.mem_iff_getElem.1 hz
 rw [List.length_take] at hj
 rw [List.getElem_take] at e
 have := h2 j (by omega)
 rw [e] at this
 simpa using this
theorem hitAt_no {xs : List En} {e : En} (h : hitAt xs e = none) : ∀ z ∈ xs, samePlace z e = false := by
 unfold hitAt at h
 rw [List.findIdx?_eq_none_iff] at h
 exact h
def pushL (xs : List En) (e : En) (join : Bool) : List En := match (if join then hitAt xs e else none) with
 | some k => xs.set k ((xs.getD k En.zero).addR e)
 | none => xs ++ [e]
def Rw.push (x : Rw) (e : En) (join : Bool) : Rw × Bool := if (Rw.mk (pushL x.list e join)).ok = true then (⟨pushL x.list e join⟩, true) else (x, false)
theorem pushL_hit {xs : List En} {e : En} {k : Nat} {y : En} (h : hitAt xs e = some k) (hy : xs[k]? = some y) : pushL xs e true = xs.set k (y.addR e) := by
 unfold pushL; rw [if_pos rfl, h]; show xs.set k ((xs.getD k En.zero).addR e) = _; rw [List.getD_eq_getElem?_getD, hy]; rfl
theorem pushL_none {xs : List En} {e : En} {join : Bool} (h : join = false ∨ hitAt xs e = none) : pushL xs e join = xs ++ [e] := by
 unfold pushL
 rcases h with rfl | h
 ·
  rfl
 ·
  rw [h]; cases join <;> rfl
theorem sk_ok_size {s : Sk} (h : s.ok = true) : s.size = 26 := by
 obtain ⟨h1, h2, x, y, h3, h4, h5⟩ := Sk.shaped_parts (Sk.ok_shaped h)
 unfold Sk.size
 rw [h1, h2, h3]
 simp [sumLen, h4, h5]
theorem En.addR_wt {x y : En} : (x.addR y).wt ≤ x.wt + y.wt := by
 cases h : x.addOk y
 ·
  rw [En.addR_not h]
  have h1 := En.wt_nonneg x
  have h2 := En.wt_nonneg y
  have : En.zero.wt = 0 := by decide
  omega
 ·
  obtain ⟨h1, h2, _, _, _⟩ := addOk_parts h
  rw [En.addR_yes h]
  unfold En.wt
  have e1 : (x.add y).sk = x.sk.merge y.sk := rfl
  rw [e1, sk_ok_size (merge_ok (En.ok_sk h1) (En.ok_sk h2)), sk_ok_size (En.ok_sk h1), sk_ok_size (En.ok_sk h2), En.add_ids h1 h2, Sp.join_yes (En.ok_ids h1).1 (En.ok_ids h2).1]
  have := joinTo_length (ps := x.ids) (qs := y.ids) y.ids.length (Nat.le_refl _)
  omega
theorem ensSize_set : ∀ {xs : List En} {k : Nat} {y z : En}, xs[k]? = some y → ensSize (xs.set k z) = ensSize xs - y.wt + z.wt
 | [], k, y, z, h => by simp at h
 | x :: xs, 0, y, z, h => by
  obtain rfl : x = y := by simpa using h
  simp only [List.set_cons_zero, ensSize, sumOfL]; omega
 | x :: xs, k + 1, y, z, h => by
  have := ensSize_set (xs := xs) (k := k) (y := y) (z := z) (by simpa using h)
  unfold ensSize at this ⊢
  simp only [List.set_cons_succ, sumOfL, this]; omega
theorem ensSize_snoc (xs : List En) (e : En) : ensSize (xs ++ [e]) = ensSize xs + e.wt := by unfold ensSize; rw [sumOfL_split]; simp [sumOfL]
theorem pushL_size (xs : List En) (e : En) (join : Bool) : ensSize (pushL xs e join) ≤ ensSize xs + e.wt ∧ (pushL xs e join).length ≤ xs.length + 1 ∧ 0 < (pushL xs e join).length := by
 by_cases h : join = false ∨ hitAt xs e = none
 ·
  rw [pushL_none h, ensSize_snoc]; simp
 ·
  obtain ⟨k, hk⟩ : ∃ k, hitAt xs e = some k := by cases hh : hitAt xs e; exact absurd (.inr hh) h; exact ⟨_, rfl⟩
  have hj : join = true := by cases join; exact absurd (.inl rfl) h; rfl
  subst hj
  obtain ⟨y, hy, _⟩ := hitAt_lt hk
  rw [pushL_hit hk hy, ensSize_set hy]
  have := En.addR_wt (x := y) (y := e)
  have hl := (List.getElem?_eq_some_iff.1 hy).1
  rw [List.length_set]
  exact ⟨by omega, by omega, by omega⟩
theorem mem_wt {xs : List En} {y : En} (h : y ∈ xs) (hs : ensSize xs ≤ 1048576) : y.fits := En.fits_wt (by have := ensSize_mem h; omega)
def Good (xs : List En) : Prop := (∀ (i : Nat) (y : En), xs[i]? = some y → y.ok = true) ∧ ∀ (i j : Nat) (y z : En), i < j → xs[i]? = some y → xs[j]? = some z → ∀ n, (y.ids.has n && z.ids.has n) = false
theorem good_fine {xs : List En} : fineTo xs xs.length = true ↔ Good xs := by
 constructor
 ·
  intro h
  have hok : ∀ (i : Nat) (y : En), xs[i]? = some y → y.ok = true := fun i y hy => (fineTo_at h (List.getElem?_eq_some_iff.1 hy).1 hy).1
  refine ⟨hok, fun i j y z hij hy hz n => ?_⟩
  have h2 := (fineTo_at h (List.getElem?_eq_some_iff.1 hz).1 hz).2
  have hm : y ∈ xs.take j := List.mem_of_getElem? (by rw [List.getElem?_take_of_lt hij]; exact hy)
  have := (apart_iff (En.ok_ids (hok j z hz)).1 (En.ok_ids (hok i y hy)).1).1 (List.all_eq_true.1 h2 y hm) n
  rw [Bool.and_comm]; exact this
 ·
  intro h
  have : ∀ k, k ≤ xs.length → fineTo xs k = true := by
   intro k
   induction k with
   | zero => intro _; rfl
   | succ k ih =>
    intro hk
    have hx : xs[k]? = some (xs[k]'(by omega)) := List.getElem?_eq_getElem _
    generalize xs[k]'(by omega) = x at hx
    rw [fineTo_succ hx, ih (by omega), h.1 k x hx]
    simp only [Bool.true_and]
    rw [List.all_eq_true]
    intro y hy
    obtain ⟨i, hi, e⟩ := List.mem_iff_getElem.1 hy
    rw [List.length_take] at hi
    have hy2 : xs[i]? = some y := by rw [List.getElem_take] at e; rw [← e]; exact List.getElem?_eq_getElem _
    rw [apart_iff (En.ok_ids (h.1 k x hx)).1 (En.ok_ids (h.1 i y hy2)).1]
    intro n
    rw [Bool.and_comm]
    exact h.2 i k y x (by omega) hy2 hx n
  exact this _ (Nat.le_refl _)
theorem rw_ok_iff {x : Rw} : x.ok = true ↔ x.list.length ≤ 24 ∧ Good x.list := by
 rw [← good_fine]
 exact ⟨Rw.ok_parts, fun h => Rw.ok_yes h.1 h.2⟩
def apartAll (xs : List En) (s : Sp) : Bool := xs.all fun y => y.ids.apart s
theorem good_snoc {xs : List En} {e : En} : Good (xs ++ [e]) ↔ Good xs ∧ e.ok = true ∧ apartAll xs e.ids = true := by
 have g1 : ∀ i, i < xs.length → (xs ++ [e])[i]? = xs[i]? := fun i hi => List.getElem?_append_left hi
 have g2 : (xs ++ [e])[xs.length]? = some e := by rw [List.getElem?_append_right (Nat.le_refl _)]; simp
 constructor
 ·
  intro h
  have hG : Good xs := ⟨fun i y hy => h.1 i y (by rw [g1 i (List.getElem?_eq_some_iff.1 hy).1]; exact hy), fun i j y z hij hy hz n => h.2 i j y z hij (by rw [g1 i (List.getElem?_eq_some_iff.1 hy).1]; exact hy) (by rw [g1 j (List.getElem?_eq_some_iff.1 hz).1]; exact hz) n⟩
  have he := h.1 _ e g2
  refine ⟨hG, he, ?_⟩
  unfold apartAll
  rw [List.all_eq_true]
  intro y hy
  obtain ⟨i, hi, e1⟩ := List.mem_iff_getElem.1 hy
  have hy2 : xs[i]? = some y := by rw [← e1]; exact List.getElem?_eq_getElem _
  rw [apart_iff (En.ok_ids (hG.1 i y hy2)).1 (En.ok_ids he).1]
  exact h.2 i xs.length y e hi (by rw [g1 i hi]; exact hy2) g2
 ·
  rintro ⟨hG, he, ha⟩
  unfold apartAll at ha
  rw [List.all_eq_true] at ha
  have hcase : ∀ (i : Nat) (y : En), (xs ++ [e])[i]? = some y → (i < xs.length ∧ xs[i]? = some y) ∨ (i = xs.length ∧ y = e) := fun i y hy => by
   have hi := (List.getElem?_eq_some_iff.1 hy).1
   rw [List.length_append] at hi
   simp at hi
   by_cases h : i < xs.length
   ·
    exact .inl ⟨h, by rw [← g1 i h]; exact hy⟩
   ·
    obtain rfl : i = xs.length := by omega
    rw [g2] at hy
    exact .inr ⟨rfl, by cases hy; rfl⟩
  refine ⟨fun i y hy => ?_, fun i j y z hij hy hz n => ?_⟩
  ·
   rcases hcase i y hy with ⟨_, h⟩ | ⟨_, rfl⟩
   ·
    exact hG.1 i y h
   ·
    exact he
  ·
   rcases hcase i y hy with ⟨h1, h2⟩ | ⟨h1, _⟩
   ·
    rcases hcase j z hz with ⟨h3, h4⟩ | ⟨h3, rfl⟩
    ·
     exact hG.2 i j y z hij h2 h4 n
    ·
     exact (apart_iff (En.ok_ids (hG.1 i y h2)).1 (En.ok_ids he).1).1 (ha y (List.mem_of_getElem? h2)) n
   ·
    have := (List.getElem?_eq_some_iff.1 hz).1
    rw [List.length_append] at this
    simp at this
    omega
theorem has_addR {x y : En} (h : x.addOk y = true) (n : Int) : (x.addR y).ids.has n = (x.ids.has n || y.ids.has n) := by
 obtain ⟨h1, h2, _, _, _⟩ := addOk_parts h
 rw [En.addR_yes h, En.add_ids h1 h2]
 exact (join_right (En.ok_ids h1).1 (En.ok_ids h2).1).2 n
theorem zero_not_ok : En.zero.ok = false := by decide
theorem samePlace_iff {x e : En} : samePlace x e = true ↔ x.key = e.key ∧ x.window = e.window := by unfold samePlace; simp
theorem addOk_of {x e : En} (h1 : x.ok = true) (h2 : e.ok = true) (h3 : samePlace x e = true) (h4 : x.ids.apart e.ids = true) : x.addOk e = true := by
 unfold En.addOk
 obtain ⟨a, b⟩ := samePlace_iff.1 h3
 rw [h1, h2, h4, decide_eq_true a, decide_eq_true b]; rfl
theorem good_set {xs : List En} {e y : En} {k : Nat} (hy : xs[k]? = some y) (hp : samePlace y e = true) : Good (xs.set k (y.addR e)) ↔ Good xs ∧ e.ok = true ∧ apartAll xs e.ids = true := by
 have hk := (List.getElem?_eq_some_iff.1 hy).1
 have gk : (xs.set k (y.addR e))[k]? = some (y.addR e) := by rw [List.getElem?_set_self hk]
 have gn : ∀ i, i ≠ k → (xs.set k (y.addR e))[i]? = xs[i]? := fun i hi => List.getElem?_set_ne (fun h => hi h.symm)
 constructor
 ·
  intro h
  have ha : y.addOk e = true := by
   cases hh : y.addOk e
   ·
    have := h.1 k _ gk
    rw [En.addR_not hh, zero_not_ok] at this
    cases this
   ·
    rfl
  obtain ⟨h1, h2, _, _, h5⟩ := addOk_parts ha
  have hok : ∀ (i : Nat) (z : En), xs[i]? = some z → z.ok = true := fun i z hz => by
   by_cases e1 : i = k
   ·
    subst e1; rw [hy] at hz; cases hz; exact h1
   ·
    exact h.1 i z (by rw [gn i e1]; exact hz)
  have hdis : ∀ (i : Nat) (z : En), i ≠ k → xs[i]? = some z → ∀ n, (z.ids.has n && (y.addR e).ids.has n) = false := fun i z hi hz n => by
   rcases Nat.lt_or_gt_of_ne hi with q | q
   ·
    exact h.2 i k z _ q (by rw [gn i hi]; exact hz) gk n
   ·
    rw [Bool.and_comm]
    exact h.2 k i _ z q gk (by rw [gn i hi]; exact hz) n
  have hdy : ∀ (i : Nat) (z : En), i ≠ k → xs[i]? = some z → ∀ n, (z.ids.has n && y.ids.has n) = false ∧ (z.ids.has n && e.ids.has n) = false := fun i z hi hz n => by
   have := hdis i z hi hz n
   rw [has_addR ha] at this
   cases h1 : z.ids.has n <;> simp_all
  refine ⟨⟨hok, fun i j u z hij hu hz n => ?_⟩, h2, ?_⟩
  ·
   by_cases e1 : i = k
   ·
    subst e1
    rw [hy] at hu; cases hu
    rw [Bool.and_comm]
    exact (hdy j z (by omega) hz n).1
   ·
    by_cases e2 : j = k
    ·
     subst e2
     rw [hy] at hz; cases hz
     exact (hdy i u e1 hu n).1
    ·
     exact h.2 i j u z hij (by rw [gn i e1]; exact hu) (by rw [gn j e2]; exact hz) n
  ·
   unfold apartAll
   rw [List.all_eq_true]
   intro z hz
   obtain ⟨i, hi, e1⟩ := List.mem_iff_getElem.1 hz
   have hz2 : xs[i]? = some z := by rw [← e1]; exact List.getElem?_eq_getElem _
   by_cases e2 : i = k
   ·
    subst e2; rw [hy] at hz2; cases hz2; exact h5
   ·
    rw [apart_iff (En.ok_ids (hok i z hz2)).1 (En.ok_ids h2).1]
    exact fun n => (hdy i z e2 hz2 n).2
 ·
  rintro ⟨hG, he, hap⟩
  unfold apartAll at hap
  rw [List.all_eq_true] at hap
  have ha := addOk_of (hG.1 k y hy) he hp (hap y (List.mem_of_getElem? hy))
  have hdy : ∀ (i : Nat) (z : En), i ≠ k → xs[i]? = some z → ∀ n, (z.ids.has n && (y.addR e).ids.has n) = false := fun i z hi hz n => by
   rw [has_addR ha]
   have q2 := (apart_iff (En.ok_ids (hG.1 i z hz)).1 (En.ok_ids he).1).1 (hap z (List.mem_of_getElem? hz)) n
   have q1 : (z.ids.has n && y.ids.has n) = false := by
    rcases Nat.lt_or_gt_of_ne hi with h | h
    ·
     exact hG.2 i k z y h hz hy n
    ·
     rw [Bool.and_comm]; exact hG.2 k i y z h hy hz n
   cases h1 : z.ids.has n <;> simp_all
  refine ⟨fun i z hz => ?_, fun i j u z hij hu hz n => ?_⟩
  ·
   by_cases e1 : i = k
   ·
    subst e1; rw [gk] at hz; cases hz; exact addR_ok ha
   ·
    exact hG.1 i z (by rw [← gn i e1]; exact hz)
  ·
   by_cases e1 : i = k
   ·
    subst e1
    rw [gk] at hu; cases hu
    rw [Bool.and_comm]
    exact hdy j z (by omega) (by rw [← gn j (by omega)]; exact hz) n
   ·
    by_cases e2 : j = k
    ·
     subst e2
     rw [gk] at hz; cases hz
     exact hdy i u e1 (by rw [← gn i e1]; exact hu) n
    ·
     exact hG.2 i j u z hij (by rw [← gn i e1]; exact hu) (by rw [← gn j e2]; exact hz) n
def Rw.takes (x : Rw) (e : En) : Bool := x.ok && e.ok && apartAll x.list e.ids
theorem push_ok {x : Rw} {e : En} {join : Bool} : (Rw.mk (pushL x.list e join)).ok = true ↔ (x.takes e = true ∧ (pushL x.list e join).length ≤ 24) := by
 rw [rw_ok_iff]
 unfold Rw.takes
 simp only [Bool.and_eq_true, rw_ok_iff]
 by_cases h : join = false ∨ hitAt x.list e = none
 ·
  rw [pushL_none h]
  show (x.list ++ [e]).length ≤ 24 ∧ Good (x.list ++ [e]) ↔ _
  rw [good_snoc, List.length_append]
  simp only [List.length_singleton]
  constructor
  ·
   rintro ⟨a, b, c, d⟩; exact ⟨⟨⟨⟨by omega, b⟩, c⟩, d⟩, a⟩
  ·
   rintro ⟨⟨⟨⟨_, b⟩, c⟩, d⟩, a⟩; exact ⟨a, b, c, d⟩
 ·
  obtain ⟨k, hk⟩ : ∃ k, hitAt x.list e = some k := by cases hh : hitAt x.list e; exact absurd (.inr hh) h; exact ⟨_, rfl⟩
  have hj : join = true := by cases join; exact absurd (.inl rfl) h; rfl
  subst hj
  obtain ⟨y, hy, hp, _⟩ := hitAt_lt hk
  rw [pushL_hit hk hy]
  show (x.list.set k (y.addR e)).length ≤ 24 ∧ Good (x.list.set k (y.addR e)) ↔ _
  rw [good_set hy hp, List.length_set]
  constructor
  ·
   rintro ⟨a, b, c, d⟩; exact ⟨⟨⟨⟨a, b⟩, c⟩, d⟩, a⟩
  ·
   rintro ⟨⟨⟨⟨_, b⟩, c⟩, d⟩, a⟩; exact ⟨a, b, c, d⟩
theorem Rw.push_not {x : Rw} {e : En} {join : Bool} (h : x.takes e = false) : x.push e join = (x, false) := by
 unfold Rw.push; rw [if_neg]; rw [push_ok, h]; simp
theorem Rw.push_hit {x : Rw} {e y : En} {k : Nat} (h : x.takes e = true) (hk : hitAt x.list e = some k) (hy : x.list[k]? = some y) : x.push e true = (⟨x.list.set k (y.add e)⟩, true) ∧ y.ok = true ∧ e.ok = true := by
 have h' := h
 unfold Rw.takes at h'
 simp only [Bool.and_eq_true] at h'
 obtain ⟨⟨hx, he⟩, hap⟩ := h'
 obtain ⟨hx1, hx2⟩ := rw_ok_iff.1 hx
 obtain ⟨y', hy', hp, _⟩ := hitAt_lt hk
 rw [hy] at hy'; cases hy'
 unfold apartAll at hap
 rw [List.all_eq_true] at hap
 have ha := addOk_of (hx2.1 k y hy) he hp (hap y (List.mem_of_getElem? hy))
 refine ⟨?_, hx2.1 k y hy, he⟩
 unfold Rw.push
 rw [if_pos (push_ok.2 ⟨h, by rw [pushL_hit hk hy, List.length_set]; exact hx1⟩), pushL_hit hk hy, En.addR_yes ha]
theorem Rw.push_full {x : Rw} {e : En} {join : Bool} (hn : join = false ∨ hitAt x.list e = none) (hl : x.list.length = 24) : x.push e join = (x, false) := by
 unfold Rw.push
 rw [if_neg]
 rw [push_ok, pushL_none hn]
 simp [hl]
theorem Rw.push_last {x : Rw} {e : En} {join : Bool} (h : x.takes e = true) (hn : join = false ∨ hitAt x.list e = none) (hl : x.list.length ≠ 24) : x.push e join = (⟨x.list ++ [e]⟩, true) := by
 have h' := h
 unfold Rw.takes at h'
 simp only [Bool.and_eq_true] at h'
 have hx1 := (rw_ok_iff.1 h'.1.1).1
 unfold Rw.push
 rw [if_pos (push_ok.2 ⟨h, by rw [pushL_none hn]; simp; omega⟩), pushL_none hn]
end
section
open Go.RowKit
structure PuR (w : World) (A : Array Value) (es : Array Value) (tR tE : TypeId) (W : World) : Prop where
 box : Blk W w.heap.size A tR
 en : Blk W (w.heap.size + 1) es tE
 res : Blk W (w.heap.size + 1 + 1) #[.slice none 0 0] tR
 bel : Below w.heap.size w W
theorem PuR.below {w W W' : World} {A es : Array Value} {tR tE : TypeId} (h : PuR w A es tR tE W) (b : Below W.heap.size W W') : PuR w A es tR tE W' := ⟨h.box.below b, h.en.below b, h.res.below b, Below.next h.bel b⟩
theorem PuR.made (w : World) (A es : Array Value) (tR tE : TypeId) : PuR w A es tR tE (((w.alloc (.cells A tR)).alloc (.cells es tE)).alloc (.cells #[.slice none 0 0] tR)) :=
 ⟨((Blk.made _ _ _).alloc _).alloc _, (Blk.made_eq (by simp)).alloc _, Blk.made_eq (by simp), Below.allocW _ (Below.allocW _ (Below.allocW _ (Below.refl _ _) (Nat.le_refl _)) (by simp)) (by simp <;> omega)⟩
theorem PuR.size {w W : World} {A es : Array Value} {tR tE : TypeId} (h : PuR w A es tR tE W) : w.heap.size + 3 ≤ W.heap.size := h.res.lt
def NewRw2 (w : World) (z : Rw × Bool) (e : Ending) (w' : World) : Prop := ∃ v F, e = .returned (.tuple #[v, .bool z.2]) ∧ RdRw w' v z.1 F ∧ Own w.heap.size w' F ∧ Below w.heap.size w w'
theorem push_sizes {x : Rw} {e : En} (join : Bool) (hs : x.size + e.wt ≤ 1048576) : x.fits ∧ e.fits ∧ (∀ y ∈ pushL x.list e join, y.fits) ∧ (pushL x.list e join).length ≤ 1048577 ∧ ensSize (pushL x.list e join) ≤ 1048576 ∧ 0 < (pushL x.list e join).length := by
 have h1 := En.wt_nonneg e
 have h2 := ensSize_nonneg x.list
 obtain ⟨p1, p2, p3⟩ := pushL_size x.list e join
 have hs' := hs
 unfold Rw.size at hs'
 have h3 : ensSize (pushL x.list e join) ≤ 1048576 := by omega
 exact ⟨by show x.size ≤ _; omega, En.fits_wt (by omega), fun y hy => mem_wt hy h3, by omega, h3, p3⟩
end
section
set_option maxRecDepth 200000
set_option maxHeartbeats 16000000
open Go.RowKit
theorem rowOkSpec_any (v : Value) (x : Rw) (F : List Nat) (w : World) (h : RdRw w v x F) (hw : x.wide) :
 Calls Tryz.prog 31 #[v] w fun e w' => e = .returned (.bool x.ok) ∧ Below w.heap.size w w' := by
 obtain ⟨a, n, c, rfl, hL, hcp⟩ := h
 have HL : Hid (RdL enK w a n x.list F ∧ x.list.length = n ∧ ∀ y ∈ x.list, y.wide) := ⟨hL, hL.length, hw.1⟩
 have hn : n ≤ 1048576 := by rw [← hL.length]; exact hw.2
 have HB : Hid (Below w.heap.size w (w.alloc (.cells #[.slice a n c] 26)) ∧ Blk (w.alloc (.cells #[.slice a n c] 26)) w.heap.size #[.slice a n c] 26) := ⟨Below.allocW _ (Below.refl _ _) (Nat.le_refl _), Blk.made _ _ _⟩
 clear hL hw hcp
 by_cases hbig : 24 < n
 ·
  have hI : (24 : Int) < (n : Int) := by omega
  have HV : Hid (x.ok = false) := Rw.ok_long (by rw [HL.out.2.1]; exact hbig)
  go_enter Tryz.func31, Tryz.ntmps31
  go_wp2
  go_ret
  exact ⟨ret_bool HV.out.symm, HB.out.1⟩
 have hI24 : ¬ (24 : Int) < (n : Int) := by omega
 go_enter Tryz.func31, Tryz.ntmps31
 go_wp2
 go_loopw [3] (fun i wr => ∃ k : Nat, k ≤ n ∧ i = .int .i64 k ∧ Hid (fineTo x.list k = true) ∧ Hid (Below w.heap.size w wr ∧ Blk wr w.heap.size #[.slice a n c] 26)) (fun i _ => n - (intOf i).toNat)
 case atStart => exact ⟨0, by omega, rfl, rfl, HB⟩
 case round =>
  clear HB
  obtain ⟨k, hk, rfl, HT, HW⟩ := hrel
  have c0 := HW.out.2.cell 0
  simp only [aT, aZ] at c0
  by_cases hlt : k < n
  ·
   have hI : (k : Int) < (n : Int) := by omega
   obtain ⟨b, off, y, p, l, g, cs, Fi, G, rfl, hbw, hy, hs, hcc, hr, h0, h1, h2, hp, hcp⟩ := ens_in HL.out.1 hlt
   have HX : Hid (x.list[k]? = some y ∧ cs.size = 10 ∧ RdE wr (.agg cs) y Fi ∧ y.wide) := ⟨hy, hs, hr.below HW.out.1, wide_at HL.out.2.2 hy⟩
   have HCC : Hid ((∀ W, Below w.heap.size w W → ∀ j, j < 10 → W.cell? ⟨b, off + k * 10 + j, none⟩ = cs[j]?) ∧ cs[2]? = some (.slice p l g) ∧ RdP w p l y.ids G) := ⟨hcc, h2, hp⟩
   clear hy hs hcc hr h0 h1 h2 hp hcp
   go_wp2_with (first | go_skip | (with_reducible refine stopLoad 33 rfl ?_))
   refine load_at 33 b (off + k * 10) 10 cs _ (HCC.out.1 _ HW.out.1) HX.out.2.1 rfl rfl rfl Tryz.underlying33 rfl infoEnS2 ?_
   go_wp2_with fail
   refine (entryOkE_any _ y Fi _ HX.out.2.2.1 HX.out.2.2.2).mono ?_
   rintro e w2 ⟨rfl, hb2⟩
   have HW2 : Hid (Below w.heap.size w w2 ∧ Blk w2 w.heap.size #[.slice (some ⟨b, off, none⟩) n c] 26) := ⟨Below.next HW.out.1 hb2, HW.out.2.below hb2⟩
   obtain ⟨d, hd⟩ : ∃ d, d = y.ok := ⟨_, rfl⟩
   rw [← hd]
   have HD : Hid (d = y.ok) := hd
   clear hd hb2 c0 HW
   cases d
   ·
    have HV : Hid (x.ok = false) := Rw.ok_not (i := k + 1) (by rw [HL.out.2.1]; omega) (by rw [fineTo_succ HX.out.1, ← HD.out]; simp)
    go_wp2
    go_ret
    exact ⟨ret_bool HV.out.symm, HW2.out.1⟩
   go_wp2
   go_loopw [4] (fun i ws => ∃ j : Nat, j ≤ k ∧ i = .int .i64 j ∧ Hid ((x.list.take j).all (fun z => y.ids.apart z.ids) = true) ∧ Hid (Below w.heap.size w ws ∧ Blk ws w.heap.size #[.slice (some ⟨b, off, none⟩) n c] 26)) (fun i _ => k - (intOf i).toNat)
   case atStart => exact ⟨0, by omega, rfl, (show _ = _ by simp), HW2⟩
   case round =>
    clear HW2
    obtain ⟨j, hj, rfl, HA, HW⟩ := hrel
    by_cases hlt2 : j < k
    ·
     have hJ : (j : Int) < (k : Int) := by omega
     have hJn : (j : Int) < (n : Int) := by omega
     obtain ⟨b', off', z, q, m, g', ds, Fj, G', ha', hbw', hz, hs', hcc', hr', h0', h1', h2', hp', hcp'⟩ := ens_in HL.out.1 (show j < n by omega)
     injection ha' with ha'
     injection ha' with e1 e2
     subst e1 e2
     have HZ : Hid (x.list[j]? = some z ∧ z.wide) := ⟨hz, wide_at HL.out.2.2 hz⟩
     have HCD : Hid ((∀ W, Below w.heap.size w W → ∀ t, t < 10 → W.cell? ⟨b, off + j * 10 + t, none⟩ = ds[t]?) ∧ ds[2]? = some (.slice q m g') ∧ RdP w q m z.ids G') := ⟨hcc', h2', hp'⟩
     have hl : l ≤ 1048576 := by rw [← HCC.out.2.2.length]; exact HX.out.2.2.2.2
     have hm : m ≤ 1048576 := by rw [← hp'.length]; exact HZ.out.2.2
     clear hz hs' hcc' hr' h0' h1' h2' hp' hcp'
     go_wp2_with fail
     have HTd : Hid (Below w.heap.size w wr.drew ∧ Blk wr.drew w.heap.size #[.slice (some ⟨b, off, none⟩) n c] 26) := ⟨Below.drew HW.out.1, HW.out.2.below ((Below.refl _ _).drew)⟩
     obtain ⟨Y, hY⟩ : ∃ Y, Y = wr.drew := ⟨_, rfl⟩
     rw [← hY] at HTd
     have HS : Hid (∀ W, Below w.heap.size w W → Blk W w.heap.size #[.slice (some ⟨b, off, none⟩) n c] 26 → (Blk W w.heap.size #[.slice (some ⟨b, off, none⟩) n c] 26 ∧ W.cell? ⟨b, off + k * 10 + 2, none⟩ = some (.slice p l g) ∧ W.cell? ⟨b, off + j * 10 + 2, none⟩ = some (.slice q m g'))) := fun W hB hK => ⟨hK, (HCC.out.1 W hB 2 (by decide)).trans HCC.out.2.1, (HCD.out.1 W hB 2 (by decide)).trans HCD.out.2.1⟩
     refine wp_region_held (S := fun W => Blk W w.heap.size #[.slice (some ⟨b, off, none⟩) n c] 26 ∧ W.cell? ⟨b, off + k * 10 + 2, none⟩ = some (.slice p l g) ∧ W.cell? ⟨b, off + j * 10 + 2, none⟩ = some (.slice q m g')) (by kernel_rfl) ?_
     change wpAnyH _ _ _ _ _ _ _ _ (World.drew _)
     rw [← hY]
     clear hY
     refine tm 0 (.pointer (some ⟨w.heap.size, 0, none⟩)) (H := ⟨(HS.out _ HTd.out.1 HTd.out.2), ?_⟩)
     refine tk 1 (.slice (some ⟨b, off, none⟩) n c) (H := ⟨(.inl ⟨rfl, fun W hW => by have c := hW.1.cell 0; simp only [aT, aZ] at c; go_simp⟩), (HS.out _ HTd.out.1 HTd.out.2), ?_⟩)
     refine tm 2 (.int .i64 k) (H := ⟨(HS.out _ HTd.out.1 HTd.out.2), ?_⟩)
     refine tk 3 (.pointer (some ⟨b, off + k * 10, none⟩)) (H := ⟨(.inl ⟨rfl, fun W _ => by go_simp; first | done | (intro h; omega) | (rw [if_pos (by omega)]; rfl)⟩), (HS.out _ HTd.out.1 HTd.out.2), ?_⟩)
     refine tm 4 (.pointer (some ⟨b, off + k * 10 + 2, none⟩)) (H := ⟨(HS.out _ HTd.out.1 HTd.out.2), ?_⟩)
     refine tk 5 (.slice p l g) (H := ⟨(.inl ⟨rfl, fun W hW => by have c := hW.2.1; go_simp⟩), (HS.out _ HTd.out.1 HTd.out.2), ?_⟩)
     refine tm 6 (.pointer (some ⟨w.heap.size, 0, none⟩)) (H := ⟨(HS.out _ HTd.out.1 HTd.out.2), ?_⟩)
     refine tk 7 (.slice (some ⟨b, off, none⟩) n c) (H := ⟨(.inl ⟨rfl, fun W hW => by have c := hW.1.cell 0; simp only [aT, aZ] at c; go_simp⟩), (HS.out _ HTd.out.1 HTd.out.2), ?_⟩)
     refine tm 8 (.int .i64 j) (H := ⟨(HS.out _ HTd.out.1 HTd.out.2), ?_⟩)
     refine tk 9 (.pointer (some ⟨b, off + j * 10, none⟩)) (H := ⟨(.inl ⟨rfl, fun W _ => by go_simp; first | done | (intro h; omega) | (rw [if_pos (by omega)]; rfl)⟩), (HS.out _ HTd.out.1 HTd.out.2), ?_⟩)
     refine tm 10 (.pointer (some ⟨b, off + j * 10 + 2, none⟩)) (H := ⟨(HS.out _ HTd.out.1 HTd.out.2), ?_⟩)
     refine tk 11 (.slice q m g') (H := ⟨(.inl ⟨rfl, fun W hW => by have c := hW.2.2; go_simp⟩), (HS.out _ HTd.out.1 HTd.out.2), ?_⟩)
     refine oq 12 (H := fun K hK => ?_)
     obtain ⟨d, hd⟩ : ∃ d, d = y.ids.apart z.ids := ⟨_, rfl⟩
     have HD2 : Hid (d = y.ids.apart z.ids) := hd
     refine op_call2' 69 _ _ _ Tryz.f69 (fun v w' => v = .bool d ∧ Below Y.heap.size Y w') rfl rfl Tryz.func69 (by kernel_rfl) (by kernel_rfl) ((apartSpec_any p q l m g g' y.ids z.ids G G' Y (HCC.out.2.2.below HTd.out.1) (HCD.out.2.2.below HTd.out.1) (by omega) (by omega)).mono (by rintro e w' ⟨rfl, t, rfl⟩; exact ⟨_, rfl, by rw [hd], quiet_below ⟨t, rfl⟩⟩)) ?_
     rintro v Y2 ⟨rfl, hb2⟩
     have HB3 : Hid (Below w.heap.size w Y2 ∧ Blk Y2 w.heap.size #[.slice (some ⟨b, off, none⟩) n c] 26) := ⟨Below.next HTd.out.1 hb2, HTd.out.2.below hb2⟩
     clear hb2 hd
     refine pk (h := hK _ _ ⟨HS.out _ HB3.out.1 HB3.out.2, ?_⟩)
     clear hK
     refine oq 13 (H := fun K hK => ?_)
     refine op_value (.bool (!d)) rfl (by go_simp) (pk (h := hK _ _ ⟨(HS.out _ HB3.out.1 HB3.out.2), ?_⟩))
     clear hK
     refine wpAnyH_done (by kernel_rfl) ?_ _
     cases d
     ·
      have HV : Hid (x.ok = false) := Rw.ok_not (i := k + 1) (by rw [HL.out.2.1]; omega) (by
        rw [fineTo_succ HX.out.1]
        have : (x.list.take k).all (fun z => y.ids.apart z.ids) = false := by
          rw [List.all_eq_false]
          exact ⟨z, List.mem_of_getElem? (by rw [List.getElem?_take_of_lt hlt2]; exact HZ.out.1), by rw [← HD2.out]; simp⟩
        rw [this]; simp)
      go_wp2
      go_ret
      exact ⟨ret_bool HV.out.symm, HB3.out.1⟩
     ·
      have HA2 : Hid ((x.list.take (j + 1)).all (fun z => y.ids.apart z.ids) = true) := by
       show _ = _
       rw [take_snoc_en HZ.out.1, List.all_append, HA.out]
       simp [← HD2.out]
      go_wp2
      go_roundw
      case rel => exact ⟨j + 1, by omega, by go_num, HA2, HB3⟩
      case measure => simp [intOf]; omega
    ·
     obtain rfl : j = k := by omega
     have HT2 : Hid (fineTo x.list (j + 1) = true) := by show _ = _; rw [fineTo_succ HX.out.1, HT.out, ← HD.out, HA.out]; rfl
     have hJ : ¬ (j : Int) < (j : Int) := by omega
     go_wp2
     go_roundw
     case rel => exact ⟨j + 1, by omega, by go_num, HT2, HW⟩
     case measure => simp [intOf]; omega
  ·
   obtain rfl : k = n := by omega
   have HV : Hid (x.ok = true) := Rw.ok_yes (by rw [HL.out.2.1]; omega) (by rw [HL.out.2.1]; exact HT.out)
   have hI : ¬ (k : Int) < (k : Int) := by omega
   go_wp2
   go_ret
   exact ⟨ret_bool HV.out.symm, HW.out.1⟩
end
section
set_option maxRecDepth 200000
set_option maxHeartbeats 16000000
open Go.RowKit
theorem infoEnC10 : (Tryz.prog.info? 33).map (·.size) = some 10 := by kernel_rfl
theorem l6Copy_all (ec : Array Value) (x : En) (F G : List Nat) (w : World) (h : RdEn w (.agg ec) x F G) (hf : x.sk.fits) (hl : x.ids.length ≤ 1048576) :
 Calls Tryz.prog 35 #[.agg ec] w fun e w' => NewEn w x e w' := by
 obtain ⟨b, l, c, a1, n1, c1, a2, n2, c2, a3, n3, c3, ev, hp, hr, hcp⟩ := h
 injection ev with ev
 subst ev
 have HK : Hid (x.sk.fits) := hf
 have HP : Hid (RdP w b l x.ids F ∧ RdSk w (.agg #[.int .i64 x.sk.count, .int .i64 x.sk.sum, .int .i64 x.sk.min, .int .i64 x.sk.max, .slice a1 n1 c1, .slice a2 n2 c2, .slice a3 n3 c3]) x.sk G ∧ l ≤ 2097152 ∧ (b = none → c = 0)) := ⟨hp, hr, by rw [← hp.length]; omega, hcp.1⟩
 have HT : Hid (_ ∧ _ ∧ _) := two_made w #[.int .i64 x.key, .int .i64 x.window, .slice b l c, .int .i64 x.sk.count, .int .i64 x.sk.sum, .int .i64 x.sk.min, .int .i64 x.sk.max, .slice a1 n1 c1, .slice a2 n2 c2, .slice a3 n3 c3] #[.int .i64 0, .int .i64 0, .slice none 0 0, .int .i64 0, .int .i64 0, .int .i64 0, .int .i64 0, .slice none 0 0, .slice none 0 0, .slice none 0 0] 33 33
 clear hp hr hcp hf hl
 go_enter Tryz.func35, Tryz.ntmps35
 go_wp2
 obtain ⟨W0, hW0⟩ : ∃ W0, W0 = (w.alloc (.cells #[.int .i64 x.key, .int .i64 x.window, .slice b l c, .int .i64 x.sk.count, .int .i64 x.sk.sum, .int .i64 x.sk.min, .int .i64 x.sk.max, .slice a1 n1 c1, .slice a2 n2 c2, .slice a3 n3 c3] 33)).alloc (.cells #[.int .i64 0, .int .i64 0, .slice none 0 0, .int .i64 0, .int .i64 0, .int .i64 0, .int .i64 0, .slice none 0 0, .slice none 0 0, .slice none 0 0] 33) := ⟨_, rfl⟩
 rw [← hW0] at HT ⊢
 clear hW0
 have HS : Hid (Blk W0.drew w.heap.size #[.int .i64 x.key, .int .i64 x.window, .slice b l c, .int .i64 x.sk.count, .int .i64 x.sk.sum, .int .i64 x.sk.min, .int .i64 x.sk.max, .slice a1 n1 c1, .slice a2 n2 c2, .slice a3 n3 c3] 33) := HT.out.1.drew
 have sz0 : w.heap.size + 1 < W0.drew.heap.size := HT.out.2.1.drew.lt
 refine wp_region_held (S := fun W => Blk W w.heap.size #[.int .i64 x.key, .int .i64 x.window, .slice b l c, .int .i64 x.sk.count, .int .i64 x.sk.sum, .int .i64 x.sk.min, .int .i64 x.sk.max, .slice a1 n1 c1, .slice a2 n2 c2, .slice a3 n3 c3] 33) (by kernel_rfl) ?_
 change wpAnyH _ _ _ _ _ _ _ _ (World.drew _)
 refine tg 0 (.pointer (some ⟨w.heap.size, 0, none⟩)) (H := ⟨HS.out, ?_⟩)
 refine tk 1 (.int .i64 x.key) (H := ⟨(.inl ⟨rfl, fun W hW => by have c := hW.cell 0; simp only [aT, aZ] at c; go_simp⟩), HS.out, ?_⟩)
 refine tg 2 (.pointer (some ⟨w.heap.size, 1, none⟩)) (H := ⟨HS.out, ?_⟩)
 refine tk 3 (.int .i64 x.window) (H := ⟨(.inl ⟨rfl, fun W hW => by have c := hW.cell 1; simp only [aT, aS, aZ] at c; go_simp⟩), HS.out, ?_⟩)
 refine tg 4 (.pointer (some ⟨w.heap.size, 2, none⟩)) (H := ⟨HS.out, ?_⟩)
 refine tk 5 (.slice b l c) (H := ⟨(.inl ⟨rfl, fun W hW => by have c := hW.cell 2; simp only [aT, aS, aZ] at c; go_simp⟩), HS.out, ?_⟩)
 refine tg 7 (.pointer (some ⟨w.heap.size, 3, none⟩)) (H := ⟨HS.out, ?_⟩)
 refine tk 8 (.agg #[.int .i64 x.sk.count, .int .i64 x.sk.sum, .int .i64 x.sk.min, .int .i64 x.sk.max, .slice a1 n1 c1, .slice a2 n2 c2, .slice a3 n3 c3]) (H := ⟨(yields_cut 31 w.heap.size 3 7 _ #[.int .i64 x.sk.count, .int .i64 x.sk.sum, .int .i64 x.sk.min, .int .i64 x.sk.max, .slice a1 n1 c1, .slice a2 n2 c2, .slice a3 n3 c3] 33 _ rfl rfl rfl Tryz.underlying31 rfl infoSkI (by simp) rfl (fun W hW => hW)), HS.out, ?_⟩)
 refine oq 6 (H := fun K hK => ?_)
 refine op_call1 75 _ _ Tryz.f75 (fun v w' => ∃ a len cap F, v = .slice a len cap ∧ RdP w' a len x.ids F ∧ Own W0.drew.heap.size w' F ∧ Below W0.drew.heap.size W0.drew w' ∧ Capd a len cap) rfl rfl Tryz.func75 (by kernel_rfl) (by kernel_rfl) ((l5Copy_any b l c x.ids F W0.drew (HP.out.1.below HT.out.2.2.drew) HP.out.2.2.1 HP.out.2.2.2).mono (by rintro e w' ⟨a, len, cap, F, rfl, h1, h2, h3, h4⟩; exact ⟨_, rfl, a, len, cap, F, rfl, h1, h2, h3, h4⟩)) ?_
 rintro _ w1 ⟨aj, lj, cj, Fj, rfl, rj, oj, bz, hcj⟩
 refine pk (h := hK _ _ ⟨HS.out.below bz, ?_⟩)
 have HJ : Hid (RdP w1 aj lj x.ids Fj ∧ Own (w.heap.size + 2) w1 Fj ∧ Capd aj lj cj) := ⟨rj, oj.mono (by omega), hcj⟩
 have HS1 : Hid (Blk w1 w.heap.size #[.int .i64 x.key, .int .i64 x.window, .slice b l c, .int .i64 x.sk.count, .int .i64 x.sk.sum, .int .i64 x.sk.min, .int .i64 x.sk.max, .slice a1 n1 c1, .slice a2 n2 c2, .slice a3 n3 c3] 33) := HS.out.below bz
 have HZ1 : Hid (Blk w1 (w.heap.size + 1) #[.int .i64 0, .int .i64 0, .slice none 0 0, .int .i64 0, .int .i64 0, .int .i64 0, .int .i64 0, .slice none 0 0, .slice none 0 0, .slice none 0 0] 33 ∧ Below w.heap.size w w1) := ⟨HT.out.2.1.drew.below bz, Below.next HT.out.2.2.drew bz⟩
 clear hK bz rj oj HS hcj
 refine oq 9 (H := fun K hK => ?_)
 have cop : Calls Tryz.prog 76 #[.agg #[.int .i64 x.sk.count, .int .i64 x.sk.sum, .int .i64 x.sk.min, .int .i64 x.sk.max, .slice a1 n1 c1, .slice a2 n2 c2, .slice a3 n3 c3]] w1 fun e w' => ∃ v, e = .returned v ∧ ∃ X, RdSk w' v x.sk X ∧ Own w1.heap.size w' X ∧ Below w1.heap.size w1 w' := by
  exact (l3Copy_all _ x.sk G w1 (HP.out.2.1.below HZ1.out.2) HK.out).mono (by rintro e w' ⟨v, X, rfl, h1, h2, h3⟩; exact ⟨_, rfl, X, h1, h2, h3⟩)
 refine op_call1 76 _ _ Tryz.f76 (fun v w' => ∃ X, RdSk w' v x.sk X ∧ Own w1.heap.size w' X ∧ Below w1.heap.size w1 w') rfl rfl Tryz.func76 (by kernel_rfl) (by kernel_rfl) cop ?_
 clear cop
 rintro vm w2 ⟨X, rm, om, bz⟩
 obtain ⟨e1, r1, f1, e2, r2, f2, e3, r3, f3, rfl⟩ := rm.cells7
 refine pk (h := hK _ _ ⟨HS1.out.below bz, ?_⟩)
 have HS2 : Hid (Blk w2 w.heap.size #[.int .i64 x.key, .int .i64 x.window, .slice b l c, .int .i64 x.sk.count, .int .i64 x.sk.sum, .int .i64 x.sk.min, .int .i64 x.sk.max, .slice a1 n1 c1, .slice a2 n2 c2, .slice a3 n3 c3] 33) := HS1.out.below bz
 have HZ2 : Hid (Blk w2 (w.heap.size + 1) #[.int .i64 0, .int .i64 0, .slice none 0 0, .int .i64 0, .int .i64 0, .int .i64 0, .int .i64 0, .slice none 0 0, .slice none 0 0, .slice none 0 0] 33 ∧ Below w.heap.size w w2) := ⟨HZ1.out.1.below bz, Below.next HZ1.out.2 bz⟩
 have HJ2 : Hid (RdP w2 aj lj x.ids Fj ∧ Own (w.heap.size + 2) w2 Fj ∧ RdSk w2 (.agg #[.int .i64 x.sk.count, .int .i64 x.sk.sum, .int .i64 x.sk.min, .int .i64 x.sk.max, .slice e1 r1 f1, .slice e2 r2 f2, .slice e3 r3 f3]) x.sk X ∧ Own (w.heap.size + 2) w2 X ∧ ∀ b ∈ Fj, b ∉ X) := ⟨HJ.out.1.below bz, HJ.out.2.1.below HJ.out.1.lt bz, rm, om.mono HZ1.out.1.lt, fun b hb hx => by have := HJ.out.1.lt b hb; have := om.ge b hx; omega⟩
 clear hK bz rm om HS1 HZ1
 refine tg 10 (.agg #[.int .i64 x.key, .int .i64 x.window, .slice aj lj cj, .int .i64 x.sk.count, .int .i64 x.sk.sum, .int .i64 x.sk.min, .int .i64 x.sk.max, .slice e1 r1 f1, .slice e2 r2 f2, .slice e3 r3 f3]) (H := ⟨HS2.out, ?_⟩)
 refine oq 11 (H := fun K hK => ?_)
 refine op_store 33 (w.heap.size + 1) #[.int .i64 0, .int .i64 0, .slice none 0 0, .int .i64 0, .int .i64 0, .int .i64 0, .int .i64 0, .slice none 0 0, .slice none 0 0, .slice none 0 0] #[.int .i64 x.key, .int .i64 x.window, .slice aj lj cj, .int .i64 x.sk.count, .int .i64 x.sk.sum, .int .i64 x.sk.min, .int .i64 x.sk.max, .slice e1 r1 f1, .slice e2 r2 f2, .slice e3 r3 f3] 33 rfl rfl rfl rfl HZ2.out.1 (by kernel_rfl) rfl (by simp [Value.oneCell']) (pk (h := hK _ _ ⟨HS2.out.setRowOther (by omega), ?_⟩))
 clear hK
 refine wpAnyH_done (by kernel_rfl) ?_ _
 have nf : w.heap.size + 1 ∉ Fj := fun hx => by have := HJ2.out.2.1.ge _ hx; omega
 have nx : w.heap.size + 1 ∉ X := fun hx => by have := HJ2.out.2.2.2.1.ge _ hx; omega
 obtain ⟨E, hE⟩ : ∃ E : Array Value, E = #[.int .i64 x.key, .int .i64 x.window, .slice aj lj cj, .int .i64 x.sk.count, .int .i64 x.sk.sum, .int .i64 x.sk.min, .int .i64 x.sk.max, .slice e1 r1 f1, .slice e2 r2 f2, .slice e3 r3 f3] := ⟨_, rfl⟩
 rw [← hE]
 obtain ⟨w3, hw3⟩ : ∃ W, W = w2.setRow (w.heap.size + 1) E := ⟨_, rfl⟩
 have HF : Hid (Blk w3 (w.heap.size + 1) E 33 ∧ RdP w3 aj lj x.ids Fj ∧ Own w.heap.size w3 Fj ∧ RdSk w3 (.agg #[.int .i64 x.sk.count, .int .i64 x.sk.sum, .int .i64 x.sk.min, .int .i64 x.sk.max, .slice e1 r1 f1, .slice e2 r2 f2, .slice e3 r3 f3]) x.sk X ∧ Own w.heap.size w3 X ∧ (∀ b ∈ Fj, b ∉ X) ∧ Below w.heap.size w w3) := by
  rw [hw3]
  exact ⟨HZ2.out.1.setRow, HJ2.out.1.agree (Agree.row nf E), (HJ2.out.2.1.agree (Agree.row nf E)).mono (by omega), HJ2.out.2.2.1.agree (Agree.row nx E), (HJ2.out.2.2.2.1.agree (Agree.row nx E)).mono (by omega), HJ2.out.2.2.2.2, below_setRow HZ2.out.2 (by omega) _⟩
 have HE : Hid (E = #[.int .i64 x.key, .int .i64 x.window, .slice aj lj cj, .int .i64 x.sk.count, .int .i64 x.sk.sum, .int .i64 x.sk.min, .int .i64 x.sk.max, .slice e1 r1 f1, .slice e2 r2 f2, .slice e3 r3 f3] ∧ E.size = 10) := ⟨hE, by rw [hE]; rfl⟩
 rw [← hw3]
 clear hE hw3 HJ2 HZ2 HS2 nf nx
 go_wp2
 refine bodyPost_ret (results_cell_row Tryz.results35 _ _ (w.heap.size + 1) _ _ (0, 0) _ rfl HF.out.1 Tryz.underlying33 rfl (by rw [HE.out.2]; exact infoEnC10)) rfl ?_
 exact ⟨_, Fj, X, rfl, ⟨aj, lj, cj, e1, r1, f1, e2, r2, f2, e3, r3, f3, by rw [HE.out.1], HF.out.2.1, HF.out.2.2.2.1, HJ.out.2.2⟩, HF.out.2.2.1, HF.out.2.2.2.2.1, HF.out.2.2.2.2.2.1, HF.out.2.2.2.2.2.2⟩
theorem l6Copy_en (v : Value) (x : En) (F : List Nat) (w : World) (h : RdE w v x F) (hf : x.fits) :
 Calls Tryz.prog 35 #[v] w fun e w' => ∃ v F, e = .returned v ∧ RdE w' v x F ∧ Own w.heap.size w' F ∧ Below w.heap.size w w' := by
 obtain ⟨F1, F2, rfl, h⟩ := h
 obtain ⟨b, l, c, a1, n1, c1, a2, n2, c2, a3, n3, c3, rfl, h'⟩ := h
 refine (l6Copy_all _ x F1 F2 w ⟨b, l, c, a1, n1, c1, a2, n2, c2, a3, n3, c3, rfl, h'⟩ hf.1 hf.2).mono ?_
 rintro e w' ⟨v, F, G, rfl, r, o, o', d, bz⟩
 exact ⟨v, F ++ G, rfl, ⟨F, G, rfl, r⟩, o.app o' d, bz⟩
end
section
set_option maxRecDepth 200000
set_option maxHeartbeats 16000000
open Go.RowKit
theorem l10Copy_grow (v : Value) (x : Rw) (F0 : List Nat) (w : World) (h : RdRw w v x F0) (hf : x.fits) :
 Calls Tryz.prog 30 #[v] w fun e w' => NewRwG w x.list e w' := by
 obtain ⟨j0, hj, hy0, hy1, hy2⟩ := info_parts infoEnG
 obtain ⟨a, n, c, rfl, hL, hcp⟩ := h
 have hn1 : n ≤ 1048576 := by rw [← hL.length]; exact hf.len
 have HL : Hid (RdL enK w a n x.list F0 ∧ (∀ y ∈ x.list, y.fits) ∧ x.list.length = n) := ⟨hL, hf.each, hL.length⟩
 clear hL hf hcp
 have HT0 : Hid (_ ∧ _ ∧ _) := two_made w #[.slice a n c] #[.slice none 0 0] 26 26
 go_enter Tryz.func30, Tryz.ntmps30
 go_wp2_with (first | go_skip | (with_reducible refine stopStore 26 rfl ?_))
 refine store_fresh 26 (w.heap.size + 1 + 1) (by simp) #[.slice none 0 0] #[.slice none 0 0] 26 rfl rfl rfl rfl (rwSize rfl) rfl (by simp [Value.oneCell']) ?_
 intro w1 hg hb
 have HT1 : Hid (Three w #[.slice a n c] 26 #[.slice none 0 0] #[.slice none 0 0] 26 w1) := ⟨HT0.out.1.below hb, HT0.out.2.1.below hb, hg, Below.next HT0.out.2.2 hb⟩
 clear hg hb HT0
 have hz1 : w.heap.size + 3 ≤ w1.heap.size := HT1.out.size
 go_wp2
 go_loopw [4] (fun i wr => ∃ (k : Nat) (v : Value) (vs : List Value) (GG : List Nat), k ≤ n ∧ i = .int .i64 k ∧ Hid (CopyR w #[.slice a n c] 26 26 x.list w1.heap.size k v vs GG wr)) (fun i _ => n - (intOf i).toNat)
 case atStart => exact ⟨0, .slice none 0 0, [], [], by omega, rfl, ⟨HT1.out, GrowL.start (Nat.le_refl _), hz1⟩⟩
 case round =>
  obtain ⟨k, v, vs, GG, hk, rfl, CSS⟩ := hrel
  have e4 := CSS.out.three.box.cell 0
  simp only [aT, aZ] at e4
  by_cases hlt : k < n
  ·
   have hI : (k : Int) < (n : Int) := by omega
   obtain ⟨b, off, y, cs, Fi, rfl, hbw, hy, hcs, hcc, hr⟩ := ens_at HL.out.1 hlt
   have HY : Hid (x.list[k]? = some y ∧ y.fits ∧ cs.size = 10 ∧ RdE w (.agg cs) y Fi) := ⟨hy, HL.out.2.1 y (List.mem_of_getElem? hy), hcs, hr⟩
   have HC : Hid (∀ W, Blk W w.heap.size #[.slice (some ⟨b, off, none⟩) n c] 26 ∧ Below w.heap.size w W → W.cell? ⟨w.heap.size, 0, none⟩ = some (.slice (some ⟨b, off, none⟩) n c) ∧ ∀ j, j < 10 → W.cell? ⟨b, off + k * 10 + j, none⟩ = cs[j]?) := fun W hW => ⟨by rw [hW.1.cell]; rfl, fun j hj => by
     have q : W.cell? ⟨b, off + k * 10 + j, none⟩ = w.cell? ⟨b, off + k * 10 + j, none⟩ := hW.2.cell (p := ⟨b, off + k * 10 + j, none⟩) hbw
     exact q.trans (hcc j hj)⟩
   clear hbw hcs hcc hr hy
   go_wp2_with fail
   clear e4
   have CSd : Hid (CopyR w #[.slice (some ⟨b, off, none⟩) n c] 26 26 x.list w1.heap.size k v vs GG wr.drew) := CSS.out.below (Below.refl _ _).drew
   obtain ⟨Y0, hY0⟩ : ∃ Y, Y = wr.drew := ⟨_, rfl⟩
   rw [← hY0] at CSd
   have HLim : Hid ((∀ b ∈ GG, b < Y0.heap.size) ∧ (∀ b, v.ownBlock = some b → b < Y0.heap.size) ∧ w1.heap.size ≤ Y0.heap.size) := CSd.out.grow.lts
   clear CSS
   refine wp_region_held (S := fun W => Blk W w.heap.size #[.slice (some ⟨b, off, none⟩) n c] 26 ∧ Below w.heap.size w W) (by kernel_rfl) ?_
   change wpAnyH _ _ _ _ _ _ _ _ (World.drew _)
   rw [← hY0]
   clear hY0
   refine tm 0 (.pointer (some ⟨w.heap.size + 1 + 1, 0, none⟩)) (H := ⟨⟨CSd.out.three.box, CSd.out.three.bel⟩, ?_⟩)
   refine tm 2 (.pointer (some ⟨w.heap.size, 0, none⟩)) (H := ⟨⟨CSd.out.three.box, CSd.out.three.bel⟩, ?_⟩)
   refine tk 3 (.slice (some ⟨b, off, none⟩) n c) (H := ⟨(.inl ⟨rfl, fun W hW => by have c := (HC.out W hW).1; go_simp⟩), ⟨CSd.out.three.box, CSd.out.three.bel⟩, ?_⟩)
   refine tm 4 (.int .i64 k) (H := ⟨⟨CSd.out.three.box, CSd.out.three.bel⟩, ?_⟩)
   refine tk 5 (.pointer (some ⟨b, off + k * 10, none⟩)) (H := ⟨(.inl ⟨rfl, fun W _ => by go_simp; first | done | (intro h; omega) | (rw [if_pos (by omega)]; rfl)⟩), ⟨CSd.out.three.box, CSd.out.three.bel⟩, ?_⟩)
   refine tk 6 (.agg cs) (H := ⟨(yields_at 33 b (off + k * 10) 10 cs _ rfl rfl rfl Tryz.underlying33 rfl infoEnG2 HY.out.2.2.1 (fun W hW => (HC.out W hW).2)), ⟨CSd.out.three.box, CSd.out.three.bel⟩, ?_⟩)
   refine twoH (o := ?o7) (o' := ?p7) 1 7 (by kernel_rfl) ?h7 ?g7 ?r7 ?s7
   case h7 => simp only [aT, aS, aZ]; rfl
   case g7 => simp only [aT, aS, aZ]; rfl
   case r7 =>
    intro K hK
    have co := CSd.out.three.loc.cell 0
    simp only [aT, aZ] at co
    refine op_value v rfl (by go_simp) (pk (h := hK _ _ ⟨⟨CSd.out.three.box, CSd.out.three.bel⟩, ?_⟩))
    clear hK co
    refine oq 7 (H := fun K hK => ?_)
    refine op_call1 35 _ _ Tryz.f35 (fun v w' => ∃ F, RdE w' v y F ∧ Own Y0.heap.size w' F ∧ Below Y0.heap.size Y0 w') rfl rfl Tryz.func35 (by kernel_rfl) (by kernel_rfl) ((l6Copy_en (.agg cs) y Fi Y0 (HY.out.2.2.2.below CSd.out.three.bel) HY.out.2.1).mono (by rintro e w' ⟨v, F, rfl, k1, k2, k3⟩; exact ⟨_, rfl, F, k1, k2, k3⟩)) ?_
    rintro vr Y1 ⟨Fr, rr, ro, rb⟩
    obtain ⟨ds, rfl, hd11, hd1⟩ := enK.cells (w := Y1) rr
    have RR1 : Hid (RdE Y1 (.agg ds) y Fr ∧ Own Y0.heap.size Y1 Fr ∧ ds.size = 10 ∧ ds.all (·.oneCell') = true) := ⟨rr, ro.mono (Nat.le_refl _), hd11, hd1⟩
    have CS1 : Hid (CopyR w #[.slice (some ⟨b, off, none⟩) n c] 26 26 x.list w1.heap.size k v vs GG Y1) := CSd.out.below rb
    refine pk (h := hK _ _ ⟨⟨CS1.out.three.box, CS1.out.three.bel⟩, ?_⟩)
    clear hK rr ro rb hd11 hd1
    refine oq 8 (H := fun K hK => ?_)
    have bl : Below Y1.heap.size Y1 (Y1.alloc (.cells ds 33)) := (Below.refl _ _).alloc (Nat.le_refl _) _
    have CS2 : Hid (CopyR w #[.slice (some ⟨b, off, none⟩) n c] 26 26 x.list w1.heap.size k v vs GG (Y1.alloc (.cells ds 33))) := CS1.out.below bl
    have RR2 : Hid (RdE (Y1.alloc (.cells ds 33)) (.agg ds) y Fr ∧ Own Y0.heap.size (Y1.alloc (.cells ds 33)) Fr ∧ ds.size = 10 ∧ ds.all (·.oneCell') = true) := ⟨RR1.out.1.below bl, RR1.out.2.1.below RR1.out.1.lt bl, RR1.out.2.2⟩
    have NW2 : Hid (∀ j u, ds.toList[j]? = some u → ((Y1.alloc (.cells ds 33))).cell? ((⟨Y1.heap.size, 0, none⟩ : Addr).add j) = some u) := news_lit _ _ _
    refine op_turn (.slice (some ⟨Y1.heap.size, 0, none⟩) 1 1) (Y1.alloc (.cells ds 33)) rfl (by obtain ⟨_, _, _, _, _, _, _, _, _, _, _, _, _, _, _, ev, _⟩ := RR2.out.1; injection ev with ev; rw [ev]; kernel_rfl) (pk (h := hK _ _ ⟨⟨CS2.out.three.box, CS2.out.three.bel⟩, ?_⟩))
    clear hK bl
    obtain ⟨L2, hL2⟩ : ∃ z, z = Y1.heap.size := ⟨_, rfl⟩
    obtain ⟨Y2, hY2⟩ : ∃ Z, Z = (Y1.alloc (.cells ds 33)) := ⟨_, rfl⟩
    rw [← hY2, ← hL2] at NW2
    rw [← hY2] at CS2 RR2 ⊢
    rw [← hL2]
    clear hY2 hL2
    refine oq 9 (H := fun K hK => ?_)
    refine op_append Y2 rfl _ _ 24 rfl w1.heap.size 33 j0 (.agg #[.int .i64 0, .int .i64 0, .slice none 0 0, .int .i64 0, .int .i64 0, .int .i64 0, .int .i64 0, .slice none 0 0, .slice none 0 0, .slice none 0 0]) 10 144 Tryz.underlying24 hj hy0 hy1 hy2 rfl (by decide) v k vs rfl CS2.out.grow.row ⟨L2, 0, none⟩ 1 1 ds.toList rfl (by rw [Array.length_toList, RR2.out.2.2.1]) NW2.out (fun u hu => (Array.all_eq_true_iff_forall_mem.1 RR2.out.2.2.2) u (by simpa using hu)) (by decide) (by unfold maxLen; omega) (by omega) CS2.out.grow.lw _ rfl ?_
    intro g4 cp4 Y3 hown hgrow hat _
    have GS := CS2.out.grow.step HY.out.1 RR2.out.1 RR2.out.2.2.1 RR2.out.2.1 HLim.out.1 HLim.out.2.1 HLim.out.2.2 hown hgrow hat
    have ST := CS2.out.step hgrow GS
    have CS3 : Hid (CopyR w #[.slice (some ⟨b, off, none⟩) n c] 26 26 x.list w1.heap.size (k + 1) (.slice (some ⟨g4, 0, none⟩) (k + 1) cp4) (vs ++ ds.toList) (GG ++ Fr) (Y3.setCell ⟨w.heap.size + 1 + 1, 0, none⟩ (.slice (some ⟨g4, 0, none⟩) (k + 1) cp4)) ∧ Blk Y3 w.heap.size #[.slice (some ⟨b, off, none⟩) n c] 26 ∧ Below w.heap.size w Y3) := ⟨ST.1, ST.2.1, ST.2.2.1⟩
    have co := ST.2.2.2.cell 0
    have fo := ST.2.2.2.frozen 0
    simp only [aT, aZ] at co
    refine pk (h := hK _ _ ⟨CS3.out.2, ?_⟩)
    clear hK hown hgrow hat ST GS
    refine tm 10 (.pointer (some ⟨w.heap.size + 1 + 1, 0, none⟩)) (H := ⟨CS3.out.2, ?_⟩)
    refine oq 11 (H := fun K hK => ?_)
    refine op_skip (Y3.setCell ⟨w.heap.size + 1 + 1, 0, none⟩ (.slice (some ⟨g4, 0, none⟩) (k + 1) cp4)) rfl (by go_simp) (pk (h := hK _ _ ⟨⟨CS3.out.1.three.box, CS3.out.1.three.bel⟩, ?_⟩))
    clear hK co fo
    refine wpAnyH_done (by kernel_rfl) ?_ _
    have HF : Hid (CopyR w #[.slice (some ⟨b, off, none⟩) n c] 26 26 x.list w1.heap.size (k + 1) (.slice (some ⟨g4, 0, none⟩) (k + 1) cp4) (vs ++ ds.toList) (GG ++ Fr) (Y3.setCell ⟨w.heap.size + 1 + 1, 0, none⟩ (.slice (some ⟨g4, 0, none⟩) (k + 1) cp4))) := CS3.out.1
    obtain ⟨YZ, hYZ⟩ : ∃ Z, Z = (Y3.setCell ⟨w.heap.size + 1 + 1, 0, none⟩ (.slice (some ⟨g4, 0, none⟩) (k + 1) cp4)) := ⟨_, rfl⟩
    rw [← hYZ] at HF ⊢
    clear hYZ CS3
    go_wp2
    go_roundw
    case rel => exact ⟨k + 1, _, _, _, by omega, by go_num, HF.out⟩
    case measure => simp [intOf]; omega
   case s7 =>
    intro K hK
    refine op_call1 35 _ _ Tryz.f35 (fun v w' => ∃ F, RdE w' v y F ∧ Own Y0.heap.size w' F ∧ Below Y0.heap.size Y0 w') rfl rfl Tryz.func35 (by kernel_rfl) (by kernel_rfl) ((l6Copy_en (.agg cs) y Fi Y0 (HY.out.2.2.2.below CSd.out.three.bel) HY.out.2.1).mono (by rintro e w' ⟨v, F, rfl, k1, k2, k3⟩; exact ⟨_, rfl, F, k1, k2, k3⟩)) ?_
    rintro vr Y4 ⟨Fr, rr, ro, rb⟩
    obtain ⟨ds, rfl, hd11, hd1⟩ := enK.cells (w := Y4) rr
    have RR4 : Hid (RdE Y4 (.agg ds) y Fr ∧ Own Y0.heap.size Y4 Fr ∧ ds.size = 10 ∧ ds.all (·.oneCell') = true) := ⟨rr, ro.mono (Nat.le_refl _), hd11, hd1⟩
    have CS4 : Hid (CopyR w #[.slice (some ⟨b, off, none⟩) n c] 26 26 x.list w1.heap.size k v vs GG Y4) := CSd.out.below rb
    refine pk (h := hK _ _ ⟨⟨CS4.out.three.box, CS4.out.three.bel⟩, ?_⟩)
    clear hK rr ro rb hd11 hd1
    refine twoH (o := ?o13) (o' := ?p13) 1 8 (by kernel_rfl) ?h13 ?g13 ?r13 ?s13
    case h13 => simp only [aT, aS, aZ]; rfl
    case g13 => simp only [aT, aS, aZ]; rfl
    case r13 =>
     intro K hK
     have co := CS4.out.three.loc.cell 0
     simp only [aT, aZ] at co
     refine op_value v rfl (by go_simp) (pk (h := hK _ _ ⟨⟨CS4.out.three.box, CS4.out.three.bel⟩, ?_⟩))
     clear hK co
     refine oq 8 (H := fun K hK => ?_)
     have bl : Below Y4.heap.size Y4 (Y4.alloc (.cells ds 33)) := (Below.refl _ _).alloc (Nat.le_refl _) _
     have CS5 : Hid (CopyR w #[.slice (some ⟨b, off, none⟩) n c] 26 26 x.list w1.heap.size k v vs GG (Y4.alloc (.cells ds 33))) := CS4.out.below bl
     have RR5 : Hid (RdE (Y4.alloc (.cells ds 33)) (.agg ds) y Fr ∧ Own Y0.heap.size (Y4.alloc (.cells ds 33)) Fr ∧ ds.size = 10 ∧ ds.all (·.oneCell') = true) := ⟨RR4.out.1.below bl, RR4.out.2.1.below RR4.out.1.lt bl, RR4.out.2.2⟩
     have NW5 : Hid (∀ j u, ds.toList[j]? = some u → ((Y4.alloc (.cells ds 33))).cell? ((⟨Y4.heap.size, 0, none⟩ : Addr).add j) = some u) := news_lit _ _ _
     refine op_turn (.slice (some ⟨Y4.heap.size, 0, none⟩) 1 1) (Y4.alloc (.cells ds 33)) rfl (by obtain ⟨_, _, _, _, _, _, _, _, _, _, _, _, _, _, _, ev, _⟩ := RR5.out.1; injection ev with ev; rw [ev]; kernel_rfl) (pk (h := hK _ _ ⟨⟨CS5.out.three.box, CS5.out.three.bel⟩, ?_⟩))
     clear hK bl
     obtain ⟨L5, hL5⟩ : ∃ z, z = Y4.heap.size := ⟨_, rfl⟩
     obtain ⟨Y5, hY5⟩ : ∃ Z, Z = (Y4.alloc (.cells ds 33)) := ⟨_, rfl⟩
     rw [← hY5, ← hL5] at NW5
     rw [← hY5] at CS5 RR5 ⊢
     rw [← hL5]
     clear hY5 hL5
     refine oq 9 (H := fun K hK => ?_)
     refine op_append Y5 rfl _ _ 24 rfl w1.heap.size 33 j0 (.agg #[.int .i64 0, .int .i64 0, .slice none 0 0, .int .i64 0, .int .i64 0, .int .i64 0, .int .i64 0, .slice none 0 0, .slice none 0 0, .slice none 0 0]) 10 144 Tryz.underlying24 hj hy0 hy1 hy2 rfl (by decide) v k vs rfl CS5.out.grow.row ⟨L5, 0, none⟩ 1 1 ds.toList rfl (by rw [Array.length_toList, RR5.out.2.2.1]) NW5.out (fun u hu => (Array.all_eq_true_iff_forall_mem.1 RR5.out.2.2.2) u (by simpa using hu)) (by decide) (by unfold maxLen; omega) (by omega) CS5.out.grow.lw _ rfl ?_
     intro g4 cp4 Y6 hown hgrow hat _
     have GS := CS5.out.grow.step HY.out.1 RR5.out.1 RR5.out.2.2.1 RR5.out.2.1 HLim.out.1 HLim.out.2.1 HLim.out.2.2 hown hgrow hat
     have ST := CS5.out.step hgrow GS
     have CS6 : Hid (CopyR w #[.slice (some ⟨b, off, none⟩) n c] 26 26 x.list w1.heap.size (k + 1) (.slice (some ⟨g4, 0, none⟩) (k + 1) cp4) (vs ++ ds.toList) (GG ++ Fr) (Y6.setCell ⟨w.heap.size + 1 + 1, 0, none⟩ (.slice (some ⟨g4, 0, none⟩) (k + 1) cp4)) ∧ Blk Y6 w.heap.size #[.slice (some ⟨b, off, none⟩) n c] 26 ∧ Below w.heap.size w Y6) := ⟨ST.1, ST.2.1, ST.2.2.1⟩
     have co := ST.2.2.2.cell 0
     have fo := ST.2.2.2.frozen 0
     simp only [aT, aZ] at co
     refine pk (h := hK _ _ ⟨CS6.out.2, ?_⟩)
     clear hK hown hgrow hat ST GS
     refine tm 10 (.pointer (some ⟨w.heap.size + 1 + 1, 0, none⟩)) (H := ⟨CS6.out.2, ?_⟩)
     refine oq 11 (H := fun K hK => ?_)
     refine op_skip (Y6.setCell ⟨w.heap.size + 1 + 1, 0, none⟩ (.slice (some ⟨g4, 0, none⟩) (k + 1) cp4)) rfl (by go_simp) (pk (h := hK _ _ ⟨⟨CS6.out.1.three.box, CS6.out.1.three.bel⟩, ?_⟩))
     clear hK co fo
     refine wpAnyH_done (by kernel_rfl) ?_ _
     have HF : Hid (CopyR w #[.slice (some ⟨b, off, none⟩) n c] 26 26 x.list w1.heap.size (k + 1) (.slice (some ⟨g4, 0, none⟩) (k + 1) cp4) (vs ++ ds.toList) (GG ++ Fr) (Y6.setCell ⟨w.heap.size + 1 + 1, 0, none⟩ (.slice (some ⟨g4, 0, none⟩) (k + 1) cp4))) := CS6.out.1
     obtain ⟨YZ, hYZ⟩ : ∃ Z, Z = (Y6.setCell ⟨w.heap.size + 1 + 1, 0, none⟩ (.slice (some ⟨g4, 0, none⟩) (k + 1) cp4)) := ⟨_, rfl⟩
     rw [← hYZ] at HF ⊢
     clear hYZ CS6
     go_wp2
     go_roundw
     case rel => exact ⟨k + 1, _, _, _, by omega, by go_num, HF.out⟩
     case measure => simp [intOf]; omega
    case s13 =>
     intro K hK
     have bl : Below Y4.heap.size Y4 (Y4.alloc (.cells ds 33)) := (Below.refl _ _).alloc (Nat.le_refl _) _
     have CS7 : Hid (CopyR w #[.slice (some ⟨b, off, none⟩) n c] 26 26 x.list w1.heap.size k v vs GG (Y4.alloc (.cells ds 33))) := CS4.out.below bl
     have RR7 : Hid (RdE (Y4.alloc (.cells ds 33)) (.agg ds) y Fr ∧ Own Y0.heap.size (Y4.alloc (.cells ds 33)) Fr ∧ ds.size = 10 ∧ ds.all (·.oneCell') = true) := ⟨RR4.out.1.below bl, RR4.out.2.1.below RR4.out.1.lt bl, RR4.out.2.2⟩
     have NW7 : Hid (∀ j u, ds.toList[j]? = some u → ((Y4.alloc (.cells ds 33))).cell? ((⟨Y4.heap.size, 0, none⟩ : Addr).add j) = some u) := news_lit _ _ _
     refine op_turn (.slice (some ⟨Y4.heap.size, 0, none⟩) 1 1) (Y4.alloc (.cells ds 33)) rfl (by obtain ⟨_, _, _, _, _, _, _, _, _, _, _, _, _, _, _, ev, _⟩ := RR7.out.1; injection ev with ev; rw [ev]; kernel_rfl) (pk (h := hK _ _ ⟨⟨CS7.out.three.box, CS7.out.three.bel⟩, ?_⟩))
     clear hK bl
     obtain ⟨L7, hL7⟩ : ∃ z, z = Y4.heap.size := ⟨_, rfl⟩
     obtain ⟨Y7, hY7⟩ : ∃ Z, Z = (Y4.alloc (.cells ds 33)) := ⟨_, rfl⟩
     rw [← hY7, ← hL7] at NW7
     rw [← hY7] at CS7 RR7 ⊢
     rw [← hL7]
     clear hY7 hL7
     refine oq 1 (H := fun K hK => ?_)
     have co := CS7.out.three.loc.cell 0
     simp only [aT, aZ] at co
     refine op_value v rfl (by go_simp) (pk (h := hK _ _ ⟨⟨CS7.out.three.box, CS7.out.three.bel⟩, ?_⟩))
     clear hK co
     refine oq 9 (H := fun K hK => ?_)
     refine op_append Y7 rfl _ _ 24 rfl w1.heap.size 33 j0 (.agg #[.int .i64 0, .int .i64 0, .slice none 0 0, .int .i64 0, .int .i64 0, .int .i64 0, .int .i64 0, .slice none 0 0, .slice none 0 0, .slice none 0 0]) 10 144 Tryz.underlying24 hj hy0 hy1 hy2 rfl (by decide) v k vs rfl CS7.out.grow.row ⟨L7, 0, none⟩ 1 1 ds.toList rfl (by rw [Array.length_toList, RR7.out.2.2.1]) NW7.out (fun u hu => (Array.all_eq_true_iff_forall_mem.1 RR7.out.2.2.2) u (by simpa using hu)) (by decide) (by unfold maxLen; omega) (by omega) CS7.out.grow.lw _ rfl ?_
     intro g4 cp4 Y8 hown hgrow hat _
     have GS := CS7.out.grow.step HY.out.1 RR7.out.1 RR7.out.2.2.1 RR7.out.2.1 HLim.out.1 HLim.out.2.1 HLim.out.2.2 hown hgrow hat
     have ST := CS7.out.step hgrow GS
     have CS8 : Hid (CopyR w #[.slice (some ⟨b, off, none⟩) n c] 26 26 x.list w1.heap.size (k + 1) (.slice (some ⟨g4, 0, none⟩) (k + 1) cp4) (vs ++ ds.toList) (GG ++ Fr) (Y8.setCell ⟨w.heap.size + 1 + 1, 0, none⟩ (.slice (some ⟨g4, 0, none⟩) (k + 1) cp4)) ∧ Blk Y8 w.heap.size #[.slice (some ⟨b, off, none⟩) n c] 26 ∧ Below w.heap.size w Y8) := ⟨ST.1, ST.2.1, ST.2.2.1⟩
     have co := ST.2.2.2.cell 0
     have fo := ST.2.2.2.frozen 0
     simp only [aT, aZ] at co
     refine pk (h := hK _ _ ⟨CS8.out.2, ?_⟩)
     clear hK hown hgrow hat ST GS
     refine tm 10 (.pointer (some ⟨w.heap.size + 1 + 1, 0, none⟩)) (H := ⟨CS8.out.2, ?_⟩)
     refine oq 11 (H := fun K hK => ?_)
     refine op_skip (Y8.setCell ⟨w.heap.size + 1 + 1, 0, none⟩ (.slice (some ⟨g4, 0, none⟩) (k + 1) cp4)) rfl (by go_simp) (pk (h := hK _ _ ⟨⟨CS8.out.1.three.box, CS8.out.1.three.bel⟩, ?_⟩))
     clear hK co fo
     refine wpAnyH_done (by kernel_rfl) ?_ _
     have HF : Hid (CopyR w #[.slice (some ⟨b, off, none⟩) n c] 26 26 x.list w1.heap.size (k + 1) (.slice (some ⟨g4, 0, none⟩) (k + 1) cp4) (vs ++ ds.toList) (GG ++ Fr) (Y8.setCell ⟨w.heap.size + 1 + 1, 0, none⟩ (.slice (some ⟨g4, 0, none⟩) (k + 1) cp4))) := CS8.out.1
     obtain ⟨YZ, hYZ⟩ : ∃ Z, Z = (Y8.setCell ⟨w.heap.size + 1 + 1, 0, none⟩ (.slice (some ⟨g4, 0, none⟩) (k + 1) cp4)) := ⟨_, rfl⟩
     rw [← hYZ] at HF ⊢
     clear hYZ CS8
     go_wp2
     go_roundw
     case rel => exact ⟨k + 1, _, _, _, by omega, by go_num, HF.out⟩
     case measure => simp [intOf]; omega
  ·
   obtain rfl : k = n := by omega
   obtain ⟨q1, d1, F1, rfl, rL, oL, hcp⟩ := CSS.out.grow.done HL.out.2.2
   have HE : Hid (Three w #[.slice a k c] 26 #[.slice none 0 0] #[.slice q1 k d1] 26 wr ∧ RdL enK wr q1 k x.list F1 ∧ Own w1.heap.size wr F1 ∧ Capd q1 k d1) := ⟨CSS.out.three, rL, oL, hcp⟩
   have HGW : Hid (GrowL enK 33 x.list w1.heap.size k (.slice q1 k d1) vs GG wr ∧ w.heap.size + 3 ≤ w1.heap.size) := ⟨CSS.out.grow, hz1⟩
   clear rL oL hcp CSS
   have hI : ¬ (k : Int) < (k : Int) := by omega
   go_wp2_with (first | go_skip | (with_reducible refine stopLoad 26 rfl ?_))
   refine load_known 26 (w.heap.size + 1 + 1) _ 26 _ HE.out.1.loc rfl rfl rfl Tryz.underlying26 rfl infoRwI ?_
   go_wp2_with (first | go_skip | (with_reducible refine stopStore 26 rfl ?_))
   refine store_known 26 (w.heap.size + 1) _ #[.slice q1 k d1] 26 HE.out.1.res rfl rfl rfl rfl infoRwI rfl (by simp [Value.oneCell']) ?_
   go_wp2
   refine bodyPost_ret (results_cell_row Tryz.results30 _ _ (w.heap.size + 1) _ _ (0, 0) _ rfl HE.out.1.res.setRow Tryz.underlying26 rfl infoRwI) rfl ?_
   have nr : w.heap.size + 1 ∉ F1 := fun hx => by have := HE.out.2.2.1.ge _ hx; omega
   have hk' := HL.out.2.2
   subst hk'
   exact ⟨q1, d1, F1, w1.heap.size, vs, GG, rfl, HE.out.2.1.agree (Agree.row nr _), HE.out.2.2.2, (HE.out.2.2.1.agree (Agree.row nr _)).mono (by omega), below_setRow HE.out.1.bel (by omega) _, HGW.out.1.setRow (by have := HGW.out.2; omega), by have := HGW.out.2; omega⟩
end
section
set_option maxRecDepth 200000
set_option maxHeartbeats 16000000
open Go.RowKit
structure CpSt (w : World) (A B : Array Value) (s : Sk) (a1 a2 : Option Addr) (n1 n2 : Nat) (F1 F2 : List Nat) (lo k : Nat) (v : Value) (vs : List Value) (G : List Nat) (W : World) : Prop where
 box : Blk W w.heap.size A 31
 res : Blk W (w.heap.size + 1) B 31
 bel : Below w.heap.size w W
 r1 : RdI W a1 n1 s.hist F1
 r2 : RdI W a2 n2 s.regs F2
 own : Own (w.heap.size + 2) W (F1 ++ F2)
 lt : ∀ b ∈ F1 ++ F2, b < lo
 row : W.ownsRow lo 28 1 v k vs
 rd : RdS W ((s.rows.take k).map ints) vs G
 og : Own lo W G
 ap : ∀ b, v.ownBlock = some b → b ∉ G
 big : w.heap.size + 2 ≤ lo
 lw : lo ≤ W.heap.size
section
variable {w W W' : World} {A B : Array Value} {s : Sk} {a1 a2 : Option Addr} {n1 n2 : Nat} {F1 F2 : List Nat} {lo k : Nat} {v : Value} {vs : List Value} {G : List Nat}
theorem CpSt.below (h : CpSt w A B s a1 a2 n1 n2 F1 F2 lo k v vs G W) (b : Below W.heap.size W W') : CpSt w A B s a1 a2 n1 n2 F1 F2 lo k v vs G W' :=
 ⟨h.box.below b, h.res.below b, Below.next h.bel b, h.r1.below b, h.r2.below b, h.own.below (fun x hx => (List.mem_append.1 hx).elim (h.r1.lt x) (h.r2.lt x)) b, h.lt, ownsRow_below h.row b, h.rd.below b, h.og.below h.rd.lt b, h.ap, h.big, Nat.le_trans h.lw b.size⟩
theorem CpSt.step (h : CpSt w A B s a1 a2 n1 n2 F1 F2 lo k v vs G W) {nk cp3 g4 cp4 L : Nat} {a' : Option Addr} {Fk : List Nat} (rk : RdI W a' nk (s.rows.getD k []) Fk) (ok : Own L W Fk) (ltG : ∀ b ∈ G, b < L) (ltv : ∀ b, v.ownBlock = some b → b < L) (hL : lo ≤ L)
 (hown : W'.ownsRow lo 28 1 (.slice (some ⟨g4, 0, none⟩) (k + 1) cp4) (k + 1) (vs ++ [.slice a' nk cp3])) (hgrow : W.grownBy W' v.ownBlock) (hat : v.ownBlock = some g4 ∨ g4 = W.heap.size) (hk : k < s.rows.length) :
 CpSt w A B s a1 a2 n1 n2 F1 F2 lo (k + 1) (.slice (some ⟨g4, 0, none⟩) (k + 1) cp4) (vs ++ [.slice a' nk cp3]) (G ++ Fk) W' := by
 have big := h.big
 have blk : ∀ b, b < W.heap.size → ¬ v.ownBlock = some b → W'.heap[b]? = W.heap[b]? := fun b hb hn => hgrow.block b hb (fun e => hn e.symm)
 have vge : ∀ b, v.ownBlock = some b → lo ≤ b := fun b hb => (h.row.lt b hb).1
 have bx := h.box.agree (blk _ h.box.lt (fun e => by have := vge _ e; omega))
 have rs := h.res.agree (blk _ h.res.lt (fun e => by have := vge _ e; omega))
 have bel : Below w.heap.size w W' := h.bel.grown hgrow h.bel.size (fun b hb => by have := vge b hb; omega)
 have agF : Agree W W' (F1 ++ F2) := fun b hb => blk b ((List.mem_append.1 hb).elim (h.r1.lt b) (h.r2.lt b)) (fun e => by have := vge _ e; have := h.lt b hb; omega)
 have agG : Agree W W' (G ++ Fk) := fun b hb => blk b ((List.mem_append.1 hb).elim (h.rd.lt b) (rk.lt b)) (fun e => (List.mem_append.1 hb).elim (h.ap b e) (fun hf => by have := ok.ge b hf; have := ltv b e; omega))
 refine ⟨bx, rs, bel, h.r1.agree agF.left, h.r2.agree agF.right, h.own.agree agF, h.lt, hown, ?_, ?_, ?_, h.big, ?_⟩
 ·
  rw [take_snoc s.rows [] k hk, List.map_append]
  exact (h.rd.agree agG.left).snoc (rd_ints.2 ⟨_, _, _, rfl, rk.agree agG.right⟩)
 ·
  exact (h.og.agree agG.left).join (ok.agree agG.right) ltG hL
 ·
  intro b hb hx
  have hb' : b = g4 := by simpa [Value.ownBlock] using hb.symm
  subst hb'
  rcases hat with e | e
  ·
   rcases List.mem_append.1 hx with hx | hx
   ·
    exact h.ap _ e hx
   ·
    have := ok.ge _ hx; have := ltv _ e; omega
  ·
   rcases List.mem_append.1 hx with hx | hx
   ·
    have := h.rd.lt _ hx; omega
   ·
    have := rk.lt _ hx; omega
 ·
  have := hgrow.size; have := h.lw; omega
theorem CpSt.rows (h : CpSt w A B s a1 a2 n1 n2 F1 F2 lo k v vs G W) : ∃ a c F, v = .slice a k c ∧ RdII W a k (s.rows.take k) F ∧ Own (w.heap.size + 2) W (F1 ++ (F2 ++ F)) := by
 have big := h.big
 rcases h.row.2 with ⟨e, e'⟩ | ⟨g, cap, cur, e, e2, e3, e4⟩
 ·
  subst e'
  exact ⟨none, 0, [], e, ⟨by simp, .inl ⟨rfl, rfl⟩⟩, by simpa using h.own⟩
 ·
  subst e
  have hl : vs.length = k := by simpa using h.row.1
  have hlen := h.rd.length
  by_cases h0 : k = 0
  ·
   subst h0
   exact ⟨_, cap, [], rfl, ⟨by simp, .inl ⟨rfl, rfl⟩⟩, by simpa using h.own⟩
  ·
   have hm : RdM W ((s.rows.take k).map ints) g 0 G := rdM_of_own 0 h.rd (fun i hi => by rw [Nat.zero_add]; exact h.row.cellAt i (by omega))
   have hg : lo ≤ g := (h.row.lt g rfl).1
   have hgG : g ∉ G := h.ap g rfl
   have og : Own lo W (g :: G) := ⟨List.nodup_cons.2 ⟨hgG, h.og.nodup⟩, fun b hb o => (List.mem_cons.1 hb).elim (fun e => by subst e; exact h.row.frozenAt o) (fun hb => h.og.free b hb o), fun b hb => (List.mem_cons.1 hb).elim (fun e => by omega) (h.og.ge b)⟩
   refine ⟨_, cap, g :: G, rfl, ⟨by rw [List.length_map] at hlen; omega, .inr ⟨g, 0, G, by omega, rfl, rfl, hm⟩⟩, ?_⟩
   rw [← List.append_assoc]
   exact h.own.join og h.lt h.big
end
theorem copiedList_all (a : Option Addr) (len cap : Nat) (zs : List Int) (F : List Nat) (w : World) (h : RdI w a len zs F) (hlen : len ≤ 1048576) :
 Calls Tryz.prog 127 #[.slice a len cap] w fun e w' => NewI w zs e w' := by
 obtain ⟨i0, hi, hz0, hz1, hz2⟩ := info_parts infoInt
 have HR : Hid (RdI w a len zs F) := h
 clear h
 go_enter Tryz.func127, Tryz.ntmps127
 go_wp2_with (with_reducible refine stopAppend rfl ?_)
 refine Stop.intro (wpList_step fun K hK => op_growsI _ _ 28 rfl rfl 3 i0 Tryz.underlying28 hi hz0 hz1 hz2 none rfl a len cap zs F rfl HR.out hlen ?_)
 intro a' c' F' w' r o b _ _
 have HN : Hid (RdI w' a' len zs F' ∧ Own w.heap.size w' F' ∧ Below w.heap.size w w') := ⟨r, o, b⟩
 refine ⟨_, by simp [Act.put]; rfl, hK _ _ ?_⟩
 clear hK r o b
 go_wp2
 go_ret
 exact ⟨a', len, c', F', rfl, HN.out.1, HN.out.2.1, HN.out.2.2⟩
theorem copiedSketch_all (v : Value) (s : Sk) (F : List Nat) (w : World) (h : RdSk w v s F) (hf : s.fits) :
 Calls Tryz.prog 83 #[v] w fun e w' => NewSk w s e w' := by
 obtain ⟨j0, hj, hy0, hy1, hy2⟩ := info_parts infoInts
 obtain ⟨a1, n1, c1, a2, n2, c2, a3, n3, c3, F1, F2, F3, rfl, h1, h2, h3, _⟩ := h
 have hn1 : n1 ≤ 1048576 := by rw [← h1.length]; exact hf.hist
 have hn2 : n2 ≤ 1048576 := by rw [← h2.length]; exact hf.regs
 have hn3 : n3 ≤ 1048576 := by rw [← h3.length]; exact hf.rows
 have HL : Hid (s.rows.length = n3 ∧ ∀ z ∈ s.rows, z.length ≤ 1048576) := ⟨h3.length, fun z hz => hf.row z hz⟩
 have HR : Hid (RdI w a1 n1 s.hist F1 ∧ RdI w a2 n2 s.regs F2 ∧ RdII w a3 n3 s.rows F3) := ⟨h1, h2, h3⟩
 have HT : Hid (_ ∧ _ ∧ _) := two_made w #[.int .i64 s.count, .int .i64 s.sum, .int .i64 s.min, .int .i64 s.max, .slice a1 n1 c1, .slice a2 n2 c2, .slice a3 n3 c3] #[.int .i64 0, .int .i64 0, .int .i64 0, .int .i64 0, .slice none 0 0, .slice none 0 0, .slice none 0 0] 31 31
 clear h1 h2 h3 hf
 go_enter Tryz.func83, Tryz.ntmps83
 go_wp2_with fail
 refine (copiedList_all a1 n1 c1 s.hist F1 _ (HR.out.1.below HT.out.2.2) hn1).mono ?_
 rintro e w1 ⟨b1, m1, d1, G1, rfl, r1, o1, B1⟩
 obtain rfl : n1 = m1 := by rw [← r1.length]; exact HR.out.1.length.symm
 have HS1 : Hid (Blk w1 w.heap.size #[.int .i64 s.count, .int .i64 s.sum, .int .i64 s.min, .int .i64 s.max, .slice a1 n1 c1, .slice a2 n2 c2, .slice a3 n3 c3] 31 ∧ Blk w1 (w.heap.size + 1) #[.int .i64 0, .int .i64 0, .int .i64 0, .int .i64 0, .slice none 0 0, .slice none 0 0, .slice none 0 0] 31 ∧ Below w.heap.size w w1) := ⟨HT.out.1.below B1, HT.out.2.1.below B1, Below.next HT.out.2.2 B1⟩
 have ge1 := HT.out.2.1.lt
 have HQ1 : Hid (RdI w1 b1 n1 s.hist G1 ∧ Own (w.heap.size + 2) w1 G1) := ⟨r1, o1.mono ge1⟩
 have c14 := HS1.out.1.cell 4
 have f14 := HS1.out.1.frozen 4
 have c15 := HS1.out.1.cell 5
 simp only [aT, aS, aZ] at c14 c15
 clear r1 o1 B1 HT ge1
 go_wp2_with fail
 obtain ⟨W2, hW2⟩ : ∃ W2, W2 = w1.setCell ⟨w.heap.size, 4, none⟩ (.slice b1 n1 d1) := ⟨_, rfl⟩
 have nn1 : w.heap.size ∉ G1 := fun hx => by have := HQ1.out.2.ge _ hx; omega
 have HS2 : Hid (Blk W2 w.heap.size #[.int .i64 s.count, .int .i64 s.sum, .int .i64 s.min, .int .i64 s.max, .slice b1 n1 d1, .slice a2 n2 c2, .slice a3 n3 c3] 31 ∧ Blk W2 (w.heap.size + 1) #[.int .i64 0, .int .i64 0, .int .i64 0, .int .i64 0, .slice none 0 0, .slice none 0 0, .slice none 0 0] 31 ∧ Below w.heap.size w W2) := by
  rw [hW2]
  exact ⟨HS1.out.1.set 4 _, HS1.out.2.1.setOther (by omega) 4 _, HS1.out.2.2.setCell (by show w.heap.size ≤ w.heap.size; omega) _⟩
 have HQ2 : Hid (RdI W2 b1 n1 s.hist G1 ∧ Own (w.heap.size + 2) W2 G1) := by
  rw [hW2]
  exact ⟨HQ1.out.1.agree (.set nn1 4 _), HQ1.out.2.agree (.set nn1 4 _)⟩
 rw [← hW2]
 clear hW2 nn1 c14 f14 c15 HS1 HQ1
 refine (copiedList_all a2 n2 c2 s.regs F2 _ (HR.out.2.1.below HS2.out.2.2) hn2).mono ?_
 rintro e w3 ⟨b2, m2, d2, G2, rfl, r2, o2, B3⟩
 obtain rfl : n2 = m2 := by rw [← r2.length]; exact HR.out.2.1.length.symm
 have HS3 : Hid (Blk w3 w.heap.size #[.int .i64 s.count, .int .i64 s.sum, .int .i64 s.min, .int .i64 s.max, .slice b1 n1 d1, .slice a2 n2 c2, .slice a3 n3 c3] 31 ∧ Blk w3 (w.heap.size + 1) #[.int .i64 0, .int .i64 0, .int .i64 0, .int .i64 0, .slice none 0 0, .slice none 0 0, .slice none 0 0] 31 ∧ Below w.heap.size w w3) := ⟨HS2.out.1.below B3, HS2.out.2.1.below B3, Below.next HS2.out.2.2 B3⟩
 have HQ3 : Hid (RdI w3 b1 n1 s.hist G1 ∧ RdI w3 b2 n2 s.regs G2 ∧ Own (w.heap.size + 2) w3 (G1 ++ G2)) := ⟨HQ2.out.1.below B3, r2, (HQ2.out.2.below HQ2.out.1.lt B3).join o2 HQ2.out.1.lt (by have := HS2.out.2.1.lt; omega)⟩
 have c15 := HS3.out.1.cell 5
 have f15 := HS3.out.1.frozen 5
 have c16 := HS3.out.1.cell 6
 simp only [aT, aS, aZ] at c15 c16
 clear r2 o2 B3 HS2 HQ2
 go_wp2
 obtain ⟨W4, hW4⟩ : ∃ W4, W4 = w3.setCell ⟨w.heap.size, 5, none⟩ (.slice b2 n2 d2) := ⟨_, rfl⟩
 have nn2 : w.heap.size ∉ G1 ++ G2 := fun hx => by have := HQ3.out.2.2.ge _ hx; omega
 have HC0 : Hid (CpSt w #[.int .i64 s.count, .int .i64 s.sum, .int .i64 s.min, .int .i64 s.max, .slice b1 n1 d1, .slice b2 n2 d2, .slice a3 n3 c3] #[.int .i64 0, .int .i64 0, .int .i64 0, .int .i64 0, .slice none 0 0, .slice none 0 0, .slice none 0 0] s b1 b2 n1 n2 G1 G2 W4.heap.size 0 (.slice none 0 0) [] [] W4) := by
  rw [hW4]
  have ag : Agree w3 (w3.setCell ⟨w.heap.size, 5, none⟩ (.slice b2 n2 d2)) (G1 ++ G2) := .set nn2 5 _
  exact ⟨HS3.out.1.set 5 _, HS3.out.2.1.setOther (by omega) 5 _, HS3.out.2.2.setCell (by show w.heap.size ≤ w.heap.size; omega) _, HQ3.out.1.agree ag.left, HQ3.out.2.1.agree ag.right, HQ3.out.2.2.agree ag, fun b hb => by have := (List.mem_append.1 hb).elim (HQ3.out.1.lt b) (HQ3.out.2.1.lt b); simpa using this, ⟨rfl, .inl ⟨rfl, rfl⟩⟩, by simp [RdS], Own.nil, fun b hb => (by cases hb), by have := HS3.out.2.1.lt; have e : (w3.setCell ⟨w.heap.size, 5, none⟩ (.slice b2 n2 d2)).heap.size = w3.heap.size := (by simp); omega, Nat.le_refl _⟩
 rw [← hW4]
 have HM : Hid (∀ W k, Below w.heap.size w W → k < n3 → ∃ pp qq ak nk ck Yk, a3 = some ⟨pp, qq, none⟩ ∧ W.cell? ⟨pp, qq + k, none⟩ = some (.slice ak nk ck) ∧ RdI W ak nk (s.rows.getD k []) Yk ∧ nk ≤ 1048576) := fun W k hb hk => by
  rcases HR.out.2.2.cells with ⟨h0, _⟩ | ⟨pp, qq, F', _, e, _, hm⟩
  ·
   omega
  obtain ⟨ak, nk, ck, Yk, hck, hrk, _⟩ := RdII.row hm HL.out.1 k hk
  have h4 : nk ≤ 1048576 := by rw [← hrk.length]; exact HL.out.2 _ (mem_getD (d := []) (by rw [HL.out.1]; exact hk))
  exact ⟨pp, qq, ak, nk, ck, Yk, e, (hb.cell (World.block_lt_of_cell? _ _ hck)).trans hck, hrk.below hb, h4⟩
 clear hW4 nn2 c15 f15 c16 HS3 HQ3 HR
 go_loopw [3, 17] (fun q i wr => ∃ (k : Nat) (v : Value) (vs : List Value) (GG : List Nat), k ≤ n3 ∧ i = .int .i64 k ∧ v = q ∧ Hid (CpSt w #[.int .i64 s.count, .int .i64 s.sum, .int .i64 s.min, .int .i64 s.max, .slice b1 n1 d1, .slice b2 n2 d2, .slice a3 n3 c3] #[.int .i64 0, .int .i64 0, .int .i64 0, .int .i64 0, .slice none 0 0, .slice none 0 0, .slice none 0 0] s b1 b2 n1 n2 G1 G2 W4.heap.size k v vs GG wr)) (fun _ i _ => n3 - (intOf i).toNat)
 case atStart => exact ⟨0, _, [], [], by omega, rfl, rfl, HC0⟩
 case round =>
  clear HC0
  obtain ⟨k, v, vs, GG, hk, rfl, rfl, CSS⟩ := hrel
  by_cases hlt : k < n3
  ·
   have hI : (k : Int) < (n3 : Int) := by omega
   obtain ⟨pp, qq, ak0, nk0, ck, Yk, rfl, hck, hrk, hnk⟩ := HM.out wr k CSS.out.bel hlt
   have HQ : Hid (RdI wr ak0 nk0 (s.rows.getD k []) Yk) := hrk
   clear hrk
   go_wp2_with fail
   refine (copiedList_all ak0 nk0 ck (s.rows.getD k []) Yk _ HQ.out hnk).mono ?_
   rintro e w5 ⟨ak, nk, dk, Fk, rfl, rk, ok, Bk⟩
   have CS5 : Hid (CpSt w #[.int .i64 s.count, .int .i64 s.sum, .int .i64 s.min, .int .i64 s.max, .slice b1 n1 d1, .slice b2 n2 d2, .slice (some ⟨pp, qq, none⟩) n3 c3] #[.int .i64 0, .int .i64 0, .int .i64 0, .int .i64 0, .slice none 0 0, .slice none 0 0, .slice none 0 0] s b1 b2 n1 n2 G1 G2 W4.heap.size k v vs GG w5) := CSS.out.below Bk
   have HK : Hid (RdI w5 ak nk (s.rows.getD k []) Fk ∧ Own wr.heap.size w5 Fk ∧ (∀ b ∈ GG, b < wr.heap.size) ∧ (∀ b, v.ownBlock = some b → b < wr.heap.size) ∧ W4.heap.size ≤ wr.heap.size) := ⟨rk, ok, CSS.out.rd.lt, fun b hb => (CSS.out.row.lt b hb).2, CSS.out.lw⟩
   clear rk ok Bk hck CSS HQ
   go_wp2_with (with_reducible refine stopAppend rfl ?_)
   obtain ⟨W6, hW6⟩ : ∃ W, W = w5.alloc (.cells #[.slice ak nk dk] 28) := ⟨_, rfl⟩
   have hbn : Below w5.heap.size w5 W6 := by rw [hW6]; exact (Below.refl _ _).alloc (Nat.le_refl _) _
   have HCN : Hid (∀ (j : Nat) (x : Value), [Value.slice ak nk dk][j]? = some x → W6.cell? ((⟨w5.heap.size, 0, none⟩ : Addr).add j) = some x) := by rw [hW6]; exact cell_new1 _ _ _
   have CS6 : Hid (CpSt w #[.int .i64 s.count, .int .i64 s.sum, .int .i64 s.min, .int .i64 s.max, .slice b1 n1 d1, .slice b2 n2 d2, .slice (some ⟨pp, qq, none⟩) n3 c3] #[.int .i64 0, .int .i64 0, .int .i64 0, .int .i64 0, .slice none 0 0, .slice none 0 0, .slice none 0 0] s b1 b2 n1 n2 G1 G2 W4.heap.size k v vs GG W6) := CS5.out.below hbn
   have HK6 : Hid (RdI W6 ak nk (s.rows.getD k []) Fk ∧ Own wr.heap.size W6 Fk) := ⟨HK.out.1.below hbn, HK.out.2.1.below HK.out.1.lt hbn⟩
   rw [← hW6]
   clear hW6 hbn CS5
   refine Stop.intro (wpList_append_lies _ rfl _ _ 29 rfl W4.heap.size 28 j0 (.slice none 0 0) 1 24 Tryz.underlying29 hj hy0 hy1 hy2 rfl (by decide) v k vs rfl CS6.out.row ⟨w5.heap.size, 0, none⟩ 1 1 [.slice ak nk dk] rfl rfl HCN.out (by simp [Value.oneCell']) (by omega) (by unfold maxLen; omega) (by omega) CS6.out.lw _ rfl ?_)
   intro g4 cp4 W7 hown hgrow hat hlt7
   have CS7 : Hid (CpSt w #[.int .i64 s.count, .int .i64 s.sum, .int .i64 s.min, .int .i64 s.max, .slice b1 n1 d1, .slice b2 n2 d2, .slice (some ⟨pp, qq, none⟩) n3 c3] #[.int .i64 0, .int .i64 0, .int .i64 0, .int .i64 0, .slice none 0 0, .slice none 0 0, .slice none 0 0] s b1 b2 n1 n2 G1 G2 W4.heap.size (k + 1) (.slice (some ⟨g4, 0, none⟩) (k + 1) cp4) (vs ++ [.slice ak nk dk]) (GG ++ Fk) W7) := CS6.out.step HK6.out.1 HK6.out.2 HK.out.2.2.1 HK.out.2.2.2.1 HK.out.2.2.2.2 hown hgrow hat (by rw [HL.out.1]; exact hlt)
   clear hown hgrow hat hlt7 CS6 HK6 HK HCN
   go_wp2
   go_roundw
   case rel => exact ⟨k + 1, _, _, _, by omega, by go_num, rfl, CS7⟩
   case measure => simp [intOf]; omega
  ·
   obtain rfl : k = n3 := by omega
   obtain ⟨ar, cr, FR, rfl, rr, own⟩ := CSS.out.rows
   rw [List.take_of_length_le (by rw [HL.out.1]; omega)] at rr
   have HO : Hid (RdII wr ar k s.rows FR ∧ Own (w.heap.size + 2) wr (G1 ++ (G2 ++ FR))) := ⟨rr, own⟩
   have c16 := CSS.out.box.cell 6
   have f16 := CSS.out.box.frozen 6
   simp only [aT, aS, aZ] at c16
   clear rr own hlt HM
   go_wp2_with (first | go_skip | (with_reducible refine stopLoad 31 rfl ?_))
   obtain ⟨W8, hW8⟩ : ∃ W, W = wr.setCell ⟨w.heap.size, 6, none⟩ (.slice ar k cr) := ⟨_, rfl⟩
   have nG : w.heap.size ∉ G1 ++ (G2 ++ FR) := fun hx => by have := HO.out.2.ge _ hx; omega
   have H8 : Hid (Blk W8 w.heap.size #[.int .i64 s.count, .int .i64 s.sum, .int .i64 s.min, .int .i64 s.max, .slice b1 n1 d1, .slice b2 n2 d2, .slice ar k cr] 31 ∧ Blk W8 (w.heap.size + 1) #[.int .i64 0, .int .i64 0, .int .i64 0, .int .i64 0, .slice none 0 0, .slice none 0 0, .slice none 0 0] 31 ∧ Below w.heap.size w W8) := by
    rw [hW8]
    exact ⟨CSS.out.box.set 6 _, CSS.out.res.setOther (by omega) 6 _, CSS.out.bel.setCell (by show w.heap.size ≤ w.heap.size; omega) _⟩
   have R8 : Hid (RdI W8 b1 n1 s.hist G1 ∧ RdI W8 b2 n2 s.regs G2 ∧ RdII W8 ar k s.rows FR ∧ Own (w.heap.size + 2) W8 (G1 ++ (G2 ++ FR))) := by
    rw [hW8]
    have ag : Agree wr (wr.setCell ⟨w.heap.size, 6, none⟩ (.slice ar k cr)) (G1 ++ (G2 ++ FR)) := .set nG 6 _
    exact ⟨CSS.out.r1.agree ag.left, CSS.out.r2.agree ag.right.left, HO.out.1.agree ag.right.right, HO.out.2.agree ag⟩
   rw [← hW8]
   clear hW8 nG c16 f16 CSS HO
   refine load_known 31 w.heap.size #[.int .i64 s.count, .int .i64 s.sum, .int .i64 s.min, .int .i64 s.max, .slice b1 n1 d1, .slice b2 n2 d2, .slice ar k cr] 31 _ H8.out.1 rfl rfl rfl Tryz.underlying31 rfl (by kernel_rfl) ?_
   go_wp2_with (first | go_skip | (with_reducible refine stopStore 31 rfl ?_))
   refine store_known 31 (w.heap.size + 1) _ #[.int .i64 s.count, .int .i64 s.sum, .int .i64 s.min, .int .i64 s.max, .slice b1 n1 d1, .slice b2 n2 d2, .slice ar k cr] 31 H8.out.2.1 rfl rfl rfl rfl (by kernel_rfl) rfl (by kernel_rfl) ?_
   go_wp2
   refine bodyPost_ret (results_cell_row Tryz.results83 _ _ (w.heap.size + 1) _ _ _ _ rfl H8.out.2.1.setRow Tryz.underlying31 rfl (by kernel_rfl)) rfl ?_
   have nr : w.heap.size + 1 ∉ G1 ++ (G2 ++ FR) := fun hx => by have := R8.out.2.2.2.ge _ hx; omega
   have ag : Agree W8 (W8.setRow (w.heap.size + 1) #[.int .i64 s.count, .int .i64 s.sum, .int .i64 s.min, .int .i64 s.max, .slice b1 n1 d1, .slice b2 n2 d2, .slice ar k cr]) (G1 ++ (G2 ++ FR)) := fun b hb => setRow_other W8 _ b _ (fun e => nr (e ▸ hb))
   exact ⟨_, G1 ++ (G2 ++ FR), rfl, ⟨b1, n1, d1, b2, n2, d2, ar, k, cr, G1, G2, FR, rfl, R8.out.1.agree ag.left, R8.out.2.1.agree ag.right.left, R8.out.2.2.1.agree ag.right.right, rfl⟩, (R8.out.2.2.2.agree ag).mono (by omega), below_setRow H8.out.2.2 (by omega) _⟩
end
section
open Go.RowKit
theorem lay1_apart {o : Sp} {x : Int × Int} (h : o = [] ∨ (o.at (o.length - 1)).2 + 1 < x.1) : lay1 o x = o ++ [x] := by unfold lay1; rw [if_pos h]
theorem lay1_widen {o : Sp} {x : Int × Int} (h : ¬ (o = [] ∨ (o.at (o.length - 1)).2 + 1 < x.1)) : lay1 o x = o.take (o.length - 1) ++ [((o.at (o.length - 1)).1, max (o.at (o.length - 1)).2 x.2)] := by unfold lay1; rw [if_neg h]
theorem lay_drop {o xs : Sp} {k : Nat} (hk : k < xs.length) : lay o (xs.drop k) = lay (lay1 o (xs.at k)) (xs.drop (k + 1)) := by rw [drop_at hk]; rfl
theorem lay1_inb {o : Sp} {x : Int × Int} (h : ∀ p ∈ o, InB p) (hx : InB x) : ∀ p ∈ lay1 o x, InB p := by
 intro p hp
 unfold lay1 at hp
 split at hp
 ·
  rcases List.mem_append.1 hp with hp | hp
  ·
   exact h p hp
  ·
   obtain rfl : p = x := by simpa using hp
   exact hx
 ·
  rename_i hc
  rcases List.mem_append.1 hp with hp | hp
  ·
   exact h p (List.mem_of_mem_take hp)
  ·
   have e : p = ((o.at (o.length - 1)).1, max (o.at (o.length - 1)).2 x.2) := by simpa using hp
   have hne : 0 < o.length := List.length_pos_iff.2 (fun e => hc (.inl e))
   have := h _ (Sp.at_mem (ps := o) (k := o.length - 1) (by omega))
   subst e
   unfold InB at this hx ⊢
   simp only
   omega
theorem lay1_length (o : Sp) (x : Int × Int) : (lay1 o x).length ≤ o.length + 1 := by
 unfold lay1
 split
 ·
  simp
 ·
  simp
theorem lay_length : ∀ (xs o : Sp), (lay o xs).length ≤ o.length + xs.length
 | [], o => by simp [lay]
 | x :: xs, o => by
  have h1 := lay_length xs (lay1 o x)
  have h2 := lay1_length o x
  rw [show lay o (x :: xs) = lay (lay1 o x) xs from rfl]
  simp
  omega
theorem lay_inb : ∀ {xs o : Sp}, (∀ p ∈ o, InB p) → (∀ p ∈ xs, InB p) → ∀ p ∈ lay o xs, InB p
 | [], _, h, _ => h
 | x :: xs, o, h, hx => lay_inb (xs := xs) (lay1_inb h (hx x (by simp))) (fun p hp => hx p (by simp [hp]))
theorem flat_widen {o : Sp} {m : Nat} (hm : o.length = m + 1) (z : Int) : flat (o.take m ++ [((o.at m).1, z)]) = (flat o).set (m * 2 + 1) z := by
 have e : o = o.take m ++ [o.at m] := by
  have := takeP_succ o m (by omega)
  rw [List.take_of_length_le (by omega)] at this
  exact this
 have hl : (flat (o.take m)).length = m * 2 := by rw [flat_length]; simp; omega
 conv => rhs; rw [e]
 rw [flat_append, flat_append, List.set_append_right (m * 2 + 1) _ (by omega), hl, show m * 2 + 1 - m * 2 = 1 by omega]
 simp [flat]
structure LayAt (w : World) (B : Nat) (v0 v : Value) (o : Sp) (W : World) : Prop where
 own : W.ownsRow B 74 2 v o.length ((flat o).map (Value.int .i64))
 grown : w.grownBy W v0.ownBlock
 fresh : v.ownBlock = v0.ownBlock ∨ ∀ g, v.ownBlock = some g → w.heap.size ≤ g
theorem LayAt.alloc {w W : World} {B : Nat} {v0 v : Value} {o : Sp} (h : LayAt w B v0 v o W) (ob : Obj) : LayAt w B v0 v o (W.alloc ob) :=
 ⟨h.own.alloc _, ⟨h.grown.os, h.grown.tape, h.grown.output, by have := h.grown.size; simp; omega, fun k hk hne => (Below.heap_alloc W ob k (by have := h.grown.size; omega)).trans (h.grown.block k hk hne)⟩, h.fresh⟩
theorem LayAt.drewN {w W : World} {B : Nat} {v0 v : Value} {o : Sp} (h : LayAt w B v0 v o W) (m : Nat) : LayAt w B v0 v o (W.drewN m) :=
 ⟨⟨h.own.1, h.own.2⟩, ⟨h.grown.os, h.grown.tape, h.grown.output, h.grown.size, h.grown.block⟩, h.fresh⟩
theorem LayAt.app {w W W6 : World} {B : Nat} {v0 v v' : Value} {o : Sp} {p q : Int} {ob : Obj} (h : LayAt w B v0 v o W) (hown : W6.ownsRow B 74 2 v' (o.length + 1) ((flat o).map (Value.int .i64) ++ [.int .i64 p, .int .i64 q])) (hgrow : (W.alloc ob).grownBy W6 v.ownBlock) (hob : v'.ownBlock = v.ownBlock ∨ v'.ownBlock = some (W.alloc ob).heap.size) : LayAt w B v0 v' (o ++ [(p, q)]) W6 := by
 have ha := h.alloc ob
 refine ⟨?_, ⟨hgrow.os.trans ha.grown.os, hgrow.tape.trans ha.grown.tape, hgrow.output.trans ha.grown.output, Nat.le_trans ha.grown.size hgrow.size, fun k hk hne => ?_⟩, ?_⟩
 ·
  rw [flat_append, List.map_append, List.length_append]
  exact hown
 ·
  refine (hgrow.block k (Nat.lt_of_lt_of_le hk ha.grown.size) (fun e => ?_)).trans (ha.grown.block k hk hne)
  rcases h.fresh with f | f
  ·
   exact hne (e.trans f)
  ·
   have := f k e.symm; omega
 ·
  rcases hob with e | e
  ·
   rw [e]; exact h.fresh
  ·
   right
   intro g hg
   rw [e] at hg
   cases hg
   exact ha.grown.size
theorem LayAt.widen {w W : World} {B g n cap m : Nat} {v0 : Value} {o : Sp} (h : LayAt w B v0 (.slice (some ⟨g, 0, none⟩) n cap) o W) (hm : o.length = m + 1) (z : Int) : LayAt w B v0 (.slice (some ⟨g, 0, none⟩) n cap) (o.take m ++ [((o.at m).1, z)]) (W.setCell ⟨g, m * 2 + 1, none⟩ (.int .i64 z)) := by
 refine ⟨?_, ⟨h.grown.os, h.grown.tape, h.grown.output, by have := h.grown.size; simp; omega, fun k hk hne => ?_⟩, h.fresh⟩
 ·
  have hl : (o.take m ++ [((o.at m).1, z)]).length = o.length := by simp; omega
  rw [hl, flat_widen hm]
  refine ⟨by have := h.own.1; simpa using this, ?_⟩
  rcases h.own.2 with ⟨e, _⟩ | ⟨g', cap', cur, e, h2, h3, h4, h5, h6, h7⟩
  ·
   cases e
  ·
   cases e
   refine .inr ⟨g, cap, cur.setIfInBounds (m * 2 + 1) (.int .i64 z), rfl, h2, ?_, h4, h5, by simpa using h6, ?_⟩
   ·
    exact Blk.set (w := W) (g := g) (cs := cur) h3 (m * 2 + 1) _
   ·
    rw [Array.toList_setIfInBounds, List.take_set, h7]
    simp
 ·
  have hg : k ≠ g := by
   rintro rfl
   rcases h.fresh with f | f
   ·
    exact hne f
   ·
    have := f k rfl; omega
  exact (Below.heap_setCell W ⟨g, m * 2 + 1, none⟩ _ k hg).trans (h.grown.block k hk hne)
theorem LayAt.cells {w W : World} {B g n cap : Nat} {v0 : Value} {o : Sp} (h : LayAt w B v0 (.slice (some ⟨g, 0, none⟩) n cap) o W) {m : Nat} (hm : m < o.length) : W.cell? ⟨g, m * 2, none⟩ = some (.int .i64 (o.at m).1) ∧ W.cell? ⟨g, m * 2 + 1, none⟩ = some (.int .i64 (o.at m).2) ∧ ∀ j, W.frozen? ⟨g, j, none⟩ = false := by
 have hn : o.length = n := by
  rcases h.own.2 with ⟨e, _⟩ | ⟨g', cap', cur, e, _⟩
  ·
   cases e
  ·
   cases e; rfl
 have own := h.own
 rw [hn] at own
 have hl := flat_length o
 have e1 := own.cellAt (m * 2) (by omega)
 have e2 := own.cellAt (m * 2 + 1) (by omega)
 refine ⟨?_, ?_, fun j => own.frozenAt j⟩
 ·
  rw [e1]
  have := flat_lo o m
  rw [show 2 * m = m * 2 by omega, List.getElem?_eq_getElem (by omega)] at this
  simp only [List.getElem?_map, List.getElem?_eq_getElem (show m * 2 < (flat o).length by omega), Option.map_some]
  unfold Sp.at
  rw [← this]; rfl
 ·
  rw [e2]
  have := flat_hi o m
  rw [show 2 * m = m * 2 by omega, List.getElem?_eq_getElem (by omega)] at this
  simp only [List.getElem?_map, List.getElem?_eq_getElem (show m * 2 + 1 < (flat o).length by omega), Option.map_some]
  unfold Sp.at
  rw [← this]; rfl
end
section
set_option maxRecDepth 200000
set_option maxHeartbeats 16000000
open Go.RowKit
theorem own_cases {W : World} {B e n : Nat} {v : Value} {xs : List Value} (h : W.ownsRow B e 2 v n xs) : (v = .slice none 0 0 ∧ n = 0) ∨ ∃ g cap n', v = .slice (some ⟨g, 0, none⟩) n' cap ∧ n' = n ∧ n ≤ cap := by
 rcases h.2 with e | ⟨g, cap, cur, e, _, _, h4, _⟩
 ·
  exact .inl e
 ·
  exact .inr ⟨g, cap, n, e, rfl, h4⟩
theorem laid_any (B : Nat) (v0 : Value) (o0 : Sp) (a : Option Addr) (len cap : Nat) (xs : Sp) (F : List Nat) (w : World) (hown : w.ownsRow B 74 2 v0 o0.length ((flat o0).map (Value.int .i64))) (hB : B ≤ w.heap.size) (h : RdP w a len xs F) (hF : ∀ b ∈ F, some b ≠ v0.ownBlock) (hlen : o0.length + len ≤ 4194304) (ho : ∀ p ∈ o0, InB p) (hx : ∀ p ∈ xs, InB p) :
 Calls Tryz.prog 157 #[v0, .slice a len cap] w fun e w' => ∃ v, e = .returned v ∧ LayAt w B v0 v (lay o0 xs) w' := by
 obtain ⟨t0, hi, hz0, hz1, hz2⟩ := info_parts infoSpan
 have HL : Hid (xs.length = len) := h.length
 have HIN : Hid (∀ p ∈ xs, InB p) := hx
 have HP0 : Hid (LayAt w B v0 v0 o0 w) := ⟨hown, ⟨rfl, rfl, rfl, Nat.le_refl _, fun _ _ _ => rfl⟩, .inl rfl⟩
 have HI0 : Hid (∀ p ∈ o0, InB p) := ho
 have HC : Hid (len = 0 ∨ ∃ b off, a = some ⟨b, off, none⟩ ∧ (b < w.heap.size ∧ some b ≠ v0.ownBlock) ∧ SpCells w b off len xs) := by
  rcases h.cells with ⟨h0, _⟩ | ⟨b, off, hp, e, hFb, hc⟩
  ·
   exact .inl h0
  ·
   exact .inr ⟨b, off, e, ⟨World.block_lt_of_cell? _ _ (hc 0 hp).1, hF b (by rw [hFb]; simp)⟩, hc⟩
 clear h hown hF ho hx
 go_enter Tryz.func157, Tryz.ntmps157
 go_wp2
 go_loopw [0, 10] (fun v i wr => ∃ (k : Nat) (o : Sp), k ≤ len ∧ i = .int .i64 k ∧ o.length ≤ o0.length + k ∧ Hid (LayAt w B v0 v o wr) ∧ Hid (∀ p ∈ o, InB p) ∧ Hid (lay o (xs.drop k) = lay o0 xs)) (fun _ i _ => len - (intOf i).toNat)
 case atStart => exact ⟨0, o0, by omega, rfl, by omega, HP0, HI0, rfl⟩
 case round =>
  clear HP0 HI0
  obtain ⟨k, o, hk, rfl, hol, HP, HI, HN⟩ := hrel
  by_cases hlt : k < len
  ·
   have hca := HC.out
   rcases hca with h0 | ⟨b, off, rfl, hbw, hc⟩
   ·
    omega
   obtain ⟨x, hx⟩ : ∃ x, x = (xs.at k).1 := ⟨_, rfl⟩
   obtain ⟨y, hy⟩ : ∃ x, x = (xs.at k).2 := ⟨_, rfl⟩
   have e := hc k hlt
   have hkl : k < xs.length := by rw [HL.out]; exact hlt
   have hb := HIN.out _ (Sp.at_mem hkl)
   have HXY : Hid (xs.at k = (x, y)) := by rw [hx, hy]; rfl
   rw [HXY.out] at hb e
   have HINX : Hid (InB (x, y)) := hb
   obtain ⟨⟨x0, x1⟩, y0, y1⟩ := hb
   have hblk := HP.out.grown.block b hbw.1 hbw.2
   have d1 : wr.cell? ⟨b, off + k * 2, none⟩ = some (.int .i64 x) := (World.cell?_of_block (w := w) (a := ⟨b, off + k * 2, none⟩) hblk).trans e.1
   have d2 : wr.cell? ⟨b, off + k * 2 + 1, none⟩ = some (.int .i64 y) := (World.cell?_of_block (w := w) (a := ⟨b, off + k * 2 + 1, none⟩) hblk).trans e.2
   have hI : (k : Int) < (len : Int) := by omega
   have HBW : Hid (B ≤ wr.heap.size) := Nat.le_trans hB HP.out.grown.size
   clear e hx hy hc hblk
   have hos := own_cases HP.out.own
   rcases hos with ⟨rfl, h0⟩ | ⟨g, cp, nn, rfl, hnn, hcp⟩
   ·
    have HLA : Hid (lay1 o (x, y) = o ++ [(x, y)]) := lay1_apart (.inl (List.eq_nil_of_length_eq_zero h0))
    have HN2 : Hid (lay (o ++ [(x, y)]) (xs.drop (k + 1)) = lay o0 xs) := by
     rw [lay_drop hkl, HXY.out, HLA.out] at HN
     exact HN
    have HI2 : Hid (∀ p ∈ o ++ [(x, y)], InB p) := by rw [← HLA.out]; exact lay1_inb HI.out HINX.out
    go_wp2
    go_quiet (fail)
    obtain ⟨wq, hwq⟩ : ∃ W, W = (wr.alloc (.cells #[.int .i64 x, .int .i64 y] 74)).drewN nq := ⟨_, rfl⟩
    have HPq : Hid (LayAt w B v0 (.slice none 0 0) o wq) := by rw [hwq]; exact (HP.out.alloc _).drewN nq
    have b1 : wq.cell? ⟨wr.heap.size, 0, none⟩ = some (.int .i64 x) := by rw [hwq]; exact (Blk.made wr _ _).cell 0
    have b2 : wq.cell? ⟨wr.heap.size, 1, none⟩ = some (.int .i64 y) := by rw [hwq]; exact (Blk.made wr _ _).cell 1
    have HBq : Hid (B ≤ wq.heap.size) := by have := HBW.out; rw [hwq]; simp [World.drewN]; show _ ≤ _; omega
    rw [← hwq]
    clear hwq HP
    go_wp2_with (first | go_skip | (with_reducible refine stopAppend2 rfl ?_))
    refine Stop.intro (wpList_append_own_at _ rfl _ _ 27 rfl B 74 t0 (.agg #[.int .i64 0, .int .i64 0]) 2 16 Tryz.underlying27 hi hz0 hz1 hz2 rfl (by decide) _ (o).length ((flat (o)).map (Value.int .i64)) rfl (HPq.out.own.alloc _) ⟨wq.heap.size, 0, none⟩ 1 1 [.int .i64 x, .int .i64 y] rfl rfl (cell_new2 _ _ _ _) (by intro u hu; simp at hu; rcases hu with rfl | rfl <;> rfl) (by unfold maxLen; omega) (by omega) (by have := HBq.out; simp; omega) ?_)
    intro v2 w2 hown hgrow _ hob
    have HP2 : Hid (LayAt w B v0 v2 (o ++ [(x, y)]) w2) := HPq.out.app hown hgrow hob
    clear hown hgrow HPq hob
    go_wp2
    go_roundw
    case rel => exact ⟨k + 1, o ++ [(x, y)], by omega, by go_num, by simp; omega, HP2, HI2, HN2⟩
    case measure => simp [intOf]; omega
   have HNN : Hid (nn = o.length) := hnn
   clear hnn hcp
   rcases nn with _ | m
   ·
    have HLA : Hid (lay1 o (x, y) = o ++ [(x, y)]) := lay1_apart (.inl (List.eq_nil_of_length_eq_zero HNN.out.symm))
    have HN2 : Hid (lay (o ++ [(x, y)]) (xs.drop (k + 1)) = lay o0 xs) := by
     rw [lay_drop hkl, HXY.out, HLA.out] at HN
     exact HN
    have HI2 : Hid (∀ p ∈ o ++ [(x, y)], InB p) := by rw [← HLA.out]; exact lay1_inb HI.out HINX.out
    go_wp2
    go_quiet (fail)
    obtain ⟨wq, hwq⟩ : ∃ W, W = (wr.alloc (.cells #[.int .i64 x, .int .i64 y] 74)).drewN nq := ⟨_, rfl⟩
    have HPq : Hid (LayAt w B v0 (.slice (some ⟨g, 0, none⟩) 0 cp) o wq) := by rw [hwq]; exact (HP.out.alloc _).drewN nq
    have b1 : wq.cell? ⟨wr.heap.size, 0, none⟩ = some (.int .i64 x) := by rw [hwq]; exact (Blk.made wr _ _).cell 0
    have b2 : wq.cell? ⟨wr.heap.size, 1, none⟩ = some (.int .i64 y) := by rw [hwq]; exact (Blk.made wr _ _).cell 1
    have HBq : Hid (B ≤ wq.heap.size) := by have := HBW.out; rw [hwq]; simp [World.drewN]; show _ ≤ _; omega
    rw [← hwq]
    clear hwq HP
    go_wp2_with (first | go_skip | (with_reducible refine stopAppend2 rfl ?_))
    refine Stop.intro (wpList_append_own_at _ rfl _ _ 27 rfl B 74 t0 (.agg #[.int .i64 0, .int .i64 0]) 2 16 Tryz.underlying27 hi hz0 hz1 hz2 rfl (by decide) _ (o).length ((flat (o)).map (Value.int .i64)) rfl (HPq.out.own.alloc _) ⟨wq.heap.size, 0, none⟩ 1 1 [.int .i64 x, .int .i64 y] rfl rfl (cell_new2 _ _ _ _) (by intro u hu; simp at hu; rcases hu with rfl | rfl <;> rfl) (by unfold maxLen; omega) (by omega) (by have := HBq.out; simp; omega) ?_)
    intro v2 w2 hown hgrow _ hob
    have HP2 : Hid (LayAt w B v0 v2 (o ++ [(x, y)]) w2) := HPq.out.app hown hgrow hob
    clear hown hgrow HPq hob
    go_wp2
    go_roundw
    case rel => exact ⟨k + 1, o ++ [(x, y)], by omega, by go_num, by simp; omega, HP2, HI2, HN2⟩
    case measure => simp [intOf]; omega
   have hm : o.length = m + 1 := HNN.out.symm
   obtain ⟨s, hs⟩ : ∃ x, x = (o.at m).1 := ⟨_, rfl⟩
   obtain ⟨t, ht⟩ : ∃ x, x = (o.at m).2 := ⟨_, rfl⟩
   have hcm := HP.out.cells (m := m) (by omega)
   have him := HI.out _ (Sp.at_mem (ps := o) (k := m) (by omega))
   unfold InB at him
   rw [← hs, ← ht] at hcm him
   have HST : Hid (o.at (o.length - 1) = (s, t)) := by rw [hm, show m + 1 - 1 = m by omega, hs, ht]; rfl
   obtain ⟨f1, f2, f3⟩ := hcm
   obtain ⟨⟨s0, s1⟩, t1, t2⟩ := him
   have HFZ : Hid (∀ j, wr.frozen? ⟨g, j, none⟩ = false) := f3
   have gd : decide ((m : Int) < 0) = false := decF (by omega)
   have hI3 : (m : Int) < (m : Int) + 1 := by omega
   have hM : m ≤ 4194304 := by omega
   have HNE : Hid (¬ o = []) := fun e => by rw [e] at hm; simp at hm
   have HM : Hid (o.length = m + 1) := hm
   clear hs ht f3 hm
   by_cases c : t + 1 < x
   ·
    have cd : decide (t + 1 < x) = true := decT c
    have HLA : Hid (lay1 o (x, y) = o ++ [(x, y)]) := lay1_apart (.inr (by rw [HST.out]; exact c))
    have HN2 : Hid (lay (o ++ [(x, y)]) (xs.drop (k + 1)) = lay o0 xs) := by
     rw [lay_drop hkl, HXY.out, HLA.out] at HN
     exact HN
    have HI2 : Hid (∀ p ∈ o ++ [(x, y)], InB p) := by rw [← HLA.out]; exact lay1_inb HI.out HINX.out
    go_wp2
    obtain ⟨wa, hwa⟩ : ∃ W, W = wr.alloc (.cells #[.int .i64 x, .int .i64 y] 74) := ⟨_, rfl⟩
    have HPa : Hid (LayAt w B v0 (.slice (some ⟨g, 0, none⟩) (m + 1) cp) o wa) := by rw [hwa]; exact HP.out.alloc _
    have a1 : wa.cell? ⟨wr.heap.size, 0, none⟩ = some (.int .i64 x) := by rw [hwa]; exact (Blk.made wr _ _).cell 0
    have a2 : wa.cell? ⟨wr.heap.size, 1, none⟩ = some (.int .i64 y) := by rw [hwa]; exact (Blk.made wr _ _).cell 1
    have a3 : wa.cell? ⟨g, m * 2 + 1, none⟩ = some (.int .i64 t) := by
     have e4 := (HPa.out.cells (m := m) (by have := HM.out; omega)).2.1
     have e5 := HST.out
     rw [HM.out, show m + 1 - 1 = m by omega] at e5
     rw [e5] at e4
     exact e4
    have HBa : Hid (B ≤ wa.heap.size) := by have := HBW.out; rw [hwa]; simp; show _ ≤ _; omega
    rw [← hwa]
    clear hwa HP f1 f2
    go_quiet (fail)
    obtain ⟨wq, hwq⟩ : ∃ W, W = wa.drewN nq := ⟨_, rfl⟩
    have HPq : Hid (LayAt w B v0 (.slice (some ⟨g, 0, none⟩) (m + 1) cp) o wq) := by rw [hwq]; exact HPa.out.drewN nq
    have b1 : wq.cell? ⟨wr.heap.size, 0, none⟩ = some (.int .i64 x) := by rw [hwq]; exact a1
    have b2 : wq.cell? ⟨wr.heap.size, 1, none⟩ = some (.int .i64 y) := by rw [hwq]; exact a2
    have HBq : Hid (B ≤ wq.heap.size) := by rw [hwq]; exact HBa.out
    rw [← hwq]
    clear hwq HPa a1 a2 a3
    go_wp2_with (first | go_skip | (with_reducible refine stopAppend2 rfl ?_))
    refine Stop.intro (wpList_append_own_at _ rfl _ _ 27 rfl B 74 t0 (.agg #[.int .i64 0, .int .i64 0]) 2 16 Tryz.underlying27 hi hz0 hz1 hz2 rfl (by decide) _ (o).length ((flat (o)).map (Value.int .i64)) rfl (HPq.out.own.alloc _) ⟨wq.heap.size, 0, none⟩ 1 1 [.int .i64 x, .int .i64 y] rfl rfl (cell_new2 _ _ _ _) (by intro u hu; simp at hu; rcases hu with rfl | rfl <;> rfl) (by unfold maxLen; omega) (by omega) (by have := HBq.out; simp; omega) ?_)
    intro v2 w2 hown hgrow _ hob
    have HP2 : Hid (LayAt w B v0 v2 (o ++ [(x, y)]) w2) := HPq.out.app hown hgrow hob
    clear hown hgrow HPq hob
    go_wp2
    go_roundw
    case rel => exact ⟨k + 1, o ++ [(x, y)], by omega, by go_num, by simp; omega, HP2, HI2, HN2⟩
    case measure => simp [intOf]; omega
   have cd : decide (t + 1 < x) = false := decF c
   have HLA : Hid (lay1 o (x, y) = o.take m ++ [((o.at m).1, max t y)]) := by
    have := lay1_widen (o := o) (x := (x, y)) (fun e => by rw [HST.out] at e; exact e.elim HNE.out c)
    show _ = _
    rw [this, HST.out, HM.out, show m + 1 - 1 = m by omega]
    have e2 := HST.out
    rw [HM.out, show m + 1 - 1 = m by omega] at e2
    rw [e2]
   have HN2 : Hid (lay (o.take m ++ [((o.at m).1, max t y)]) (xs.drop (k + 1)) = lay o0 xs) := by
    rw [lay_drop hkl, HXY.out, HLA.out] at HN
    exact HN
   have HI2 : Hid (∀ p ∈ o.take m ++ [((o.at m).1, max t y)], InB p) := by rw [← HLA.out]; exact lay1_inb HI.out HINX.out
   go_wp2
   obtain ⟨wa, hwa⟩ : ∃ W, W = wr.alloc (.cells #[.int .i64 x, .int .i64 y] 74) := ⟨_, rfl⟩
   have HPa : Hid (LayAt w B v0 (.slice (some ⟨g, 0, none⟩) (m + 1) cp) o wa) := by rw [hwa]; exact HP.out.alloc _
   have a1 : wa.cell? ⟨wr.heap.size, 0, none⟩ = some (.int .i64 x) := by rw [hwa]; exact (Blk.made wr _ _).cell 0
   have a2 : wa.cell? ⟨wr.heap.size, 1, none⟩ = some (.int .i64 y) := by rw [hwa]; exact (Blk.made wr _ _).cell 1
   have a3 : wa.cell? ⟨g, m * 2 + 1, none⟩ = some (.int .i64 t) := by
    have e4 := (HPa.out.cells (m := m) (by have := HM.out; omega)).2.1
    have e5 := HST.out
    rw [HM.out, show m + 1 - 1 = m by omega] at e5
    rw [e5] at e4
    exact e4
   have HBa : Hid (B ≤ wa.heap.size) := by have := HBW.out; rw [hwa]; simp; show _ ≤ _; omega
   rw [← hwa]
   clear hwa HP f1 f2
   go_quiet (fail)
   obtain ⟨wq, hwq⟩ : ∃ W, W = wa.drewN nq := ⟨_, rfl⟩
   have HPq : Hid (LayAt w B v0 (.slice (some ⟨g, 0, none⟩) (m + 1) cp) o wq) := by rw [hwq]; exact HPa.out.drewN nq
   have b1 : wq.cell? ⟨wr.heap.size, 0, none⟩ = some (.int .i64 x) := by rw [hwq]; exact a1
   have b2 : wq.cell? ⟨wr.heap.size, 1, none⟩ = some (.int .i64 y) := by rw [hwq]; exact a2
   have hcq := HPq.out.cells (m := m) (by have := HM.out; omega)
   have e3 := HST.out
   rw [HM.out, show m + 1 - 1 = m by omega] at e3
   rw [e3] at hcq
   obtain ⟨f1, f2, f3⟩ := hcq
   have f4 := f3 (m * 2 + 1)
   rw [← hwq]
   have HPw : Hid (LayAt w B v0 (.slice (some ⟨g, 0, none⟩) (m + 1) cp) (o.take m ++ [((o.at m).1, max t y)]) (wq.setCell ⟨g, m * 2 + 1, none⟩ (.int .i64 (max t y)))) := HPq.out.widen HM.out _
   clear hwq HPa a1 a2 a3 f3 e3 HPq
   go_wp2
   go_region
   go_wp2
   go_roundw
   case rel => exact ⟨k + 1, o.take m ++ [((o.at m).1, max t y)], by omega, by go_num, by have := HM.out; simp; omega, (by rw [show (if t < y then y else t) = max t y by split <;> omega]; exact HPw.out.drewN 1), HI2, HN2⟩
   case measure => simp [intOf]; omega
  ·
   obtain rfl : k = len := by omega
   have HV : Hid (o = lay o0 xs) := by
    have := HN.out
    rw [List.drop_eq_nil_of_le (by rw [HL.out]; omega)] at this
    exact this
   go_wp2
   go_ret
   rw [← HV.out]
   exact ⟨_, rfl, HP.out⟩
end
section
set_option maxRecDepth 200000
set_option maxHeartbeats 16000000
open Go.RowKit
theorem flat_take : ∀ (ps : Sp) (k : Nat), flat (ps.take k) = (flat ps).take (2 * k)
 | [], k => by simp [flat]
 | p :: ps, 0 => by simp [flat]
 | p :: ps, k + 1 => by rw [List.take_succ_cons, flat, flat, flat_take ps k, show 2 * (k + 1) = 2 * k + 1 + 1 by omega, List.take_succ_cons, List.take_succ_cons]
theorem flat_drop : ∀ (ps : Sp) (k : Nat), flat (ps.drop k) = (flat ps).drop (2 * k)
 | [], k => by simp [flat]
 | p :: ps, 0 => by simp [flat]
 | p :: ps, k + 1 => by rw [List.drop_succ_cons, flat, flat_drop ps k, show 2 * (k + 1) = 2 * k + 1 + 1 by omega, List.drop_succ_cons, List.drop_succ_cons]
theorem RdP.take {w : World} {a : Option Addr} {len : Nat} {ps : Sp} {F : List Nat} (h : RdP w a len ps F) {k : Nat} (hk : k ≤ len) : ∃ G, RdP w a k (ps.take k) G ∧ ∀ b ∈ G, b ∈ F := by
 have hl := h.length
 by_cases h0 : k = 0
 ·
  subst h0
  exact ⟨[], by simpa using (RdP.nil (w := w) (a := a)), by simp⟩
 ·
  rcases h.rd.cells with ⟨e, _⟩ | ⟨b, off, hp, e, eF, hc⟩
  ·
   omega
  ·
   refine ⟨F, ⟨by simp; omega, ?_, .inr ⟨b, off, by omega, e, eF, fun i hi => ?_⟩⟩, fun b hb => hb⟩
   ·
    rw [flat_length]; simp; omega
   ·
    rw [hc i (by omega), flat_take]
    simp [List.getD_eq_getElem?_getD, hi]
theorem RdP.drop {w : World} {b off len : Nat} {ps : Sp} {F : List Nat} (h : RdP w (some ⟨b, off, none⟩) len ps F) {k : Nat} (hk : k < len) : RdP w (some ⟨b, off + k * 2, none⟩) (len - k) (ps.drop k) F := by
 have hl := h.length
 rcases h.rd.cells with ⟨e, _⟩ | ⟨b', off', hp, e, eF, hc⟩
 ·
  omega
 ·
  obtain ⟨rfl, rfl⟩ : b = b' ∧ off = off' := by simpa using e
  refine ⟨by simp; omega, ?_, .inr ⟨b, off + k * 2, by omega, rfl, eF, fun i hi => ?_⟩⟩
  ·
   rw [flat_length]; simp; omega
  ·
   rw [show off + k * 2 + i = off + (2 * k + i) by omega, hc (2 * k + i) (by omega), flat_drop]
   simp [List.getD_eq_getElem?_getD]
theorem cutN_at {ps : Sp} {k : Nat} {n : Int} (hk : k < ps.length) (h : (ps.at k).1 ≤ n) : cutN (ps.drop k) n = cutN (ps.drop (k + 1)) n + 1 := by rw [drop_at hk, cutN, if_pos h]
theorem cutN_stop {ps : Sp} {k : Nat} {n : Int} (hk : k < ps.length) (h : ¬ (ps.at k).1 ≤ n) : cutN (ps.drop k) n = 0 := by rw [drop_at hk, cutN, if_neg h]
def CutTo (w : World) (ps : Sp) (F : List Nat) (k : Nat) (e : Ending) (w' : World) : Prop :=
 ∃ a1 l1 c1 a2 l2 c2 F1 F2, e = .returned (.tuple #[.slice a1 l1 c1, .slice a2 l2 c2]) ∧ RdP w a1 l1 (ps.take k) F1 ∧ RdP w a2 l2 (ps.drop k) F2 ∧ (∀ b ∈ F1, b ∈ F) ∧ (∀ b ∈ F2, b ∈ F) ∧ l2 ≤ c2 ∧ QuietTo w w'
theorem cutAt_any (a : Option Addr) (len cap : Nat) (ps : Sp) (n : Int) (F : List Nat) (w : World) (h : RdP w a len ps F) (hlen : len ≤ 4194304) (hcap : len ≤ cap) :
 Calls Tryz.prog 156 #[.slice a len cap, .int .i64 n] w fun e w' => CutTo w ps F (cutN ps n) e w' := by
 have HL : Hid (ps.length = len) := h.length
 have HR : Hid (RdP w a len ps F) := h
 have HC : Hid (len = 0 ∨ ∃ b off, a = some ⟨b, off, none⟩ ∧ b < w.heap.size ∧ SpCells w b off len ps) := cells_of h
 have HS : Hid (∀ k, k ≤ len → ∀ w', QuietTo w w' → CutTo w ps F k (.returned (.tuple #[.slice a k k, .slice (if len = k then a else a.map (·.add (k * 2))) (len - k) (len - k)])) w') := by
  intro k hk w' hq
  obtain ⟨F1, r1, g1⟩ := h.take hk
  by_cases e : len = k
  ·
   refine ⟨_, _, _, _, _, _, F1, [], rfl, r1, ?_, g1, by simp, Nat.le_refl _, hq⟩
   rw [List.drop_eq_nil_of_le (by rw [h.length]; omega), show len - k = 0 by omega]
   exact RdP.nil
  ·
   rcases cells_of h with h0 | ⟨b, off, rfl, _, _⟩
   ·
    omega
   ·
    refine ⟨_, _, _, _, _, _, F1, F, rfl, r1, ?_, g1, fun b hb => hb, Nat.le_refl _, hq⟩
    rw [if_neg e]
    simp only [Option.map_some, Addr.add_lit]
    exact h.drop (k := k) (by omega)
 clear h
 go_enter Tryz.func156, Tryz.ntmps156
 go_wp2
 go_loopw [6] (fun i wr => ∃ (k : Nat), k ≤ len ∧ i = .int .i64 k ∧ Hid (QuietTo w wr) ∧ Hid (cutN ps n = k + cutN (ps.drop k) n)) (fun i _ => len - (intOf i).toNat)
 case atStart => exact ⟨0, by omega, rfl, QuietTo.refl _, by show _ = _; simp⟩
 case round =>
  obtain ⟨k, hk, rfl, HW, HN⟩ := hrel
  by_cases hlt : k < len
  ·
   have hca := HC.out
   rcases hca with h0 | ⟨b, off, rfl, hbw, hc⟩
   ·
    omega
   obtain ⟨x, hx⟩ : ∃ x, x = (ps.at k).1 := ⟨_, rfl⟩
   have e := (hc k hlt).1
   rw [← hx] at e
   have d1 : wr.cell? ⟨b, off + k * 2, none⟩ = some (.int .i64 x) := (HW.out.cell _).trans e
   have HX : Hid (x = (ps.at k).1) := hx
   have hI : (k : Int) < (len : Int) := by omega
   have hkl : k < ps.length := by rw [HL.out]; exact hlt
   clear hx hc e
   by_cases c : x ≤ n
   ·
    have cd : decide (x ≤ n) = true := decT c
    have HN2 : Hid (cutN ps n = k + 1 + cutN (ps.drop (k + 1)) n) := by
     have := HN.out
     rw [cutN_at hkl (by rw [← HX.out]; exact c)] at this
     show _ = _
     omega
    go_wp2
    go_roundw
    case rel => exact ⟨k + 1, by omega, by go_num, HW, HN2⟩
    case measure => simp [intOf]; omega
   ·
    have cd : decide (x ≤ n) = false := decF c
    have HK : Hid (cutN ps n = k) := by
     have := HN.out
     rw [cutN_stop hkl (by rw [← HX.out]; exact c)] at this
     show _ = _
     omega
    have hne : ¬ len = k := by omega
    have i1 : (k : Int) ≤ (len : Int) := by omega
    have i2 : (len : Int) ≤ (cap : Int) := by omega
    have i3 : (k : Int) ≤ (cap : Int) := by omega
    have HT : Hid (∀ w', QuietTo w w' → CutTo w ps F (cutN ps n) (.returned (.tuple #[.slice (some ⟨b, off, none⟩) k k, .slice (some ⟨b, off + k * 2, none⟩) (len - k) (len - k)])) w') := by
     intro w' hq
     have := HS.out k (by omega) w' hq
     rw [if_neg hne] at this
     simp only [Option.map_some, Addr.add_lit] at this
     rw [HK.out]
     exact this
    go_wp2
    go_quiet (fail)
    go_wp2
    go_ret2
    exact HT.out _ (HW.out.drewN _)
  ·
   obtain rfl : k = len := by omega
   have HK : Hid (cutN ps n = k) := by
    have := HN.out
    rw [List.drop_eq_nil_of_le (by rw [HL.out]; omega)] at this
    exact this
   have hg : decide ((k : Int) < (k : Int)) = false := decF (by omega)
   have i2 : (k : Int) ≤ (cap : Int) := by omega
   have HT : Hid (∀ w', QuietTo w w' → CutTo w ps F (cutN ps n) (.returned (.tuple #[.slice a k k, .slice a 0 0])) w') := by
    intro w' hq
    have := HS.out k (by omega) w' hq
    rw [if_pos rfl, Nat.sub_self] at this
    rw [HK.out]
    exact this
   go_wp2
   go_quiet (fail)
   go_wp2
   go_ret2
   exact HT.out _ (HW.out.drewN _)
end
section
set_option maxRecDepth 200000
set_option maxHeartbeats 16000000
open Go.RowKit
theorem RdP.move {w W : World} {B : Nat} {a : Option Addr} {len : Nat} {ps : Sp} {F : List Nat} (h : RdP w a len ps F) (hF : ∀ b ∈ F, b < B) (h1 : Below B w W) : RdP W a len ps F := h.agree (fun b hb => h1.block b (hF b hb))
theorem RdP.back {w W : World} {B : Nat} {a : Option Addr} {len : Nat} {ps : Sp} {F : List Nat} (h : RdP W a len ps F) (hF : ∀ b ∈ F, b < B) (h1 : Below B w W) : RdP w a len ps F := h.agree (fun b hb => (h1.block b (hF b hb)).symm)
theorem LayAt.below {w W : World} {B n : Nat} {v0 v : Value} {o : Sp} {xs : List Value} (h : LayAt w B v0 v o W) (h0 : w.ownsRow B 74 2 v0 n xs) (hB : B ≤ w.heap.size) : Below B w W :=
 ⟨h.grown.os, h.grown.tape, h.grown.output, h.grown.size, fun k hk => h.grown.block k (by omega) (fun e => by have := (h0.lt k e.symm).1; omega)⟩
structure MidB (w : World) (nb : Nat) (x y : Int) (v : Value) (o : Sp) (W : World) : Prop where
 own : W.ownsRow w.heap.size 74 2 v o.length ((flat o).map (Value.int .i64))
 bel : Below w.heap.size w W
 box : Blk W nb #[.int .i64 x, .int .i64 y] 74
 ne : some nb ≠ v.ownBlock
theorem MidB.alloc {w : World} {nb : Nat} {x y : Int} {v : Value} {o : Sp} {W : World} (h : MidB w nb x y v o W) (ob : Obj) : MidB w nb x y v o (W.alloc ob) := ⟨h.own.alloc _, Below.allocW _ h.bel (Nat.le_refl _), h.box.alloc _, h.ne⟩
theorem MidB.drew {w : World} {nb : Nat} {x y : Int} {v : Value} {o : Sp} {W : World} (h : MidB w nb x y v o W) : MidB w nb x y v o W.drew := ⟨⟨h.own.1, h.own.2⟩, h.bel.drew, h.box, h.ne⟩
structure AftB (w : World) (nb : Nat) (x y : Int) (v v' : Value) (o' : Sp) (W W' : World) : Prop where
 mid : MidB w nb x y v' o' W'
 old : ∀ g cs t, Blk W g cs t → some g ≠ v.ownBlock → Blk W' g cs t ∧ some g ≠ v'.ownBlock
theorem AftB.of {w : World} {nb : Nat} {x y : Int} {v v' : Value} {o o' : Sp} {W W' : World} (h : MidB w nb x y v o W) (k : LayAt W w.heap.size v v' o' W') : AftB w nb x y v v' o' W W' := by
 have hold : ∀ g cs t, Blk W g cs t → some g ≠ v.ownBlock → Blk W' g cs t ∧ some g ≠ v'.ownBlock := fun g cs t hb hne => by
  refine ⟨hb.agree (k.grown.block g hb.lt hne), ?_⟩
  rcases k.fresh with e | e
  ·
   rw [e]; exact hne
  ·
   intro e2; have := e g e2.symm; have := hb.lt; omega
 obtain ⟨h1, h2⟩ := hold _ _ _ h.box h.ne
 exact ⟨⟨k.own, h.bel.trans (k.below h.own h.bel.size), h1, h2⟩, hold⟩
structure TwoB (w : World) (nb : Nat) (x y : Int) (v' : Value) (o' : Sp) (g : Nat) (W : World) : Prop where
 mid : MidB w nb x y v' o' W
 one : Blk W g #[.int .i64 x, .int .i64 y] 74
 ne : some g ≠ v'.ownBlock
theorem AftB.two {w : World} {nb : Nat} {x y : Int} {v v' : Value} {o o' : Sp} {W W' : World} (h : AftB w nb x y v v' o' (W.alloc (.cells #[.int .i64 x, .int .i64 y] 74)).drew W') (k : MidB w nb x y v o W) : TwoB w nb x y v' o' W.heap.size W' := by
 obtain ⟨h1, h2⟩ := h.old _ _ _ (Blk.made W _ _) (fun e => by have := (k.own.lt _ e.symm).2; omega)
 exact ⟨h.mid, h1, h2⟩
theorem AftB.new {w : World} {nb : Nat} {x y : Int} {v v' : Value} {o' : Sp} {W W' : World} (h : AftB w nb x y v v' o' W W') : TwoB w nb x y v' o' W'.heap.size (W'.alloc (.cells #[.int .i64 x, .int .i64 y] 74)) :=
 ⟨h.mid.alloc _, Blk.made _ _ _, fun e => by have := (h.mid.own.lt _ e.symm).2; omega⟩
theorem rdP_one {W : World} {g : Nat} {x y : Int} {t : TypeId} (h : Blk W g #[.int .i64 x, .int .i64 y] t) : RdP W (some ⟨g, 0, none⟩) 1 [(x, y)] [g] :=
 ⟨rfl, rdI_tcv (xs := flat [(x, y)]) (by simpa [tcv, flat] using h) (by simp [flat]) (by omega)⟩
structure BInv (w : World) (ps qs : Sp) (k : Nat) (o rs : Sp) (aa : Option Addr) (la ca : Nat) (F : List Nat) (v : Value) (wr : World) : Prop where
 own : wr.ownsRow w.heap.size 74 2 v o.length ((flat o).map (Value.int .i64))
 bel : Below w.heap.size w wr
 rd : RdP w aa la rs F
 lt : ∀ b ∈ F, b < w.heap.size
 cap : la ≤ ca
 len : o.length + rs.length ≤ ps.length + k
 ino : ∀ p ∈ o, InB p
 ina : ∀ p ∈ rs, InB p
 eq : both rs (qs.drop k) o = both ps qs []
theorem spansOfBoth_any (a b : Option Addr) (la lb ca cb : Nat) (ps qs : Sp) (F G : List Nat) (w : World) (h : RdP w a la ps F) (k : RdP w b lb qs G) (hlen : la + lb ≤ 2097153) (hca : la ≤ ca) (h1 : ∀ p ∈ ps, InB p) (h2 : ∀ p ∈ qs, InB p) :
 Calls Tryz.prog 132 #[.slice a la ca, .slice b lb cb] w fun e w' => NewP w (both ps qs []) e w' := by
 have HL : Hid (ps.length = la ∧ qs.length = lb) := ⟨h.length, k.length⟩
 have HI : Hid (∀ p ∈ qs, InB p) := h2
 have HP0 : Hid (BInv w ps qs 0 [] ps a la ca F (.slice none 0 0) w) := ⟨⟨by simp [flat], .inl ⟨rfl, rfl⟩⟩, Below.refl _ _, h, h.lt, hca, by simp, by simp, h1, rfl⟩
 have HCB : Hid (lb = 0 ∨ ∃ b1 o1, b = some ⟨b1, o1, none⟩ ∧ b1 < w.heap.size ∧ SpCells w b1 o1 lb qs) := cells_of k
 clear h k h1 h2
 go_enter Tryz.func132, Tryz.ntmps132
 go_wp2
 go_loopw [0, 5, 12] (fun av v i wr => ∃ (k : Nat) (o rs : Sp) (aa : Option Addr) (la ca : Nat) (F : List Nat), k ≤ lb ∧ i = .int .i64 k ∧ av = .slice aa la ca ∧ Hid (BInv w ps qs k o rs aa la ca F v wr)) (fun _ _ i _ => lb - (intOf i).toNat)
 case atStart => exact ⟨0, [], ps, a, la, ca, F, by omega, rfl, rfl, HP0⟩
 case round =>
  clear HP0
  obtain ⟨k, o, rs, aa, l0, c0, F0, hk, rfl, rfl, HP⟩ := hrel
  by_cases hlt : k < lb
  ·
   have hcb := HCB.out
   rcases hcb with h0 | ⟨b1, o1, rfl, hbw, hc⟩
   ·
    omega
   obtain ⟨x, hx⟩ : ∃ x, x = (qs.at k).1 := ⟨_, rfl⟩
   obtain ⟨y, hy⟩ : ∃ x, x = (qs.at k).2 := ⟨_, rfl⟩
   have e := hc k hlt
   have hql : k < qs.length := by rw [HL.out.2]; exact hlt
   have HXY : Hid (qs.at k = (x, y)) := by rw [hx, hy]; rfl
   have HINX : Hid (InB (x, y)) := by rw [← HXY.out]; exact HI.out _ (Sp.at_mem hql)
   rw [HXY.out] at e
   have d1 : wr.cell? ⟨b1, o1 + k * 2, none⟩ = some (.int .i64 x) := (HP.out.bel.cell (by exact hbw)).trans e.1
   have d2 : wr.cell? ⟨b1, o1 + k * 2 + 1, none⟩ = some (.int .i64 y) := (HP.out.bel.cell (by exact hbw)).trans e.2
   have hI : (k : Int) < (lb : Int) := by omega
   have HLN : Hid (o.length + rs.length ≤ 2097153) := by have := HP.out.len; have := HL.out; show _ ≤ _; omega
   have HLA : Hid (rs.length = l0) := HP.out.rd.length
   clear e hx hy hc
   go_wp2_with fail
   have HWA : Hid (Below w.heap.size w (wr.alloc (.cells #[.int .i64 x, .int .i64 y] 74))) := Below.allocW _ HP.out.bel (Nat.le_refl _)
   refine (cutAt_any aa l0 c0 rs x F0 _ (HP.out.rd.move HP.out.lt HWA.out) (by have := HLN.out; have := HLA.out; omega) HP.out.cap).mono ?_
   rintro e w2 ⟨a1, l1, c1, a2, l2, c2, F1, F2, rfl, r1, r2, s1, s2, hcp2, hq⟩
   obtain ⟨cn, hcn⟩ : ∃ c, c = cutN rs x := ⟨_, rfl⟩
   rw [← hcn] at r1 r2
   have HQ1 : Hid (RdP w a1 l1 (rs.take cn) F1 ∧ (∀ b ∈ F1, b < w.heap.size) ∧ l1 ≤ rs.length) := ⟨r1.back (fun b hb => HP.out.lt b (s1 b hb)) HWA.out, fun b hb => HP.out.lt b (s1 b hb), by have e := r1.length; rw [List.length_take] at e; omega⟩
   have HQ2 : Hid (RdP w a2 l2 (rs.drop cn) F2 ∧ (∀ b ∈ F2, b < w.heap.size) ∧ l2 ≤ c2) := ⟨r2.back (fun b hb => HP.out.lt b (s2 b hb)) HWA.out, fun b hb => HP.out.lt b (s2 b hb), hcp2⟩
   have HM : Hid (MidB w wr.heap.size x y u5 o w2) := by
    obtain ⟨m, rfl⟩ := hq
    have hal := HP.out.own.alloc (.cells #[.int .i64 x, .int .i64 y] 74)
    exact ⟨⟨hal.1, hal.2⟩, ⟨HWA.out.os, HWA.out.tape, HWA.out.output, HWA.out.size, HWA.out.block⟩, Blk.made wr _ _, fun e => by have := (HP.out.own.lt _ e.symm).2; omega⟩
   have HCN : Hid (cn = cutN rs x) := hcn
   have q1 : w2.cell? ⟨wr.heap.size, 0, none⟩ = some (.int .i64 x) := HM.out.box.cell 0
   have q2 : w2.cell? ⟨wr.heap.size, 1, none⟩ = some (.int .i64 y) := HM.out.box.cell 1
   clear r1 r2 s1 s2 hcp2 hq hcn HWA d1 d2
   have HC1 : Hid (∀ W, MidB w wr.heap.size x y u5 o W → Calls Tryz.prog 157 #[u5, .slice a1 l1 c1] W (fun e w' => ∃ v', e = .returned v' ∧ AftB w wr.heap.size x y u5 v' (lay o (rs.take cn)) W w')) := by
    intro W hW
    refine (laid_any w.heap.size u5 o a1 l1 c1 (rs.take cn) F1 W hW.own hW.bel.size (HQ1.out.1.move HQ1.out.2.1 hW.bel) (fun b hb e => by have := HQ1.out.2.1 b hb; have := (hW.own.lt _ e.symm).1; omega) (by have := HLN.out; have := HQ1.out.2.2; omega) HP.out.ino (fun p hp => HP.out.ina p (List.mem_of_mem_take hp))).mono ?_
    rintro e w' ⟨v, rfl, hl⟩
    exact ⟨v, rfl, AftB.of hW hl⟩
   have HC2 : Hid (∀ v' W g, TwoB w wr.heap.size x y v' (lay o (rs.take cn)) g W → Calls Tryz.prog 157 #[v', .slice (some ⟨g, 0, none⟩) 1 1] W (fun e w' => ∃ v'', e = .returned v'' ∧ MidB w wr.heap.size x y v'' (lay1 (lay o (rs.take cn)) (x, y)) w')) := by
    intro v' W g hW
    refine (laid_any w.heap.size v' (lay o (rs.take cn)) (some ⟨g, 0, none⟩) 1 1 [(x, y)] [g] W hW.mid.own hW.mid.bel.size (rdP_one hW.one) (fun b hb => by rw [List.mem_singleton.1 hb]; exact hW.ne) (by have e := lay_length (rs.take cn) o; have := HLN.out; rw [List.length_take] at e; omega) (lay_inb HP.out.ino (fun p hp => HP.out.ina p (List.mem_of_mem_take hp))) (fun p hp => by rw [List.mem_singleton.1 hp]; exact HINX.out)).mono ?_
    rintro e w' ⟨v, rfl, hl⟩
    exact ⟨v, rfl, (AftB.of hW.mid hl).mid⟩
   have HFIN : Hid (∀ v' W, MidB w wr.heap.size x y v' (lay1 (lay o (rs.take cn)) (x, y)) W → BInv w ps qs (k + 1) (lay1 (lay o (rs.take cn)) (x, y)) (rs.drop cn) a2 l2 c2 F2 v' W) := by
    intro v' W hW
    refine ⟨hW.own, hW.bel, HQ2.out.1, HQ2.out.2.1, HQ2.out.2.2, ?_, lay1_inb (lay_inb HP.out.ino (fun p hp => HP.out.ina p (List.mem_of_mem_take hp))) HINX.out, fun p hp => HP.out.ina p (List.mem_of_mem_drop hp), ?_⟩
    ·
     have e1 := lay1_length (lay o (rs.take cn)) (x, y)
     have e2 := lay_length (rs.take cn) o
     have e3 := HP.out.len
     rw [List.length_take] at e2
     rw [List.length_drop]
     omega
    ·
     have e := HP.out.eq
     rw [drop_at hql, HXY.out, both] at e
     rw [HCN.out]
     exact e
   have HKE : Hid (∀ W, Blk W wr.heap.size #[.int .i64 x, .int .i64 y] 74 → W.cell? ⟨wr.heap.size, 0, none⟩ = some (.int .i64 x) ∧ W.cell? ⟨wr.heap.size, 1, none⟩ = some (.int .i64 y)) := fun W hW => ⟨hW.cell 0, hW.cell 1⟩
   have HMD : Hid (MidB w wr.heap.size x y u5 o w2.drew) := HM.out.drew
   have HMA : Hid (MidB w wr.heap.size x y u5 o (w2.alloc (.cells #[.int .i64 x, .int .i64 y] 74)).drew) := (HM.out.alloc _).drew
   go_wp2
   go_region_held3 (fun W => W.cell? ⟨wr.heap.size, 0, none⟩ = some (.int .i64 x) ∧ W.cell? ⟨wr.heap.size, 1, none⟩ = some (.int .i64 y))
    ((refine HKE.out _ ?_; first | (with_reducible exact k2.box) | (with_reducible exact k1.mid.box) | (with_reducible exact k1.mid.box.alloc _) | (with_reducible exact HMD.out.box) | (with_reducible exact HMA.out.box)))
    (first
      | (have zz := k1; clear zz; go_at_call 157; refine (HC2.out _ _ _ (by first | (with_reducible exact k1.two HM.out) | (with_reducible exact k1.new))).mono ?_; rintro e w4 ⟨v4, rfl, k2⟩)
      | (go_at_call 157; refine (HC1.out _ (by first | (with_reducible exact HMD.out) | (with_reducible exact HMA.out))).mono ?_; rintro e w3 ⟨v3, rfl, k1⟩))
   all_goals
    have HB2 := HFIN.out _ _ k2
    have HB3 : Hid (BInv w ps qs (k + 1) (lay1 (lay o (rs.take cn)) (x, y)) (rs.drop cn) a2 l2 c2 F2 v4 w4) := HB2
    clear HB2 k2 k1 HC1 HC2 HKE HFIN q1 q2 HMD HMA HM
    go_wp2
    go_roundw
   all_goals first | exact ⟨k + 1, _, _, a2, l2, c2, F2, by omega, by go_num, rfl, HB3⟩ | (simp [intOf]; omega)
  ·
   obtain rfl : k = lb := by omega
   have HE : Hid (lay o rs = both ps qs []) := by
    have := HP.out.eq
    rw [List.drop_eq_nil_of_le (by rw [HL.out.2]; omega)] at this
    exact this
   go_wp2_with fail
   refine (laid_any w.heap.size u5 o aa l0 c0 rs F0 _ HP.out.own HP.out.bel.size (HP.out.rd.move HP.out.lt HP.out.bel) (fun b hb e => by have := HP.out.lt b hb; have := (HP.out.own.lt _ e.symm).1; omega) (by have := HP.out.len; have := HL.out; have := HP.out.rd.length; omega) HP.out.ino HP.out.ina).mono ?_
   rintro e w2 ⟨v, rfl, hl⟩
   have HV : Hid (LayAt wr w.heap.size u5 v (lay o rs) w2 ∧ Below w.heap.size w w2) := ⟨hl, HP.out.bel.trans (hl.below HP.out.own HP.out.bel.size)⟩
   clear hl
   go_wp2
   go_ret
   obtain ⟨a', c', F', rfl, hr, ho, hnn⟩ := rdP_of_own HV.out.1.own
   rw [← HE.out]
   exact ⟨_, _, _, F', rfl, hr, ho, HV.out.2, hnn⟩
end
section
set_option maxRecDepth 200000
set_option maxHeartbeats 16000000
open Go.RowKit
theorem run_copy_row2 {P : Program} (w : World) (dT sT ty elem : TypeId) (g len dCap : Nat) (a : Addr) (sCap : Nat) (cur : Array Value) (t : TypeId) (cs : List Value)
 (hu : P.underlying dT = some (.slice elem)) (hs : (P.info? elem).map (·.size) = some 2)
 (hg : w.heap[g]? = some (.cells cur t (0, 0))) (hn : cs.length = len * 2)
 (hsrc : ∀ j v, cs[j]? = some v → w.cell? (a.add j) = some v) (hfit : cs.length ≤ cur.size) (h1 : ∀ v ∈ cs, v.oneCell' = true) :
 (Builtin.copy_ #[dT, sT] ty #[.slice (some ⟨g, 0, none⟩) len dCap, .slice (some a) len sCap]).run P w =
  .ok (goInt len) (w.setRow g (cs ++ cur.toList.drop cs.length).toArray) := by
 have hl := run_loadCells_list (P := P) w a cs hsrc
 have hst := run_storeCells_at P g 0 t cs 0 cur w hg (by simpa using hfit) h1
 rw [hn] at hl
 cases hq : P.info? elem with
 | none => simp [hq] at hs
 | some i =>
  have hi : i.size = 2 := by simpa [hq] using hs
  simp [Builtin.copy_, run_underlying hu, Builtin.lenOf, Builtin.firstCells, sizeOf, typeInfo, hq, hi, hl, hst]
theorem run_copy_none2 {P : Program} (w : World) (dT sT ty elem : TypeId) (d a : Option Addr) (dCap sCap : Nat) (hu : P.underlying dT = some (.slice elem)) (hs : (P.info? elem).map (·.size) = some 2) :
 (Builtin.copy_ #[dT, sT] ty #[.slice d 0 dCap, .slice a 0 sCap]).run P w = .ok (goInt 0) w := by
 cases hq : P.info? elem with
 | none => simp [hq] at hs
 | some i =>
  have hl : ∀ (x : Addr), (loadCells x 0).run P w = .ok #[] w := fun x => by simpa using run_loadCells_list (P := P) w x [] (by simp)
  cases d <;> cases a <;> simp [Builtin.copy_, run_underlying hu, Builtin.lenOf, Builtin.firstCells, sizeOf, typeInfo, hq, storeCells, hl]
theorem infoSpan2 : (Tryz.prog.info? 74).map (·.size) = some 2 := by kernel_rfl
theorem flat_one {ps : Sp} : ∀ v ∈ (flat ps).map (Value.int .i64), v.oneCell' = true := by
 intro v hv
 obtain ⟨x, _, rfl⟩ := List.mem_map.1 hv
 rfl
theorem copiedSpans_any (a : Option Addr) (len cap : Nat) (ps : Sp) (F : List Nat) (w : World) (h : RdP w a len ps F) (hlen : len ≤ 2097152) :
 Calls Tryz.prog 82 #[.slice a len cap] w fun e w' => NewP w ps e w' := by
 obtain ⟨i0, hi, hz0, hz1, hz2⟩ := info_parts infoSpan
 have HL : Hid (ps.length = len) := h.length
 have HR : Hid (RdP w a len ps F) := h
 rcases h.cells with ⟨rfl, _, rfl⟩ | ⟨b, off, hp, rfl, _, _⟩
 ·
  clear h
  go_enter Tryz.func82, Tryz.ntmps82
  go_wp2_with (at_make; refine wpList_make_full _ rfl _ _ 27 rfl w.heap.size 74 i0 (.agg #[.int .i64 0, .int .i64 0]) 2 Tryz.underlying27 hi hz0 hz1 .i64 .i64 _ _ 0 rfl rfl (by simp) (by simp) (by omega) (by unfold maxLen; omega) (Nat.le_refl _) ?_; intro w1 hown hgrow)
  have hcp := run_copy_none2 (P := Tryz.prog) w1 27 27 3 74 (some ⟨w.heap.size, 0, none⟩) a 0 cap Tryz.underlying27 infoSpan2
  rw [hcp]
  go_wp2
  go_ret
  exact ⟨_, 0, 0, [], rfl, RdP.nil, Own.nil, (Below.refl _ _).grown hgrow (Nat.le_refl _) (fun k hk => by cases hk), (fun e => by cases e), Nat.le_refl _⟩
 ·
  clear h
  go_enter Tryz.func82, Tryz.ntmps82
  go_wp2_with (at_make; refine wpList_make_full _ rfl _ _ 27 rfl w.heap.size 74 i0 (.agg #[.int .i64 0, .int .i64 0]) 2 Tryz.underlying27 hi hz0 hz1 .i64 .i64 _ _ len rfl rfl rfl rfl (by rw [hz2]; omega) (by unfold maxLen; omega) (Nat.le_refl _) ?_; intro w1 hown hgrow)
  have HM : Hid (Blk w1 w.heap.size (tcv (List.replicate (2 * len) 0)) 74 ∧ Below w.heap.size w w1) := by
   refine ⟨?_, (Below.refl _ _).grown hgrow (Nat.le_refl _) (fun k hk => by cases hk)⟩
   have e := own_blk hown hp
   have e2 : (madeCells (Value.agg #[Value.int IntKind.i64 0, Value.int IntKind.i64 0]).cells (len * 2)).toList.toArray = tcv (List.replicate (2 * len) 0) := made_flat len
   rw [← e2]
   exact e
  clear hown hgrow
  have HLF : Hid ((flat ps).length = 2 * len) := by rw [flat_length, HL.out]; rfl
  have hcp := run_copy_row2 (P := Tryz.prog) w1 27 27 3 74 w.heap.size len len ⟨b, off, none⟩ cap _ 74 ((flat ps).map (Value.int .i64)) Tryz.underlying27 infoSpan2 HM.out.1 (by have := HLF.out; simp; omega) (cells_flat (HR.out.below HM.out.2) hp) (by have := HLF.out; simp [tcv]; omega) flat_one
  have hrow : ((flat ps).map (Value.int .i64) ++ (tcv (List.replicate (2 * len) 0)).toList.drop ((flat ps).map (Value.int .i64)).length).toArray = tcv (flat ps) := by
   have := HLF.out
   rw [List.drop_eq_nil_of_le (by simp [tcv]; omega), List.append_nil]
   rfl
  rw [hrow] at hcp
  have HW : Hid (Blk (w1.setRow w.heap.size (tcv (flat ps))) w.heap.size (tcv (flat ps)) 74 ∧ Below w.heap.size w (w1.setRow w.heap.size (tcv (flat ps)))) := ⟨HM.out.1.setRow, below_setRow HM.out.2 (Nat.le_refl _) _⟩
  clear hrow
  rw [hcp]
  go_wp2
  go_ret
  exact ⟨_, len, len, [w.heap.size], rfl, ⟨HL.out, rdI_tcv HW.out.1 HLF.out (by omega)⟩, ⟨by simp, fun b hb o => by simp at hb; subst hb; exact HW.out.1.frozen o, by simp⟩, HW.out.2, (fun e => by cases e), Nat.le_refl _⟩
theorem slEqualP_any (a b : Option Addr) (la lb ca cb : Nat) (xs ys : Sp) (F G : List Nat) (w : World) (ha : RdP w a la xs F) (hb : RdP w b lb ys G) (hla : la ≤ 140737488355328) (hlb : lb ≤ 140737488355328) :
 Calls Tryz.prog 42 #[.slice a la ca, .slice b lb cb] w fun e w' => e = .returned (.bool (decide (xs = ys))) ∧ QuietTo w w' := by
 have Hx : Hid (xs.length = la) := ha.length
 have Hy : Hid (ys.length = lb) := hb.length
 by_cases hl : la = lb
 ·
  subst hl
  have hbne : ((la : Int) != (la : Int)) = false := by simp
  have HCA : Hid (la = 0 ∨ ∃ b1 o1, a = some ⟨b1, o1, none⟩ ∧ b1 < w.heap.size ∧ SpCells w b1 o1 la xs) := cells_of ha
  have HCB : Hid (la = 0 ∨ ∃ b1 o1, b = some ⟨b1, o1, none⟩ ∧ b1 < w.heap.size ∧ SpCells w b1 o1 la ys) := cells_of hb
  clear ha hb
  go_enter Tryz.func42, Tryz.ntmps42
  go_wp2
  go_loopw [13] (fun i wr => ∃ k : Nat, k ≤ la ∧ i = .int .i64 k ∧ Hid (xs.take k = ys.take k) ∧ Hid (QuietTo w wr)) (fun i _ => la - (intOf i).toNat)
  case atStart => exact ⟨0, by omega, rfl, rfl, QuietTo.refl _⟩
  case round =>
   obtain ⟨k, hk, rfl, HT, HQ⟩ := hrel
   by_cases hlt : k < la
   ·
    rcases HCA.out with h0 | ⟨b1, o1, rfl, hbw1, hc1⟩
    ·
     omega
    rcases HCB.out with h0 | ⟨b2, o2, rfl, hbw2, hc2⟩
    ·
     omega
    obtain ⟨x, hx⟩ : ∃ x, x = (xs.at k).1 := ⟨_, rfl⟩
    obtain ⟨y, hy⟩ : ∃ x, x = (xs.at k).2 := ⟨_, rfl⟩
    obtain ⟨x', hx'⟩ : ∃ x, x = (ys.at k).1 := ⟨_, rfl⟩
    obtain ⟨y', hy'⟩ : ∃ x, x = (ys.at k).2 := ⟨_, rfl⟩
    have e1 := hc1 k hlt
    have e2 := hc2 k hlt
    rw [← hx, ← hy] at e1
    rw [← hx', ← hy'] at e2
    have d1 : wr.cell? ⟨b1, o1 + k * 2, none⟩ = some (.int .i64 x) := (HQ.out.cell _).trans e1.1
    have d2 : wr.cell? ⟨b1, o1 + k * 2 + 1, none⟩ = some (.int .i64 y) := (HQ.out.cell _).trans e1.2
    have d3 : wr.cell? ⟨b2, o2 + k * 2, none⟩ = some (.int .i64 x') := (HQ.out.cell _).trans e2.1
    have d4 : wr.cell? ⟨b2, o2 + k * 2 + 1, none⟩ = some (.int .i64 y') := (HQ.out.cell _).trans e2.2
    have HE : Hid ((x = x' ∧ y = y') ↔ xs[k]?.getD (0, 0) = ys[k]?.getD (0, 0)) := by rw [hx, hy, hx', hy']; exact Prod.ext_iff.symm
    have hI : (k : Int) < (la : Int) := by omega
    clear e1 e2 hx hy hx' hy' hc1 hc2
    by_cases c : x = x' ∧ y = y'
    ·
     have e1 : (x == x') = true := by simp [c.1]
     have e2 : (y == y') = true := by simp [c.2]
     have HT2 : Hid (xs.take (k + 1) = ys.take (k + 1)) := eqP_step (by rw [Hx.out, Hy.out]) (by rw [Hx.out]; exact hlt) HT.out (HE.out.1 c)
     clear c
     go_wp2
     go_quiet (fail)
     go_wp2
     go_roundw
     case rel => exact ⟨k + 1, by omega, by go_num, HT2, HQ.out.drewN _⟩
     case measure => simp [intOf]; omega
    have HV : Hid (decide (xs = ys) = false) := neP_of_at (fun e => c (HE.out.2 e))
    by_cases c1 : x = x'
    ·
     have e1 : (x == x') = true := by simp [c1]
     have e2 : (y == y') = false := by simpa using (fun e => c ⟨c1, e⟩)
     clear c c1
     go_wp2
     go_quiet (fail)
     go_wp2
     go_ret
     exact ⟨ret_bool HV.out.symm, HQ.out.drewN _⟩
    ·
     have e1 : (x == x') = false := by simpa using c1
     clear c c1
     go_wp2
     go_quiet (fail)
     go_wp2
     go_ret
     exact ⟨ret_bool HV.out.symm, HQ.out.drewN _⟩
   ·
    obtain rfl : k = la := by omega
    go_wp2
    go_ret
    exact ⟨ret_bool (eqP_end Hx.out Hy.out HT.out).symm, HQ.out⟩
 ·
  have hbne : ((la : Int) != (lb : Int)) = true := by simp; omega
  have e : decide (xs = ys) = false := by
   rw [decide_eq_false_iff_not]; intro e; subst e; exact hl (Hx.out.symm.trans Hy.out)
  clear ha hb
  go_enter Tryz.func42, Tryz.ntmps42
  go_wp2
  go_ret
  exact ⟨ret_bool e.symm, QuietTo.refl _⟩
end
section
set_option maxRecDepth 200000
set_option maxHeartbeats 16000000
open Go.RowKit
section
variable {P : Program} {ops : Array Oper} {Q : Exit → Act → World → Prop} {a : Act} {w : World} {x y : Operand} {o : Oper} {K : Act → World → Prop}
theorem op_storePart (ty : TypeId) (g off : Nat) (cs ds es : Array Value) (t : TypeId) (hg : Blk w g cs t) (hw : Region.wanted o (yielded ops a.tmps) = true) (ho : o.op = .store ty x y) (hx : a.eval x = .pointer (some ⟨g, off, none⟩)) (hy : a.eval y = .agg ds)
 (hi : (P.info? ty).map (·.size) = some ds.size) (hfit : off + ds.size ≤ cs.size) (h1 : ds.all (·.oneCell') = true) (hes : cutIn cs off ds = es)
 (h : ∃ a', a.put o.dst undef = a' ∧ K a' (w.setRow g es)) : if Region.wanted o (yielded ops a.tmps) = true then Oper.wp P o a w K Q else K (a.put o.dst undef) w := by
 subst hes
 obtain ⟨_, rfl, h⟩ := h
 rw [if_pos hw]
 unfold Oper.wp execOp
 simp only [ho, hx, hy, Instr.storeAt, Instr.sureAddr, Sem.run_bind, Sem.run_pure, Result.andThen_ok, run_storeVar_cut w g off t ty cs ds hg hi hfit h1]
 exact h
theorem op_loadPart (ty : TypeId) (g off n : Nat) (cs ds : Array Value) (t : TypeId) (d : TypeDesc) (hg : Blk w g cs t) (hw : Region.wanted o (yielded ops a.tmps) = true) (ho : o.op = .load ty x) (hx : a.eval x = .pointer (some ⟨g, off, none⟩)) (hu : P.underlying ty = some d) (hd : (match d with | .struct _ | .array _ _ => true | _ => false) = true)
 (hi : (P.info? ty).map (·.size) = some n) (hfit : off + n ≤ cs.size) (hds : cutOf cs off n = ds) (h : ∃ a', a.put o.dst (.agg ds) = a' ∧ K a' w) : if Region.wanted o (yielded ops a.tmps) = true then Oper.wp P o a w K Q else K (a.put o.dst undef) w := by
 have y : YieldsIf P ops (fun W => W = w) o (.agg ds) a := yields_cut ty g off n cs ds t d hw ho hx hu hd hi hfit hds (fun W hW => by rw [hW]; exact hg)
 rcases y with ⟨_, y⟩ | ⟨y, _⟩
 ·
  exact op_value (.agg ds) hw (y w rfl) h
 ·
  rw [hw] at y; cases y
end
theorem infoEnP10 : (Tryz.prog.info? 33).map (·.size) = some 10 := by kernel_rfl
theorem copiedEntry_any (v : Value) (x : En) (F0 : List Nat) (w : World) (h : RdE w v x F0) (hf : x.fits) :
 Calls Tryz.prog 40 #[v] w fun e w' => ∃ v F, e = .returned v ∧ RdE w' v x F ∧ Own w.heap.size w' F ∧ Below w.heap.size w w' := by
 obtain ⟨F1, F2, _, b, l, c, a1, n1, c1, a2, n2, c2, a3, n3, c3, rfl, hp, hr, hcp⟩ := h
 have HP : Hid (RdP w b l x.ids F1 ∧ RdSk w (.agg #[.int .i64 x.sk.count, .int .i64 x.sk.sum, .int .i64 x.sk.min, .int .i64 x.sk.max, .slice a1 n1 c1, .slice a2 n2 c2, .slice a3 n3 c3]) x.sk F2 ∧ l ≤ 2097152 ∧ x.sk.fits) := ⟨hp, hr, by rw [← hp.length]; have := hf.2; omega, hf.1⟩
 have HT : Hid (_ ∧ _ ∧ _) := two_made w #[.int .i64 x.key, .int .i64 x.window, .slice b l c, .int .i64 x.sk.count, .int .i64 x.sk.sum, .int .i64 x.sk.min, .int .i64 x.sk.max, .slice a1 n1 c1, .slice a2 n2 c2, .slice a3 n3 c3] #[.int .i64 0, .int .i64 0, .slice none 0 0, .int .i64 0, .int .i64 0, .int .i64 0, .int .i64 0, .slice none 0 0, .slice none 0 0, .slice none 0 0] 33 33
 clear hp hr hcp hf
 go_enter Tryz.func40, Tryz.ntmps40
 go_wp2_with fail
 obtain ⟨W0, hW0⟩ : ∃ W0, W0 = (w.alloc (.cells #[.int .i64 x.key, .int .i64 x.window, .slice b l c, .int .i64 x.sk.count, .int .i64 x.sk.sum, .int .i64 x.sk.min, .int .i64 x.sk.max, .slice a1 n1 c1, .slice a2 n2 c2, .slice a3 n3 c3] 33)).alloc (.cells #[.int .i64 0, .int .i64 0, .slice none 0 0, .int .i64 0, .int .i64 0, .int .i64 0, .int .i64 0, .slice none 0 0, .slice none 0 0, .slice none 0 0] 33) := ⟨_, rfl⟩
 rw [← hW0] at HT ⊢
 clear hW0
 have HS : Hid (Blk W0.drew w.heap.size #[.int .i64 x.key, .int .i64 x.window, .slice b l c, .int .i64 x.sk.count, .int .i64 x.sk.sum, .int .i64 x.sk.min, .int .i64 x.sk.max, .slice a1 n1 c1, .slice a2 n2 c2, .slice a3 n3 c3] 33 ∧ Blk W0.drew (w.heap.size + 1) #[.int .i64 0, .int .i64 0, .slice none 0 0, .int .i64 0, .int .i64 0, .int .i64 0, .int .i64 0, .slice none 0 0, .slice none 0 0, .slice none 0 0] 33 ∧ Below w.heap.size w W0.drew) := ⟨HT.out.1.drew, HT.out.2.1.drew, HT.out.2.2.drew⟩
 obtain ⟨Y0, hY0⟩ : ∃ Y, Y = W0.drew := ⟨_, rfl⟩
 rw [← hY0] at HS
 clear HT
 refine wp_region_held (S := fun _ => True) (by kernel_rfl) ?_
 change wpAnyH _ _ _ _ _ _ _ _ (World.drew _)
 rw [← hY0]
 clear hY0
 refine tm 0 (.pointer (some ⟨w.heap.size, 2, none⟩)) (H := ⟨trivial, ?_⟩)
 refine tm 3 (.pointer (some ⟨w.heap.size, 3, none⟩)) (H := ⟨trivial, ?_⟩)
 refine twoH (o := ?o3) (o' := ?p3) 1 4 (by kernel_rfl) ?h3 ?g3 ?r3 ?s3
 case h3 => simp only [aT, aS, aZ]; rfl
 case g3 => simp only [aT, aS, aZ]; rfl
 case r3 =>
  intro K hK
  have co := HS.out.1.cell 2
  simp only [aT, aS, aZ] at co
  refine op_value (.slice b l c) rfl (by go_simp) (pk (h := hK _ _ ⟨trivial, ?_⟩))
  clear hK co
  refine twoH (o := ?o4) (o' := ?p4) 2 4 (by kernel_rfl) ?h4 ?g4 ?r4 ?s4
  case h4 => simp only [aT, aS, aZ]; rfl
  case g4 => simp only [aT, aS, aZ]; rfl
  case r4 =>
   intro K hK
   refine op_call1 82 _ _ Tryz.f82 (fun v w' => ∃ a len cap F, v = .slice a len cap ∧ RdP w' a len x.ids F ∧ Own Y0.heap.size w' F ∧ Below Y0.heap.size Y0 w' ∧ Capd a len cap) rfl rfl Tryz.func82 (by kernel_rfl) (by kernel_rfl) ((copiedSpans_any b l c x.ids F1 Y0 (HP.out.1.below HS.out.2.2) HP.out.2.2.1).mono (by rintro e w' ⟨a, len, cap, F, rfl, h1, h2, h3, h4⟩; exact ⟨_, rfl, a, len, cap, F, rfl, h1, h2, h3, h4⟩)) ?_
   rintro _ Y1 ⟨aj, lj, cj, Fj, rfl, rj, oj, bz, hcj⟩
   have HS1 : Hid (Blk Y1 w.heap.size #[.int .i64 x.key, .int .i64 x.window, .slice b l c, .int .i64 x.sk.count, .int .i64 x.sk.sum, .int .i64 x.sk.min, .int .i64 x.sk.max, .slice a1 n1 c1, .slice a2 n2 c2, .slice a3 n3 c3] 33 ∧ Blk Y1 (w.heap.size + 1) #[.int .i64 0, .int .i64 0, .slice none 0 0, .int .i64 0, .int .i64 0, .int .i64 0, .int .i64 0, .slice none 0 0, .slice none 0 0, .slice none 0 0] 33 ∧ Below w.heap.size w Y1) := ⟨HS.out.1.below bz, HS.out.2.1.below bz, Below.next HS.out.2.2 bz⟩
   have HJ : Hid (RdP Y1 aj lj x.ids Fj ∧ Own (w.heap.size + 2) Y1 Fj ∧ Capd aj lj cj) := ⟨rj, oj.mono HS.out.2.1.lt, hcj⟩
   refine pk (h := hK _ _ ⟨trivial, ?_⟩)
   clear hK bz rj oj hcj HS
   refine oq 4 (H := fun K hK => ?_)
   refine op_loadPart 31 w.heap.size 3 7 #[.int .i64 x.key, .int .i64 x.window, .slice b l c, .int .i64 x.sk.count, .int .i64 x.sk.sum, .int .i64 x.sk.min, .int .i64 x.sk.max, .slice a1 n1 c1, .slice a2 n2 c2, .slice a3 n3 c3] #[.int .i64 x.sk.count, .int .i64 x.sk.sum, .int .i64 x.sk.min, .int .i64 x.sk.max, .slice a1 n1 c1, .slice a2 n2 c2, .slice a3 n3 c3] 33 _ HS1.out.1 rfl rfl rfl Tryz.underlying31 rfl infoSkI (by simp) rfl (pk (h := hK _ _ ⟨trivial, ?_⟩))
   clear hK
   refine tm 6 (.pointer (some ⟨w.heap.size, 2, none⟩)) (H := ⟨trivial, ?_⟩)
   refine oq 5 (H := fun K hK => ?_)
   refine op_call1 83 _ _ Tryz.f83 (fun v w' => ∃ X, RdSk w' v x.sk X ∧ Own Y1.heap.size w' X ∧ Below Y1.heap.size Y1 w') rfl rfl Tryz.func83 (by kernel_rfl) (by kernel_rfl) ((copiedSketch_all _ x.sk F2 Y1 (HP.out.2.1.below HS1.out.2.2) HP.out.2.2.2).mono (by rintro e w' ⟨v, X, rfl, h1, h2, h3⟩; exact ⟨_, rfl, X, h1, h2, h3⟩)) ?_
   rintro vm Y2 ⟨X, rm, om, bz⟩
   obtain ⟨e1, r1, f1, e2, r2, f2, e3, r3, f3, rfl⟩ := rm.cells7
   have HS2 : Hid (Blk Y2 w.heap.size #[.int .i64 x.key, .int .i64 x.window, .slice b l c, .int .i64 x.sk.count, .int .i64 x.sk.sum, .int .i64 x.sk.min, .int .i64 x.sk.max, .slice a1 n1 c1, .slice a2 n2 c2, .slice a3 n3 c3] 33 ∧ Blk Y2 (w.heap.size + 1) #[.int .i64 0, .int .i64 0, .slice none 0 0, .int .i64 0, .int .i64 0, .int .i64 0, .int .i64 0, .slice none 0 0, .slice none 0 0, .slice none 0 0] 33 ∧ Below w.heap.size w Y2) := ⟨HS1.out.1.below bz, HS1.out.2.1.below bz, Below.next HS1.out.2.2 bz⟩
   have HJ2 : Hid (RdP Y2 aj lj x.ids Fj ∧ Own (w.heap.size + 2) Y2 Fj ∧ RdSk Y2 (.agg #[.int .i64 x.sk.count, .int .i64 x.sk.sum, .int .i64 x.sk.min, .int .i64 x.sk.max, .slice e1 r1 f1, .slice e2 r2 f2, .slice e3 r3 f3]) x.sk X ∧ Own (w.heap.size + 2) Y2 X ∧ (∀ b ∈ Fj, b ∉ X) ∧ Capd aj lj cj) := ⟨HJ.out.1.below bz, HJ.out.2.1.below HJ.out.1.lt bz, rm, om.mono HS1.out.2.1.lt, fun b hb hx => by have := HJ.out.1.lt b hb; have := om.ge b hx; omega, HJ.out.2.2⟩
   refine pk (h := hK _ _ ⟨trivial, ?_⟩)
   clear hK bz rm om HS1 HJ
   refine oq 7 (H := fun K hK => ?_)
   have co := HS2.out.1.cell 2
   have fo := HS2.out.1.frozen 2
   simp only [aT, aS, aZ] at co
   have HA : Hid (Blk (Y2.setCell ⟨w.heap.size, 2, none⟩ (.slice aj lj cj)) w.heap.size #[.int .i64 x.key, .int .i64 x.window, .slice aj lj cj, .int .i64 x.sk.count, .int .i64 x.sk.sum, .int .i64 x.sk.min, .int .i64 x.sk.max, .slice a1 n1 c1, .slice a2 n2 c2, .slice a3 n3 c3] 33 ∧ Blk (Y2.setCell ⟨w.heap.size, 2, none⟩ (.slice aj lj cj)) (w.heap.size + 1) #[.int .i64 0, .int .i64 0, .slice none 0 0, .int .i64 0, .int .i64 0, .int .i64 0, .int .i64 0, .slice none 0 0, .slice none 0 0, .slice none 0 0] 33 ∧ Below w.heap.size w (Y2.setCell ⟨w.heap.size, 2, none⟩ (.slice aj lj cj))) := ⟨HS2.out.1.set 2 _, HS2.out.2.1.setOther (by omega) 2 _, HS2.out.2.2.setCell (by show w.heap.size ≤ w.heap.size; omega) _⟩
   have nf : w.heap.size ∉ Fj := fun hx => by have := HJ2.out.2.1.ge _ hx; omega
   have nx : w.heap.size ∉ X := fun hx => by have := HJ2.out.2.2.2.1.ge _ hx; omega
   have HJ3 : Hid (RdP (Y2.setCell ⟨w.heap.size, 2, none⟩ (.slice aj lj cj)) aj lj x.ids Fj ∧ Own (w.heap.size + 2) (Y2.setCell ⟨w.heap.size, 2, none⟩ (.slice aj lj cj)) Fj ∧ RdSk (Y2.setCell ⟨w.heap.size, 2, none⟩ (.slice aj lj cj)) (.agg #[.int .i64 x.sk.count, .int .i64 x.sk.sum, .int .i64 x.sk.min, .int .i64 x.sk.max, .slice e1 r1 f1, .slice e2 r2 f2, .slice e3 r3 f3]) x.sk X ∧ Own (w.heap.size + 2) (Y2.setCell ⟨w.heap.size, 2, none⟩ (.slice aj lj cj)) X ∧ (∀ b ∈ Fj, b ∉ X) ∧ Capd aj lj cj) := ⟨HJ2.out.1.agree (.set nf 2 _), HJ2.out.2.1.agree (.set nf 2 _), HJ2.out.2.2.1.agree (.set nx 2 _), HJ2.out.2.2.2.1.agree (.set nx 2 _), HJ2.out.2.2.2.2⟩
   refine op_skip (Y2.setCell ⟨w.heap.size, 2, none⟩ (.slice aj lj cj)) rfl (by go_simp) (pk (h := hK _ _ ⟨trivial, ?_⟩))
   obtain ⟨Z7, hZ7⟩ : ∃ Z, Z = (Y2.setCell ⟨w.heap.size, 2, none⟩ (.slice aj lj cj)) := ⟨_, rfl⟩
   rw [← hZ7] at HA HJ3 ⊢
   clear hK co fo HS2 HJ2 hZ7
   refine tm 8 (.pointer (some ⟨w.heap.size, 3, none⟩)) (H := ⟨trivial, ?_⟩)
   refine oq 9 (H := fun K hK => ?_)
   refine op_storePart 31 w.heap.size 3 #[.int .i64 x.key, .int .i64 x.window, .slice aj lj cj, .int .i64 x.sk.count, .int .i64 x.sk.sum, .int .i64 x.sk.min, .int .i64 x.sk.max, .slice a1 n1 c1, .slice a2 n2 c2, .slice a3 n3 c3] #[.int .i64 x.sk.count, .int .i64 x.sk.sum, .int .i64 x.sk.min, .int .i64 x.sk.max, .slice e1 r1 f1, .slice e2 r2 f2, .slice e3 r3 f3] #[.int .i64 x.key, .int .i64 x.window, .slice aj lj cj, .int .i64 x.sk.count, .int .i64 x.sk.sum, .int .i64 x.sk.min, .int .i64 x.sk.max, .slice e1 r1 f1, .slice e2 r2 f2, .slice e3 r3 f3] 33 HA.out.1 rfl rfl rfl rfl infoSkI (by exact Nat.le_refl 10) (by simp [Value.oneCell']) rfl (pk (h := hK _ _ ⟨trivial, ?_⟩))
   clear hK
   refine wpAnyH_done (by kernel_rfl) ?_ _
   obtain ⟨E, hE⟩ : ∃ E : Array Value, E = #[.int .i64 x.key, .int .i64 x.window, .slice aj lj cj, .int .i64 x.sk.count, .int .i64 x.sk.sum, .int .i64 x.sk.min, .int .i64 x.sk.max, .slice e1 r1 f1, .slice e2 r2 f2, .slice e3 r3 f3] := ⟨_, rfl⟩
   rw [← hE]
   have HE : Hid (E = #[.int .i64 x.key, .int .i64 x.window, .slice aj lj cj, .int .i64 x.sk.count, .int .i64 x.sk.sum, .int .i64 x.sk.min, .int .i64 x.sk.max, .slice e1 r1 f1, .slice e2 r2 f2, .slice e3 r3 f3] ∧ E.size = 10 ∧ E.all (·.oneCell') = true) := ⟨hE, by rw [hE]; rfl, by rw [hE]; simp [Value.oneCell']⟩
   have HB : Hid (Blk (Z7.setRow w.heap.size E) w.heap.size E 33 ∧ Blk (Z7.setRow w.heap.size E) (w.heap.size + 1) #[.int .i64 0, .int .i64 0, .slice none 0 0, .int .i64 0, .int .i64 0, .int .i64 0, .int .i64 0, .slice none 0 0, .slice none 0 0, .slice none 0 0] 33 ∧ Below w.heap.size w (Z7.setRow w.heap.size E)) := ⟨HA.out.1.setRow, HA.out.2.1.setRowOther (by omega), below_setRow HA.out.2.2 (by omega) _⟩
   have HJ4 : Hid (RdP (Z7.setRow w.heap.size E) aj lj x.ids Fj ∧ Own (w.heap.size + 2) (Z7.setRow w.heap.size E) Fj ∧ RdSk (Z7.setRow w.heap.size E) (.agg #[.int .i64 x.sk.count, .int .i64 x.sk.sum, .int .i64 x.sk.min, .int .i64 x.sk.max, .slice e1 r1 f1, .slice e2 r2 f2, .slice e3 r3 f3]) x.sk X ∧ Own (w.heap.size + 2) (Z7.setRow w.heap.size E) X ∧ (∀ b ∈ Fj, b ∉ X) ∧ Capd aj lj cj) := ⟨HJ3.out.1.agree (Agree.row nf E), HJ3.out.2.1.agree (Agree.row nf E), HJ3.out.2.2.1.agree (Agree.row nx E), HJ3.out.2.2.2.1.agree (Agree.row nx E), HJ3.out.2.2.2.2⟩
   obtain ⟨w3, hw3⟩ : ∃ W, W = Z7.setRow w.heap.size E := ⟨_, rfl⟩
   rw [← hw3] at HB HJ4 ⊢
   clear hE hw3 HJ3 HA nf nx
   go_wp2_with (first | go_skip | (with_reducible refine stopLoad 33 rfl ?_))
   refine load_known 33 w.heap.size E 33 _ HB.out.1 rfl rfl rfl Tryz.underlying33 rfl (by rw [HE.out.2.1]; exact infoEnP10) ?_
   go_wp2_with (first | go_skip | (with_reducible refine stopStore 33 rfl ?_))
   refine store_known 33 (w.heap.size + 1) _ E 33 HB.out.2.1 rfl rfl rfl rfl (by rw [HE.out.2.1]; exact infoEnP10) (by rw [HE.out.2.1]; rfl) HE.out.2.2 ?_
   have nf : w.heap.size + 1 ∉ Fj := fun hx => by have := HJ4.out.2.1.ge _ hx; omega
   have nx : w.heap.size + 1 ∉ X := fun hx => by have := HJ4.out.2.2.2.1.ge _ hx; omega
   have HF : Hid (Blk (w3.setRow (w.heap.size + 1) E) (w.heap.size + 1) E 33 ∧ RdP (w3.setRow (w.heap.size + 1) E) aj lj x.ids Fj ∧ Own w.heap.size (w3.setRow (w.heap.size + 1) E) Fj ∧ RdSk (w3.setRow (w.heap.size + 1) E) (.agg #[.int .i64 x.sk.count, .int .i64 x.sk.sum, .int .i64 x.sk.min, .int .i64 x.sk.max, .slice e1 r1 f1, .slice e2 r2 f2, .slice e3 r3 f3]) x.sk X ∧ Own w.heap.size (w3.setRow (w.heap.size + 1) E) X ∧ Below w.heap.size w (w3.setRow (w.heap.size + 1) E)) := ⟨HB.out.2.1.setRow, HJ4.out.1.agree (Agree.row nf E), (HJ4.out.2.1.agree (Agree.row nf E)).mono (by omega), HJ4.out.2.2.1.agree (Agree.row nx E), (HJ4.out.2.2.2.1.agree (Agree.row nx E)).mono (by omega), below_setRow HB.out.2.2 (by omega) _⟩
   go_wp2
   refine bodyPost_ret (results_cell_row Tryz.results40 _ _ (w.heap.size + 1) _ _ (0, 0) _ rfl HF.out.1 Tryz.underlying33 rfl (by rw [HE.out.2.1]; exact infoEnP10)) rfl ?_
   exact ⟨_, Fj ++ X, rfl, ⟨Fj, X, rfl, aj, lj, cj, e1, r1, f1, e2, r2, f2, e3, r3, f3, by rw [HE.out.1], HF.out.2.1, HF.out.2.2.2.1, HJ4.out.2.2.2.2.2⟩, HF.out.2.2.1.app HF.out.2.2.2.2.1 HJ4.out.2.2.2.2.1, HF.out.2.2.2.2.2⟩
  case s4 =>
   intro K hK
   refine op_loadPart 31 w.heap.size 3 7 #[.int .i64 x.key, .int .i64 x.window, .slice b l c, .int .i64 x.sk.count, .int .i64 x.sk.sum, .int .i64 x.sk.min, .int .i64 x.sk.max, .slice a1 n1 c1, .slice a2 n2 c2, .slice a3 n3 c3] #[.int .i64 x.sk.count, .int .i64 x.sk.sum, .int .i64 x.sk.min, .int .i64 x.sk.max, .slice a1 n1 c1, .slice a2 n2 c2, .slice a3 n3 c3] 33 _ HS.out.1 rfl rfl rfl Tryz.underlying31 rfl infoSkI (by simp) rfl (pk (h := hK _ _ ⟨trivial, ?_⟩))
   clear hK
   refine oq 2 (H := fun K hK => ?_)
   refine op_call1 82 _ _ Tryz.f82 (fun v w' => ∃ a len cap F, v = .slice a len cap ∧ RdP w' a len x.ids F ∧ Own Y0.heap.size w' F ∧ Below Y0.heap.size Y0 w' ∧ Capd a len cap) rfl rfl Tryz.func82 (by kernel_rfl) (by kernel_rfl) ((copiedSpans_any b l c x.ids F1 Y0 (HP.out.1.below HS.out.2.2) HP.out.2.2.1).mono (by rintro e w' ⟨a, len, cap, F, rfl, h1, h2, h3, h4⟩; exact ⟨_, rfl, a, len, cap, F, rfl, h1, h2, h3, h4⟩)) ?_
   rintro _ Y3 ⟨aj, lj, cj, Fj, rfl, rj, oj, bz, hcj⟩
   have HS3 : Hid (Blk Y3 w.heap.size #[.int .i64 x.key, .int .i64 x.window, .slice b l c, .int .i64 x.sk.count, .int .i64 x.sk.sum, .int .i64 x.sk.min, .int .i64 x.sk.max, .slice a1 n1 c1, .slice a2 n2 c2, .slice a3 n3 c3] 33 ∧ Blk Y3 (w.heap.size + 1) #[.int .i64 0, .int .i64 0, .slice none 0 0, .int .i64 0, .int .i64 0, .int .i64 0, .int .i64 0, .slice none 0 0, .slice none 0 0, .slice none 0 0] 33 ∧ Below w.heap.size w Y3) := ⟨HS.out.1.below bz, HS.out.2.1.below bz, Below.next HS.out.2.2 bz⟩
   have HJ : Hid (RdP Y3 aj lj x.ids Fj ∧ Own (w.heap.size + 2) Y3 Fj ∧ Capd aj lj cj) := ⟨rj, oj.mono HS.out.2.1.lt, hcj⟩
   refine pk (h := hK _ _ ⟨trivial, ?_⟩)
   clear hK bz rj oj hcj HS
   refine tm 6 (.pointer (some ⟨w.heap.size, 2, none⟩)) (H := ⟨trivial, ?_⟩)
   refine oq 5 (H := fun K hK => ?_)
   refine op_call1 83 _ _ Tryz.f83 (fun v w' => ∃ X, RdSk w' v x.sk X ∧ Own Y3.heap.size w' X ∧ Below Y3.heap.size Y3 w') rfl rfl Tryz.func83 (by kernel_rfl) (by kernel_rfl) ((copiedSketch_all _ x.sk F2 Y3 (HP.out.2.1.below HS3.out.2.2) HP.out.2.2.2).mono (by rintro e w' ⟨v, X, rfl, h1, h2, h3⟩; exact ⟨_, rfl, X, h1, h2, h3⟩)) ?_
   rintro vm Y4 ⟨X, rm, om, bz⟩
   obtain ⟨e1, r1, f1, e2, r2, f2, e3, r3, f3, rfl⟩ := rm.cells7
   have HS4 : Hid (Blk Y4 w.heap.size #[.int .i64 x.key, .int .i64 x.window, .slice b l c, .int .i64 x.sk.count, .int .i64 x.sk.sum, .int .i64 x.sk.min, .int .i64 x.sk.max, .slice a1 n1 c1, .slice a2 n2 c2, .slice a3 n3 c3] 33 ∧ Blk Y4 (w.heap.size + 1) #[.int .i64 0, .int .i64 0, .slice none 0 0, .int .i64 0, .int .i64 0, .int .i64 0, .int .i64 0, .slice none 0 0, .slice none 0 0, .slice none 0 0] 33 ∧ Below w.heap.size w Y4) := ⟨HS3.out.1.below bz, HS3.out.2.1.below bz, Below.next HS3.out.2.2 bz⟩
   have HJ2 : Hid (RdP Y4 aj lj x.ids Fj ∧ Own (w.heap.size + 2) Y4 Fj ∧ RdSk Y4 (.agg #[.int .i64 x.sk.count, .int .i64 x.sk.sum, .int .i64 x.sk.min, .int .i64 x.sk.max, .slice e1 r1 f1, .slice e2 r2 f2, .slice e3 r3 f3]) x.sk X ∧ Own (w.heap.size + 2) Y4 X ∧ (∀ b ∈ Fj, b ∉ X) ∧ Capd aj lj cj) := ⟨HJ.out.1.below bz, HJ.out.2.1.below HJ.out.1.lt bz, rm, om.mono HS3.out.2.1.lt, fun b hb hx => by have := HJ.out.1.lt b hb; have := om.ge b hx; omega, HJ.out.2.2⟩
   refine pk (h := hK _ _ ⟨trivial, ?_⟩)
   clear hK bz rm om HS3 HJ
   refine oq 7 (H := fun K hK => ?_)
   have co := HS4.out.1.cell 2
   have fo := HS4.out.1.frozen 2
   simp only [aT, aS, aZ] at co
   have HA : Hid (Blk (Y4.setCell ⟨w.heap.size, 2, none⟩ (.slice aj lj cj)) w.heap.size #[.int .i64 x.key, .int .i64 x.window, .slice aj lj cj, .int .i64 x.sk.count, .int .i64 x.sk.sum, .int .i64 x.sk.min, .int .i64 x.sk.max, .slice a1 n1 c1, .slice a2 n2 c2, .slice a3 n3 c3] 33 ∧ Blk (Y4.setCell ⟨w.heap.size, 2, none⟩ (.slice aj lj cj)) (w.heap.size + 1) #[.int .i64 0, .int .i64 0, .slice none 0 0, .int .i64 0, .int .i64 0, .int .i64 0, .int .i64 0, .slice none 0 0, .slice none 0 0, .slice none 0 0] 33 ∧ Below w.heap.size w (Y4.setCell ⟨w.heap.size, 2, none⟩ (.slice aj lj cj))) := ⟨HS4.out.1.set 2 _, HS4.out.2.1.setOther (by omega) 2 _, HS4.out.2.2.setCell (by show w.heap.size ≤ w.heap.size; omega) _⟩
   have nf : w.heap.size ∉ Fj := fun hx => by have := HJ2.out.2.1.ge _ hx; omega
   have nx : w.heap.size ∉ X := fun hx => by have := HJ2.out.2.2.2.1.ge _ hx; omega
   have HJ3 : Hid (RdP (Y4.setCell ⟨w.heap.size, 2, none⟩ (.slice aj lj cj)) aj lj x.ids Fj ∧ Own (w.heap.size + 2) (Y4.setCell ⟨w.heap.size, 2, none⟩ (.slice aj lj cj)) Fj ∧ RdSk (Y4.setCell ⟨w.heap.size, 2, none⟩ (.slice aj lj cj)) (.agg #[.int .i64 x.sk.count, .int .i64 x.sk.sum, .int .i64 x.sk.min, .int .i64 x.sk.max, .slice e1 r1 f1, .slice e2 r2 f2, .slice e3 r3 f3]) x.sk X ∧ Own (w.heap.size + 2) (Y4.setCell ⟨w.heap.size, 2, none⟩ (.slice aj lj cj)) X ∧ (∀ b ∈ Fj, b ∉ X) ∧ Capd aj lj cj) := ⟨HJ2.out.1.agree (.set nf 2 _), HJ2.out.2.1.agree (.set nf 2 _), HJ2.out.2.2.1.agree (.set nx 2 _), HJ2.out.2.2.2.1.agree (.set nx 2 _), HJ2.out.2.2.2.2⟩
   refine op_skip (Y4.setCell ⟨w.heap.size, 2, none⟩ (.slice aj lj cj)) rfl (by go_simp) (pk (h := hK _ _ ⟨trivial, ?_⟩))
   obtain ⟨Z7, hZ7⟩ : ∃ Z, Z = (Y4.setCell ⟨w.heap.size, 2, none⟩ (.slice aj lj cj)) := ⟨_, rfl⟩
   rw [← hZ7] at HA HJ3 ⊢
   clear hK co fo HS4 HJ2 hZ7
   refine tm 8 (.pointer (some ⟨w.heap.size, 3, none⟩)) (H := ⟨trivial, ?_⟩)
   refine oq 9 (H := fun K hK => ?_)
   refine op_storePart 31 w.heap.size 3 #[.int .i64 x.key, .int .i64 x.window, .slice aj lj cj, .int .i64 x.sk.count, .int .i64 x.sk.sum, .int .i64 x.sk.min, .int .i64 x.sk.max, .slice a1 n1 c1, .slice a2 n2 c2, .slice a3 n3 c3] #[.int .i64 x.sk.count, .int .i64 x.sk.sum, .int .i64 x.sk.min, .int .i64 x.sk.max, .slice e1 r1 f1, .slice e2 r2 f2, .slice e3 r3 f3] #[.int .i64 x.key, .int .i64 x.window, .slice aj lj cj, .int .i64 x.sk.count, .int .i64 x.sk.sum, .int .i64 x.sk.min, .int .i64 x.sk.max, .slice e1 r1 f1, .slice e2 r2 f2, .slice e3 r3 f3] 33 HA.out.1 rfl rfl rfl rfl infoSkI (by exact Nat.le_refl 10) (by simp [Value.oneCell']) rfl (pk (h := hK _ _ ⟨trivial, ?_⟩))
   clear hK
   refine wpAnyH_done (by kernel_rfl) ?_ _
   obtain ⟨E, hE⟩ : ∃ E : Array Value, E = #[.int .i64 x.key, .int .i64 x.window, .slice aj lj cj, .int .i64 x.sk.count, .int .i64 x.sk.sum, .int .i64 x.sk.min, .int .i64 x.sk.max, .slice e1 r1 f1, .slice e2 r2 f2, .slice e3 r3 f3] := ⟨_, rfl⟩
   rw [← hE]
   have HE : Hid (E = #[.int .i64 x.key, .int .i64 x.window, .slice aj lj cj, .int .i64 x.sk.count, .int .i64 x.sk.sum, .int .i64 x.sk.min, .int .i64 x.sk.max, .slice e1 r1 f1, .slice e2 r2 f2, .slice e3 r3 f3] ∧ E.size = 10 ∧ E.all (·.oneCell') = true) := ⟨hE, by rw [hE]; rfl, by rw [hE]; simp [Value.oneCell']⟩
   have HB : Hid (Blk (Z7.setRow w.heap.size E) w.heap.size E 33 ∧ Blk (Z7.setRow w.heap.size E) (w.heap.size + 1) #[.int .i64 0, .int .i64 0, .slice none 0 0, .int .i64 0, .int .i64 0, .int .i64 0, .int .i64 0, .slice none 0 0, .slice none 0 0, .slice none 0 0] 33 ∧ Below w.heap.size w (Z7.setRow w.heap.size E)) := ⟨HA.out.1.setRow, HA.out.2.1.setRowOther (by omega), below_setRow HA.out.2.2 (by omega) _⟩
   have HJ4 : Hid (RdP (Z7.setRow w.heap.size E) aj lj x.ids Fj ∧ Own (w.heap.size + 2) (Z7.setRow w.heap.size E) Fj ∧ RdSk (Z7.setRow w.heap.size E) (.agg #[.int .i64 x.sk.count, .int .i64 x.sk.sum, .int .i64 x.sk.min, .int .i64 x.sk.max, .slice e1 r1 f1, .slice e2 r2 f2, .slice e3 r3 f3]) x.sk X ∧ Own (w.heap.size + 2) (Z7.setRow w.heap.size E) X ∧ (∀ b ∈ Fj, b ∉ X) ∧ Capd aj lj cj) := ⟨HJ3.out.1.agree (Agree.row nf E), HJ3.out.2.1.agree (Agree.row nf E), HJ3.out.2.2.1.agree (Agree.row nx E), HJ3.out.2.2.2.1.agree (Agree.row nx E), HJ3.out.2.2.2.2⟩
   obtain ⟨w3, hw3⟩ : ∃ W, W = Z7.setRow w.heap.size E := ⟨_, rfl⟩
   rw [← hw3] at HB HJ4 ⊢
   clear hE hw3 HJ3 HA nf nx
   go_wp2_with (first | go_skip | (with_reducible refine stopLoad 33 rfl ?_))
   refine load_known 33 w.heap.size E 33 _ HB.out.1 rfl rfl rfl Tryz.underlying33 rfl (by rw [HE.out.2.1]; exact infoEnP10) ?_
   go_wp2_with (first | go_skip | (with_reducible refine stopStore 33 rfl ?_))
   refine store_known 33 (w.heap.size + 1) _ E 33 HB.out.2.1 rfl rfl rfl rfl (by rw [HE.out.2.1]; exact infoEnP10) (by rw [HE.out.2.1]; rfl) HE.out.2.2 ?_
   have nf : w.heap.size + 1 ∉ Fj := fun hx => by have := HJ4.out.2.1.ge _ hx; omega
   have nx : w.heap.size + 1 ∉ X := fun hx => by have := HJ4.out.2.2.2.1.ge _ hx; omega
   have HF : Hid (Blk (w3.setRow (w.heap.size + 1) E) (w.heap.size + 1) E 33 ∧ RdP (w3.setRow (w.heap.size + 1) E) aj lj x.ids Fj ∧ Own w.heap.size (w3.setRow (w.heap.size + 1) E) Fj ∧ RdSk (w3.setRow (w.heap.size + 1) E) (.agg #[.int .i64 x.sk.count, .int .i64 x.sk.sum, .int .i64 x.sk.min, .int .i64 x.sk.max, .slice e1 r1 f1, .slice e2 r2 f2, .slice e3 r3 f3]) x.sk X ∧ Own w.heap.size (w3.setRow (w.heap.size + 1) E) X ∧ Below w.heap.size w (w3.setRow (w.heap.size + 1) E)) := ⟨HB.out.2.1.setRow, HJ4.out.1.agree (Agree.row nf E), (HJ4.out.2.1.agree (Agree.row nf E)).mono (by omega), HJ4.out.2.2.1.agree (Agree.row nx E), (HJ4.out.2.2.2.1.agree (Agree.row nx E)).mono (by omega), below_setRow HB.out.2.2 (by omega) _⟩
   go_wp2
   refine bodyPost_ret (results_cell_row Tryz.results40 _ _ (w.heap.size + 1) _ _ (0, 0) _ rfl HF.out.1 Tryz.underlying33 rfl (by rw [HE.out.2.1]; exact infoEnP10)) rfl ?_
   exact ⟨_, Fj ++ X, rfl, ⟨Fj, X, rfl, aj, lj, cj, e1, r1, f1, e2, r2, f2, e3, r3, f3, by rw [HE.out.1], HF.out.2.1, HF.out.2.2.2.1, HJ4.out.2.2.2.2.2⟩, HF.out.2.2.1.app HF.out.2.2.2.2.1 HJ4.out.2.2.2.2.1, HF.out.2.2.2.2.2⟩
 case s3 =>
  intro K hK
  refine op_loadPart 31 w.heap.size 3 7 #[.int .i64 x.key, .int .i64 x.window, .slice b l c, .int .i64 x.sk.count, .int .i64 x.sk.sum, .int .i64 x.sk.min, .int .i64 x.sk.max, .slice a1 n1 c1, .slice a2 n2 c2, .slice a3 n3 c3] #[.int .i64 x.sk.count, .int .i64 x.sk.sum, .int .i64 x.sk.min, .int .i64 x.sk.max, .slice a1 n1 c1, .slice a2 n2 c2, .slice a3 n3 c3] 33 _ HS.out.1 rfl rfl rfl Tryz.underlying31 rfl infoSkI (by simp) rfl (pk (h := hK _ _ ⟨trivial, ?_⟩))
  clear hK
  refine oq 1 (H := fun K hK => ?_)
  have co := HS.out.1.cell 2
  simp only [aT, aS, aZ] at co
  refine op_value (.slice b l c) rfl (by go_simp) (pk (h := hK _ _ ⟨trivial, ?_⟩))
  clear hK co
  refine oq 2 (H := fun K hK => ?_)
  refine op_call1 82 _ _ Tryz.f82 (fun v w' => ∃ a len cap F, v = .slice a len cap ∧ RdP w' a len x.ids F ∧ Own Y0.heap.size w' F ∧ Below Y0.heap.size Y0 w' ∧ Capd a len cap) rfl rfl Tryz.func82 (by kernel_rfl) (by kernel_rfl) ((copiedSpans_any b l c x.ids F1 Y0 (HP.out.1.below HS.out.2.2) HP.out.2.2.1).mono (by rintro e w' ⟨a, len, cap, F, rfl, h1, h2, h3, h4⟩; exact ⟨_, rfl, a, len, cap, F, rfl, h1, h2, h3, h4⟩)) ?_
  rintro _ Y5 ⟨aj, lj, cj, Fj, rfl, rj, oj, bz, hcj⟩
  have HS5 : Hid (Blk Y5 w.heap.size #[.int .i64 x.key, .int .i64 x.window, .slice b l c, .int .i64 x.sk.count, .int .i64 x.sk.sum, .int .i64 x.sk.min, .int .i64 x.sk.max, .slice a1 n1 c1, .slice a2 n2 c2, .slice a3 n3 c3] 33 ∧ Blk Y5 (w.heap.size + 1) #[.int .i64 0, .int .i64 0, .slice none 0 0, .int .i64 0, .int .i64 0, .int .i64 0, .int .i64 0, .slice none 0 0, .slice none 0 0, .slice none 0 0] 33 ∧ Below w.heap.size w Y5) := ⟨HS.out.1.below bz, HS.out.2.1.below bz, Below.next HS.out.2.2 bz⟩
  have HJ : Hid (RdP Y5 aj lj x.ids Fj ∧ Own (w.heap.size + 2) Y5 Fj ∧ Capd aj lj cj) := ⟨rj, oj.mono HS.out.2.1.lt, hcj⟩
  refine pk (h := hK _ _ ⟨trivial, ?_⟩)
  clear hK bz rj oj hcj HS
  refine tm 6 (.pointer (some ⟨w.heap.size, 2, none⟩)) (H := ⟨trivial, ?_⟩)
  refine oq 5 (H := fun K hK => ?_)
  refine op_call1 83 _ _ Tryz.f83 (fun v w' => ∃ X, RdSk w' v x.sk X ∧ Own Y5.heap.size w' X ∧ Below Y5.heap.size Y5 w') rfl rfl Tryz.func83 (by kernel_rfl) (by kernel_rfl) ((copiedSketch_all _ x.sk F2 Y5 (HP.out.2.1.below HS5.out.2.2) HP.out.2.2.2).mono (by rintro e w' ⟨v, X, rfl, h1, h2, h3⟩; exact ⟨_, rfl, X, h1, h2, h3⟩)) ?_
  rintro vm Y6 ⟨X, rm, om, bz⟩
  obtain ⟨e1, r1, f1, e2, r2, f2, e3, r3, f3, rfl⟩ := rm.cells7
  have HS6 : Hid (Blk Y6 w.heap.size #[.int .i64 x.key, .int .i64 x.window, .slice b l c, .int .i64 x.sk.count, .int .i64 x.sk.sum, .int .i64 x.sk.min, .int .i64 x.sk.max, .slice a1 n1 c1, .slice a2 n2 c2, .slice a3 n3 c3] 33 ∧ Blk Y6 (w.heap.size + 1) #[.int .i64 0, .int .i64 0, .slice none 0 0, .int .i64 0, .int .i64 0, .int .i64 0, .int .i64 0, .slice none 0 0, .slice none 0 0, .slice none 0 0] 33 ∧ Below w.heap.size w Y6) := ⟨HS5.out.1.below bz, HS5.out.2.1.below bz, Below.next HS5.out.2.2 bz⟩
  have HJ2 : Hid (RdP Y6 aj lj x.ids Fj ∧ Own (w.heap.size + 2) Y6 Fj ∧ RdSk Y6 (.agg #[.int .i64 x.sk.count, .int .i64 x.sk.sum, .int .i64 x.sk.min, .int .i64 x.sk.max, .slice e1 r1 f1, .slice e2 r2 f2, .slice e3 r3 f3]) x.sk X ∧ Own (w.heap.size + 2) Y6 X ∧ (∀ b ∈ Fj, b ∉ X) ∧ Capd aj lj cj) := ⟨HJ.out.1.below bz, HJ.out.2.1.below HJ.out.1.lt bz, rm, om.mono HS5.out.2.1.lt, fun b hb hx => by have := HJ.out.1.lt b hb; have := om.ge b hx; omega, HJ.out.2.2⟩
  refine pk (h := hK _ _ ⟨trivial, ?_⟩)
  clear hK bz rm om HS5 HJ
  refine oq 7 (H := fun K hK => ?_)
  have co := HS6.out.1.cell 2
  have fo := HS6.out.1.frozen 2
  simp only [aT, aS, aZ] at co
  have HA : Hid (Blk (Y6.setCell ⟨w.heap.size, 2, none⟩ (.slice aj lj cj)) w.heap.size #[.int .i64 x.key, .int .i64 x.window, .slice aj lj cj, .int .i64 x.sk.count, .int .i64 x.sk.sum, .int .i64 x.sk.min, .int .i64 x.sk.max, .slice a1 n1 c1, .slice a2 n2 c2, .slice a3 n3 c3] 33 ∧ Blk (Y6.setCell ⟨w.heap.size, 2, none⟩ (.slice aj lj cj)) (w.heap.size + 1) #[.int .i64 0, .int .i64 0, .slice none 0 0, .int .i64 0, .int .i64 0, .int .i64 0, .int .i64 0, .slice none 0 0, .slice none 0 0, .slice none 0 0] 33 ∧ Below w.heap.size w (Y6.setCell ⟨w.heap.size, 2, none⟩ (.slice aj lj cj))) := ⟨HS6.out.1.set 2 _, HS6.out.2.1.setOther (by omega) 2 _, HS6.out.2.2.setCell (by show w.heap.size ≤ w.heap.size; omega) _⟩
  have nf : w.heap.size ∉ Fj := fun hx => by have := HJ2.out.2.1.ge _ hx; omega
  have nx : w.heap.size ∉ X := fun hx => by have := HJ2.out.2.2.2.1.ge _ hx; omega
  have HJ3 : Hid (RdP (Y6.setCell ⟨w.heap.size, 2, none⟩ (.slice aj lj cj)) aj lj x.ids Fj ∧ Own (w.heap.size + 2) (Y6.setCell ⟨w.heap.size, 2, none⟩ (.slice aj lj cj)) Fj ∧ RdSk (Y6.setCell ⟨w.heap.size, 2, none⟩ (.slice aj lj cj)) (.agg #[.int .i64 x.sk.count, .int .i64 x.sk.sum, .int .i64 x.sk.min, .int .i64 x.sk.max, .slice e1 r1 f1, .slice e2 r2 f2, .slice e3 r3 f3]) x.sk X ∧ Own (w.heap.size + 2) (Y6.setCell ⟨w.heap.size, 2, none⟩ (.slice aj lj cj)) X ∧ (∀ b ∈ Fj, b ∉ X) ∧ Capd aj lj cj) := ⟨HJ2.out.1.agree (.set nf 2 _), HJ2.out.2.1.agree (.set nf 2 _), HJ2.out.2.2.1.agree (.set nx 2 _), HJ2.out.2.2.2.1.agree (.set nx 2 _), HJ2.out.2.2.2.2⟩
  refine op_skip (Y6.setCell ⟨w.heap.size, 2, none⟩ (.slice aj lj cj)) rfl (by go_simp) (pk (h := hK _ _ ⟨trivial, ?_⟩))
  obtain ⟨Z7, hZ7⟩ : ∃ Z, Z = (Y6.setCell ⟨w.heap.size, 2, none⟩ (.slice aj lj cj)) := ⟨_, rfl⟩
  rw [← hZ7] at HA HJ3 ⊢
  clear hK co fo HS6 HJ2 hZ7
  refine tm 8 (.pointer (some ⟨w.heap.size, 3, none⟩)) (H := ⟨trivial, ?_⟩)
  refine oq 9 (H := fun K hK => ?_)
  refine op_storePart 31 w.heap.size 3 #[.int .i64 x.key, .int .i64 x.window, .slice aj lj cj, .int .i64 x.sk.count, .int .i64 x.sk.sum, .int .i64 x.sk.min, .int .i64 x.sk.max, .slice a1 n1 c1, .slice a2 n2 c2, .slice a3 n3 c3] #[.int .i64 x.sk.count, .int .i64 x.sk.sum, .int .i64 x.sk.min, .int .i64 x.sk.max, .slice e1 r1 f1, .slice e2 r2 f2, .slice e3 r3 f3] #[.int .i64 x.key, .int .i64 x.window, .slice aj lj cj, .int .i64 x.sk.count, .int .i64 x.sk.sum, .int .i64 x.sk.min, .int .i64 x.sk.max, .slice e1 r1 f1, .slice e2 r2 f2, .slice e3 r3 f3] 33 HA.out.1 rfl rfl rfl rfl infoSkI (by exact Nat.le_refl 10) (by simp [Value.oneCell']) rfl (pk (h := hK _ _ ⟨trivial, ?_⟩))
  clear hK
  refine wpAnyH_done (by kernel_rfl) ?_ _
  obtain ⟨E, hE⟩ : ∃ E : Array Value, E = #[.int .i64 x.key, .int .i64 x.window, .slice aj lj cj, .int .i64 x.sk.count, .int .i64 x.sk.sum, .int .i64 x.sk.min, .int .i64 x.sk.max, .slice e1 r1 f1, .slice e2 r2 f2, .slice e3 r3 f3] := ⟨_, rfl⟩
  rw [← hE]
  have HE : Hid (E = #[.int .i64 x.key, .int .i64 x.window, .slice aj lj cj, .int .i64 x.sk.count, .int .i64 x.sk.sum, .int .i64 x.sk.min, .int .i64 x.sk.max, .slice e1 r1 f1, .slice e2 r2 f2, .slice e3 r3 f3] ∧ E.size = 10 ∧ E.all (·.oneCell') = true) := ⟨hE, by rw [hE]; rfl, by rw [hE]; simp [Value.oneCell']⟩
  have HB : Hid (Blk (Z7.setRow w.heap.size E) w.heap.size E 33 ∧ Blk (Z7.setRow w.heap.size E) (w.heap.size + 1) #[.int .i64 0, .int .i64 0, .slice none 0 0, .int .i64 0, .int .i64 0, .int .i64 0, .int .i64 0, .slice none 0 0, .slice none 0 0, .slice none 0 0] 33 ∧ Below w.heap.size w (Z7.setRow w.heap.size E)) := ⟨HA.out.1.setRow, HA.out.2.1.setRowOther (by omega), below_setRow HA.out.2.2 (by omega) _⟩
  have HJ4 : Hid (RdP (Z7.setRow w.heap.size E) aj lj x.ids Fj ∧ Own (w.heap.size + 2) (Z7.setRow w.heap.size E) Fj ∧ RdSk (Z7.setRow w.heap.size E) (.agg #[.int .i64 x.sk.count, .int .i64 x.sk.sum, .int .i64 x.sk.min, .int .i64 x.sk.max, .slice e1 r1 f1, .slice e2 r2 f2, .slice e3 r3 f3]) x.sk X ∧ Own (w.heap.size + 2) (Z7.setRow w.heap.size E) X ∧ (∀ b ∈ Fj, b ∉ X) ∧ Capd aj lj cj) := ⟨HJ3.out.1.agree (Agree.row nf E), HJ3.out.2.1.agree (Agree.row nf E), HJ3.out.2.2.1.agree (Agree.row nx E), HJ3.out.2.2.2.1.agree (Agree.row nx E), HJ3.out.2.2.2.2⟩
  obtain ⟨w3, hw3⟩ : ∃ W, W = Z7.setRow w.heap.size E := ⟨_, rfl⟩
  rw [← hw3] at HB HJ4 ⊢
  clear hE hw3 HJ3 HA nf nx
  go_wp2_with (first | go_skip | (with_reducible refine stopLoad 33 rfl ?_))
  refine load_known 33 w.heap.size E 33 _ HB.out.1 rfl rfl rfl Tryz.underlying33 rfl (by rw [HE.out.2.1]; exact infoEnP10) ?_
  go_wp2_with (first | go_skip | (with_reducible refine stopStore 33 rfl ?_))
  refine store_known 33 (w.heap.size + 1) _ E 33 HB.out.2.1 rfl rfl rfl rfl (by rw [HE.out.2.1]; exact infoEnP10) (by rw [HE.out.2.1]; rfl) HE.out.2.2 ?_
  have nf : w.heap.size + 1 ∉ Fj := fun hx => by have := HJ4.out.2.1.ge _ hx; omega
  have nx : w.heap.size + 1 ∉ X := fun hx => by have := HJ4.out.2.2.2.1.ge _ hx; omega
  have HF : Hid (Blk (w3.setRow (w.heap.size + 1) E) (w.heap.size + 1) E 33 ∧ RdP (w3.setRow (w.heap.size + 1) E) aj lj x.ids Fj ∧ Own w.heap.size (w3.setRow (w.heap.size + 1) E) Fj ∧ RdSk (w3.setRow (w.heap.size + 1) E) (.agg #[.int .i64 x.sk.count, .int .i64 x.sk.sum, .int .i64 x.sk.min, .int .i64 x.sk.max, .slice e1 r1 f1, .slice e2 r2 f2, .slice e3 r3 f3]) x.sk X ∧ Own w.heap.size (w3.setRow (w.heap.size + 1) E) X ∧ Below w.heap.size w (w3.setRow (w.heap.size + 1) E)) := ⟨HB.out.2.1.setRow, HJ4.out.1.agree (Agree.row nf E), (HJ4.out.2.1.agree (Agree.row nf E)).mono (by omega), HJ4.out.2.2.1.agree (Agree.row nx E), (HJ4.out.2.2.2.1.agree (Agree.row nx E)).mono (by omega), below_setRow HB.out.2.2 (by omega) _⟩
  go_wp2
  refine bodyPost_ret (results_cell_row Tryz.results40 _ _ (w.heap.size + 1) _ _ (0, 0) _ rfl HF.out.1 Tryz.underlying33 rfl (by rw [HE.out.2.1]; exact infoEnP10)) rfl ?_
  exact ⟨_, Fj ++ X, rfl, ⟨Fj, X, rfl, aj, lj, cj, e1, r1, f1, e2, r2, f2, e3, r3, f3, by rw [HE.out.1], HF.out.2.1, HF.out.2.2.2.1, HJ4.out.2.2.2.2.2⟩, HF.out.2.2.1.app HF.out.2.2.2.2.1 HJ4.out.2.2.2.2.1, HF.out.2.2.2.2.2⟩
end
section
open Go.RowKit
section
variable {α : Type} {K : ElK α} {w w' : World}
theorem rdC_of : ∀ {xs : List α} {b off : Nat} {F : List Nat}, RdEls K w b xs off F → ∃ vs, RdC K w xs vs F ∧ (∀ i, i < vs.length → w.cell? ⟨b, off + i, none⟩ = vs[i]?) ∧ ∀ u ∈ vs, u.oneCell' = true
 | [], b, off, F, h => by
  rw [RdEls] at h
  exact ⟨[], ⟨rfl, h⟩, fun i hi => by simp at hi, by simp⟩
 | x :: xs, b, off, F, h => by
  obtain ⟨cs, F1, F2, h1, h2, h3, h4, rfl⟩ := h
  obtain ⟨vs, k1, k2, k3⟩ := rdC_of h4
  obtain ⟨cs', e, _, hone⟩ := K.cells h3
  injection e with e
  subst e
  refine ⟨cs.toList ++ vs, ⟨cs, vs, F1, F2, rfl, h1, h3, k1, rfl⟩, fun i hi => ?_, fun u hu => ?_⟩
  ·
   by_cases hlt : i < K.n
   ·
    rw [h2 i hlt, List.getElem?_append_left (by rw [Array.length_toList, h1]; exact hlt), Array.getElem?_toList]
   ·
    rw [List.getElem?_append_right (by rw [Array.length_toList, h1]; omega), Array.length_toList, h1]
    have := k2 (i - K.n) (by rw [List.length_append, Array.length_toList, h1] at hi; omega)
    rw [show off + K.n + (i - K.n) = off + i by omega] at this
    exact this
  ·
   rcases List.mem_append.1 hu with hu | hu
   ·
    exact (Array.all_eq_true_iff_forall_mem.1 hone) u (by simpa using hu)
   ·
    exact k3 u hu
theorem rdL_shallow {B e m : Nat} {v : Value} {xs : List α} {vs : List Value} {G : List Nat} (h : w.ownsRow B e K.n v m vs) (hr : RdC K w xs vs G) (hm : 0 < m) :
 ∃ g cap, v = .slice (some ⟨g, 0, none⟩) m cap ∧ m ≤ cap ∧ RdL K w (some ⟨g, 0, none⟩) m xs (g :: G) ∧ B ≤ g ∧ g < w.heap.size ∧ ∀ o, w.frozen? ⟨g, o, none⟩ = false := by
 have hl : xs.length = m := by
  have h1 := hr.length
  have h2 := h.1
  exact Nat.eq_of_mul_eq_mul_right K.pos (h1.symm.trans h2)
 rcases h.2 with ⟨e1, e2⟩ | ⟨g, cap, cur, e1, h1, h2, h3, h4, h5, h6⟩
 ·
  subst e2; omega
 ·
  subst e1
  refine ⟨g, cap, rfl, h3, ⟨hl, .inr ⟨g, 0, G, hm, rfl, rfl, rdEls_of 0 hr (fun i hi => ?_)⟩⟩, h1, (h.lt g rfl).2, fun o => h.frozenAt o⟩
  rw [Nat.zero_add]; exact h.cellAt i (by rw [← h.1]; exact hi)
variable {P : Program} {ops : Array Oper} {Q : Exit → Act → World → Prop} {a : Act} {o : Oper} {C : Act → World → Prop}
end
theorem results_row2_tmp {P : Program} {fn : Func} {p u s : Tmp} {ty tz : TypeId} (h : fn.results = #[.cell p ty, .cell u tz, .tmp s]) (tmps : Array Value) (w : World) (g k : Nat) (t t' : TypeId) (cs ds : Array Value) (d d' : TypeDesc)
 (hp : tmps.getD p undef = .pointer (some ⟨g, 0, none⟩)) (hq : tmps.getD u undef = .pointer (some ⟨k, 0, none⟩)) (hg : Blk w g cs t) (hk : Blk w k ds t')
 (hu : P.underlying ty = some d) (hd : (match d with | .struct _ | .array _ _ => true | _ => false) = true) (hi : (P.info? ty).map (·.size) = some cs.size)
 (hu' : P.underlying tz = some d') (hd' : (match d' with | .struct _ | .array _ _ => true | _ => false) = true) (hj : (P.info? tz).map (·.size) = some ds.size) :
 (results fn tmps).run P w = .ok (.tuple #[.agg cs, .agg ds, tmps.getD s undef]) w := by
 have e : (results fn tmps).run P w = ((asAddr (tmps.getD p undef)).run P w).andThen fun a w₁ => ((loadVar ty a).run P w₁).andThen fun v w₂ => ((asAddr (tmps.getD u undef)).run P w₂).andThen fun a w₁ => ((loadVar tz a).run P w₁).andThen fun v' w₂ => .ok (.tuple #[v, v', tmps.getD s undef]) w₂ := by
  simp only [results, h]
  simp [Sem.run_bind, Result.andThen]
 rw [e, hp, hq]
 simp [asAddr, run_loadVar_row w g t ty cs (0, 0) d hg hu hd hi, run_loadVar_row w k t' tz ds (0, 0) d' hk hu' hd' hj, Result.andThen]
end
section
set_option maxRecDepth 200000
set_option maxHeartbeats 16000000
open Go.RowKit
theorem run_append_nothing {P : Program} {w : World} (t ty e : TypeId) (i : TypeInfo) (ht : P.underlying t = some (.slice e)) (hi : P.info? e = some i) (ad : Addr) (n k : Nat) (hk : n ≤ k) :
 (Builtin.append_ #[t, t] ty #[.slice (some ad) n k, .slice none 0 0]).run P w = .ok (.slice (some ad) n k) w := by
 simp [Builtin.append_, run_underlying ht, sizeOf, typeInfo, hi, Builtin.lenOf, Builtin.firstCells, storeCells, hk]
theorem growNil_any (n : Nat) (w : World) (h0 : 0 < n) (hn : n ≤ 2097153) :
 Calls Tryz.prog 143 #[.slice none 0 0, .int .i64 n] w fun e w' => ∃ cap, e = .returned (.slice (some ⟨w.heap.size, 0, none⟩) 0 cap) ∧ w'.ownsRow w.heap.size 33 10 (.slice (some ⟨w.heap.size, 0, none⟩) 0 cap) 0 [] ∧ Below w.heap.size w w' := by
 obtain ⟨i0, hi, hz0, hz1, hz2⟩ := info_parts infoEnG
 have h1 : ¬ ((n : Int) < 0) := by omega
 have h2 : (0 : Int) < (n : Int) := by omega
 have h3 : wrap64 (n : Int) = (n : Int) := by unfold wrap64; omega
 have hrz : ∀ ty, (Builtin.append_ #[24, 3] ty #[.slice none 0 0, .int .i64 n]).run Tryz.prog w = .ok (.slice (some ⟨w.heap.size, 0, none⟩) n (grownCap w n 0 33)) (w.drew.alloc (.cells (Builtin.zeroCells (Value.agg #[.int .i64 0, .int .i64 0, .slice none 0 0, .int .i64 0, .int .i64 0, .int .i64 0, .int .i64 0, .slice none 0 0, .slice none 0 0, .slice none 0 0]).cells n ++ Builtin.zeroCells (Value.agg #[.int .i64 0, .int .i64 0, .slice none 0 0, .int .i64 0, .int .i64 0, .int .i64 0, .int .i64 0, .slice none 0 0, .slice none 0 0, .slice none 0 0]).cells (grownCap w n 0 33 - n)) 33)) :=
  fun ty => Lib.run_append_nil_zeros w 24 3 ty 33 i0 _ .i64 .i64 Tryz.underlying24 Tryz.underlying3 hi hz0 n h0 (by rw [hz1]; decide) (by omega) (by rw [hz2]; omega)
 have HG : Hid (n ≤ grownCap w n 0 33 ∧ grownCap w n 0 33 ≤ maxLen) := ⟨grownCap_ge w _ _ _, grownCap_le_maxLen w n 0 _ (by unfold maxLen; omega)⟩
 obtain ⟨G, hG⟩ : ∃ G, G = grownCap w n 0 33 := ⟨_, rfl⟩
 rw [← hG] at hrz HG
 clear hG
 obtain ⟨cells, hcells⟩ : ∃ cells, cells = Builtin.zeroCells (Value.agg #[.int .i64 0, .int .i64 0, .slice none 0 0, .int .i64 0, .int .i64 0, .int .i64 0, .int .i64 0, .slice none 0 0, .slice none 0 0, .slice none 0 0]).cells n ++ Builtin.zeroCells (Value.agg #[.int .i64 0, .int .i64 0, .slice none 0 0, .int .i64 0, .int .i64 0, .int .i64 0, .int .i64 0, .slice none 0 0, .slice none 0 0, .slice none 0 0]).cells (G - n) := ⟨_, rfl⟩
 rw [← hcells] at hrz
 have HC : Hid (cells.size = G * 10) := by
  show _ = _
  have := HG.out.1
  rw [hcells]
  simp [Builtin.zeroCells, Value.cells]
  omega
 clear hcells hi hz0 hz1 hz2 i0
 have hGn : n ≤ G := HG.out.1
 have h4 : ¬ ((G : Int) < 0) := by omega
 go_enter Tryz.func143, Tryz.ntmps143
 go_wp2_with (at_builtin; refine Lib.wpList_append_run _ rfl _ _ _ _ rfl _ _ rfl rfl _ _ (hrz _) ?_)
 go_wp2
 go_ret
 refine ⟨_, rfl, ?_, Below.allocW _ (Below.refl _ _).drew (by simp)⟩
 have := World.ownsRow_made (base := w.heap.size) (e := 33) (size := 10) w.drew cells G (by simp) HG.out.2 HC.out
 change (w.drew.alloc (.cells cells 33)).ownsRow _ _ _ _ _ _
 simpa using this
def Shal (w : World) (xs : List En) (v : Value) (H : List Nat) (w' : World) : Prop := ∃ vs, w'.ownsRow w.heap.size 33 10 v xs.length vs ∧ RdC enK w' xs vs H ∧ (∀ u ∈ vs, u.oneCell' = true) ∧ Below w.heap.size w w'
theorem Shal.row {w : World} {xs : List En} {v : Value} {H : List Nat} {w' : World} (h : Shal w xs v H w') (hp : 0 < xs.length) : ∃ g cap, v = .slice (some ⟨g, 0, none⟩) xs.length cap ∧ xs.length ≤ cap ∧ RdL enK w' (some ⟨g, 0, none⟩) xs.length xs (g :: H) ∧ w.heap.size ≤ g ∧ g < w'.heap.size ∧ ∀ o, w'.frozen? ⟨g, o, none⟩ = false := by
 obtain ⟨vs, h1, h2, _, _⟩ := h
 exact rdL_shallow h1 h2 hp
theorem RdL.flat {w : World} {p : Option Addr} {l : Nat} {xs : List En} {F : List Nat} (h : RdL enK w p l xs F) : ∃ vs H, RdC enK w xs vs H ∧ (∀ u ∈ vs, u.oneCell' = true) ∧ vs.length = l * 10 ∧ (∀ b ∈ H, b ∈ F) ∧ (l = 0 ∨ ∃ b off, p = some ⟨b, off, none⟩ ∧ b < w.heap.size ∧ ∀ i, i < vs.length → w.cell? ⟨b, off + i, none⟩ = vs[i]?) := by
 rcases h.cells with ⟨h0, hF⟩ | ⟨b, off, F', hp, ha, hF, he⟩
 ·
  have : xs = [] := List.eq_nil_of_length_eq_zero (by rw [h.length, h0])
  subst this
  exact ⟨[], [], ⟨rfl, rfl⟩, by simp, by simp [h0], by simp, .inl h0⟩
 ·
  obtain ⟨vs, k1, k2, k3⟩ := rdC_of he
  have hb : b < w.heap.size := h.lt b (by rw [hF]; simp)
  exact ⟨vs, F', k1, k3, by rw [k1.length, h.length]; rfl, fun x hx => by rw [hF]; simp [hx], .inr ⟨b, off, ha, hb, k2⟩⟩
theorem concat_any (p : Option Addr) (l c : Nat) (xs : List En) (F : List Nat) (e : En) (es : Array Value) (G : List Nat) (Q PB : Nat) (w : World) (h : RdL enK w p l xs F) (hc : Capd p l c) (k : RdE w (.agg es) e G) (hQ : Blk w Q es 33) (hP : Blk w PB #[.slice p l c, .slice (some ⟨Q, 0, none⟩) 1 1] 24) (hl : l ≤ 2097152) :
 Calls Tryz.prog 102 #[.slice (some ⟨PB, 0, none⟩) 2 2] w fun r w' => ∃ v, r = .returned v ∧ ∃ H, Shal w (xs ++ [e]) v H w' ∧ ∀ b ∈ H, b ∈ F ∨ b ∈ G := by
 obtain ⟨i0, hi, hz0, hz1, hz2⟩ := info_parts infoEnG
 have HI : Hid (p = none → l = 0 ∧ c = 0) := fun e => by have := hc.1 e; have := hc.2; exact ⟨by omega, by omega⟩
 obtain ⟨_, ee, hes, hes1⟩ := RdE.cells k
 injection ee with ee
 subst ee
 obtain ⟨vs, H, hrc, hone, hvl, hHF, hcell⟩ := h.flat
 have HV : Hid (RdC enK w xs vs H ∧ (∀ u ∈ vs, u.oneCell' = true) ∧ vs.length = l * 10 ∧ (l = 0 ∨ ∃ b off, p = some ⟨b, off, none⟩ ∧ b < w.heap.size ∧ ∀ i, i < vs.length → w.cell? ⟨b, off + i, none⟩ = vs[i]?)) := ⟨hrc, hone, hvl, hcell⟩
 have HX : Hid (xs.length = l ∧ (∀ b ∈ H, b ∈ F) ∧ RdE w (.agg es) e G ∧ es.size = 10 ∧ es.all (·.oneCell') = true) := ⟨h.length, hHF, k, hes, hes1⟩
 have HB : Hid (Blk w Q es 33 ∧ Blk w PB #[.slice p l c, .slice (some ⟨Q, 0, none⟩) 1 1] 24) := ⟨hQ, hP⟩
 clear h hc k hQ hP hes hes1 hrc hone hvl hHF hcell
 have p0 := HB.out.2.cell 0
 have p1 := HB.out.2.cell 1
 simp only [aT, aS, aZ] at p0 p1
 go_enter Tryz.func102, Tryz.ntmps102
 go_wp2
 go_loopw [3, 11] (fun s i wr => ∃ (k : Nat) (z : Nat), k ≤ 2 ∧ i = .int .i64 k ∧ s = .int .i64 z ∧ wr = w ∧ Hid (z = if k = 0 then 0 else if k = 1 then l else l + 1)) (fun _ i _ => 2 - (intOf i).toNat)
 case atStart => exact ⟨0, 0, by omega, rfl, rfl, rfl, rfl⟩
 case round =>
  obtain ⟨k, z, hk, rfl, rfl, rfl, HZ⟩ := hrel
  by_cases hlt : k < 2
  ·
   have hI : (k : Int) < 2 := by omega
   have hz : z ≤ 2097153 := by have := HZ.out; split at this <;> (try split at this) <;> omega
   rcases (show k = 0 ∨ k = 1 by omega) with rfl | rfl
   ·
    have HZ2 : Hid (z + l = l) := by have := HZ.out; simp at this; show _ = _; omega
    have n0 : ¬ (((z : Int) + (l : Int)) < 0) := by omega
    go_wp2
    go_roundw
    case rel => exact ⟨1, z + l, by omega, by go_num, by go_num, trivial, by have := HZ2.out; show _ = _; simp; omega⟩
    case measure => simp [intOf]
   ·
    have HZ2 : Hid (z = l) := by have := HZ.out; simp at this; exact this
    have n0 : ¬ (((z : Int) + 1) < 0) := by omega
    go_wp2
    go_roundw
    case rel => exact ⟨2, z + 1, by omega, by go_num, by go_num, trivial, by have := HZ2.out; show _ = _; simp; omega⟩
    case measure => simp [intOf]
  ·
   obtain rfl : k = 2 := by omega
   have hz : z = l + 1 := by have := HZ.out; simpa using this
   subst hz
   go_wp2_with fail
   refine (growNil_any (l + 1) _ (by omega) (by omega)).mono ?_
   rintro r w1 ⟨cap, rfl, ho, hb⟩
   obtain ⟨w0, hw0⟩ : ∃ W, W = wr := ⟨_, rfl⟩
   subst hw0
   obtain ⟨L, hL⟩ : ∃ L, L = w0.heap.size := ⟨_, rfl⟩
   have HG : Hid (L = w0.heap.size) := hL
   have HO : Hid (w1.ownsRow L 33 10 (.slice (some ⟨L, 0, none⟩) 0 cap) 0 [] ∧ Below w0.heap.size w0 w1) := ⟨by rw [hL]; exact ho, hb⟩
   rw [← hL]
   clear ho hb hL p0 p1 HZ
   go_wp2
   go_loopw [6, 27] (fun v i ws => ∃ k : Nat, k ≤ 2 ∧ i = .int .i64 k ∧ Hid (Below w0.heap.size w0 ws ∧ ((k = 0 ∧ v = .slice (some ⟨L, 0, none⟩) 0 cap ∧ ws.ownsRow L 33 10 (.slice (some ⟨L, 0, none⟩) 0 cap) 0 []) ∨ (k = 1 ∧ ws.ownsRow L 33 10 v l vs) ∨ (k = 2 ∧ ws.ownsRow L 33 10 v (l + 1) (vs ++ es.toList))))) (fun _ i _ => 2 - (intOf i).toNat)
   case atStart => exact ⟨0, by omega, rfl, HO.out.2, .inl ⟨rfl, rfl, HO.out.1⟩⟩
   case round =>
    clear HO
    obtain ⟨k, hk, rfl, HW⟩ := hrel
    have p0 : wr.cell? ⟨PB, 0, none⟩ = some (.slice p l c) := by rw [(HB.out.2.below HW.out.1).cell]; rfl
    have p1 : wr.cell? ⟨PB, 1, none⟩ = some (.slice (some ⟨Q, 0, none⟩) 1 1) := by rw [(HB.out.2.below HW.out.1).cell]; rfl
    have hLw : L ≤ wr.heap.size := by have := HW.out.1.size; have := HG.out; omega
    by_cases hlt : k < 2
    ·
     have hI : (k : Int) < 2 := by omega
     rcases (show k = 0 ∨ k = 1 by omega) with rfl | rfl
     ·
      have HR : Hid (u6 = .slice (some ⟨L, 0, none⟩) 0 cap ∧ wr.ownsRow L 33 10 (.slice (some ⟨L, 0, none⟩) 0 cap) 0 []) := by
       rcases HW.out.2 with ⟨_, h1, h2⟩ | ⟨h1, _⟩ | ⟨h1, _⟩
       ·
        exact ⟨h1, h2⟩
       ·
        omega
       ·
        omega
      have hu := HR.out.1
      subst hu
      by_cases hnil : p = none
      ·
       obtain ⟨hl0, hc0⟩ := HI.out hnil
       have HN : Hid (l = 0 ∧ vs = []) := ⟨hl0, List.eq_nil_of_length_eq_zero (by rw [HV.out.2.2.1, hl0])⟩
       have p0' : wr.cell? ⟨PB, 0, none⟩ = some (.slice none 0 0) := by rw [p0, hnil, hl0, hc0]
       clear p0 hl0 hc0 hnil
       have hcap : 0 ≤ cap := Nat.zero_le _
       go_wp2_with (with_reducible refine stopAppend rfl ?_)
       refine Stop.intro (Lib.wpList_append_run _ rfl _ _ _ _ rfl _ _ rfl rfl _ _ (run_append_nothing 24 _ 33 i0 Tryz.underlying24 hi ⟨L, 0, none⟩ 0 cap hcap) ?_)
       go_wp2
       go_roundw
       case rel => exact ⟨1, by omega, by go_num, HW.out.1, .inr (.inl ⟨rfl, by rw [HN.out.1, HN.out.2]; exact HR.out.2⟩)⟩
       case measure => simp [intOf]
      ·
       obtain ⟨ad, rfl⟩ : ∃ ad, p = some ad := by cases p; exact absurd rfl hnil; exact ⟨_, rfl⟩
       have HNW : Hid (∀ j u, vs[j]? = some u → wr.cell? (ad.add j) = some u) := fun j u hj => by
        have hj' : j < vs.length := (List.getElem?_eq_some_iff.1 hj).1
        rcases HV.out.2.2.2 with h0 | ⟨b, off, e, hb, hc⟩
        ·
         rw [HV.out.2.2.1, h0] at hj'; omega
        ·
         cases e
         have ea : ((⟨b, off, none⟩ : Addr).add j) = ⟨b, off + j, none⟩ := by unfold Addr.add; split <;> simp_all
         rw [ea, HW.out.1.cell (p := ⟨b, off + j, none⟩) hb, hc j hj', hj]
       clear hnil
       go_wp2_with (with_reducible refine stopAppend rfl ?_)
       refine Stop.intro (wpList_append_own _ rfl _ _ 24 rfl L 33 i0 _ 10 144 Tryz.underlying24 hi hz0 hz1 hz2 rfl (by decide) (.slice (some ⟨L, 0, none⟩) 0 cap) 0 [] rfl HR.out.2 ad l c vs rfl HV.out.2.2.1 HNW.out HV.out.2.1 (by unfold maxLen; omega) (by omega) hLw ?_)
       intro v' w' hown hgrow _
       have HW2 : Hid (Below w0.heap.size w0 w' ∧ w'.ownsRow L 33 10 v' l vs) := ⟨HW.out.1.grown hgrow HW.out.1.size (fun b hb => by simp [Value.ownBlock] at hb; rw [← hb, ← HG.out]; exact Nat.le_refl _), by simpa using hown⟩
       clear hown hgrow HNW
       go_wp2
       go_roundw
       case rel => exact ⟨1, by omega, by go_num, HW2.out.1, .inr (.inl ⟨rfl, HW2.out.2⟩)⟩
       case measure => simp [intOf]
     ·
      have HR : Hid (wr.ownsRow L 33 10 u6 l vs) := by
       rcases HW.out.2 with ⟨h1, _⟩ | ⟨_, h2⟩ | ⟨h1, _⟩
       ·
        omega
       ·
        exact h2
       ·
        omega
      have HNW : Hid (∀ j u, es.toList[j]? = some u → wr.cell? ((⟨Q, 0, none⟩ : Addr).add j) = some u) := fun j u hj => by
       have ea : ((⟨Q, 0, none⟩ : Addr).add j) = ⟨Q, j, none⟩ := by unfold Addr.add; split <;> simp_all
       rw [ea, (HB.out.1.below HW.out.1).cell, ← Array.getElem?_toList]; exact hj
      go_wp2_with (with_reducible refine stopAppend rfl ?_)
      refine Stop.intro (wpList_append_own _ rfl _ _ 24 rfl L 33 i0 _ 10 144 Tryz.underlying24 hi hz0 hz1 hz2 rfl (by decide) u6 l vs rfl HR.out ⟨Q, 0, none⟩ 1 1 es.toList rfl (by rw [Array.length_toList, HX.out.2.2.2.1]) HNW.out (fun u hu => (Array.all_eq_true_iff_forall_mem.1 HX.out.2.2.2.2) u (by simpa using hu)) (by unfold maxLen; omega) (by omega) hLw ?_)
      intro v' w' hown hgrow _
      have HW2 : Hid (Below w0.heap.size w0 w' ∧ w'.ownsRow L 33 10 v' (l + 1) (vs ++ es.toList)) := ⟨HW.out.1.grown hgrow HW.out.1.size (fun b hb => by have := (HR.out.lt b hb).1; have := HG.out; omega), hown⟩
      clear hown hgrow HNW
      go_wp2
      go_roundw
      case rel => exact ⟨2, by omega, by go_num, HW2.out.1, .inr (.inr ⟨rfl, HW2.out.2⟩)⟩
      case measure => simp [intOf]
    ·
     obtain rfl : k = 2 := by omega
     have HR : Hid (wr.ownsRow L 33 10 u6 (l + 1) (vs ++ es.toList)) := by
      rcases HW.out.2 with ⟨h1, _⟩ | ⟨h1, _⟩ | ⟨_, h2⟩
      ·
       omega
      ·
       omega
      ·
       exact h2
     go_wp2
     go_ret
     refine ⟨u6, rfl, H ++ G, ⟨vs ++ es.toList, ?_, ?_, ?_, HW.out.1⟩, fun b hb => ?_⟩
     ·
      rw [← HG.out, List.length_append, HX.out.1]
      exact HR.out
     ·
      exact (HV.out.1.below HW.out.1).snoc (HX.out.2.2.1.below HW.out.1) HX.out.2.2.2.1
     ·
      intro u hu
      rcases List.mem_append.1 hu with hu | hu
      ·
       exact HV.out.2.1 u hu
      ·
       exact (Array.all_eq_true_iff_forall_mem.1 HX.out.2.2.2.2) u (by simpa using hu)
     ·
      rcases List.mem_append.1 hb with hb | hb
      ·
       exact .inl (HX.out.2.1 b hb)
      ·
       exact .inr hb
end
section
set_option maxRecDepth 200000
set_option maxHeartbeats 16000000
open Go.RowKit
section
variable {α : Type} {K : ElK α} {w : World}
theorem RdC.set : ∀ {xs : List α} {vs : List Value} {H : List Nat} {k : Nat} {x : α} {es : Array Value} {G : List Nat}, RdC K w xs vs H → k < xs.length → K.R w (.agg es) x G → es.size = K.n → ∃ H', RdC K w (xs.set k x) (vs.take (k * K.n) ++ es.toList ++ vs.drop ((k + 1) * K.n)) H' ∧ ∀ b ∈ H', b ∈ H ∨ b ∈ G
 | [], vs, H, k, x, es, G, h, hk, _, _ => by simp at hk
 | y :: xs, vs, H, 0, x, es, G, h, hk, hr, hs => by
  obtain ⟨cs, vs', F1, F2, rfl, h2, h3, h4, rfl⟩ := h
  refine ⟨G ++ F2, ⟨es, vs', G, F2, ?_, hs, hr, h4, rfl⟩, fun b hb => ?_⟩
  ·
   rw [Nat.zero_mul, List.take_zero, List.nil_append, Nat.zero_add, Nat.one_mul, List.drop_left' (by rw [Array.length_toList, h2])]
  ·
   rcases List.mem_append.1 hb with hb | hb
   ·
    exact .inr hb
   ·
    exact .inl (List.mem_append_right _ hb)
 | y :: xs, vs, H, k + 1, x, es, G, h, hk, hr, hs => by
  obtain ⟨cs, vs', F1, F2, rfl, h2, h3, h4, rfl⟩ := h
  obtain ⟨H', q1, q2⟩ := RdC.set (k := k) h4 (by simpa using hk) hr hs
  have hl : cs.toList.length = K.n := by rw [Array.length_toList, h2]
  refine ⟨F1 ++ H', ⟨cs, _, F1, H', ?_, h2, h3, q1, rfl⟩, fun b hb => ?_⟩
  ·
   rw [List.take_append, List.drop_append, hl]
   rw [List.take_of_length_le (by rw [hl, Nat.succ_mul]; omega), List.drop_of_length_le (by rw [hl, Nat.succ_mul]; omega)]
   rw [show (k + 1) * K.n - K.n = k * K.n by rw [Nat.succ_mul]; omega, show (k + 1 + 1) * K.n - K.n = (k + 1) * K.n by rw [Nat.succ_mul (k + 1)]; omega]
   simp
  ·
   rcases List.mem_append.1 hb with hb | hb
   ·
    exact .inl (List.mem_append_left _ hb)
   ·
    rcases q2 b hb with hb | hb
    ·
     exact .inl (List.mem_append_right _ hb)
    ·
     exact .inr hb
end
theorem Shal.into {w w1 w' : World} {xs : List En} {v : Value} {H : List Nat} (h : Shal w1 xs v H w') (hb : Below w.heap.size w w1) {X : Nat} (h1 : w.heap.size ≤ X) (h2 : X < w1.heap.size) (h3 : X ∉ H) (ds : Array Value) : Shal w xs v H (w'.setRow X ds) := by
 obtain ⟨vs, q1, q2, q3, q4⟩ := h
 refine ⟨vs, ⟨q1.1, ?_⟩, q2.agree (Agree.row h3 _), q3, below_setRow (Below.next hb q4) h1 _⟩
 rcases q1.2 with e | ⟨g, cap, cur, e1, e2, e3, e4⟩
 ·
  exact .inl e
 ·
  exact .inr ⟨g, cap, cur, e1, by have := hb.size; omega, by rw [setRow_other w' X g ds (by omega)]; exact e3, e4⟩
theorem Shal.rd {w w' : World} {xs : List En} {v : Value} {H : List Nat} (h : Shal w xs v H w') (hp : 0 < xs.length) : ∃ F, RdRw w' (.agg #[v]) ⟨xs⟩ F ∧ ∀ b ∈ F, b ∈ H ∨ w.heap.size ≤ b := by
 obtain ⟨g, cap, rfl, hc, hr, hg, _, _⟩ := h.row hp
 exact ⟨g :: H, ⟨_, _, cap, rfl, hr, (fun e => by cases e), hc⟩, fun b hb => by
   rcases List.mem_cons.1 hb with rfl | hb
   · exact .inr hg
   · exact .inl hb⟩
theorem Shal.val {w w' : World} {xs : List En} {v : Value} {H : List Nat} (h : Shal w xs v H w') (hp : 0 < xs.length) : ∃ g m cap, v = .slice (some ⟨g, 0, none⟩) m cap := by
 obtain ⟨g, cap, e, _⟩ := h.row hp
 exact ⟨g, _, cap, e⟩
theorem infoQI2 : (Tryz.prog.info? 60).map (·.size) = some 1 := by kernel_rfl
theorem behind_any (v u : Value) (x : Rw) (F : List Nat) (e : En) (G : List Nat) (w : World) (h : RdRw w v x F) (k : RdE w u e G) (hl : x.list.length ≤ 2097152) :
 Calls Tryz.prog 66 #[v, u] w fun r w' => ∃ v', r = .returned (.agg #[v']) ∧ ∃ H, Shal w (x.list ++ [e]) v' H w' ∧ ∀ b ∈ H, b ∈ F ∨ b ∈ G := by
 obtain ⟨a, n, c, rfl, hL, hcp⟩ := h
 have hn : n ≤ 2097152 := by rw [← hL.length]; exact hl
 have HL : Hid (RdL enK w a n x.list F ∧ Capd a n c) := ⟨hL, hcp⟩
 have k' := k
 obtain ⟨G1, G2, _, b0, l0, c0, b1, m1, d1, b2, m2, d2, b3, m3, d3, rfl, _⟩ := k
 have HE : Hid (RdE w (.agg #[.int .i64 e.key, .int .i64 e.window, .slice b0 l0 c0, .int .i64 e.sk.count, .int .i64 e.sk.sum, .int .i64 e.sk.min, .int .i64 e.sk.max, .slice b1 m1 d1, .slice b2 m2 d2, .slice b3 m3 d3]) e G) := k'
 clear hL hcp k' hl
 have bw : Below w.heap.size w (((((w.alloc (.cells #[.slice a n c] 60)).alloc (.cells #[.int .i64 e.key, .int .i64 e.window, .slice b0 l0 c0, .int .i64 e.sk.count, .int .i64 e.sk.sum, .int .i64 e.sk.min, .int .i64 e.sk.max, .slice b1 m1 d1, .slice b2 m2 d2, .slice b3 m3 d3] 33)).alloc (.cells #[.slice none 0 0] 60)).alloc (.cells #[.int .i64 e.key, .int .i64 e.window, .slice b0 l0 c0, .int .i64 e.sk.count, .int .i64 e.sk.sum, .int .i64 e.sk.min, .int .i64 e.sk.max, .slice b1 m1 d1, .slice b2 m2 d2, .slice b3 m3 d3] 33)).alloc (.cells #[.slice a n c, .slice (some ⟨w.heap.size + 1 + 1 + 1, 0, none⟩) 1 1] 24)) := Below.allocW _ (Below.allocW _ (Below.allocW _ (Below.allocW _ (Below.allocW _ (Below.refl _ _) (Nat.le_refl _)) (by simp)) (by simp <;> omega)) (by simp <;> omega)) (by simp <;> omega)
 have q2 : Blk (((((w.alloc (.cells #[.slice a n c] 60)).alloc (.cells #[.int .i64 e.key, .int .i64 e.window, .slice b0 l0 c0, .int .i64 e.sk.count, .int .i64 e.sk.sum, .int .i64 e.sk.min, .int .i64 e.sk.max, .slice b1 m1 d1, .slice b2 m2 d2, .slice b3 m3 d3] 33)).alloc (.cells #[.slice none 0 0] 60)).alloc (.cells #[.int .i64 e.key, .int .i64 e.window, .slice b0 l0 c0, .int .i64 e.sk.count, .int .i64 e.sk.sum, .int .i64 e.sk.min, .int .i64 e.sk.max, .slice b1 m1 d1, .slice b2 m2 d2, .slice b3 m3 d3] 33)).alloc (.cells #[.slice a n c, .slice (some ⟨w.heap.size + 1 + 1 + 1, 0, none⟩) 1 1] 24)) (w.heap.size + 1 + 1) #[.slice none 0 0] 60 := ((Blk.made_eq (by simp)).alloc _).alloc _
 have q1 : Blk (((w.alloc (.cells #[.slice a n c] 60)).alloc (.cells #[.int .i64 e.key, .int .i64 e.window, .slice b0 l0 c0, .int .i64 e.sk.count, .int .i64 e.sk.sum, .int .i64 e.sk.min, .int .i64 e.sk.max, .slice b1 m1 d1, .slice b2 m2 d2, .slice b3 m3 d3] 33)).alloc (.cells #[.slice none 0 0] 60)) (w.heap.size + 1) #[.int .i64 e.key, .int .i64 e.window, .slice b0 l0 c0, .int .i64 e.sk.count, .int .i64 e.sk.sum, .int .i64 e.sk.min, .int .i64 e.sk.max, .slice b1 m1 d1, .slice b2 m2 d2, .slice b3 m3 d3] 33 := (Blk.made_eq (by simp)).alloc _
 have q3 : Blk (((((w.alloc (.cells #[.slice a n c] 60)).alloc (.cells #[.int .i64 e.key, .int .i64 e.window, .slice b0 l0 c0, .int .i64 e.sk.count, .int .i64 e.sk.sum, .int .i64 e.sk.min, .int .i64 e.sk.max, .slice b1 m1 d1, .slice b2 m2 d2, .slice b3 m3 d3] 33)).alloc (.cells #[.slice none 0 0] 60)).alloc (.cells #[.int .i64 e.key, .int .i64 e.window, .slice b0 l0 c0, .int .i64 e.sk.count, .int .i64 e.sk.sum, .int .i64 e.sk.min, .int .i64 e.sk.max, .slice b1 m1 d1, .slice b2 m2 d2, .slice b3 m3 d3] 33)).alloc (.cells #[.slice a n c, .slice (some ⟨w.heap.size + 1 + 1 + 1, 0, none⟩) 1 1] 24)) (w.heap.size + 1 + 1 + 1) #[.int .i64 e.key, .int .i64 e.window, .slice b0 l0 c0, .int .i64 e.sk.count, .int .i64 e.sk.sum, .int .i64 e.sk.min, .int .i64 e.sk.max, .slice b1 m1 d1, .slice b2 m2 d2, .slice b3 m3 d3] 33 := (Blk.made_eq (by simp)).alloc _
 have q4 : Blk (((((w.alloc (.cells #[.slice a n c] 60)).alloc (.cells #[.int .i64 e.key, .int .i64 e.window, .slice b0 l0 c0, .int .i64 e.sk.count, .int .i64 e.sk.sum, .int .i64 e.sk.min, .int .i64 e.sk.max, .slice b1 m1 d1, .slice b2 m2 d2, .slice b3 m3 d3] 33)).alloc (.cells #[.slice none 0 0] 60)).alloc (.cells #[.int .i64 e.key, .int .i64 e.window, .slice b0 l0 c0, .int .i64 e.sk.count, .int .i64 e.sk.sum, .int .i64 e.sk.min, .int .i64 e.sk.max, .slice b1 m1 d1, .slice b2 m2 d2, .slice b3 m3 d3] 33)).alloc (.cells #[.slice a n c, .slice (some ⟨w.heap.size + 1 + 1 + 1, 0, none⟩) 1 1] 24)) (w.heap.size + 1 + 1 + 1 + 1) #[.slice a n c, .slice (some ⟨w.heap.size + 1 + 1 + 1, 0, none⟩) 1 1] 24 := Blk.made_eq (by simp)
 have HB : Hid (Below w.heap.size w (((((w.alloc (.cells #[.slice a n c] 60)).alloc (.cells #[.int .i64 e.key, .int .i64 e.window, .slice b0 l0 c0, .int .i64 e.sk.count, .int .i64 e.sk.sum, .int .i64 e.sk.min, .int .i64 e.sk.max, .slice b1 m1 d1, .slice b2 m2 d2, .slice b3 m3 d3] 33)).alloc (.cells #[.slice none 0 0] 60)).alloc (.cells #[.int .i64 e.key, .int .i64 e.window, .slice b0 l0 c0, .int .i64 e.sk.count, .int .i64 e.sk.sum, .int .i64 e.sk.min, .int .i64 e.sk.max, .slice b1 m1 d1, .slice b2 m2 d2, .slice b3 m3 d3] 33)).alloc (.cells #[.slice a n c, .slice (some ⟨w.heap.size + 1 + 1 + 1, 0, none⟩) 1 1] 24)) ∧ Blk (((((w.alloc (.cells #[.slice a n c] 60)).alloc (.cells #[.int .i64 e.key, .int .i64 e.window, .slice b0 l0 c0, .int .i64 e.sk.count, .int .i64 e.sk.sum, .int .i64 e.sk.min, .int .i64 e.sk.max, .slice b1 m1 d1, .slice b2 m2 d2, .slice b3 m3 d3] 33)).alloc (.cells #[.slice none 0 0] 60)).alloc (.cells #[.int .i64 e.key, .int .i64 e.window, .slice b0 l0 c0, .int .i64 e.sk.count, .int .i64 e.sk.sum, .int .i64 e.sk.min, .int .i64 e.sk.max, .slice b1 m1 d1, .slice b2 m2 d2, .slice b3 m3 d3] 33)).alloc (.cells #[.slice a n c, .slice (some ⟨w.heap.size + 1 + 1 + 1, 0, none⟩) 1 1] 24)) (w.heap.size + 1 + 1) #[.slice none 0 0] 60 ∧ Blk (((((w.alloc (.cells #[.slice a n c] 60)).alloc (.cells #[.int .i64 e.key, .int .i64 e.window, .slice b0 l0 c0, .int .i64 e.sk.count, .int .i64 e.sk.sum, .int .i64 e.sk.min, .int .i64 e.sk.max, .slice b1 m1 d1, .slice b2 m2 d2, .slice b3 m3 d3] 33)).alloc (.cells #[.slice none 0 0] 60)).alloc (.cells #[.int .i64 e.key, .int .i64 e.window, .slice b0 l0 c0, .int .i64 e.sk.count, .int .i64 e.sk.sum, .int .i64 e.sk.min, .int .i64 e.sk.max, .slice b1 m1 d1, .slice b2 m2 d2, .slice b3 m3 d3] 33)).alloc (.cells #[.slice a n c, .slice (some ⟨w.heap.size + 1 + 1 + 1, 0, none⟩) 1 1] 24)) (w.heap.size + 1 + 1 + 1) #[.int .i64 e.key, .int .i64 e.window, .slice b0 l0 c0, .int .i64 e.sk.count, .int .i64 e.sk.sum, .int .i64 e.sk.min, .int .i64 e.sk.max, .slice b1 m1 d1, .slice b2 m2 d2, .slice b3 m3 d3] 33 ∧ Blk (((((w.alloc (.cells #[.slice a n c] 60)).alloc (.cells #[.int .i64 e.key, .int .i64 e.window, .slice b0 l0 c0, .int .i64 e.sk.count, .int .i64 e.sk.sum, .int .i64 e.sk.min, .int .i64 e.sk.max, .slice b1 m1 d1, .slice b2 m2 d2, .slice b3 m3 d3] 33)).alloc (.cells #[.slice none 0 0] 60)).alloc (.cells #[.int .i64 e.key, .int .i64 e.window, .slice b0 l0 c0, .int .i64 e.sk.count, .int .i64 e.sk.sum, .int .i64 e.sk.min, .int .i64 e.sk.max, .slice b1 m1 d1, .slice b2 m2 d2, .slice b3 m3 d3] 33)).alloc (.cells #[.slice a n c, .slice (some ⟨w.heap.size + 1 + 1 + 1, 0, none⟩) 1 1] 24)) (w.heap.size + 1 + 1 + 1 + 1) #[.slice a n c, .slice (some ⟨w.heap.size + 1 + 1 + 1, 0, none⟩) 1 1] 24 ∧ (((((w.alloc (.cells #[.slice a n c] 60)).alloc (.cells #[.int .i64 e.key, .int .i64 e.window, .slice b0 l0 c0, .int .i64 e.sk.count, .int .i64 e.sk.sum, .int .i64 e.sk.min, .int .i64 e.sk.max, .slice b1 m1 d1, .slice b2 m2 d2, .slice b3 m3 d3] 33)).alloc (.cells #[.slice none 0 0] 60)).alloc (.cells #[.int .i64 e.key, .int .i64 e.window, .slice b0 l0 c0, .int .i64 e.sk.count, .int .i64 e.sk.sum, .int .i64 e.sk.min, .int .i64 e.sk.max, .slice b1 m1 d1, .slice b2 m2 d2, .slice b3 m3 d3] 33)).alloc (.cells #[.slice a n c, .slice (some ⟨w.heap.size + 1 + 1 + 1, 0, none⟩) 1 1] 24)).heap.size = w.heap.size + 5) := ⟨bw, q2, q3, q4, by simp⟩
 have HQ1 : Hid (Blk (((w.alloc (.cells #[.slice a n c] 60)).alloc (.cells #[.int .i64 e.key, .int .i64 e.window, .slice b0 l0 c0, .int .i64 e.sk.count, .int .i64 e.sk.sum, .int .i64 e.sk.min, .int .i64 e.sk.max, .slice b1 m1 d1, .slice b2 m2 d2, .slice b3 m3 d3] 33)).alloc (.cells #[.slice none 0 0] 60)) (w.heap.size + 1) #[.int .i64 e.key, .int .i64 e.window, .slice b0 l0 c0, .int .i64 e.sk.count, .int .i64 e.sk.sum, .int .i64 e.sk.min, .int .i64 e.sk.max, .slice b1 m1 d1, .slice b2 m2 d2, .slice b3 m3 d3] 33) := q1
 clear bw q1 q2 q3 q4
 go_enter Tryz.func66, Tryz.ntmps66
 go_wp2_with (first | go_skip | (with_reducible refine stopLoad 33 rfl ?_))
 refine load_any 33 (w.heap.size + 1) #[.int .i64 e.key, .int .i64 e.window, .slice b0 l0 c0, .int .i64 e.sk.count, .int .i64 e.sk.sum, .int .i64 e.sk.min, .int .i64 e.sk.max, .slice b1 m1 d1, .slice b2 m2 d2, .slice b3 m3 d3] 33 _ HQ1.out rfl rfl rfl Tryz.underlying33 rfl infoEnG2 ?_
 go_wp2_with fail
 refine (concat_any a n c x.list F e #[.int .i64 e.key, .int .i64 e.window, .slice b0 l0 c0, .int .i64 e.sk.count, .int .i64 e.sk.sum, .int .i64 e.sk.min, .int .i64 e.sk.max, .slice b1 m1 d1, .slice b2 m2 d2, .slice b3 m3 d3] G (w.heap.size + 1 + 1 + 1) (w.heap.size + 1 + 1 + 1 + 1) _ (HL.out.1.below HB.out.1) HL.out.2 (HE.out.below HB.out.1) HB.out.2.2.1 HB.out.2.2.2.1 hn).mono ?_
 rintro r w2 ⟨v', rfl, H, hS, hH⟩
 have HS : Hid (Shal (((((w.alloc (.cells #[.slice a n c] 60)).alloc (.cells #[.int .i64 e.key, .int .i64 e.window, .slice b0 l0 c0, .int .i64 e.sk.count, .int .i64 e.sk.sum, .int .i64 e.sk.min, .int .i64 e.sk.max, .slice b1 m1 d1, .slice b2 m2 d2, .slice b3 m3 d3] 33)).alloc (.cells #[.slice none 0 0] 60)).alloc (.cells #[.int .i64 e.key, .int .i64 e.window, .slice b0 l0 c0, .int .i64 e.sk.count, .int .i64 e.sk.sum, .int .i64 e.sk.min, .int .i64 e.sk.max, .slice b1 m1 d1, .slice b2 m2 d2, .slice b3 m3 d3] 33)).alloc (.cells #[.slice a n c, .slice (some ⟨w.heap.size + 1 + 1 + 1, 0, none⟩) 1 1] 24)) (x.list ++ [e]) v' H w2 ∧ (∀ b ∈ H, b ∈ F ∨ b ∈ G) ∧ Blk w2 (w.heap.size + 1 + 1) #[.slice none 0 0] 60 ∧ w.heap.size + 1 + 1 ∉ H) := ⟨hS, hH, HB.out.2.1.below hS.choose_spec.2.2.2, fun hx => by
   rcases hH _ hx with h | h
   · have := HL.out.1.lt _ h; omega
   · have := HE.out.lt _ h; omega⟩
 obtain ⟨g, m, cap, rfl⟩ := hS.val (by simp)
 clear hS hH HQ1
 go_wp2_with (first | go_skip | (with_reducible refine stopStore 60 rfl ?_))
 refine store_known 60 (w.heap.size + 1 + 1) _ #[.slice (some ⟨g, 0, none⟩) m cap] 60 HS.out.2.2.1 rfl rfl rfl rfl infoQI2 rfl (by simp [Value.oneCell']) ?_
 go_wp2
 refine bodyPost_ret (results_cell_row Tryz.results66 _ _ (w.heap.size + 1 + 1) _ _ (0, 0) _ rfl HS.out.2.2.1.setRow Tryz.underlying60 rfl infoQI2) rfl ?_
 exact ⟨_, rfl, H, HS.out.1.into HB.out.1 (by omega) (by rw [HB.out.2.2.2.2]; omega) HS.out.2.2.2 _, HS.out.2.1⟩
theorem clone_any (p : Option Addr) (l c : Nat) (xs : List En) (F : List Nat) (w : World) (h : RdL enK w p l xs F) (hp : 0 < l) (hl : l ≤ 2097152) :
 Calls Tryz.prog 106 #[.slice p l c] w fun r w' => ∃ v, r = .returned v ∧ ∃ H, Shal w xs v H w' ∧ ∀ b ∈ H, b ∈ F := by
 obtain ⟨i0, hi, hz0, hz1, hz2⟩ := info_parts infoEnG
 obtain ⟨vs, H, hrc, hone, hvl, hHF, hcell⟩ := h.flat
 obtain ⟨b, off, rfl, hb, hc⟩ : ∃ b off, p = some ⟨b, off, none⟩ ∧ b < w.heap.size ∧ ∀ i, i < vs.length → w.cell? ⟨b, off + i, none⟩ = vs[i]? := by
  rcases hcell with h0 | h0
  ·
   omega
  ·
   exact h0
 have HV : Hid (RdC enK w xs vs H ∧ (∀ u ∈ vs, u.oneCell' = true) ∧ vs.length = l * 10 ∧ (∀ b ∈ H, b ∈ F) ∧ xs.length = l) := ⟨hrc, hone, hvl, hHF, h.length⟩
 have HW : Hid (Below w.heap.size w (w.alloc (.cells #[] 33)) ∧ ∀ j u, vs[j]? = some u → (w.alloc (.cells #[] 33)).cell? ((⟨b, off, none⟩ : Addr).add j) = some u) := ⟨Below.allocW _ (Below.refl _ _) (Nat.le_refl _), fun j u hj => by
   have hj' : j < vs.length := (List.getElem?_eq_some_iff.1 hj).1
   have ea : ((⟨b, off, none⟩ : Addr).add j) = ⟨b, off + j, none⟩ := by unfold Addr.add; split <;> simp_all
   rw [ea, (Below.allocW (o := .cells #[] 33) (Below.refl w.heap.size w) (Nat.le_refl _)).cell (p := ⟨b, off + j, none⟩) hb, hc j hj', hj]⟩
 clear h hrc hone hvl hHF hcell hc
 have q22 : ∀ (w : World) (a : Option Addr) (n c n' c' : Nat), (binOp .eql 24 (.slice a n c) (.slice none n' c')).run Tryz.prog w = .ok (.bool a.isNone) w := fun w a n c n' c' => Lib.run_eql_slice_nil w _ _ a n c n' c' Tryz.underlying24
 go_enter Tryz.func106, Tryz.ntmps106
 go_wp2_with (with_reducible refine stopAppend rfl ?_)
 refine Stop.intro (wpList_append_own _ rfl _ _ 24 rfl w.heap.size 33 i0 _ 10 144 Tryz.underlying24 hi hz0 hz1 hz2 rfl (by decide) (.slice (some ⟨w.heap.size, 0, none⟩) 0 0) 0 [] rfl (World.ownsRow_made w #[] 0 (Nat.le_refl _) (Nat.zero_le _) (by simp)) ⟨b, off, none⟩ l c vs rfl HV.out.2.2.1 HW.out.2 HV.out.2.1 (by unfold maxLen; omega) (by omega) (by simp) ?_)
 intro v' w' hown hgrow _
 have HS : Hid (Shal w xs v' H w') := by
  have hb2 : Below w.heap.size w w' := HW.out.1.grown hgrow (by simp) (fun b hb => by simp [Value.ownBlock] at hb; omega)
  exact ⟨vs, by rw [HV.out.2.2.2.2]; simpa using hown, HV.out.1.below hb2, HV.out.2.1, hb2⟩
 clear hown hgrow
 go_wp2
 go_ret
 exact ⟨v', rfl, H, HS.out, HV.out.2.2.2.1⟩
theorem cut_takeR {cs : Array Value} {ds : Array Value} {n k : Nat} (hds : ds.size = 10) (hk : k < n) (hc : n * 10 ≤ cs.size) : (cutIn cs (k * 10) ds).size = cs.size ∧ (cutIn cs (k * 10) ds).toList.take (n * 10) = (cs.toList.take (n * 10)).take (k * 10) ++ ds.toList ++ (cs.toList.take (n * 10)).drop ((k + 1) * 10) := by
 have hcl : cs.toList.length = cs.size := Array.length_toList
 have hdl : ds.toList.length = 10 := by rw [Array.length_toList, hds]
 unfold cutIn
 simp only [hds]
 refine ⟨by simp; omega, ?_⟩
 obtain ⟨T, R, e, hT⟩ : ∃ T R, cs.toList = T ++ R ∧ T.length = n * 10 := ⟨cs.toList.take (n * 10), cs.toList.drop (n * 10), (List.take_append_drop _ _).symm, by rw [List.length_take]; omega⟩
 rw [e]
 have e1 : List.take (k * 10) (T ++ R) = T.take (k * 10) := List.take_append_of_le_length (by omega)
 have e2 : List.drop (k * 10 + 10) (T ++ R) = T.drop ((k + 1) * 10) ++ R := by rw [List.drop_append_of_le_length (by omega), show k * 10 + 10 = (k + 1) * 10 by omega]
 have e3 : List.take (n * 10) (T ++ R) = T := List.take_left' hT
 rw [e1, e2, e3]
 show List.take (n * 10) (T.take (k * 10) ++ ds.toList ++ (T.drop ((k + 1) * 10) ++ R)) = _
 rw [← List.append_assoc]
 exact List.take_left' (by rw [List.length_append, List.length_append, List.length_take, List.length_drop, hdl]; omega)
theorem with_any (v u : Value) (x : Rw) (F : List Nat) (e : En) (G : List Nat) (k : Nat) (w : World) (h : RdRw w v x F) (q : RdE w u e G) (hk : k < x.list.length) (hl : x.list.length ≤ 2097152) :
 Calls Tryz.prog 68 #[v, .int .i64 k, u] w fun r w' => ∃ v', r = .returned (.agg #[v']) ∧ ∃ H, Shal w (x.list.set k e) v' H w' ∧ ∀ b ∈ H, b ∈ F ∨ b ∈ G := by
 obtain ⟨a, n, c, rfl, hL, hcp⟩ := h
 have hn : n ≤ 2097152 := by rw [← hL.length]; exact hl
 have hkn : k < n := by rw [← hL.length]; exact hk
 have HL : Hid (RdL enK w a n x.list F ∧ x.list.length = n) := ⟨hL, hL.length⟩
 have q' := q
 obtain ⟨G1, G2, _, b0, l0, c0, b1, m1, d1, b2, m2, d2, b3, m3, d3, rfl, _⟩ := q
 have HE : Hid (RdE w (.agg #[.int .i64 e.key, .int .i64 e.window, .slice b0 l0 c0, .int .i64 e.sk.count, .int .i64 e.sk.sum, .int .i64 e.sk.min, .int .i64 e.sk.max, .slice b1 m1 d1, .slice b2 m2 d2, .slice b3 m3 d3]) e G) := q'
 clear hL hcp q' hl hk
 have HB : Hid (Below w.heap.size w (((w.alloc (.cells #[.slice a n c] 60)).alloc (.cells #[.int .i64 e.key, .int .i64 e.window, .slice b0 l0 c0, .int .i64 e.sk.count, .int .i64 e.sk.sum, .int .i64 e.sk.min, .int .i64 e.sk.max, .slice b1 m1 d1, .slice b2 m2 d2, .slice b3 m3 d3] 33)).alloc (.cells #[.slice none 0 0] 60)) ∧ Blk (((w.alloc (.cells #[.slice a n c] 60)).alloc (.cells #[.int .i64 e.key, .int .i64 e.window, .slice b0 l0 c0, .int .i64 e.sk.count, .int .i64 e.sk.sum, .int .i64 e.sk.min, .int .i64 e.sk.max, .slice b1 m1 d1, .slice b2 m2 d2, .slice b3 m3 d3] 33)).alloc (.cells #[.slice none 0 0] 60)) (w.heap.size + 1) #[.int .i64 e.key, .int .i64 e.window, .slice b0 l0 c0, .int .i64 e.sk.count, .int .i64 e.sk.sum, .int .i64 e.sk.min, .int .i64 e.sk.max, .slice b1 m1 d1, .slice b2 m2 d2, .slice b3 m3 d3] 33 ∧ Blk (((w.alloc (.cells #[.slice a n c] 60)).alloc (.cells #[.int .i64 e.key, .int .i64 e.window, .slice b0 l0 c0, .int .i64 e.sk.count, .int .i64 e.sk.sum, .int .i64 e.sk.min, .int .i64 e.sk.max, .slice b1 m1 d1, .slice b2 m2 d2, .slice b3 m3 d3] 33)).alloc (.cells #[.slice none 0 0] 60)) (w.heap.size + 1 + 1) #[.slice none 0 0] 60 ∧ (((w.alloc (.cells #[.slice a n c] 60)).alloc (.cells #[.int .i64 e.key, .int .i64 e.window, .slice b0 l0 c0, .int .i64 e.sk.count, .int .i64 e.sk.sum, .int .i64 e.sk.min, .int .i64 e.sk.max, .slice b1 m1 d1, .slice b2 m2 d2, .slice b3 m3 d3] 33)).alloc (.cells #[.slice none 0 0] 60)).heap.size = w.heap.size + 3) := ⟨Below.allocW _ (Below.allocW _ (Below.allocW _ (Below.refl _ _) (Nat.le_refl _)) (by simp)) (by simp <;> omega), (Blk.made_eq (by simp)).alloc _, Blk.made_eq (by simp), by simp⟩
 go_enter Tryz.func68, Tryz.ntmps68
 go_wp2_with fail
 refine (clone_any a n c x.list F _ (HL.out.1.below HB.out.1) (by omega) hn).mono ?_
 rintro r w2 ⟨v', rfl, H, hS, hH⟩
 obtain ⟨vs, q1, q2, q3, q4⟩ := hS
 obtain ⟨g, cap, cur, rfl, hge, hcur, hnc, hmax, hsz, htk⟩ : ∃ g cap cur, v' = .slice (some ⟨g, 0, none⟩) x.list.length cap ∧ (((w.alloc (.cells #[.slice a n c] 60)).alloc (.cells #[.int .i64 e.key, .int .i64 e.window, .slice b0 l0 c0, .int .i64 e.sk.count, .int .i64 e.sk.sum, .int .i64 e.sk.min, .int .i64 e.sk.max, .slice b1 m1 d1, .slice b2 m2 d2, .slice b3 m3 d3] 33)).alloc (.cells #[.slice none 0 0] 60)).heap.size ≤ g ∧ w2.heap[g]? = some (.cells cur 33 (0, 0)) ∧ x.list.length ≤ cap ∧ cap ≤ maxLen ∧ cur.size = cap * 10 ∧ cur.toList.take (x.list.length * 10) = vs := by
  rcases q1.2 with ⟨_, h0⟩ | h0
  ·
   have := HL.out.2; omega
  ·
   exact h0
 rw [HL.out.2] at hnc htk q1
 have HS : Hid (w.heap.size + 3 ≤ g ∧ Blk w2 g cur 33 ∧ n ≤ cap ∧ cap ≤ maxLen ∧ cur.size = cap * 10 ∧ cur.toList.take (n * 10) = vs ∧ RdC enK w2 x.list vs H ∧ (∀ u ∈ vs, u.oneCell' = true) ∧ Below (((w.alloc (.cells #[.slice a n c] 60)).alloc (.cells #[.int .i64 e.key, .int .i64 e.window, .slice b0 l0 c0, .int .i64 e.sk.count, .int .i64 e.sk.sum, .int .i64 e.sk.min, .int .i64 e.sk.max, .slice b1 m1 d1, .slice b2 m2 d2, .slice b3 m3 d3] 33)).alloc (.cells #[.slice none 0 0] 60)).heap.size (((w.alloc (.cells #[.slice a n c] 60)).alloc (.cells #[.int .i64 e.key, .int .i64 e.window, .slice b0 l0 c0, .int .i64 e.sk.count, .int .i64 e.sk.sum, .int .i64 e.sk.min, .int .i64 e.sk.max, .slice b1 m1 d1, .slice b2 m2 d2, .slice b3 m3 d3] 33)).alloc (.cells #[.slice none 0 0] 60)) w2 ∧ vs.length = n * 10 ∧ ∀ b ∈ H, b ∈ F) := ⟨by rw [← HB.out.2.2.2]; exact hge, hcur, hnc, hmax, hsz, htk, q2, q3, q4, q1.1, hH⟩
 have HB2 : Hid (Blk w2 (w.heap.size + 1) #[.int .i64 e.key, .int .i64 e.window, .slice b0 l0 c0, .int .i64 e.sk.count, .int .i64 e.sk.sum, .int .i64 e.sk.min, .int .i64 e.sk.max, .slice b1 m1 d1, .slice b2 m2 d2, .slice b3 m3 d3] 33 ∧ Blk w2 (w.heap.size + 1 + 1) #[.slice none 0 0] 60) := ⟨HB.out.2.1.below q4, HB.out.2.2.1.below q4⟩
 rw [HL.out.2]
 have hI : (k : Int) < (n : Int) := by omega
 clear hge hcur hnc hmax hsz htk q1 q2 q3 q4 hH
 go_wp2_with (first | go_skip | (with_reducible refine stopLoad 33 rfl ?_))
 refine load_any 33 (w.heap.size + 1) #[.int .i64 e.key, .int .i64 e.window, .slice b0 l0 c0, .int .i64 e.sk.count, .int .i64 e.sk.sum, .int .i64 e.sk.min, .int .i64 e.sk.max, .slice b1 m1 d1, .slice b2 m2 d2, .slice b3 m3 d3] 33 _ HB2.out.1 rfl rfl rfl Tryz.underlying33 rfl infoEnG2 ?_
 go_wp2_with (first | go_skip | (with_reducible refine stopStore 33 rfl ?_))
 refine store_cut 33 g (k * 10) cur #[.int .i64 e.key, .int .i64 e.window, .slice b0 l0 c0, .int .i64 e.sk.count, .int .i64 e.sk.sum, .int .i64 e.sk.min, .int .i64 e.sk.max, .slice b1 m1 d1, .slice b2 m2 d2, .slice b3 m3 d3] (cutIn cur (k * 10) #[.int .i64 e.key, .int .i64 e.window, .slice b0 l0 c0, .int .i64 e.sk.count, .int .i64 e.sk.sum, .int .i64 e.sk.min, .int .i64 e.sk.max, .slice b1 m1 d1, .slice b2 m2 d2, .slice b3 m3 d3]) 33 HS.out.2.1 rfl rfl rfl rfl infoEnG2 (by have h1 := HS.out.2.2.1; have h2 := HS.out.2.2.2.2.1; show k * 10 + 10 ≤ _; omega) (by simp [Value.oneCell']) rfl ?_
 obtain ⟨cut, hcut⟩ : ∃ c, c = cutIn cur (k * 10) #[.int .i64 e.key, .int .i64 e.window, .slice b0 l0 c0, .int .i64 e.sk.count, .int .i64 e.sk.sum, .int .i64 e.sk.min, .int .i64 e.sk.max, .slice b1 m1 d1, .slice b2 m2 d2, .slice b3 m3 d3] := ⟨_, rfl⟩
 rw [← hcut]
 have HC : Hid (cut.size = cur.size ∧ cut.toList.take (n * 10) = vs.take (k * 10) ++ (#[.int .i64 e.key, .int .i64 e.window, .slice b0 l0 c0, .int .i64 e.sk.count, .int .i64 e.sk.sum, .int .i64 e.sk.min, .int .i64 e.sk.max, .slice b1 m1 d1, .slice b2 m2 d2, .slice b3 m3 d3] : Array Value).toList ++ vs.drop ((k + 1) * 10)) := by
  have h1 := HS.out.2.2.1
  have h2 := HS.out.2.2.2.2.1
  have := cut_takeR (cs := cur) (ds := #[.int .i64 e.key, .int .i64 e.window, .slice b0 l0 c0, .int .i64 e.sk.count, .int .i64 e.sk.sum, .int .i64 e.sk.min, .int .i64 e.sk.max, .slice b1 m1 d1, .slice b2 m2 d2, .slice b3 m3 d3]) (n := n) (k := k) rfl hkn (by omega)
  rw [hcut, ← HS.out.2.2.2.2.2.1]
  exact this
 clear hcut
 have nr : w.heap.size + 1 + 1 ≠ g := by have := HS.out.1; omega
 have HB3 : Hid (Blk (w2.setRow g cut) (w.heap.size + 1 + 1) #[.slice none 0 0] 60) := HB2.out.2.setRowOther (by omega)
 have HF : Hid (∃ H', Shal (((w.alloc (.cells #[.slice a n c] 60)).alloc (.cells #[.int .i64 e.key, .int .i64 e.window, .slice b0 l0 c0, .int .i64 e.sk.count, .int .i64 e.sk.sum, .int .i64 e.sk.min, .int .i64 e.sk.max, .slice b1 m1 d1, .slice b2 m2 d2, .slice b3 m3 d3] 33)).alloc (.cells #[.slice none 0 0] 60)) (x.list.set k e) (.slice (some ⟨g, 0, none⟩) n cap) H' (w2.setRow g cut) ∧ (∀ b ∈ H', b ∈ F ∨ b ∈ G)) := by
  obtain ⟨H', r1, r2⟩ := RdC.set (k := k) HS.out.2.2.2.2.2.2.1 (by rw [HL.out.2]; exact hkn) ((HE.out.below HB.out.1).below HS.out.2.2.2.2.2.2.2.2.1) (es := #[.int .i64 e.key, .int .i64 e.window, .slice b0 l0 c0, .int .i64 e.sk.count, .int .i64 e.sk.sum, .int .i64 e.sk.min, .int .i64 e.sk.max, .slice b1 m1 d1, .slice b2 m2 d2, .slice b3 m3 d3]) rfl
  have hin : ∀ b ∈ H', b ∈ F ∨ b ∈ G := fun b hb => (r2 b hb).imp (HS.out.2.2.2.2.2.2.2.2.2.2 b) id
  have hng : g ∉ H' := fun hx => by
   have := HS.out.1
   rcases hin g hx with h | h
   ·
    have := HL.out.1.lt g h; omega
   ·
    have := HE.out.lt g h; omega
  have hlen : (x.list.set k e).length = n := by rw [List.length_set]; exact HL.out.2
  have hvl : (vs.take (k * 10) ++ (#[.int .i64 e.key, .int .i64 e.window, .slice b0 l0 c0, .int .i64 e.sk.count, .int .i64 e.sk.sum, .int .i64 e.sk.min, .int .i64 e.sk.max, .slice b1 m1 d1, .slice b2 m2 d2, .slice b3 m3 d3] : Array Value).toList ++ vs.drop ((k + 1) * 10)).length = n * 10 := by
   have := HS.out.2.2.2.2.2.2.2.2.2.1
   simp only [List.length_append, List.length_take, List.length_drop]
   show min (k * 10) vs.length + 10 + (vs.length - (k + 1) * 10) = _
   omega
  refine ⟨H', ⟨_, ⟨by rw [hlen]; exact hvl, .inr ⟨g, cap, cut, by rw [hlen], by have := HS.out.1; rw [HB.out.2.2.2]; exact this, HS.out.2.1.setRow, by rw [hlen]; exact HS.out.2.2.1, HS.out.2.2.2.1, HC.out.1.trans HS.out.2.2.2.2.1, by rw [hlen]; exact HC.out.2⟩⟩, r1.agree (Agree.row hng _), fun z hz => ?_, below_setRow HS.out.2.2.2.2.2.2.2.2.1 (by have := HS.out.1; rw [HB.out.2.2.2]; exact this) _⟩, hin⟩
  rcases List.mem_append.1 hz with hz | hz
  ·
   rcases List.mem_append.1 hz with hz | hz
   ·
    exact HS.out.2.2.2.2.2.2.2.1 z (List.mem_of_mem_take hz)
   ·
    have : (#[.int .i64 e.key, .int .i64 e.window, .slice b0 l0 c0, .int .i64 e.sk.count, .int .i64 e.sk.sum, .int .i64 e.sk.min, .int .i64 e.sk.max, .slice b1 m1 d1, .slice b2 m2 d2, .slice b3 m3 d3] : Array Value).all (·.oneCell') = true := by simp [Value.oneCell']
    exact (Array.all_eq_true_iff_forall_mem.1 this) z (by simpa using hz)
  ·
   exact HS.out.2.2.2.2.2.2.2.1 z (List.mem_of_mem_drop hz)
 obtain ⟨w3, hw3⟩ : ∃ W, W = w2.setRow g cut := ⟨_, rfl⟩
 rw [← hw3] at HB3 HF ⊢
 clear hw3 HB2 HS HC nr
 go_wp2_with (first | go_skip | (with_reducible refine stopStore 60 rfl ?_))
 refine store_known 60 (w.heap.size + 1 + 1) _ #[.slice (some ⟨g, 0, none⟩) n cap] 60 HB3.out rfl rfl rfl rfl infoQI2 rfl (by simp [Value.oneCell']) ?_
 go_wp2
 refine bodyPost_ret (results_cell_row Tryz.results68 _ _ (w.heap.size + 1 + 1) _ _ (0, 0) _ rfl HB3.out.setRow Tryz.underlying60 rfl infoQI2) rfl ?_
 obtain ⟨H', s1, s2⟩ := HF.out
 refine ⟨_, rfl, H', s1.into HB.out.1 (by omega) (by rw [HB.out.2.2.2]; omega) (fun hx => ?_) _, s2⟩
 rcases s2 _ hx with h | h
 ·
  have := HL.out.1.lt _ h; omega
 ·
  have := HE.out.lt _ h; omega
end
end Go.Proofs.YtjnamoppcklomaaGreat
