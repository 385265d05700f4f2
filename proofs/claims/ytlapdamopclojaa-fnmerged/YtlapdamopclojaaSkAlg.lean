/- Merging of summaries that are right: it commutes, it associates, it keeps them right; with nothing it changes nothing. No statement of the seat is proved here. -/
import Derived.Test.YtlapdamopclojaaTallyG
import Derived.Test.YtlapdamopclojaaSkNew
namespace Go.Proofs.Ytlapdamopclojaa
open Go.RowKit
theorem new_ok : Sk.new.ok = true := by decide
theorem okN_iff (m : Int) (z : Bool) (x : Int) : okN m z x = true ↔ (0 ≤ x ∧ x ≤ m) ∧ (z = true → x = 0) := by
  unfold okN; cases z <;> simp
set_option maxHeartbeats 4000000 in
theorem merge_comm {s t : Sk} (hs : s.ok = true) (ht : t.ok = true) : s.merge t = t.merge s := by
  obtain ⟨f1, f2, f3⟩ := Sk.ok_facts hs
  obtain ⟨g1, g2, g3⟩ := Sk.ok_facts ht
  refine Sk.eq_of (addN_comm _ _) (addN_comm _ _) ?_ (Int.max_comm _ _) ?_ ?_ ?_
  · show (if t.count = 0 then s.min else if s.count = 0 then t.min else Min.min s.min t.min) = (if s.count = 0 then t.min else if t.count = 0 then s.min else Min.min t.min s.min)
    by_cases a : s.count = 0
    · by_cases b : t.count = 0
      · rw [if_pos a, if_pos b]; have := f3 a; have := g3 b; omega
      · rw [if_neg b, if_pos a, if_pos a]
    · by_cases b : t.count = 0
      · rw [if_pos b, if_neg a, if_pos b]
      · rw [if_neg b, if_neg a, if_neg a, if_neg b]; omega
  · show sumL _ _ = sumL _ _
    unfold sumL; exact List.zipWith_comm_of_comm addN_comm
  · show maxL _ _ = maxL _ _
    unfold maxL; exact List.zipWith_comm_of_comm Int.max_comm
  · show [sumL _ _, sumL _ _] = [sumL _ _, sumL _ _]
    unfold sumL; rw [List.zipWith_comm_of_comm addN_comm, List.zipWith_comm_of_comm (l' := t.rows.getD 1 []) addN_comm]
theorem zip_assoc (f : Int → Int → Int) (hf : ∀ a b c, f (f a b) c = f a (f b c)) : ∀ xs ys zs : List Int, List.zipWith f (List.zipWith f xs ys) zs = List.zipWith f xs (List.zipWith f ys zs)
  | [], _, _ => by simp
  | _ :: _, [], _ => by simp
  | _ :: _, _ :: _, [] => by simp
  | x :: xs, y :: ys, z :: zs => by simp [hf, zip_assoc f hf xs ys zs]
theorem all_sum : ∀ xs ys : List Int, (sumL xs ys).all (okN 1000000000 false) = true
  | [], _ => by simp [sumL]
  | _ :: _, [] => by simp [sumL]
  | x :: xs, y :: ys => by
    have := all_sum xs ys
    have h := addN_range x y
    simp only [sumL] at this
    simp [sumL, this, okN, h]
theorem all_max : ∀ xs ys : List Int, xs.all (okN 17 false) = true → ys.all (okN 17 false) = true → (maxL xs ys).all (okN 17 false) = true
  | [], _, _, _ => by simp [maxL]
  | _ :: _, [], _, _ => by simp [maxL]
  | x :: xs, y :: ys, hx, hy => by
    simp only [List.all_cons, Bool.and_eq_true] at hx hy
    have := all_max xs ys hx.2 hy.2
    have h1 := (okN_iff 17 false x).1 hx.1
    have h2 := (okN_iff 17 false y).1 hy.1
    simp only [maxL] at this
    simp only [maxL, List.zipWith_cons_cons, List.all_cons, Bool.and_eq_true]
    exact ⟨(okN_iff _ _ _).2 ⟨by omega, by simp⟩, this⟩
theorem all_weak {l : List Int} {m : Int} {z : Bool} (h : l.all (okN m z) = true) : l.all (okN m false) = true := by
  rw [List.all_eq_true] at h ⊢
  intro x hx
  exact (okN_iff _ _ _).2 ⟨((okN_iff _ _ _).1 (h x hx)).1, by simp⟩
theorem okL_parts {l : List Int} {n : Nat} {m : Int} {z : Bool} (h : okL l n m z = true) : l.length = n ∧ l.all (okN m z) = true := by
  unfold okL at h; simpa only [Bool.and_eq_true, decide_eq_true_eq] using h
theorem all_zero : ∀ {l : List Int} {m : Int}, l.all (okN m true) = true → l = List.replicate l.length 0
  | [], _, _ => rfl
  | x :: l, m, h => by
    simp only [List.all_cons, Bool.and_eq_true] at h
    have h1 := ((okN_iff _ _ _).1 h.1).2 rfl
    have h2 := all_zero h.2
    rw [h1, List.length_cons, List.replicate_succ, ← h2]
theorem Sk.ok_parts {s : Sk} (h : s.ok = true) : (0 ≤ s.count ∧ s.count ≤ 1000000000) ∧ (0 ≤ s.sum ∧ s.sum ≤ 1000000000) ∧ (0 ≤ s.min ∧ s.min ≤ 1000000) ∧ (0 ≤ s.max ∧ s.max ≤ 1000000) ∧ s.min ≤ s.max ∧ (s.count = 0 → s.sum = 0 ∧ s.max = 0) ∧
    okL s.hist 8 1000000000 (decide (s.count = 0)) = true ∧ okL s.regs 8 17 (decide (s.count = 0)) = true ∧ okL (s.rows.getD 0 []) 4 1000000000 (decide (s.count = 0)) = true ∧ okL (s.rows.getD 1 []) 4 1000000000 (decide (s.count = 0)) = true ∧ s.rows.length = 2 := by
  unfold Sk.ok okHead okZero okLists at h
  simp only [Bool.and_eq_true, decide_eq_true_eq, Bool.or_eq_true, Bool.not_eq_true', decide_eq_false_iff_not] at h
  obtain ⟨⟨⟨⟨⟨⟨⟨h1, h2⟩, h3⟩, h4⟩, h5⟩, h6⟩, h7⟩, ⟨⟨⟨h8, h9⟩, h10⟩, h11⟩⟩ := h
  exact ⟨h1, h2, h3, h4, h5, fun e => by rcases h7 with h7 | h7; exact absurd e h7; exact h7, h8, h9, h10, h11, h6⟩
theorem Sk.ok_of {s : Sk} (h1 : 0 ≤ s.count ∧ s.count ≤ 1000000000) (h2 : 0 ≤ s.sum ∧ s.sum ≤ 1000000000) (h3 : 0 ≤ s.min ∧ s.min ≤ 1000000) (h4 : 0 ≤ s.max ∧ s.max ≤ 1000000) (h5 : s.min ≤ s.max) (h7 : s.count ≠ 0)
    (h8 : s.hist.length = 8 ∧ s.hist.all (okN 1000000000 false) = true) (h9 : s.regs.length = 8 ∧ s.regs.all (okN 17 false) = true) (h10 : (s.rows.getD 0 []).length = 4 ∧ (s.rows.getD 0 []).all (okN 1000000000 false) = true) (h11 : (s.rows.getD 1 []).length = 4 ∧ (s.rows.getD 1 []).all (okN 1000000000 false) = true) (h6 : s.rows.length = 2) : s.ok = true := by
  unfold Sk.ok okHead okZero okLists okL
  rw [dec_false h7, dec_true h1, dec_true h2, dec_true h3, dec_true h4, dec_true h5, dec_true h6, dec_true h8.1, dec_true h9.1, dec_true h10.1, dec_true h11.1, h8.2, h9.2, h10.2, h11.2]
  rfl
theorem ok_zero {s : Sk} (h : s.ok = true) (hc : s.count = 0) : s = Sk.new := by
  obtain ⟨_, _, h3, _, h5, h6, h8, h9, h10, h11, h12⟩ := Sk.ok_parts h
  obtain ⟨e1, e2⟩ := h6 hc
  rw [dec_true hc] at h8 h9 h10 h11
  obtain ⟨l8, z8⟩ := okL_parts h8
  obtain ⟨l9, z9⟩ := okL_parts h9
  obtain ⟨l10, z10⟩ := okL_parts h10
  obtain ⟨l11, z11⟩ := okL_parts h11
  have y8 := all_zero z8; have y9 := all_zero z9; have y10 := all_zero z10; have y11 := all_zero z11
  rw [l8] at y8; rw [l9] at y9; rw [l10] at y10; rw [l11] at y11
  refine Sk.eq_of hc e1 (show s.min = 0 by omega) e2 y8 y9 ?_
  match e : s.rows, h12 with
  | [x, y], _ =>
    rw [e] at y10 y11
    simp at y10 y11
    rw [y10, y11]; rfl
theorem merge_count {s t : Sk} (hs : s.ok = true) (ht : t.ok = true) (h : ¬ (s.count = 0 ∧ t.count = 0)) : addN s.count t.count ≠ 0 := by
  have h1 := (Sk.ok_parts hs).1
  have h2 := (Sk.ok_parts ht).1
  have e1 := clip_id s.count 1000000000 h1.1 h1.2
  have e2 := clip_id t.count 1000000000 h2.1 h2.2
  unfold addN
  rw [e1, e2]
  split <;> omega
theorem merge_new_new : Sk.new.merge Sk.new = Sk.new := by decide
theorem merge_ok {s t : Sk} (hs : s.ok = true) (ht : t.ok = true) : (s.merge t).ok = true := by
  by_cases z : s.count = 0 ∧ t.count = 0
  · rw [ok_zero hs z.1, ok_zero ht z.2, merge_new_new]; exact new_ok
  · have hc := merge_count hs ht z
    obtain ⟨a1, a2, a3, a4, a5, a6, a8, a9, a10, a11, a12⟩ := Sk.ok_parts hs
    obtain ⟨b1, b2, b3, b4, b5, b6, b8, b9, b10, b11, b12⟩ := Sk.ok_parts ht
    obtain ⟨l8, z8⟩ := okL_parts a8; obtain ⟨l9, z9⟩ := okL_parts a9; obtain ⟨l10, z10⟩ := okL_parts a10; obtain ⟨l11, z11⟩ := okL_parts a11
    obtain ⟨m8, y8⟩ := okL_parts b8; obtain ⟨m9, y9⟩ := okL_parts b9; obtain ⟨m10, y10⟩ := okL_parts b10; obtain ⟨m11, y11⟩ := okL_parts b11
    refine Sk.ok_of (addN_range _ _) (addN_range _ _) ?_ ?_ ?_ hc ⟨by show (sumL _ _).length = 8; exact sumL_length _ _ 8 l8 m8, all_sum _ _⟩ ⟨by show (maxL _ _).length = 8; simp [maxL, l9, m9], all_max _ _ (all_weak z9) (all_weak y9)⟩ ⟨by show (sumL _ _).length = 4; exact sumL_length _ _ 4 l10 m10, all_sum _ _⟩ ⟨by show (sumL _ _).length = 4; exact sumL_length _ _ 4 l11 m11, all_sum _ _⟩ rfl
    · show 0 ≤ (if t.count = 0 then s.min else if s.count = 0 then t.min else Min.min s.min t.min) ∧ (if t.count = 0 then s.min else if s.count = 0 then t.min else Min.min s.min t.min) ≤ 1000000
      split
      · omega
      · split <;> omega
    · show 0 ≤ Max.max s.max t.max ∧ Max.max s.max t.max ≤ 1000000
      omega
    · show (if t.count = 0 then s.min else if s.count = 0 then t.min else Min.min s.min t.min) ≤ Max.max s.max t.max
      split
      · omega
      · split <;> omega
theorem merge_zero_right {s : Sk} (hs : s.ok = true) : s.merge Sk.new = s := by
  by_cases z : s.count = 0
  · rw [ok_zero hs z]; exact merge_new_new
  · obtain ⟨a1, a2, a3, a4, a5, a6, a8, a9, a10, a11, a12⟩ := Sk.ok_parts hs
    obtain ⟨h0, h1, h2, h3, h4, h5, h6, h7, r0, r1, r2, r3, r4, r5, r6, r7, p0, p1, p2, p3, q0, q1, q2, q3, e⟩ := Sk.written (Sk.ok_shaped hs)
    have w8 := all_weak (okL_parts a8).2; have w9 := all_weak (okL_parts a9).2; have w10 := all_weak (okL_parts a10).2; have w11 := all_weak (okL_parts a11).2
    have id0 : ∀ x : Int, 0 ≤ x → x ≤ 1000000000 → addN x 0 = x := fun x h1 h2 => by
      have e1 := clip_id x 1000000000 h1 h2
      have e2 := clip_id 0 1000000000 (by omega) (by omega)
      unfold addN; rw [e1, e2]; split <;> omega
    have idL : ∀ l : List Int, l.all (okN 1000000000 false) = true → ∀ n, n = l.length → sumL l (List.replicate n 0) = l := by
      intro l
      induction l with
      | nil => intro _ n hn; subst hn; rfl
      | cons x l ih =>
        intro h n hn
        subst hn
        simp only [List.all_cons, Bool.and_eq_true] at h
        have b := ((okN_iff _ _ _).1 h.1).1
        have := ih h.2 l.length rfl
        simp only [sumL] at this
        simp [sumL, List.replicate_succ, id0 x b.1 b.2, this]
    have idM : ∀ l : List Int, l.all (okN 17 false) = true → ∀ n, n = l.length → maxL l (List.replicate n 0) = l := by
      intro l
      induction l with
      | nil => intro _ n hn; subst hn; rfl
      | cons x l ih =>
        intro h n hn
        subst hn
        simp only [List.all_cons, Bool.and_eq_true] at h
        have b := ((okN_iff _ _ _).1 h.1).1
        have := ih h.2 l.length rfl
        simp only [maxL] at this
        simp [maxL, List.replicate_succ, this]
        omega
    refine Sk.eq_of (id0 _ a1.1 a1.2) (id0 _ a2.1 a2.2) rfl (show Max.max s.max 0 = s.max by omega) (idL s.hist w8 8 (okL_parts a8).1.symm) (idM s.regs w9 8 (okL_parts a9).1.symm) ?_
    show [sumL (s.rows.getD 0 []) [0, 0, 0, 0], sumL (s.rows.getD 1 []) [0, 0, 0, 0]] = s.rows
    have v0 := idL _ w10 4 (okL_parts a10).1.symm
    have v1 := idL _ w11 4 (okL_parts a11).1.symm
    rw [show ([0, 0, 0, 0] : List Int) = List.replicate 4 0 from rfl, v0, v1]
    match e' : s.rows, a12 with
    | [x, y], _ => simp
theorem merge_assoc {s t u : Sk} (hs : s.ok = true) (ht : t.ok = true) (hu : u.ok = true) : (s.merge t).merge u = s.merge (t.merge u) := by
  by_cases zs : s.count = 0
  · rw [ok_zero hs zs, merge_comm new_ok ht, merge_zero_right ht, merge_comm new_ok (merge_ok ht hu), merge_zero_right (merge_ok ht hu)]
  by_cases zt : t.count = 0
  · rw [ok_zero ht zt, merge_zero_right hs, merge_comm new_ok hu, merge_zero_right hu]
  by_cases zu : u.count = 0
  · rw [ok_zero hu zu, merge_zero_right (merge_ok hs ht), merge_zero_right ht]
  have c1 := merge_count hs ht (fun h => zs h.1)
  have c2 := merge_count ht hu (fun h => zt h.1)
  refine Sk.eq_of (addN_assoc _ _ _) (addN_assoc _ _ _) ?_ (Int.max_assoc _ _ _) (zip_assoc _ addN_assoc _ _ _) (zip_assoc _ (fun a b c => Int.max_assoc a b c) _ _ _) ?_
  · show (if u.count = 0 then (if t.count = 0 then s.min else if s.count = 0 then t.min else Min.min s.min t.min) else if addN s.count t.count = 0 then u.min else Min.min (if t.count = 0 then s.min else if s.count = 0 then t.min else Min.min s.min t.min) u.min) = (if addN t.count u.count = 0 then s.min else if s.count = 0 then (if u.count = 0 then t.min else if t.count = 0 then u.min else Min.min t.min u.min) else Min.min s.min (if u.count = 0 then t.min else if t.count = 0 then u.min else Min.min t.min u.min))
    rw [if_neg zu, if_neg c1, if_neg zt, if_neg zs, if_neg c2, if_neg zs, if_neg zu, if_neg zt]
    omega
  · show [sumL (sumL _ _) _, sumL (sumL _ _) _] = [sumL _ (sumL _ _), sumL _ (sumL _ _)]
    unfold sumL
    rw [zip_assoc _ addN_assoc, zip_assoc _ addN_assoc]
end Go.Proofs.Ytlapdamopclojaa
