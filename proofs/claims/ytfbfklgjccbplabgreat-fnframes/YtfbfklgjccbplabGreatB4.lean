/- Several texts of mine, laid together. No statement of the seat is proved here. -/
import Derived.Test.YtfbfklgjccbplabGreatB1
import Derived.Maps.AppendAt
import Derived.BigRegion
import Derived.Deep.RegionHeld3
import Derived.Laws.StructEq
import Derived.Test.YtfbfklgjccbplabGreatItModel
import Derived.Test.YtfbfklgjccbplabGreatB3
import Derived.Test.YtfbfklgjccbplabGreatFrModel
import Derived.Test.YtfbfklgjccbplabGreatB2
/- Sets of numbers: what makes two of them the same, and what is made of both. No statement of the seat is proved here. -/
namespace Go.Proofs.YtfbfklgjccbplabGreat
open Go.RowKit
/-- Right from l on: the spans rise, with a gap between any two. -/
def okFrom : Int → Sp → Prop
  | _, [] => True
  | l, p :: ps => (l ≤ p.1 ∧ p.1 ≤ p.2 ∧ p.2 ≤ 9999) ∧ okFrom (p.2 + 2) ps
def endOf : Int → Sp → Int
  | l, [] => l
  | _, p :: ps => endOf (p.2 + 2) ps
theorem okFrom_append : ∀ (o r : Sp) (l : Int), okFrom l (o ++ r) ↔ okFrom l o ∧ okFrom (endOf l o) r
  | [], r, l => by simp [okFrom, endOf]
  | p :: o, r, l => by simp only [List.cons_append, okFrom, endOf, okFrom_append o r, and_assoc]
theorem endOf_snoc : ∀ (o : Sp) (t : Int × Int) (l : Int), endOf l (o ++ [t]) = t.2 + 2
  | [], t, l => rfl
  | p :: o, t, l => by simp only [List.cons_append, endOf, endOf_snoc o t]
theorem okFrom_mono : ∀ {ps : Sp} {l m : Int}, okFrom l ps → m ≤ l → okFrom m ps
  | [], _, _, _, _ => trivial
  | p :: ps, l, m, h, hm => ⟨⟨by have := h.1; omega, h.1.2⟩, h.2⟩
theorem has_cons (p : Int × Int) (ps : Sp) (n : Int) : Sp.has (p :: ps) n = (decide (p.1 ≤ n ∧ n ≤ p.2) || Sp.has ps n) := rfl
theorem has_nil (n : Int) : Sp.has [] n = false := rfl
theorem has_append (ps qs : Sp) (n : Int) : Sp.has (ps ++ qs) n = (Sp.has ps n || Sp.has qs n) := by simp [Sp.has]
/-- n is in ps. -/
def InS (ps : Sp) (n : Int) : Prop := ps.has n = true
theorem inS_cons {p : Int × Int} {ps : Sp} {n : Int} : InS (p :: ps) n ↔ (p.1 ≤ n ∧ n ≤ p.2) ∨ InS ps n := by unfold InS; rw [has_cons]; simp
theorem inS_nil {n : Int} : ¬ InS [] n := by unfold InS; rw [has_nil]; simp
theorem inS_append {ps qs : Sp} {n : Int} : InS (ps ++ qs) n ↔ InS ps n ∨ InS qs n := by unfold InS; rw [has_append]; simp
theorem inS_ge : ∀ {ps : Sp} {l n : Int}, okFrom l ps → InS ps n → l ≤ n
  | [], _, _, _, h => (inS_nil h).elim
  | p :: ps, l, n, h, hn => by
    rcases inS_cons.1 hn with e | e
    · have := h.1; omega
    · have := inS_ge h.2 e; have := h.1; omega
theorem inS_le : ∀ {ps : Sp} {l n : Int}, okFrom l ps → InS ps n → n ≤ 9999
  | [], _, _, _, h => (inS_nil h).elim
  | p :: ps, l, n, h, hn => by
    rcases inS_cons.1 hn with e | e
    · have := h.1; omega
    · exact inS_le h.2 e
theorem sp_ext : ∀ {ps qs : Sp} {l m : Int}, okFrom l ps → okFrom m qs → (∀ n, InS ps n ↔ InS qs n) → ps = qs
  | [], [], _, _, _, _, _ => rfl
  | [], q :: qs, _, _, _, h2, h => by
    have := (h q.1).2 (inS_cons.2 (.inl ⟨Int.le_refl _, h2.1.2.1⟩))
    exact (inS_nil this).elim
  | p :: ps, [], _, _, h1, _, h => by
    have := (h p.1).1 (inS_cons.2 (.inl ⟨Int.le_refl _, h1.1.2.1⟩))
    exact (inS_nil this).elim
  | p :: ps, q :: qs, l, m, h1, h2, h => by
    obtain ⟨⟨a1, a2, a3⟩, a4⟩ := h1
    obtain ⟨⟨b1, b2, b3⟩, b4⟩ := h2
    have e1 : p.1 = q.1 := by
      have x1 := inS_ge (ps := q :: qs) (l := q.1) ⟨⟨Int.le_refl _, b2, b3⟩, b4⟩ ((h p.1).1 (inS_cons.2 (.inl ⟨Int.le_refl _, a2⟩)))
      have x2 := inS_ge (ps := p :: ps) (l := p.1) ⟨⟨Int.le_refl _, a2, a3⟩, a4⟩ ((h q.1).2 (inS_cons.2 (.inl ⟨Int.le_refl _, b2⟩)))
      omega
    have e2 : p.2 = q.2 := by
      rcases Int.lt_trichotomy p.2 q.2 with c | c | c
      · rcases inS_cons.1 ((h (p.2 + 1)).2 (inS_cons.2 (.inl ⟨by omega, by omega⟩))) with e | e
        · omega
        · have := inS_ge a4 e; omega
      · exact c
      · rcases inS_cons.1 ((h (q.2 + 1)).1 (inS_cons.2 (.inl ⟨by omega, by omega⟩))) with e | e
        · omega
        · have := inS_ge b4 e; omega
    have e3 : ps = qs := sp_ext a4 b4 (fun n => by
      constructor
      · intro hn
        have := inS_ge a4 hn
        rcases inS_cons.1 ((h n).1 (inS_cons.2 (.inr hn))) with e | e
        · omega
        · exact e
      · intro hn
        have := inS_ge b4 hn
        rcases inS_cons.1 ((h n).2 (inS_cons.2 (.inr hn))) with e | e
        · omega
        · exact e)
    rw [e3, Prod.ext e1 e2]
/-- What is right, seen from the k-th span on. -/
def floorAt (ps : Sp) (k : Nat) : Int := if k = 0 then 0 else (ps.at (k - 1)).2 + 2
theorem okAt_iff (ps : Sp) (k : Nat) : ps.okAt k = true ↔ (if k = 0 then 0 else (ps.at (k - 1)).2 + 2) ≤ (ps.at k).1 ∧ 0 ≤ (ps.at k).1 ∧ (ps.at k).1 ≤ (ps.at k).2 ∧ (ps.at k).2 ≤ 9999 := by
  unfold Sp.okAt
  simp only [Bool.and_eq_true, Bool.or_eq_true, decide_eq_true_eq]
  split <;> omega
theorem okFrom_drop (ps : Sp) : ∀ (d k : Nat), k + d = ps.length → 0 ≤ floorAt ps k → ((∀ j, k ≤ j → j < ps.length → ps.okAt j = true) ↔ okFrom (floorAt ps k) (ps.drop k))
  | 0, k, hk, _ => by
    rw [List.drop_eq_nil_of_le (by omega)]
    exact ⟨fun _ => trivial, fun _ j h1 h2 => by omega⟩
  | d + 1, k, hk, h0 => by
    rw [drop_at (by omega), okFrom]
    have e : floorAt ps (k + 1) = (ps.at k).2 + 2 := by unfold floorAt; rw [if_neg (by omega), show k + 1 - 1 = k by omega]
    constructor
    · intro h
      have hk1 := (okAt_iff ps k).1 (h k (Nat.le_refl _) (by omega))
      refine ⟨⟨hk1.1, hk1.2.2⟩, ?_⟩
      rw [← e]
      exact (okFrom_drop ps d (k + 1) (by omega) (by rw [e]; omega)).1 (fun j h1 h2 => h j (by omega) h2)
    · rintro ⟨h1, h2⟩ j hj1 hj2
      by_cases c : j = k
      · subst c
        exact (okAt_iff ps j).2 ⟨h1.1, by omega, h1.2⟩
      · rw [← e] at h2
        exact (okFrom_drop ps d (k + 1) (by omega) (by rw [e]; omega)).2 h2 j (by omega) hj2
theorem ok_iff {ps : Sp} : ps.ok = true ↔ okFrom 0 ps := by
  have e := okFrom_drop ps ps.length 0 (by omega) (by simp [floorAt])
  simp only [floorAt, if_true, List.drop_zero] at e
  rw [← e]
  exact ⟨fun h j _ hj => Sp.ok_at h j hj, fun h => Sp.ok_all (fun j hj => h j (Nat.zero_le _) hj)⟩
theorem put_true_same : ∀ {ps : Sp} {x : Int × Int} {l : Int}, okFrom l ps → x.2 + 2 ≤ l → x.1 ≤ x.2 → put ps x true = ps
  | [], _, _, _, _, _ => rfl
  | p :: ps, x, l, h, hl, hx => by
    obtain ⟨⟨a1, a2, a3⟩, a4⟩ := h
    rw [put, if_neg (by omega), if_pos (by omega), put_true_same a4 (by omega) hx]
    rfl
theorem put_ok : ∀ {ps : Sp} {x : Int × Int} {l : Int}, okFrom l ps → l ≤ x.1 → x.1 ≤ x.2 → x.2 ≤ 9999 → okFrom l (put ps x false) ∧ ∀ n, InS (put ps x false) n ↔ InS ps n ∨ (x.1 ≤ n ∧ n ≤ x.2)
  | [], x, l, _, h1, h2, h3 => ⟨⟨⟨h1, h2, h3⟩, trivial⟩, fun n => by
      show InS [x] n ↔ _
      rw [inS_cons]
      exact ⟨fun h => h.symm.imp (fun e => e) (fun e => e), fun h => h.symm.imp (fun e => e) (fun e => e)⟩⟩
  | p :: ps, x, l, h, h1, h2, h3 => by
    obtain ⟨⟨a1, a2, a3⟩, a4⟩ := h
    rw [put]
    split
    · obtain ⟨i1, i2⟩ := put_ok a4 (by omega) h2 h3
      refine ⟨⟨⟨a1, a2, a3⟩, i1⟩, fun n => ?_⟩
      rw [inS_cons, inS_cons, i2, or_assoc]
    · split
      · rw [put_true_same (l := p.2 + 2) a4 (by omega) h2]
        refine ⟨⟨⟨h1, h2, h3⟩, ⟨⟨by omega, a2, a3⟩, a4⟩⟩, fun n => ?_⟩
        show InS (x :: p :: ps) n ↔ _
        rw [inS_cons (p := x)]
        exact or_comm
      · obtain ⟨i1, i2⟩ := put_ok (x := (min x.1 p.1, max x.2 p.2)) (l := l) (okFrom_mono a4 (by omega)) (by simp only; omega) (by simp only; omega) (by simp only; omega)
        refine ⟨i1, fun n => ?_⟩
        rw [i2, inS_cons]
        have : (min x.1 p.1 ≤ n ∧ n ≤ max x.2 p.2) ↔ (p.1 ≤ n ∧ n ≤ p.2) ∨ (x.1 ≤ n ∧ n ≤ x.2) := by omega
        rw [show ((min x.1 p.1, max x.2 p.2).1 ≤ n ∧ n ≤ (min x.1 p.1, max x.2 p.2).2) ↔ (p.1 ≤ n ∧ n ≤ p.2) ∨ (x.1 ≤ n ∧ n ≤ x.2) from this, or_comm, or_right_comm]
theorem okFrom_at {ps : Sp} (h : okFrom 0 ps) {k : Nat} (hk : k < ps.length) : 0 ≤ (ps.at k).1 ∧ (ps.at k).1 ≤ (ps.at k).2 ∧ (ps.at k).2 ≤ 9999 := (Sp.okAt_parts (Sp.ok_at (ok_iff.2 h) k hk)).1
theorem take_inS {qs : Sp} {k : Nat} (hk : k < qs.length) (n : Int) : InS (qs.take (k + 1)) n ↔ InS (qs.take k) n ∨ ((qs.at k).1 ≤ n ∧ n ≤ (qs.at k).2) := by
  rw [takeP_succ qs k hk, inS_append, inS_cons]
  show _ ∨ (_ ∨ InS [] n) ↔ _
  exact ⟨fun h => h.imp id (fun h => h.resolve_right inS_nil), fun h => h.imp id .inl⟩
theorem joinTo_ok {ps qs : Sp} (h1 : okFrom 0 ps) (h2 : okFrom 0 qs) : ∀ k, k ≤ qs.length → okFrom 0 (joinTo ps qs k) ∧ ∀ n, InS (joinTo ps qs k) n ↔ InS ps n ∨ InS (qs.take k) n
  | 0, _ => by
    rw [joinTo_zero]
    exact ⟨h1, fun n => ⟨.inl, fun h => h.resolve_right inS_nil⟩⟩
  | k + 1, hk => by
    have hq := okFrom_at h2 (k := k) (by omega)
    obtain ⟨i1, i2⟩ := joinTo_ok h1 h2 k (by omega)
    obtain ⟨j1, j2⟩ := put_ok (x := qs.at k) i1 (by omega) (by omega) (by omega)
    rw [joinTo_succ (by omega)]
    refine ⟨j1, fun n => ?_⟩
    rw [j2, i2, take_inS (by omega), or_assoc]
theorem join_ok {ps qs : Sp} (h1 : okFrom 0 ps) (h2 : okFrom 0 qs) : okFrom 0 (joinTo ps qs qs.length) ∧ ∀ n, InS (joinTo ps qs qs.length) n ↔ InS ps n ∨ InS qs n := by
  have := joinTo_ok h1 h2 qs.length (Nat.le_refl _)
  rw [List.take_length] at this
  exact this
/-- A span is laid behind o: apart, or into its last one. -/
def lay1 (o : Sp) (x : Int × Int) : Sp := if o = [] ∨ (o.at (o.length - 1)).2 + 1 < x.1 then o ++ [x] else o.take (o.length - 1) ++ [((o.at (o.length - 1)).1, max (o.at (o.length - 1)).2 x.2)]
def lay (o xs : Sp) : Sp := xs.foldl lay1 o
/-- How many spans begin no later than n. -/
def cutN : Sp → Int → Nat
  | [], _ => 0
  | p :: ps, n => if p.1 ≤ n then cutN ps n + 1 else 0
/-- Both sets, gone through once; o: what has come. -/
def both : Sp → Sp → Sp → Sp
  | a, [], o => lay o a
  | a, x :: b, o => both (a.drop (cutN a x.1)) b (lay1 (lay o (a.take (cutN a x.1))) x)
theorem snoc_cases (o : Sp) : o = [] ∨ ∃ o' t, o = o' ++ [t] := by
  rcases List.eq_nil_or_concat o with h | ⟨o', t, h⟩
  · exact .inl h
  · exact .inr ⟨o', t, by simpa using h⟩
theorem lay1_nil (x : Int × Int) : lay1 [] x = [x] := by simp [lay1]
theorem lay1_snoc (o : Sp) (t x : Int × Int) : lay1 (o ++ [t]) x = if t.2 + 1 < x.1 then o ++ [t] ++ [x] else o ++ [(t.1, max t.2 x.2)] := by
  have e : (o ++ [t]).at ((o ++ [t]).length - 1) = t := by simp [Sp.at]
  have e2 : (o ++ [t]).take ((o ++ [t]).length - 1) = o := by simp
  unfold lay1
  rw [e, e2]
  simp
/-- Right so far; the last span begins at m or ahead of it. -/
structure LayOk (o : Sp) (m : Int) : Prop where
  ok : okFrom 0 o
  le : ∀ o' t, o = o' ++ [t] → t.1 ≤ m
theorem LayOk.nil (m : Int) : LayOk [] m := ⟨trivial, fun o' t h => by simp at h⟩
theorem LayOk.up {o : Sp} {m m' : Int} (h : LayOk o m) (hm : m ≤ m') : LayOk o m' := ⟨h.ok, fun o' t e => Int.le_trans (h.le o' t e) hm⟩
theorem lay1_ok {o : Sp} {x : Int × Int} {m : Int} (h : LayOk o m) (hm : m ≤ x.1) (h0 : 0 ≤ x.1) (h1 : x.1 ≤ x.2) (h2 : x.2 ≤ 9999) : LayOk (lay1 o x) x.1 ∧ ∀ n, InS (lay1 o x) n ↔ InS o n ∨ (x.1 ≤ n ∧ n ≤ x.2) := by
  rcases snoc_cases o with rfl | ⟨o', t, rfl⟩
  · rw [lay1_nil]
    refine ⟨⟨⟨⟨h0, h1, h2⟩, trivial⟩, fun o' t e => ?_⟩, fun n => ?_⟩
    · obtain ⟨rfl, rfl⟩ : o' = [] ∧ x = t := by
        cases o' with
        | nil => simpa using e
        | cons y ys => simp at e
      exact Int.le_refl _
    · rw [inS_cons]
      exact ⟨fun h => .inr (h.resolve_right inS_nil), fun h => .inl (h.resolve_left inS_nil)⟩
  · have ht := h.le o' t rfl
    have hok := h.ok
    rw [okFrom_append] at hok
    obtain ⟨k1, ⟨k2, k3, k4⟩, _⟩ := hok
    rw [lay1_snoc]
    split
    · refine ⟨⟨?_, fun o2 t2 e => ?_⟩, fun n => ?_⟩
      · rw [okFrom_append, endOf_snoc]
        exact ⟨h.ok, ⟨by omega, h1, h2⟩, trivial⟩
      · have e3 := List.append_inj_right' e rfl
        obtain rfl : x = t2 := by simpa using e3
        exact Int.le_refl _
      · rw [inS_append (ps := o' ++ [t]), inS_cons (p := x)]
        exact ⟨fun h => h.imp id (fun h => h.resolve_right inS_nil), fun h => h.imp id .inl⟩
    · refine ⟨⟨?_, fun o2 t2 e => ?_⟩, fun n => ?_⟩
      · rw [okFrom_append]
        exact ⟨k1, ⟨k2, by simp only; omega, by simp only; omega⟩, trivial⟩
      · have e3 := List.append_inj_right' e rfl
        have e4 : (t.1, max t.2 x.2) = t2 := by simpa using e3
        rw [← e4]; simp only; omega
      · rw [inS_append, inS_append, inS_cons, inS_cons]
        have : (t.1 ≤ n ∧ n ≤ max t.2 x.2) ↔ (t.1 ≤ n ∧ n ≤ t.2) ∨ (x.1 ≤ n ∧ n ≤ x.2) := by omega
        rw [show ((t.1, max t.2 x.2).1 ≤ n ∧ n ≤ (t.1, max t.2 x.2).2) ↔ (t.1 ≤ n ∧ n ≤ t.2) ∨ (x.1 ≤ n ∧ n ≤ x.2) from this]
        have e := inS_nil (n := n)
        simp only [e, or_false, or_assoc]
theorem lay_ok : ∀ {xs o : Sp} {m l M : Int}, LayOk o m → okFrom l xs → m ≤ l → 0 ≤ l → m ≤ M → (∀ p ∈ xs, p.1 ≤ M) → LayOk (lay o xs) M ∧ ∀ n, InS (lay o xs) n ↔ InS o n ∨ InS xs n
  | [], o, m, l, M, h, _, _, _, hM, _ => ⟨h.up hM, fun n => ⟨.inl, fun h => h.resolve_right inS_nil⟩⟩
  | x :: xs, o, m, l, M, h, hx, hm, h0, hM, hall => by
    obtain ⟨⟨a1, a2, a3⟩, a4⟩ := hx
    obtain ⟨i1, i2⟩ := lay1_ok h (x := x) (by omega) (by omega) a2 a3
    obtain ⟨j1, j2⟩ := lay_ok (xs := xs) (M := M) i1 a4 (by omega) (by omega) (hall x (by simp)) (fun p hp => hall p (by simp [hp]))
    refine ⟨j1, fun n => ?_⟩
    rw [show lay o (x :: xs) = lay (lay1 o x) xs from rfl, j2, i2, inS_cons, or_assoc]
theorem cutN_le : ∀ (a : Sp) (n : Int), cutN a n ≤ a.length
  | [], _ => by simp [cutN]
  | p :: a, n => by
    rw [cutN]
    split
    · have := cutN_le a n; simp; omega
    · simp
theorem cut_take : ∀ (a : Sp) (n : Int), ∀ p ∈ a.take (cutN a n), p.1 ≤ n
  | [], _, p, hp => by simp [cutN] at hp
  | q :: a, n, p, hp => by
    rw [cutN] at hp
    split at hp
    · rw [List.take_succ_cons] at hp
      rcases List.mem_cons.1 hp with rfl | hp
      · assumption
      · exact cut_take a n p hp
    · simp at hp
theorem okFrom_take {l : Int} {a : Sp} (k : Nat) (h : okFrom l a) : okFrom l (a.take k) := by
  have := h
  rw [← List.take_append_drop k a, okFrom_append] at this
  exact this.1
theorem cut_drop : ∀ {a : Sp} {n l : Int}, okFrom l a → okFrom n (a.drop (cutN a n))
  | [], _, _, _ => by simp [cutN, okFrom]
  | q :: a, n, l, h => by
    rw [cutN]
    split
    · rw [List.drop_succ_cons]; exact cut_drop h.2
    · exact ⟨⟨by omega, h.1.2⟩, h.2⟩
theorem both_ok : ∀ {b a o : Sp} {m la lb : Int}, LayOk o m → okFrom la a → okFrom lb b → m ≤ la → m ≤ lb → 0 ≤ la → 0 ≤ lb → okFrom 0 (both a b o) ∧ ∀ n, InS (both a b o) n ↔ InS o n ∨ InS a n ∨ InS b n
  | [], a, o, m, la, lb, h, ha, _, h1, _, h0, _ => by
    obtain ⟨M, hM⟩ : ∃ M : Int, m ≤ M ∧ ∀ p ∈ a, p.1 ≤ M := ⟨max m 9999, by omega, fun p hp => by
      obtain ⟨k, hk, rfl⟩ := List.getElem_of_mem hp
      have := okFrom_at (okFrom_mono ha h0) hk
      unfold Sp.at at this
      rw [List.getElem?_eq_getElem hk] at this
      simp only [Option.getD_some] at this
      omega⟩
    obtain ⟨i1, i2⟩ := lay_ok h ha h1 h0 hM.1 hM.2
    refine ⟨i1.ok, fun n => ?_⟩
    rw [both, i2]
    exact ⟨fun h => h.imp id .inl, fun h => h.imp id (fun h => h.resolve_right inS_nil)⟩
  | x :: b, a, o, m, la, lb, h, ha, hb, h1, h2, h0, h00 => by
    obtain ⟨⟨b1, b2, b3⟩, b4⟩ := hb
    obtain ⟨i1, i2⟩ := lay_ok (M := x.1) h (okFrom_take (cutN a x.1) ha) h1 h0 (by omega) (cut_take a x.1)
    obtain ⟨j1, j2⟩ := lay1_ok (x := x) i1 (Int.le_refl _) (by omega) b2 b3
    obtain ⟨k1, k2⟩ := both_ok (a := a.drop (cutN a x.1)) (b := b) j1 (cut_drop ha) b4 (Int.le_refl _) (by omega) (by omega) (by omega)
    refine ⟨k1, fun n => ?_⟩
    have e : InS a n ↔ InS (a.take (cutN a x.1)) n ∨ InS (a.drop (cutN a x.1)) n := by rw [← inS_append, List.take_append_drop]
    rw [both, k2, j2, i2, inS_cons, e]
    simp only [or_assoc]
    constructor
    · rintro (h | h | h | h | h) <;> simp [h]
    · rintro (h | h | h | h | h) <;> simp [h]
theorem both_nil_ok {a b : Sp} (ha : okFrom 0 a) (hb : okFrom 0 b) : okFrom 0 (both a b []) ∧ ∀ n, InS (both a b []) n ↔ InS a n ∨ InS b n := by
  obtain ⟨i1, i2⟩ := both_ok (LayOk.nil 0) ha hb (Int.le_refl _) (Int.le_refl _) (Int.le_refl _) (Int.le_refl _)
  exact ⟨i1, fun n => by rw [i2]; exact ⟨fun h => h.resolve_left inS_nil, .inr⟩⟩
theorem both_join {a b : Sp} (ha : a.ok = true) (hb : b.ok = true) : both a b [] = a.join b := by
  rw [Sp.join_yes ha hb]
  obtain ⟨i1, i2⟩ := both_nil_ok (ok_iff.1 ha) (ok_iff.1 hb)
  obtain ⟨j1, j2⟩ := join_ok (ok_iff.1 ha) (ok_iff.1 hb)
  exact sp_ext i1 j1 (fun n => by rw [i2, j2])
theorem single_ok {n : Int} (h : 0 ≤ n ∧ n ≤ 9999) : okFrom 0 [(n, n)] := ⟨⟨h.1, Int.le_refl _, h.2⟩, trivial⟩
theorem inS_single {n m : Int} : InS [(n, n)] m ↔ m = n := by
  rw [inS_cons]
  exact ⟨fun h => by have := h.resolve_right inS_nil; simp only at this; omega, fun h => .inl (by simp only; omega)⟩
theorem both_add {a : Sp} {n : Int} (ha : a.ok = true) (hn : 0 ≤ n ∧ n ≤ 9999) : both a [(n, n)] [] = (a.add n).1 ∧ (a.add n).2 = decide (¬ both a [(n, n)] [] = a) := by
  obtain ⟨i1, i2⟩ := both_nil_ok (ok_iff.1 ha) (single_ok hn)
  by_cases h : a.has n = true
  · have e : both a [(n, n)] [] = a := sp_ext i1 (ok_iff.1 ha) (fun m => by
      rw [i2, inS_single]
      exact ⟨fun e => e.elim id (fun e => by rw [e]; exact h), .inl⟩)
    rw [Sp.add_not (fun e => by rw [h] at e; cases e.2.2), e]
    simp
  · have h' : a.has n = false := by simpa using h
    rw [Sp.add_yes ha hn h']
    obtain ⟨j1, j2⟩ := put_ok (x := (n, n)) (ok_iff.1 ha) hn.1 (Int.le_refl _) hn.2
    have e : both a [(n, n)] [] = put a (n, n) false := sp_ext i1 j1 (fun m => by
      rw [i2, j2, inS_single]
      exact ⟨fun e => e.imp id (fun e => by simp only; omega), fun e => e.imp id (fun e => by simp only at e; omega)⟩)
    refine ⟨e, ?_⟩
    have ne : ¬ both a [(n, n)] [] = a := fun e => h (by
      have := (i2 n).2 (.inr (inS_single.2 rfl))
      rw [e] at this
      exact this)
    simp [ne]
/-- No span of the one meets one of the other. -/
def noMeet (a b : Sp) : Bool := a.all fun p => b.all fun q => !meet p q
theorem meet_comm (p q : Int × Int) : meet p q = meet q p := by unfold meet; rw [Bool.eq_iff_iff]; simp only [decide_eq_true_eq]; exact and_comm
theorem noMeet_nil (b : Sp) : noMeet [] b = true := rfl
theorem noMeet_comm (a b : Sp) : noMeet a b = noMeet b a := by
  unfold noMeet
  rw [Bool.eq_iff_iff]
  simp only [List.all_eq_true]
  exact ⟨fun h q hq p hp => by rw [meet_comm]; exact h p hp q hq, fun h q hq p hp => by rw [meet_comm]; exact h p hp q hq⟩
theorem okFrom_mem : ∀ {b : Sp} {l : Int}, okFrom l b → ∀ q ∈ b, l ≤ q.1 ∧ q.1 ≤ q.2 ∧ q.2 ≤ 9999
  | [], _, _, q, hq => by simp at hq
  | p :: b, l, h, q, hq => by
    rcases List.mem_cons.1 hq with rfl | hq
    · exact h.1
    · have := okFrom_mem h.2 q hq
      have := h.1
      omega
theorem noMeet_hit {p q : Int × Int} {a b : Sp} (h1 : p.1 ≤ q.1) (h2 : q.1 ≤ p.2) (h3 : q.1 ≤ q.2) : noMeet (p :: a) (q :: b) = false := by
  have : meet p q = true := by unfold meet; exact decT (by omega)
  simp [noMeet, this]
theorem noMeet_drop {p q : Int × Int} {a b : Sp} {l : Int} (h : okFrom l (q :: b)) (h2 : p.2 < q.1) : noMeet (p :: a) (q :: b) = noMeet a (q :: b) := by
  have e : (q :: b).all (fun q => !meet p q) = true := by
    rw [List.all_eq_true]
    intro r hr
    have := okFrom_mem (l := q.1) (b := q :: b) ⟨⟨Int.le_refl _, h.1.2⟩, h.2⟩ r hr
    unfold meet
    rw [decF (by omega)]
    rfl
  show ((q :: b).all _ && _) = _
  rw [e]
  rfl
theorem apart_eq (ps qs : Sp) : ps.apart qs = (ps.ok && qs.ok && noMeet ps qs) := rfl
end Go.Proofs.YtfbfklgjccbplabGreat
/- The walks through the program's SetOk, SetHas and SetSize. No statement of the seat is proved here. -/
namespace Go.Proofs.YtfbfklgjccbplabGreat
open Go.RowKit
theorem cells_of {w : World} {a : Option Addr} {len : Nat} {ps : Sp} {F : List Nat} (h : RdP w a len ps F) : len = 0 ∨ ∃ b off, a = some ⟨b, off, none⟩ ∧ b < w.heap.size ∧ SpCells w b off len ps := by
  rcases h.cells with ⟨h0, _⟩ | ⟨b, off, hp, e, _, hc⟩
  · exact .inl h0
  · exact .inr ⟨b, off, e, World.block_lt_of_cell? _ _ (hc 0 hp).1, hc⟩
theorem floorAt_succ (ps : Sp) (k : Nat) : floorAt ps (k + 1) = (ps.at k).2 + 2 := by unfold floorAt; rw [if_neg (by omega), show k + 1 - 1 = k by omega]
set_option maxRecDepth 200000 in
set_option maxHeartbeats 2000000 in
theorem setOkImpl_any (a : Option Addr) (len cap : Nat) (ps : Sp) (F : List Nat) (w : World) (h : RdP w a len ps F) (hlen : len ≤ 2097152) :
    Calls Tryz.prog 81 #[.slice a len cap] w fun e w' => e = .returned (.bool ps.ok) ∧ Below w.heap.size w w' := by
  have HL : Hid (ps.length = len) := h.length
  have HC : Hid (len = 0 ∨ ∃ b off, a = some ⟨b, off, none⟩ ∧ b < w.heap.size ∧ SpCells w b off len ps) := cells_of h
  clear h
  go_enter Tryz.func81, Tryz.ntmps81
  go_wp2
  go_loopw [3, 8] (fun q i wr => ∃ (k : Nat) (l : Int), k ≤ len ∧ i = .int .i64 k ∧ q = .int .i64 l ∧ 0 ≤ l ∧ l ≤ 10001 ∧ Hid (Below w.heap.size w wr) ∧ Hid (l = floorAt ps k ∧ ∀ j, j < k → ps.okAt j = true)) (fun _ i _ => len - (intOf i).toNat)
  case atStart => exact ⟨0, 0, by omega, rfl, rfl, by omega, by omega, Below.refl _ _, rfl, fun j hj => by omega⟩
  case round =>
    obtain ⟨k, l, hk, rfl, rfl, l0, l1, HB, HN⟩ := hrel
    by_cases hlt : k < len
    · have hca := HC.out
      rcases hca with h0 | ⟨b, off, rfl, hbw, hc⟩
      · omega
      obtain ⟨x, hx⟩ : ∃ x, x = (ps.at k).1 := ⟨_, rfl⟩
      obtain ⟨y, hy⟩ : ∃ x, x = (ps.at k).2 := ⟨_, rfl⟩
      have e := hc k hlt
      rw [← hx, ← hy] at e
      have d1 : wr.cell? ⟨b, off + k * 2, none⟩ = some (.int .i64 x) := (HB.out.cell (by exact hbw)).trans e.1
      have d2 : wr.cell? ⟨b, off + k * 2 + 1, none⟩ = some (.int .i64 y) := (HB.out.cell (by exact hbw)).trans e.2
      have HX : Hid (x = (ps.at k).1 ∧ y = (ps.at k).2) := ⟨hx, hy⟩
      have HB2 : Hid (Below w.heap.size w (wr.alloc (.cells #[.int .i64 x, .int .i64 y] 61))) := Below.allocW _ HB.out (Nat.le_refl _)
      have HOK : Hid (ps.okAt k = true ↔ l ≤ x ∧ 0 ≤ x ∧ x ≤ y ∧ y ≤ 9999) := by
        have := okAt_iff ps k
        rw [← hx, ← hy] at this
        rw [HN.out.1]
        exact this
      have hI : (k : Int) < (len : Int) := by omega
      have hkl : k < ps.length := by rw [HL.out]; exact hlt
      clear e hx hy hc HB
      by_cases c1 : x < l
      · have c1d : decide (x < l) = true := decT c1
        have HV : Hid (ps.ok = false) := Sp.ok_not hkl (by rw [Bool.eq_false_iff]; exact fun e => by have := HOK.out.1 e; omega)
        go_wp2
        go_ret
        rw [HV.out]
        exact ⟨rfl, HB2.out⟩
      have c1d : decide (x < l) = false := decF c1
      by_cases c2 : y < x
      · have c2d : decide (y < x) = true := decT c2
        have HV : Hid (ps.ok = false) := Sp.ok_not hkl (by rw [Bool.eq_false_iff]; exact fun e => by have := HOK.out.1 e; omega)
        go_wp2
        go_ret
        rw [HV.out]
        exact ⟨rfl, HB2.out⟩
      have c2d : decide (y < x) = false := decF c2
      by_cases c3 : 9999 < y
      · have c3d : decide (9999 < y) = true := decT c3
        have HV : Hid (ps.ok = false) := Sp.ok_not hkl (by rw [Bool.eq_false_iff]; exact fun e => by have := HOK.out.1 e; omega)
        go_wp2
        go_ret
        rw [HV.out]
        exact ⟨rfl, HB2.out⟩
      have c3d : decide (9999 < y) = false := decF c3
      have HN2 : Hid (y + 2 = floorAt ps (k + 1) ∧ ∀ j, j < k + 1 → ps.okAt j = true) := ⟨by rw [floorAt_succ, HX.out.2], all_up HN.out.2 (HOK.out.2 ⟨by omega, by omega, by omega, by omega⟩)⟩
      go_wp2
      go_roundw
      case rel => exact ⟨k + 1, y + 2, by omega, by go_num, by go_num, by omega, by omega, HB2, HN2⟩
      case measure => simp [intOf]; omega
    · obtain rfl : k = len := by omega
      have HV : Hid (ps.ok = true) := Sp.ok_all (fun j hj => HN.out.2 j (by rw [← HL.out]; exact hj))
      go_wp2
      go_ret
      rw [HV.out]
      exact ⟨rfl, HB.out⟩
end Go.Proofs.YtfbfklgjccbplabGreat
/- The walk through the program's laying of spans behind a set that it makes. No statement of the seat is proved here. -/
namespace Go.Proofs.YtfbfklgjccbplabGreat
open Go.RowKit
theorem lay1_apart {o : Sp} {x : Int × Int} (h : o = [] ∨ (o.at (o.length - 1)).2 + 1 < x.1) : lay1 o x = o ++ [x] := by unfold lay1; rw [if_pos h]
theorem lay1_widen {o : Sp} {x : Int × Int} (h : ¬ (o = [] ∨ (o.at (o.length - 1)).2 + 1 < x.1)) : lay1 o x = o.take (o.length - 1) ++ [((o.at (o.length - 1)).1, max (o.at (o.length - 1)).2 x.2)] := by unfold lay1; rw [if_neg h]
theorem lay_drop {o xs : Sp} {k : Nat} (hk : k < xs.length) : lay o (xs.drop k) = lay (lay1 o (xs.at k)) (xs.drop (k + 1)) := by rw [drop_at hk]; rfl
theorem lay1_inb {o : Sp} {x : Int × Int} (h : ∀ p ∈ o, InB p) (hx : InB x) : ∀ p ∈ lay1 o x, InB p := by
  intro p hp
  unfold lay1 at hp
  split at hp
  · rcases List.mem_append.1 hp with hp | hp
    · exact h p hp
    · obtain rfl : p = x := by simpa using hp
      exact hx
  · rename_i hc
    rcases List.mem_append.1 hp with hp | hp
    · exact h p (List.mem_of_mem_take hp)
    · have e : p = ((o.at (o.length - 1)).1, max (o.at (o.length - 1)).2 x.2) := by simpa using hp
      have hne : 0 < o.length := List.length_pos_iff.2 (fun e => hc (.inl e))
      have := h _ (Sp.at_mem (ps := o) (k := o.length - 1) (by omega))
      subst e
      unfold InB at this hx ⊢
      simp only
      omega
theorem lay1_length (o : Sp) (x : Int × Int) : (lay1 o x).length ≤ o.length + 1 := by
  unfold lay1
  split
  · simp
  · simp
theorem lay_length : ∀ (xs o : Sp), (lay o xs).length ≤ o.length + xs.length
  | [], o => by simp [lay]
  | x :: xs, o => by
    have h1 := lay_length xs (lay1 o x)
    have h2 := lay1_length o x
    rw [show lay o (x :: xs) = lay (lay1 o x) xs from rfl]
    simp
    omega
theorem lay_inb : ∀ {xs o : Sp}, (∀ p ∈ o, InB p) → (∀ p ∈ xs, InB p) → ∀ p ∈ lay o xs, InB p
  | [], _, h, _ => h
  | x :: xs, o, h, hx => lay_inb (xs := xs) (lay1_inb h (hx x (by simp))) (fun p hp => hx p (by simp [hp]))
theorem flat_widen {o : Sp} {m : Nat} (hm : o.length = m + 1) (z : Int) : flat (o.take m ++ [((o.at m).1, z)]) = (flat o).set (m * 2 + 1) z := by
  have e : o = o.take m ++ [o.at m] := by
    have := takeP_succ o m (by omega)
    rw [List.take_of_length_le (by omega)] at this
    exact this
  have hl : (flat (o.take m)).length = m * 2 := by rw [flat_length]; simp; omega
  conv => rhs; rw [e]
  rw [flat_append, flat_append, List.set_append_right (m * 2 + 1) _ (by omega), hl, show m * 2 + 1 - m * 2 = 1 by omega]
  simp [flat]
/-- The set that is made: what it holds, and that nothing else was written since w. -/
structure LayAt (w : World) (B : Nat) (v0 v : Value) (o : Sp) (W : World) : Prop where
  own : W.ownsRow B 61 2 v o.length ((flat o).map (Value.int .i64))
  grown : w.grownBy W v0.ownBlock
  fresh : v.ownBlock = v0.ownBlock ∨ ∀ g, v.ownBlock = some g → w.heap.size ≤ g
theorem LayAt.alloc {w W : World} {B : Nat} {v0 v : Value} {o : Sp} (h : LayAt w B v0 v o W) (ob : Obj) : LayAt w B v0 v o (W.alloc ob) :=
  ⟨h.own.alloc _, ⟨h.grown.os, h.grown.tape, h.grown.output, by have := h.grown.size; simp; omega, fun k hk hne => (Below.heap_alloc W ob k (by have := h.grown.size; omega)).trans (h.grown.block k hk hne)⟩, h.fresh⟩
theorem LayAt.drewN {w W : World} {B : Nat} {v0 v : Value} {o : Sp} (h : LayAt w B v0 v o W) (m : Nat) : LayAt w B v0 v o (W.drewN m) :=
  ⟨⟨h.own.1, h.own.2⟩, ⟨h.grown.os, h.grown.tape, h.grown.output, h.grown.size, h.grown.block⟩, h.fresh⟩
theorem LayAt.app {w W W6 : World} {B : Nat} {v0 v v' : Value} {o : Sp} {p q : Int} {ob : Obj} (h : LayAt w B v0 v o W) (hown : W6.ownsRow B 61 2 v' (o.length + 1) ((flat o).map (Value.int .i64) ++ [.int .i64 p, .int .i64 q])) (hgrow : (W.alloc ob).grownBy W6 v.ownBlock) (hob : v'.ownBlock = v.ownBlock ∨ v'.ownBlock = some (W.alloc ob).heap.size) : LayAt w B v0 v' (o ++ [(p, q)]) W6 := by
  have ha := h.alloc ob
  refine ⟨?_, ⟨hgrow.os.trans ha.grown.os, hgrow.tape.trans ha.grown.tape, hgrow.output.trans ha.grown.output, Nat.le_trans ha.grown.size hgrow.size, fun k hk hne => ?_⟩, ?_⟩
  · rw [flat_append, List.map_append, List.length_append]
    exact hown
  · refine (hgrow.block k (Nat.lt_of_lt_of_le hk ha.grown.size) (fun e => ?_)).trans (ha.grown.block k hk hne)
    rcases h.fresh with f | f
    · exact hne (e.trans f)
    · have := f k e.symm; omega
  · rcases hob with e | e
    · rw [e]; exact h.fresh
    · right
      intro g hg
      rw [e] at hg
      cases hg
      exact ha.grown.size
theorem LayAt.widen {w W : World} {B g n cap m : Nat} {v0 : Value} {o : Sp} (h : LayAt w B v0 (.slice (some ⟨g, 0, none⟩) n cap) o W) (hm : o.length = m + 1) (z : Int) : LayAt w B v0 (.slice (some ⟨g, 0, none⟩) n cap) (o.take m ++ [((o.at m).1, z)]) (W.setCell ⟨g, m * 2 + 1, none⟩ (.int .i64 z)) := by
  refine ⟨?_, ⟨h.grown.os, h.grown.tape, h.grown.output, by have := h.grown.size; simp; omega, fun k hk hne => ?_⟩, h.fresh⟩
  · have hl : (o.take m ++ [((o.at m).1, z)]).length = o.length := by simp; omega
    rw [hl, flat_widen hm]
    refine ⟨by have := h.own.1; simpa using this, ?_⟩
    rcases h.own.2 with ⟨e, _⟩ | ⟨g', cap', cur, e, h2, h3, h4, h5, h6, h7⟩
    · cases e
    · cases e
      refine .inr ⟨g, cap, cur.setIfInBounds (m * 2 + 1) (.int .i64 z), rfl, h2, ?_, h4, h5, by simpa using h6, ?_⟩
      · exact Blk.set (w := W) (g := g) (cs := cur) h3 (m * 2 + 1) _
      · rw [Array.toList_setIfInBounds, List.take_set, h7]
        simp
  · have hg : k ≠ g := by
      rintro rfl
      rcases h.fresh with f | f
      · exact hne f
      · have := f k rfl; omega
    exact (Below.heap_setCell W ⟨g, m * 2 + 1, none⟩ _ k hg).trans (h.grown.block k hk hne)
theorem LayAt.cells {w W : World} {B g n cap : Nat} {v0 : Value} {o : Sp} (h : LayAt w B v0 (.slice (some ⟨g, 0, none⟩) n cap) o W) {m : Nat} (hm : m < o.length) : W.cell? ⟨g, m * 2, none⟩ = some (.int .i64 (o.at m).1) ∧ W.cell? ⟨g, m * 2 + 1, none⟩ = some (.int .i64 (o.at m).2) ∧ ∀ j, W.frozen? ⟨g, j, none⟩ = false := by
  have hn : o.length = n := by
    rcases h.own.2 with ⟨e, _⟩ | ⟨g', cap', cur, e, _⟩
    · cases e
    · cases e; rfl
  have own := h.own
  rw [hn] at own
  have hl := flat_length o
  have e1 := own.cellAt (m * 2) (by omega)
  have e2 := own.cellAt (m * 2 + 1) (by omega)
  refine ⟨?_, ?_, fun j => own.frozenAt j⟩
  · rw [e1]
    have := flat_lo o m
    rw [show 2 * m = m * 2 by omega, List.getElem?_eq_getElem (by omega)] at this
    simp only [List.getElem?_map, List.getElem?_eq_getElem (show m * 2 < (flat o).length by omega), Option.map_some]
    unfold Sp.at
    rw [← this]; rfl
  · rw [e2]
    have := flat_hi o m
    rw [show 2 * m = m * 2 by omega, List.getElem?_eq_getElem (by omega)] at this
    simp only [List.getElem?_map, List.getElem?_eq_getElem (show m * 2 + 1 < (flat o).length by omega), Option.map_some]
    unfold Sp.at
    rw [← this]; rfl
end Go.Proofs.YtfbfklgjccbplabGreat
/- The walk through the program's laying of spans behind a set that it makes. No statement of the seat is proved here. -/
namespace Go.Proofs.YtfbfklgjccbplabGreat
open Go.RowKit
/-- A set of the maker's own: not nil. -/
theorem own_cases {W : World} {B e n : Nat} {v : Value} {xs : List Value} (h : W.ownsRow B e 2 v n xs) : (v = .slice none 0 0 ∧ n = 0) ∨ ∃ g cap n', v = .slice (some ⟨g, 0, none⟩) n' cap ∧ n' = n ∧ n ≤ cap := by
  rcases h.2 with e | ⟨g, cap, cur, e, _, _, h4, _⟩
  · exact .inl e
  · exact .inr ⟨g, cap, n, e, rfl, h4⟩
end Go.Proofs.YtfbfklgjccbplabGreat
/- The walks through the program's cutting of a set, and its going through two sets. No statement of the seat is proved here. -/
namespace Go.Proofs.YtfbfklgjccbplabGreat
open Go.RowKit
theorem flat_take : ∀ (ps : Sp) (k : Nat), flat (ps.take k) = (flat ps).take (2 * k)
  | [], k => by simp [flat]
  | p :: ps, 0 => by simp [flat]
  | p :: ps, k + 1 => by rw [List.take_succ_cons, flat, flat, flat_take ps k, show 2 * (k + 1) = 2 * k + 1 + 1 by omega, List.take_succ_cons, List.take_succ_cons]
theorem flat_drop : ∀ (ps : Sp) (k : Nat), flat (ps.drop k) = (flat ps).drop (2 * k)
  | [], k => by simp [flat]
  | p :: ps, 0 => by simp [flat]
  | p :: ps, k + 1 => by rw [List.drop_succ_cons, flat, flat_drop ps k, show 2 * (k + 1) = 2 * k + 1 + 1 by omega, List.drop_succ_cons, List.drop_succ_cons]
theorem RdP.take {w : World} {a : Option Addr} {len : Nat} {ps : Sp} {F : List Nat} (h : RdP w a len ps F) {k : Nat} (hk : k ≤ len) : ∃ G, RdP w a k (ps.take k) G ∧ ∀ b ∈ G, b ∈ F := by
  have hl := h.length
  by_cases h0 : k = 0
  · subst h0
    exact ⟨[], by simpa using (RdP.nil (w := w) (a := a)), by simp⟩
  · rcases h.rd.cells with ⟨e, _⟩ | ⟨b, off, hp, e, eF, hc⟩
    · omega
    · refine ⟨F, ⟨by simp; omega, ?_, .inr ⟨b, off, by omega, e, eF, fun i hi => ?_⟩⟩, fun b hb => hb⟩
      · rw [flat_length]; simp; omega
      · rw [hc i (by omega), flat_take]
        simp [List.getD_eq_getElem?_getD, hi]
theorem RdP.drop {w : World} {b off len : Nat} {ps : Sp} {F : List Nat} (h : RdP w (some ⟨b, off, none⟩) len ps F) {k : Nat} (hk : k < len) : RdP w (some ⟨b, off + k * 2, none⟩) (len - k) (ps.drop k) F := by
  have hl := h.length
  rcases h.rd.cells with ⟨e, _⟩ | ⟨b', off', hp, e, eF, hc⟩
  · omega
  · obtain ⟨rfl, rfl⟩ : b = b' ∧ off = off' := by simpa using e
    refine ⟨by simp; omega, ?_, .inr ⟨b, off + k * 2, by omega, rfl, eF, fun i hi => ?_⟩⟩
    · rw [flat_length]; simp; omega
    · rw [show off + k * 2 + i = off + (2 * k + i) by omega, hc (2 * k + i) (by omega), flat_drop]
      simp [List.getD_eq_getElem?_getD]
theorem cutN_at {ps : Sp} {k : Nat} {n : Int} (hk : k < ps.length) (h : (ps.at k).1 ≤ n) : cutN (ps.drop k) n = cutN (ps.drop (k + 1)) n + 1 := by rw [drop_at hk, cutN, if_pos h]
theorem cutN_stop {ps : Sp} {k : Nat} {n : Int} (hk : k < ps.length) (h : ¬ (ps.at k).1 ≤ n) : cutN (ps.drop k) n = 0 := by rw [drop_at hk, cutN, if_neg h]
/-- What a cut tells: the part ahead, the part behind, both out of what was there. -/
def CutTo (w : World) (ps : Sp) (F : List Nat) (k : Nat) (e : Ending) (w' : World) : Prop :=
  ∃ a1 l1 c1 a2 l2 c2 F1 F2, e = .returned (.tuple #[.slice a1 l1 c1, .slice a2 l2 c2]) ∧ RdP w a1 l1 (ps.take k) F1 ∧ RdP w a2 l2 (ps.drop k) F2 ∧ (∀ b ∈ F1, b ∈ F) ∧ (∀ b ∈ F2, b ∈ F) ∧ l2 ≤ c2 ∧ QuietTo w w'
end Go.Proofs.YtfbfklgjccbplabGreat
/- The walk through the program's going through two sets. No statement of the seat is proved here. -/
namespace Go.Proofs.YtfbfklgjccbplabGreat
open Go.RowKit
theorem RdP.move {w W : World} {B : Nat} {a : Option Addr} {len : Nat} {ps : Sp} {F : List Nat} (h : RdP w a len ps F) (hF : ∀ b ∈ F, b < B) (h1 : Below B w W) : RdP W a len ps F := h.agree (fun b hb => h1.block b (hF b hb))
theorem RdP.back {w W : World} {B : Nat} {a : Option Addr} {len : Nat} {ps : Sp} {F : List Nat} (h : RdP W a len ps F) (hF : ∀ b ∈ F, b < B) (h1 : Below B w W) : RdP w a len ps F := h.agree (fun b hb => (h1.block b (hF b hb)).symm)
theorem LayAt.below {w W : World} {B n : Nat} {v0 v : Value} {o : Sp} {xs : List Value} (h : LayAt w B v0 v o W) (h0 : w.ownsRow B 61 2 v0 n xs) (hB : B ≤ w.heap.size) : Below B w W :=
  ⟨h.grown.os, h.grown.tape, h.grown.output, h.grown.size, fun k hk => h.grown.block k (by omega) (fun e => by have := (h0.lt k e.symm).1; omega)⟩
/-- Midway in a round: the set that is made, the span's box. -/
structure MidB (w : World) (nb : Nat) (x y : Int) (v : Value) (o : Sp) (W : World) : Prop where
  own : W.ownsRow w.heap.size 61 2 v o.length ((flat o).map (Value.int .i64))
  bel : Below w.heap.size w W
  box : Blk W nb #[.int .i64 x, .int .i64 y] 61
  ne : some nb ≠ v.ownBlock
theorem MidB.alloc {w : World} {nb : Nat} {x y : Int} {v : Value} {o : Sp} {W : World} (h : MidB w nb x y v o W) (ob : Obj) : MidB w nb x y v o (W.alloc ob) := ⟨h.own.alloc _, Below.allocW _ h.bel (Nat.le_refl _), h.box.alloc _, h.ne⟩
theorem MidB.drew {w : World} {nb : Nat} {x y : Int} {v : Value} {o : Sp} {W : World} (h : MidB w nb x y v o W) : MidB w nb x y v o W.drew := ⟨⟨h.own.1, h.own.2⟩, h.bel.drew, h.box, h.ne⟩
/-- Behind the first laying: what lay beside lies there still. -/
structure AftB (w : World) (nb : Nat) (x y : Int) (v v' : Value) (o' : Sp) (W W' : World) : Prop where
  mid : MidB w nb x y v' o' W'
  old : ∀ g cs t, Blk W g cs t → some g ≠ v.ownBlock → Blk W' g cs t ∧ some g ≠ v'.ownBlock
theorem AftB.of {w : World} {nb : Nat} {x y : Int} {v v' : Value} {o o' : Sp} {W W' : World} (h : MidB w nb x y v o W) (k : LayAt W w.heap.size v v' o' W') : AftB w nb x y v v' o' W W' := by
  have hold : ∀ g cs t, Blk W g cs t → some g ≠ v.ownBlock → Blk W' g cs t ∧ some g ≠ v'.ownBlock := fun g cs t hb hne => by
    refine ⟨hb.agree (k.grown.block g hb.lt hne), ?_⟩
    rcases k.fresh with e | e
    · rw [e]; exact hne
    · intro e2; have := e g e2.symm; have := hb.lt; omega
  obtain ⟨h1, h2⟩ := hold _ _ _ h.box h.ne
  exact ⟨⟨k.own, h.bel.trans (k.below h.own h.bel.size), h1, h2⟩, hold⟩
/-- Ahead of the second laying: the one span's slice. -/
structure TwoB (w : World) (nb : Nat) (x y : Int) (v' : Value) (o' : Sp) (g : Nat) (W : World) : Prop where
  mid : MidB w nb x y v' o' W
  one : Blk W g #[.int .i64 x, .int .i64 y] 61
  ne : some g ≠ v'.ownBlock
theorem AftB.two {w : World} {nb : Nat} {x y : Int} {v v' : Value} {o o' : Sp} {W W' : World} (h : AftB w nb x y v v' o' (W.alloc (.cells #[.int .i64 x, .int .i64 y] 61)).drew W') (k : MidB w nb x y v o W) : TwoB w nb x y v' o' W.heap.size W' := by
  obtain ⟨h1, h2⟩ := h.old _ _ _ (Blk.made W _ _) (fun e => by have := (k.own.lt _ e.symm).2; omega)
  exact ⟨h.mid, h1, h2⟩
theorem AftB.new {w : World} {nb : Nat} {x y : Int} {v v' : Value} {o' : Sp} {W W' : World} (h : AftB w nb x y v v' o' W W') : TwoB w nb x y v' o' W'.heap.size (W'.alloc (.cells #[.int .i64 x, .int .i64 y] 61)) :=
  ⟨h.mid.alloc _, Blk.made _ _ _, fun e => by have := (h.mid.own.lt _ e.symm).2; omega⟩
theorem rdP_one {W : World} {g : Nat} {x y : Int} {t : TypeId} (h : Blk W g #[.int .i64 x, .int .i64 y] t) : RdP W (some ⟨g, 0, none⟩) 1 [(x, y)] [g] :=
  ⟨rfl, rdI_tcv (xs := flat [(x, y)]) (by simpa [tcv, flat] using h) (by simp [flat]) (by omega)⟩
/-- Ahead of a round. -/
structure BInv (w : World) (ps qs : Sp) (k : Nat) (o rs : Sp) (aa : Option Addr) (la ca : Nat) (F : List Nat) (v : Value) (wr : World) : Prop where
  own : wr.ownsRow w.heap.size 61 2 v o.length ((flat o).map (Value.int .i64))
  bel : Below w.heap.size w wr
  rd : RdP w aa la rs F
  lt : ∀ b ∈ F, b < w.heap.size
  cap : la ≤ ca
  len : o.length + rs.length ≤ ps.length + k
  ino : ∀ p ∈ o, InB p
  ina : ∀ p ∈ rs, InB p
  eq : both rs (qs.drop k) o = both ps qs []
end Go.Proofs.YtfbfklgjccbplabGreat
/- The walks through the program's copying of a set, and the library's comparing of two. No statement of the seat is proved here. -/
namespace Go.Proofs.YtfbfklgjccbplabGreat
open Go.RowKit
theorem run_copy_row2 {P : Program} (w : World) (dT sT ty elem : TypeId) (g len dCap : Nat) (a : Addr) (sCap : Nat) (cur : Array Value) (t : TypeId) (cs : List Value)
    (hu : P.underlying dT = some (.slice elem)) (hs : (P.info? elem).map (·.size) = some 2)
    (hg : w.heap[g]? = some (.cells cur t (0, 0))) (hn : cs.length = len * 2)
    (hsrc : ∀ j v, cs[j]? = some v → w.cell? (a.add j) = some v) (hfit : cs.length ≤ cur.size) (h1 : ∀ v ∈ cs, v.oneCell' = true) :
    (Builtin.copy_ #[dT, sT] ty #[.slice (some ⟨g, 0, none⟩) len dCap, .slice (some a) len sCap]).run P w =
      .ok (goInt len) (w.setRow g (cs ++ cur.toList.drop cs.length).toArray) := by
  have hl := run_loadCells_list (P := P) w a cs hsrc
  have hst := run_storeCells_at P g 0 t cs 0 cur w hg (by simpa using hfit) h1
  rw [hn] at hl
  cases hq : P.info? elem with
  | none => simp [hq] at hs
  | some i =>
    have hi : i.size = 2 := by simpa [hq] using hs
    simp [Builtin.copy_, run_underlying hu, Builtin.lenOf, Builtin.firstCells, sizeOf, typeInfo, hq, hi, hl, hst]
theorem run_copy_none2 {P : Program} (w : World) (dT sT ty elem : TypeId) (d a : Option Addr) (dCap sCap : Nat) (hu : P.underlying dT = some (.slice elem)) (hs : (P.info? elem).map (·.size) = some 2) :
    (Builtin.copy_ #[dT, sT] ty #[.slice d 0 dCap, .slice a 0 sCap]).run P w = .ok (goInt 0) w := by
  cases hq : P.info? elem with
  | none => simp [hq] at hs
  | some i =>
    have hl : ∀ (x : Addr), (loadCells x 0).run P w = .ok #[] w := fun x => by simpa using run_loadCells_list (P := P) w x [] (by simp)
    cases d <;> cases a <;> simp [Builtin.copy_, run_underlying hu, Builtin.lenOf, Builtin.firstCells, sizeOf, typeInfo, hq, storeCells, hl]
theorem wpList_copy_none2 {P : Program} {w : World} {ops : Array Oper} {rest : List Oper} {o : Oper} {a : Act} {Q : Exit → Act → World → Prop} (hgd : o.guard = none) (d s : Operand) (dT sT : TypeId)
    (ho : o.op = .call { callee := .builtin .copy, args := #[d, s], argTypes := #[dT, sT] }) (elem : TypeId) (hu : P.underlying dT = some (.slice elem)) (hsz : (P.info? elem).map (·.size) = some 2)
    (dp sp : Option Addr) (dCap sCap : Nat) (hd : a.eval d = .slice dp 0 dCap) (hs : a.eval s = .slice sp 0 sCap)
    (h : wpList P ops Q rest (a.put o.dst (goInt 0)) w) : wpList P ops Q (o :: rest) a w := by
  refine wpList_plain hgd fun K hK => ?_
  have hrun := run_copy_none2 (P := P) w dT sT o.type elem dp sp dCap sCap hu hsz
  unfold Oper.wp
  simp [execOp, ho, resolve, invoke, builtin, hd, hs, hrun, Result.andThen]
  exact hK _ _ h
theorem wpList_copy_own2 {P : Program} {w : World} {ops : Array Oper} {rest : List Oper} {o : Oper} {a : Act} {Q : Exit → Act → World → Prop} (hgd : o.guard = none) (d s : Operand) (dT sT : TypeId)
    (ho : o.op = .call { callee := .builtin .copy, args := #[d, s], argTypes := #[dT, sT] }) (elem : TypeId) (hu : P.underlying dT = some (.slice elem)) (hsz : (P.info? elem).map (·.size) = some 2)
    (g len dCap : Nat) (ad : Addr) (sCap : Nat) (hd : a.eval d = .slice (some ⟨g, 0, none⟩) len dCap) (hs : a.eval s = .slice (some ad) len sCap)
    (cur : Array Value) (t : TypeId) (hg : w.heap[g]? = some (.cells cur t (0, 0))) (cs : List Value) (hn : cs.length = len * 2)
    (hsrc : ∀ j v, cs[j]? = some v → w.cell? (ad.add j) = some v) (hfit : cs.length ≤ cur.size) (h1 : ∀ v ∈ cs, v.oneCell' = true)
    (h : wpList P ops Q rest (a.put o.dst (goInt len)) (w.setRow g (cs ++ cur.toList.drop cs.length).toArray)) : wpList P ops Q (o :: rest) a w := by
  refine wpList_plain hgd fun K hK => ?_
  have hrun := run_copy_row2 (P := P) w dT sT o.type elem g len dCap ad sCap cur t cs hu hsz hg hn hsrc hfit h1
  unfold Oper.wp
  simp [execOp, ho, resolve, invoke, builtin, hd, hs, hrun, Result.andThen]
  exact hK _ _ h
theorem infoSpan2 : (Tryz.prog.info? 61).map (·.size) = some 2 := by kernel_rfl
theorem flat_one {ps : Sp} : ∀ v ∈ (flat ps).map (Value.int .i64), v.oneCell' = true := by
  intro v hv
  obtain ⟨x, _, rfl⟩ := List.mem_map.1 hv
  rfl
theorem sp_eta (p : Int × Int) : p = (p.1, p.2) := rfl
end Go.Proofs.YtfbfklgjccbplabGreat
/- The walks through the program's IdOf, ItemOk and the reading of an entry. No statement of the seat is proved here. -/
namespace Go.Proofs.YtfbfklgjccbplabGreat
open Go.RowKit
set_option maxRecDepth 200000 in
theorem isSeq_any (n : Int) (w : World) : Calls Tryz.prog 80 #[.int .i64 n] w fun e w' => e = .returned (.bool (decide (1 ≤ n ∧ n ≤ 60))) ∧ w' = w := by
  have hd : ∀ d : Bool, d = decide (1 ≤ n ∧ n ≤ 60) → (d = true ↔ 1 ≤ n ∧ n ≤ 60) := by rintro d rfl; simp
  generalize decide (1 ≤ n ∧ n ≤ 60) = d at *
  have hd := hd d rfl
  by_cases h : 1 ≤ n
  · by_cases h2 : n ≤ 60
    · have e : Hid (d = true) := hd.2 ⟨h, h2⟩
      clear hd
      go_enter Tryz.func80, Tryz.ntmps80
      go_wp2
      go_ret
      rw [e.out]; exact ⟨rfl, rfl⟩
    · have e : Hid (d = false) := show d = false by cases d; rfl; exact absurd (hd.1 rfl).2 h2
      clear hd
      go_enter Tryz.func80, Tryz.ntmps80
      go_wp2
      go_ret
      rw [e.out]; exact ⟨rfl, rfl⟩
  · have e : Hid (d = false) := show d = false by cases d; rfl; exact absurd (hd.1 rfl).1 h
    clear hd
    go_enter Tryz.func80, Tryz.ntmps80
    go_wp2
    go_ret
    rw [e.out]; exact ⟨rfl, rfl⟩
set_option maxRecDepth 200000 in
theorem isPlace_any (k p : Int) (w : World) : Calls Tryz.prog 95 #[.agg #[.int .i64 k, .int .i64 p]] w fun e w' => e = .returned (.bool (placeOk k p)) ∧ Below w.heap.size w w' := by
  have HB : Hid (Below w.heap.size w (w.alloc (.cells #[.int .i64 k, .int .i64 p] 116))) := (Below.refl _ _).alloc (Nat.le_refl _) _
  go_enter Tryz.func95, Tryz.ntmps95
  go_wp2_with fail
  refine (inRange_any _ _ _).mono ?_
  rintro e w2 ⟨rfl, hw2⟩
  have hw2' := hw2.symm
  subst hw2'
  clear hw2
  obtain ⟨d1, hd1⟩ : ∃ d, d = decide (0 ≤ k ∧ k ≤ 4) := ⟨_, rfl⟩
  rw [← hd1]
  have HD1 : Hid (d1 = decide (0 ≤ k ∧ k ≤ 4)) := hd1
  clear hd1
  cases d1
  · have HV : Hid (placeOk k p = false) := by show _ = _; unfold placeOk; rw [← HD1.out]; rfl
    go_wp2
    go_ret
    exact ⟨ret_bool HV.out.symm, HB.out⟩
  go_wp2_with fail
  refine (inRange_any _ _ _).mono ?_
  rintro e w2 ⟨rfl, hw2⟩
  have hw2' := hw2.symm
  subst hw2'
  clear hw2
  obtain ⟨d2, hd2⟩ : ∃ d, d = decide (0 ≤ p ∧ p ≤ 20) := ⟨_, rfl⟩
  rw [← hd2]
  have HV : Hid (d2 = placeOk k p) := by show _ = _; unfold placeOk; rw [← HD1.out, ← hd2]; rfl
  clear hd2
  go_wp2
  go_ret
  exact ⟨ret_bool HV.out, HB.out⟩
set_option maxRecDepth 200000 in
set_option maxHeartbeats 2000000 in
theorem itemOkImpl_any (v : Value) (x : It) (F : List Nat) (w : World) (h : RdIt w v x F) (hw : x.sk.wide) :
    Calls Tryz.prog 82 #[v] w fun e w' => e = .returned (.bool x.ok) ∧ Below w.heap.size w w' := by
  obtain ⟨a1, n1, c1, a2, n2, c2, a3, n3, c3, rfl, hr⟩ := h
  have HR : Hid (RdSk w (.agg #[.int .i64 x.sk.count, .int .i64 x.sk.sum, .int .i64 x.sk.min, .int .i64 x.sk.max, .slice a1 n1 c1, .slice a2 n2 c2, .slice a3 n3 c3]) x.sk F ∧ x.sk.wide) := ⟨hr, hw⟩
  have HB : Hid (Below w.heap.size w (w.alloc (.cells #[.int .i64 x.seq, .int .i64 x.cls, .int .i64 x.key, .int .i64 x.window, .int .i64 x.sk.count, .int .i64 x.sk.sum, .int .i64 x.sk.min, .int .i64 x.sk.max, .slice a1 n1 c1, .slice a2 n2 c2, .slice a3 n3 c3] 30)) ∧ Blk (w.alloc (.cells #[.int .i64 x.seq, .int .i64 x.cls, .int .i64 x.key, .int .i64 x.window, .int .i64 x.sk.count, .int .i64 x.sk.sum, .int .i64 x.sk.min, .int .i64 x.sk.max, .slice a1 n1 c1, .slice a2 n2 c2, .slice a3 n3 c3] 30)) w.heap.size #[.int .i64 x.seq, .int .i64 x.cls, .int .i64 x.key, .int .i64 x.window, .int .i64 x.sk.count, .int .i64 x.sk.sum, .int .i64 x.sk.min, .int .i64 x.sk.max, .slice a1 n1 c1, .slice a2 n2 c2, .slice a3 n3 c3] 30) := ⟨Below.allocW _ (Below.refl _ _) (Nat.le_refl _), Blk.made _ _ _⟩
  clear hr hw
  go_enter Tryz.func82, Tryz.ntmps82
  go_wp2_with fail
  refine (isSeq_any _ _).mono ?_
  rintro e w2 ⟨rfl, hw2⟩
  have hw2' := hw2.symm
  subst hw2'
  clear hw2
  obtain ⟨d1, hd1⟩ : ∃ d, d = decide (1 ≤ x.seq ∧ x.seq ≤ 60) := ⟨_, rfl⟩
  rw [← hd1]
  have HD1 : Hid (d1 = decide (1 ≤ x.seq ∧ x.seq ≤ 60)) := hd1
  clear hd1
  cases d1
  · have HV : Hid (x.ok = false) := by show _ = _; unfold It.ok; rw [← HD1.out]; rfl
    go_wp2
    go_ret
    exact ⟨ret_bool HV.out.symm, HB.out.1⟩
  go_wp2_with fail
  refine (inRange_any _ _ _).mono ?_
  rintro e w2 ⟨rfl, hw2⟩
  have hw2' := hw2.symm
  subst hw2'
  clear hw2
  obtain ⟨d2, hd2⟩ : ∃ d, d = decide (0 ≤ x.cls ∧ x.cls ≤ 1) := ⟨_, rfl⟩
  rw [← hd2]
  have HD2 : Hid (d2 = decide (0 ≤ x.cls ∧ x.cls ≤ 1)) := hd2
  clear hd2
  cases d2
  · have HV : Hid (x.ok = false) := by show _ = _; unfold It.ok; rw [← HD1.out, ← HD2.out]; rfl
    go_wp2
    go_ret
    exact ⟨ret_bool HV.out.symm, HB.out.1⟩
  go_wp2_with fail
  refine (isPlace_any _ _ _).mono ?_
  rintro e w2 ⟨rfl, hb2⟩
  have HB2 : Hid (Below w.heap.size w w2 ∧ Blk w2 w.heap.size #[.int .i64 x.seq, .int .i64 x.cls, .int .i64 x.key, .int .i64 x.window, .int .i64 x.sk.count, .int .i64 x.sk.sum, .int .i64 x.sk.min, .int .i64 x.sk.max, .slice a1 n1 c1, .slice a2 n2 c2, .slice a3 n3 c3] 30) := ⟨Below.next HB.out.1 hb2, HB.out.2.below hb2⟩
  clear hb2
  obtain ⟨d3, hd3⟩ : ∃ d, d = placeOk x.key x.window := ⟨_, rfl⟩
  rw [← hd3]
  have HD3 : Hid (d3 = placeOk x.key x.window) := hd3
  clear hd3
  cases d3
  · have HV : Hid (x.ok = false) := by show _ = _; unfold It.ok; rw [← HD1.out, ← HD2.out, ← HD3.out]; rfl
    go_wp2
    go_ret
    exact ⟨ret_bool HV.out.symm, HB2.out.1⟩
  go_wp2_with (first | go_skip | (with_reducible refine stopLoad 28 rfl ?_))
  refine load_cutw 28 w.heap.size 4 7 _ #[.int .i64 x.sk.count, .int .i64 x.sk.sum, .int .i64 x.sk.min, .int .i64 x.sk.max, .slice a1 n1 c1, .slice a2 n2 c2, .slice a3 n3 c3] 30 _ HB2.out.2 rfl rfl rfl Tryz.underlying28 rfl infoSkI (by simp) rfl ?_
  go_wp2_with fail
  refine (okImpl_any _ x.sk F _ (HR.out.1.below HB2.out.1) HR.out.2).mono ?_
  rintro e w3 ⟨rfl, hb3⟩
  have HB3 : Hid (Below w.heap.size w w3) := Below.next HB2.out.1 hb3
  have HV : Hid (x.ok = x.sk.ok) := by show _ = _; unfold It.ok; rw [← HD1.out, ← HD2.out, ← HD3.out]; rfl
  clear hb3
  obtain ⟨d4, hd4⟩ : ∃ d, d = x.sk.ok := ⟨_, rfl⟩
  rw [← hd4] at HV ⊢
  clear hd4
  go_wp2
  go_ret
  exact ⟨ret_bool HV.out.symm, HB3.out⟩
/-- The cells of an entry as the program holds it. -/
def hc (k p : Int) (a : Option Addr) (l c : Nat) (ys : List Int) : Array Value := (.int .i64 k :: .int .i64 p :: .slice a l c :: ys.map (Value.int .i64)).toArray
theorem hc_size {k p : Int} {a : Option Addr} {l c : Nat} {ys : List Int} (h : ys.length = 28) : (hc k p a l c ys).size = 31 := by
  unfold hc; simp [h]
theorem hc_one (k p : Int) (a : Option Addr) (l c : Nat) (ys : List Int) : (hc k p a l c ys).all (·.oneCell') = true := by
  unfold hc
  simp [Value.oneCell']
section
variable {P : Program} {ops : Array Oper} {Q : Exit → Act → World → Prop} {rest : List Oper} {a : Act} {w : World} {o : Oper}
theorem stopBuild (ty : TypeId) {fs : Array (Nat × Operand)} (_ho : o.op = .build ty fs) (h : Stop (wpList P ops Q (o :: rest) a w)) : wpList P ops Q (o :: rest) a w := h
/-- A value that is put together, by a law of its own. -/
theorem built_any {ty : TypeId} {fs : Array (Nat × Operand)} (v : Value) (hw : Region.wanted o (yielded ops a.tmps) = true) (ho : o.op = .build ty fs) (hr : (Instr.build ty (fs.map fun p => (p.1, a.eval p.2))).run P w = .ok v w) (h : wpList P ops Q rest (a.put o.dst v) w) : Stop (wpList P ops Q (o :: rest) a w) :=
  wpList_step fun K hK => by
    rw [if_pos hw]
    unfold Oper.wp execOp
    simp only [ho]
    simp [hr]
    exact hK _ _ h
end
end Go.Proofs.YtfbfklgjccbplabGreat
/- The walks through the program's itemSame, FrameSame, areSeqs, itemFits and FrameOk. No statement of the seat is proved here. -/
namespace Go.Proofs.YtfbfklgjccbplabGreat
open Go.RowKit
def Sp.seqTo (ps : Sp) (k : Nat) : Bool := (List.range k).all fun k => decide (1 ≤ (ps.at k).1 ∧ (ps.at k).1 ≤ 60) && decide (1 ≤ (ps.at k).2 ∧ (ps.at k).2 ≤ 60)
set_option maxRecDepth 200000 in
set_option maxHeartbeats 4000000 in
theorem itemSame_any (v u : Value) (x y : It) (F G : List Nat) (w : World) (h : RdIt w v x F) (k : RdIt w u y G) (hx : x.sk.wide) (hy : y.sk.wide) :
    Calls Tryz.prog 83 #[v, u] w fun e w' => e = .returned (.bool (decide (x = y))) ∧ Below w.heap.size w w' := by
  obtain ⟨a1, n1, nc1, a2, n2, nc2, a3, n3, nc3, rfl, sx⟩ := h
  obtain ⟨b1, m1, mc1, b2, m2, mc2, b3, m3, mc3, rfl, sy⟩ := k
  have HX : Hid (RdSk w (.agg #[.int .i64 x.sk.count, .int .i64 x.sk.sum, .int .i64 x.sk.min, .int .i64 x.sk.max, .slice a1 n1 nc1, .slice a2 n2 nc2, .slice a3 n3 nc3]) x.sk F ∧ RdSk w (.agg #[.int .i64 y.sk.count, .int .i64 y.sk.sum, .int .i64 y.sk.min, .int .i64 y.sk.max, .slice b1 m1 mc1, .slice b2 m2 mc2, .slice b3 m3 mc3]) y.sk G ∧ x.sk.wide ∧ y.sk.wide) := ⟨sx, sy, hx, hy⟩
  have HT : Hid (_ ∧ _ ∧ _) := two_made w #[.int .i64 x.seq, .int .i64 x.cls, .int .i64 x.key, .int .i64 x.window, .int .i64 x.sk.count, .int .i64 x.sk.sum, .int .i64 x.sk.min, .int .i64 x.sk.max, .slice a1 n1 nc1, .slice a2 n2 nc2, .slice a3 n3 nc3] #[.int .i64 y.seq, .int .i64 y.cls, .int .i64 y.key, .int .i64 y.window, .int .i64 y.sk.count, .int .i64 y.sk.sum, .int .i64 y.sk.min, .int .i64 y.sk.max, .slice b1 m1 mc1, .slice b2 m2 mc2, .slice b3 m3 mc3] 30 30
  obtain ⟨d, hd⟩ : ∃ d, d = decide (x = y) := ⟨_, rfl⟩
  rw [← hd]
  have HD : Hid (d = decide (x = y)) := hd
  clear sx sy hx hy hd
  have k0 := HT.out.1.cell 0
  have j0 := HT.out.2.1.cell 0
  have k1 := HT.out.1.cell 1
  have j1 := HT.out.2.1.cell 1
  have k2 := HT.out.1.cell 2
  have j2 := HT.out.2.1.cell 2
  have k3 := HT.out.1.cell 3
  have j3 := HT.out.2.1.cell 3
  simp only [List.getElem?_toArray, List.getElem?_cons_succ, List.getElem?_cons_zero] at k0 j0 k1 j1 k2 j2 k3 j3
  by_cases c1 : x.seq = y.seq
  rotate_left
  · have HV : Hid (d = false) := by show d = _; rw [HD.out]; exact dec_false (fun e => c1 (by rw [e]))
    have z1 : (x.seq == y.seq) = false := by simpa using c1
    clear c1
    go_enter Tryz.func83, Tryz.ntmps83
    go_wp2
    go_ret
    exact ⟨ret_bool HV.out.symm, HT.out.2.2⟩
  have z1 : (x.seq == y.seq) = true := by simpa using c1
  by_cases c2 : x.cls = y.cls
  rotate_left
  · have HV : Hid (d = false) := by show d = _; rw [HD.out]; exact dec_false (fun e => c2 (by rw [e]))
    have z2 : (x.cls == y.cls) = false := by simpa using c2
    clear c1 c2
    go_enter Tryz.func83, Tryz.ntmps83
    go_wp2
    go_ret
    exact ⟨ret_bool HV.out.symm, HT.out.2.2⟩
  have z2 : (x.cls == y.cls) = true := by simpa using c2
  by_cases c3 : x.key = y.key
  rotate_left
  · have HV : Hid (d = false) := by show d = _; rw [HD.out]; exact dec_false (fun e => c3 (by rw [e]))
    have z3 : (x.key == y.key) = false := by simpa using c3
    clear c1 c2 c3
    go_enter Tryz.func83, Tryz.ntmps83
    go_wp2
    go_ret
    exact ⟨ret_bool HV.out.symm, HT.out.2.2⟩
  have z3 : (x.key == y.key) = true := by simpa using c3
  by_cases c4 : x.window = y.window
  rotate_left
  · have HV : Hid (d = false) := by show d = _; rw [HD.out]; exact dec_false (fun e => c4 (by rw [e]))
    have z4 : (x.window == y.window) = false := by simpa using c4
    clear c1 c2 c3 c4
    go_enter Tryz.func83, Tryz.ntmps83
    go_wp2
    go_ret
    exact ⟨ret_bool HV.out.symm, HT.out.2.2⟩
  have z4 : (x.window == y.window) = true := by simpa using c4
  have HC : Hid (x.seq = y.seq ∧ x.cls = y.cls ∧ x.key = y.key ∧ x.window = y.window) := ⟨c1, c2, c3, c4⟩
  clear c1 c2 c3 c4
  go_enter Tryz.func83, Tryz.ntmps83
  go_wp2_with (first | go_skip | (with_reducible refine stopLoad 28 rfl ?_))
  refine load_cutw 28 w.heap.size 4 7 _ #[.int .i64 x.sk.count, .int .i64 x.sk.sum, .int .i64 x.sk.min, .int .i64 x.sk.max, .slice a1 n1 nc1, .slice a2 n2 nc2, .slice a3 n3 nc3] 30 _ HT.out.1 rfl rfl rfl Tryz.underlying28 rfl infoSkI (by simp) rfl ?_
  go_wp2_with (first | go_skip | (with_reducible refine stopLoad 28 rfl ?_))
  refine load_cutw 28 (w.heap.size + 1) 4 7 _ #[.int .i64 y.sk.count, .int .i64 y.sk.sum, .int .i64 y.sk.min, .int .i64 y.sk.max, .slice b1 m1 mc1, .slice b2 m2 mc2, .slice b3 m3 mc3] 30 _ HT.out.2.1 rfl rfl rfl Tryz.underlying28 rfl infoSkI (by simp) rfl ?_
  go_wp2_with fail
  refine (sameImpl_any _ _ x.sk y.sk F G _ (HX.out.1.below HT.out.2.2) (HX.out.2.1.below HT.out.2.2) HX.out.2.2.1 HX.out.2.2.2).mono ?_
  rintro e w2 ⟨rfl, b2⟩
  have HB2 : Hid (Below w.heap.size w w2) := Below.next HT.out.2.2 b2
  clear b2
  obtain ⟨d2, hd2⟩ : ∃ d, d = decide (x.sk = y.sk) := ⟨_, rfl⟩
  rw [← hd2]
  have HV : Hid (d2 = d) := by
    show _ = _
    rw [hd2, HD.out]
    by_cases e : x.sk = y.sk
    · rw [dec_true e, dec_true (It.eq_of HC.out.1 HC.out.2.1 HC.out.2.2.1 HC.out.2.2.2 e)]
    · rw [dec_false e, dec_false (fun q => e (by rw [q]))]
  clear hd2
  go_wp2
  go_ret
  exact ⟨ret_bool HV.out, HB2.out⟩
theorem seqs_step {ps : Sp} {k : Nat} (hk : k < ps.length) : ps.seqTo (k + 1) = (ps.seqTo k && (decide (1 ≤ (ps.at k).1 ∧ (ps.at k).1 ≤ 60) && decide (1 ≤ (ps.at k).2 ∧ (ps.at k).2 ≤ 60))) := by
  have _ := hk
  unfold Sp.seqTo
  rw [List.range_succ, List.all_append]
  simp
theorem seqs_bad {ps : Sp} {k : Nat} (h : ps.seqTo k = false) : ∀ {m : Nat}, k ≤ m → ps.seqTo m = false := by
  intro m hm
  unfold Sp.seqTo at h ⊢
  rw [List.all_eq_false] at h ⊢
  obtain ⟨y, hy, e⟩ := h
  exact ⟨y, List.mem_range.2 (Nat.lt_of_lt_of_le (List.mem_range.1 hy) hm), e⟩
set_option maxRecDepth 200000 in
set_option maxHeartbeats 2000000 in
theorem areSeqs_any (a : Option Addr) (len cap : Nat) (ps : Sp) (F : List Nat) (w : World) (h : RdP w a len ps F) (hlen : len ≤ 2097152) :
    Calls Tryz.prog 55 #[.slice a len cap] w fun e w' => e = .returned (.bool (ps.seqTo len && ps.ok)) ∧ Below w.heap.size w w' := by
  have HL : Hid (ps.length = len ∧ RdP w a len ps F) := ⟨h.length, h⟩
  have HC : Hid (len = 0 ∨ ∃ b off, a = some ⟨b, off, none⟩ ∧ b < w.heap.size ∧ SpCells w b off len ps) := cells_of h
  clear h
  go_enter Tryz.func55, Tryz.ntmps55
  go_wp2
  go_loopw [7] (fun i wr => ∃ (k : Nat), k ≤ len ∧ i = .int .i64 k ∧ Hid (Below w.heap.size w wr) ∧ Hid (ps.seqTo k = true)) (fun i _ => len - (intOf i).toNat)
  case atStart => exact ⟨0, by omega, rfl, Below.refl _ _, rfl⟩
  case round =>
    obtain ⟨k, hk, rfl, HB, HN⟩ := hrel
    by_cases hlt : k < len
    · have hca := HC.out
      rcases hca with h0 | ⟨b, off, rfl, hbw, hc⟩
      · omega
      obtain ⟨x, hx⟩ : ∃ x, x = (ps.at k).1 := ⟨_, rfl⟩
      obtain ⟨y, hy⟩ : ∃ x, x = (ps.at k).2 := ⟨_, rfl⟩
      have e := hc k hlt
      rw [← hx, ← hy] at e
      have d1 : wr.cell? ⟨b, off + k * 2, none⟩ = some (.int .i64 x) := (HB.out.cell (by exact hbw)).trans e.1
      have d2 : wr.cell? ⟨b, off + k * 2 + 1, none⟩ = some (.int .i64 y) := (HB.out.cell (by exact hbw)).trans e.2
      have HX : Hid (ps.seqTo (k + 1) = (decide (1 ≤ x ∧ x ≤ 60) && decide (1 ≤ y ∧ y ≤ 60))) := by
        show _ = _
        rw [seqs_step (by rw [HL.out.1]; exact hlt), HN.out, ← hx, ← hy]; rfl
      have HB2 : Hid (Below w.heap.size w (wr.alloc (.cells #[.int .i64 x, .int .i64 y] 61))) := Below.allocW _ HB.out (Nat.le_refl _)
      have hI : (k : Int) < (len : Int) := by omega
      clear e hx hy hc HB
      go_wp2_with fail
      refine (isSeq_any _ _).mono ?_
      rintro e w2 ⟨rfl, hw2⟩
      have hw2' := hw2.symm
      subst hw2'
      clear hw2
      obtain ⟨p1, hp1⟩ : ∃ d, d = decide (1 ≤ x ∧ x ≤ 60) := ⟨_, rfl⟩
      rw [← hp1] at HX ⊢
      clear hp1
      cases p1
      · have HV : Hid (ps.seqTo len = false) := seqs_bad (k := k + 1) (by rw [HX.out]; rfl) (by omega)
        go_wp2
        go_ret
        rw [HV.out]
        exact ⟨rfl, HB2.out⟩
      go_wp2_with fail
      refine (isSeq_any _ _).mono ?_
      rintro e w2 ⟨rfl, hw2⟩
      have hw2' := hw2.symm
      subst hw2'
      clear hw2
      obtain ⟨p2, hp2⟩ : ∃ d, d = decide (1 ≤ y ∧ y ≤ 60) := ⟨_, rfl⟩
      rw [← hp2] at HX ⊢
      clear hp2
      cases p2
      · have HV : Hid (ps.seqTo len = false) := seqs_bad (k := k + 1) (by rw [HX.out]; rfl) (by omega)
        go_wp2
        go_ret
        rw [HV.out]
        exact ⟨rfl, HB2.out⟩
      have HN2 : Hid (ps.seqTo (k + 1) = true) := by show _ = _; rw [HX.out]; rfl
      go_wp2
      go_roundw
      case rel => exact ⟨k + 1, by omega, by go_num, HB2, HN2⟩
      case measure => simp [intOf]; omega
    · obtain rfl : k = len := by omega
      go_wp2_with fail
      refine (setOkImpl_any a k cap ps F _ (HL.out.2.below HB.out) hlen).mono ?_
      rintro e w2 ⟨rfl, hb2⟩
      have HB2 : Hid (Below w.heap.size w w2) := Below.next HB.out hb2
      clear hb2
      obtain ⟨d, hd⟩ : ∃ d, d = ps.ok := ⟨_, rfl⟩
      rw [← hd]
      have HD : Hid (d = ps.ok) := hd
      clear hd
      go_wp2
      go_ret
      rw [HN.out]
      exact ⟨ret_bool HD.out, HB2.out⟩
theorem infoFrF7 : (Tryz.prog.info? 32).map (·.size) = some 16 := by kernel_rfl
theorem rdIt_zero (w : World) : RdIt w (.agg #[.int .i64 0, .int .i64 0, .int .i64 0, .int .i64 0, .int .i64 0, .int .i64 0, .int .i64 0, .int .i64 0, .slice none 0 0, .slice none 0 0, .slice none 0 0]) It.zero [] := by
  refine ⟨none, 0, 0, none, 0, 0, none, 0, 0, rfl, ?_⟩
  exact ⟨none, 0, 0, none, 0, 0, none, 0, 0, [], [], [], rfl, ⟨rfl, .inl ⟨rfl, rfl⟩⟩, ⟨rfl, .inl ⟨rfl, rfl⟩⟩, ⟨rfl, .inl ⟨rfl, rfl⟩⟩, rfl⟩
theorem It.zero_wide : It.zero.sk.wide := ⟨by simp [It.zero, Sk.zero], by simp [It.zero, Sk.zero], by simp [It.zero, Sk.zero], by simp [It.zero, Sk.zero]⟩
set_option maxRecDepth 200000 in
set_option maxHeartbeats 2000000 in
theorem itemFits_any (v : Value) (x : Fr) (F G : List Nat) (w : World) (h : RdFr w v x F G) (hw : x.item.sk.wide) :
    Calls Tryz.prog 56 #[v] w fun e w' => e = .returned (.bool (if x.kind = 1 then x.item.ok else decide (x.item = It.zero))) ∧ Below w.heap.size w w' := by
  obtain ⟨b, l, c, a1, n1, c1, a2, n2, c2, a3, n3, c3, rfl, _, hr, _⟩ := h
  have HR : Hid (RdIt w (.agg #[.int .i64 x.item.seq, .int .i64 x.item.cls, .int .i64 x.item.key, .int .i64 x.item.window, .int .i64 x.item.sk.count, .int .i64 x.item.sk.sum, .int .i64 x.item.sk.min, .int .i64 x.item.sk.max, .slice a1 n1 c1, .slice a2 n2 c2, .slice a3 n3 c3]) x.item G ∧ x.item.sk.wide) := ⟨hr, hw⟩
  have HB : Hid (Below w.heap.size w (w.alloc (.cells #[.int .i64 x.kind, .int .i64 x.agent, .int .i64 x.epoch, .int .i64 x.granted, .slice b l c, .int .i64 x.item.seq, .int .i64 x.item.cls, .int .i64 x.item.key, .int .i64 x.item.window, .int .i64 x.item.sk.count, .int .i64 x.item.sk.sum, .int .i64 x.item.sk.min, .int .i64 x.item.sk.max, .slice a1 n1 c1, .slice a2 n2 c2, .slice a3 n3 c3] 32)) ∧ Blk (w.alloc (.cells #[.int .i64 x.kind, .int .i64 x.agent, .int .i64 x.epoch, .int .i64 x.granted, .slice b l c, .int .i64 x.item.seq, .int .i64 x.item.cls, .int .i64 x.item.key, .int .i64 x.item.window, .int .i64 x.item.sk.count, .int .i64 x.item.sk.sum, .int .i64 x.item.sk.min, .int .i64 x.item.sk.max, .slice a1 n1 c1, .slice a2 n2 c2, .slice a3 n3 c3] 32)) w.heap.size #[.int .i64 x.kind, .int .i64 x.agent, .int .i64 x.epoch, .int .i64 x.granted, .slice b l c, .int .i64 x.item.seq, .int .i64 x.item.cls, .int .i64 x.item.key, .int .i64 x.item.window, .int .i64 x.item.sk.count, .int .i64 x.item.sk.sum, .int .i64 x.item.sk.min, .int .i64 x.item.sk.max, .slice a1 n1 c1, .slice a2 n2 c2, .slice a3 n3 c3] 32) := ⟨Below.allocW _ (Below.refl _ _) (Nat.le_refl _), Blk.made _ _ _⟩
  have k0 := HB.out.2.cell 0
  simp only [List.getElem?_toArray, List.getElem?_cons_zero] at k0
  clear hr hw
  obtain ⟨z, hz⟩ : ∃ z, z = (if x.kind = 1 then x.item.ok else decide (x.item = It.zero)) := ⟨_, rfl⟩
  rw [← hz]
  by_cases h1 : x.kind = 1
  · have e1 : (x.kind == 1) = true := by simpa using h1
    have HV : Hid (z = x.item.ok) := hz.trans (if_pos h1)
    clear hz
    clear h1
    go_enter Tryz.func56, Tryz.ntmps56
    go_wp2_with (first | go_skip | (with_reducible refine stopLoad 30 rfl ?_))
    refine load_cut 30 w.heap.size 5 11 _ #[.int .i64 x.item.seq, .int .i64 x.item.cls, .int .i64 x.item.key, .int .i64 x.item.window, .int .i64 x.item.sk.count, .int .i64 x.item.sk.sum, .int .i64 x.item.sk.min, .int .i64 x.item.sk.max, .slice a1 n1 c1, .slice a2 n2 c2, .slice a3 n3 c3] 32 _ HB.out.2 rfl rfl rfl Tryz.underlying30 rfl infoItA7 (by simp) rfl ?_
    go_wp2_with fail
    refine (itemOkImpl_any _ x.item G _ (HR.out.1.below HB.out.1) HR.out.2).mono ?_
    rintro e w3 ⟨rfl, hb3⟩
    have HB3 : Hid (Below w.heap.size w w3) := Below.next HB.out.1 hb3
    clear hb3
    obtain ⟨d, hd⟩ : ∃ d, d = x.item.ok := ⟨_, rfl⟩
    rw [← hd] at HV ⊢
    clear hd
    go_wp2
    go_ret
    exact ⟨ret_bool HV.out.symm, HB3.out⟩
  · have e1 : (x.kind == 1) = false := by simpa using h1
    have HV : Hid (z = decide (x.item = It.zero)) := hz.trans (if_neg h1)
    clear hz
    clear h1
    go_enter Tryz.func56, Tryz.ntmps56
    go_wp2_with (first | go_skip | (with_reducible refine stopLoad 30 rfl ?_))
    refine load_cut 30 w.heap.size 5 11 _ #[.int .i64 x.item.seq, .int .i64 x.item.cls, .int .i64 x.item.key, .int .i64 x.item.window, .int .i64 x.item.sk.count, .int .i64 x.item.sk.sum, .int .i64 x.item.sk.min, .int .i64 x.item.sk.max, .slice a1 n1 c1, .slice a2 n2 c2, .slice a3 n3 c3] 32 _ HB.out.2 rfl rfl rfl Tryz.underlying30 rfl infoItA7 (by simp) rfl ?_
    go_wp2_with fail
    refine (itemSame_any _ _ x.item It.zero G [] _ (HR.out.1.below HB.out.1) (rdIt_zero _) HR.out.2 It.zero_wide).mono ?_
    rintro e w3 ⟨rfl, hb3⟩
    have HB3 : Hid (Below w.heap.size w w3) := Below.next HB.out.1 hb3
    clear hb3
    obtain ⟨d, hd⟩ : ∃ d, d = decide (x.item = It.zero) := ⟨_, rfl⟩
    rw [← hd] at HV ⊢
    clear hd
    go_wp2
    go_ret
    exact ⟨ret_bool HV.out.symm, HB3.out⟩
theorem seq_taken {ps : Sp} (h : ps.ok = true) : ps.seqTo ps.length = ps.taken := by
  unfold Sp.seqTo Sp.taken
  rw [Bool.eq_iff_iff, List.all_eq_true, List.all_eq_true]
  refine ⟨fun q k hk => ?_, fun q k hk => ?_⟩
  · have e := q k hk
    simp only [Bool.and_eq_true, decide_eq_true_eq] at e ⊢
    omega
  · have e := q k hk
    have o := (Sp.okAt_parts (Sp.ok_at h k (List.mem_range.1 hk))).1
    simp only [Bool.and_eq_true, decide_eq_true_eq] at e ⊢
    omega
set_option maxRecDepth 200000 in
set_option maxHeartbeats 4000000 in
theorem frameOkImpl_any (v : Value) (x : Fr) (F G : List Nat) (w : World) (h : RdFr w v x F G) (hw : x.item.sk.wide) (hl : x.taken.length ≤ 2097152) :
    Calls Tryz.prog 21 #[v] w fun e w' => e = .returned (.bool x.ok) ∧ Below w.heap.size w w' := by
  have HH : Hid (RdFr w v x F G ∧ x.item.sk.wide) := ⟨h, hw⟩
  obtain ⟨b, l, c, a1, n1, c1, a2, n2, c2, a3, n3, c3, rfl, hp, hr, _⟩ := h
  have HP : Hid (RdP w b l x.taken F ∧ l ≤ 2097152 ∧ x.taken.length = l) := ⟨hp, by rw [← hp.length]; exact hl, hp.length⟩
  have HB : Hid (Below w.heap.size w (w.alloc (.cells #[.int .i64 x.kind, .int .i64 x.agent, .int .i64 x.epoch, .int .i64 x.granted, .slice b l c, .int .i64 x.item.seq, .int .i64 x.item.cls, .int .i64 x.item.key, .int .i64 x.item.window, .int .i64 x.item.sk.count, .int .i64 x.item.sk.sum, .int .i64 x.item.sk.min, .int .i64 x.item.sk.max, .slice a1 n1 c1, .slice a2 n2 c2, .slice a3 n3 c3] 32)) ∧ Blk (w.alloc (.cells #[.int .i64 x.kind, .int .i64 x.agent, .int .i64 x.epoch, .int .i64 x.granted, .slice b l c, .int .i64 x.item.seq, .int .i64 x.item.cls, .int .i64 x.item.key, .int .i64 x.item.window, .int .i64 x.item.sk.count, .int .i64 x.item.sk.sum, .int .i64 x.item.sk.min, .int .i64 x.item.sk.max, .slice a1 n1 c1, .slice a2 n2 c2, .slice a3 n3 c3] 32)) w.heap.size #[.int .i64 x.kind, .int .i64 x.agent, .int .i64 x.epoch, .int .i64 x.granted, .slice b l c, .int .i64 x.item.seq, .int .i64 x.item.cls, .int .i64 x.item.key, .int .i64 x.item.window, .int .i64 x.item.sk.count, .int .i64 x.item.sk.sum, .int .i64 x.item.sk.min, .int .i64 x.item.sk.max, .slice a1 n1 c1, .slice a2 n2 c2, .slice a3 n3 c3] 32) := ⟨Below.allocW _ (Below.refl _ _) (Nat.le_refl _), Blk.made _ _ _⟩
  clear hr hw hp hl
  go_enter Tryz.func21, Tryz.ntmps21
  go_wp2_with fail
  refine (inRange_any _ _ _).mono ?_
  rintro e w2 ⟨rfl, hw2⟩
  have hw2' := hw2.symm
  subst hw2'
  clear hw2
  obtain ⟨d1, hd1⟩ : ∃ d, d = decide (0 ≤ x.kind ∧ x.kind ≤ 3) := ⟨_, rfl⟩
  rw [← hd1]
  have HD1 : Hid (d1 = decide (0 ≤ x.kind ∧ x.kind ≤ 3)) := hd1
  clear hd1
  cases d1
  · have HV : Hid (x.ok = false) := by show _ = _; unfold Fr.ok; rw [← HD1.out]; rfl
    go_wp2
    go_ret
    exact ⟨ret_bool HV.out.symm, HB.out.1⟩
  go_wp2_with fail
  refine (inRange_any _ _ _).mono ?_
  rintro e w2 ⟨rfl, hw2⟩
  have hw2' := hw2.symm
  subst hw2'
  clear hw2
  obtain ⟨d2, hd2⟩ : ∃ d, d = decide (0 ≤ x.agent ∧ x.agent ≤ 2) := ⟨_, rfl⟩
  rw [← hd2]
  have HD2 : Hid (d2 = decide (0 ≤ x.agent ∧ x.agent ≤ 2)) := hd2
  clear hd2
  cases d2
  · have HV : Hid (x.ok = false) := by show _ = _; unfold Fr.ok; rw [← HD1.out, ← HD2.out]; rfl
    go_wp2
    go_ret
    exact ⟨ret_bool HV.out.symm, HB.out.1⟩
  go_wp2_with fail
  refine (inRange_any _ _ _).mono ?_
  rintro e w2 ⟨rfl, hw2⟩
  have hw2' := hw2.symm
  subst hw2'
  clear hw2
  obtain ⟨d3, hd3⟩ : ∃ d, d = decide (0 ≤ x.epoch ∧ x.epoch ≤ 1000) := ⟨_, rfl⟩
  rw [← hd3]
  have HD3 : Hid (d3 = decide (0 ≤ x.epoch ∧ x.epoch ≤ 1000)) := hd3
  clear hd3
  cases d3
  · have HV : Hid (x.ok = false) := by show _ = _; unfold Fr.ok; rw [← HD1.out, ← HD2.out, ← HD3.out]; rfl
    go_wp2
    go_ret
    exact ⟨ret_bool HV.out.symm, HB.out.1⟩
  go_wp2_with fail
  refine (inRange_any _ _ _).mono ?_
  rintro e w2 ⟨rfl, hw2⟩
  have hw2' := hw2.symm
  subst hw2'
  clear hw2
  obtain ⟨d4, hd4⟩ : ∃ d, d = decide (0 ≤ x.granted ∧ x.granted ≤ 60) := ⟨_, rfl⟩
  rw [← hd4]
  have HD4 : Hid (d4 = decide (0 ≤ x.granted ∧ x.granted ≤ 60)) := hd4
  clear hd4
  cases d4
  · have HV : Hid (x.ok = false) := by show _ = _; unfold Fr.ok; rw [← HD1.out, ← HD2.out, ← HD3.out, ← HD4.out]; rfl
    go_wp2
    go_ret
    exact ⟨ret_bool HV.out.symm, HB.out.1⟩
  go_wp2_with fail
  refine (areSeqs_any b l c x.taken F _ (HP.out.1.below HB.out.1) HP.out.2.1).mono ?_
  rintro e w2 ⟨rfl, hb2⟩
  have HB2 : Hid (Below w.heap.size w w2 ∧ Blk w2 w.heap.size #[.int .i64 x.kind, .int .i64 x.agent, .int .i64 x.epoch, .int .i64 x.granted, .slice b l c, .int .i64 x.item.seq, .int .i64 x.item.cls, .int .i64 x.item.key, .int .i64 x.item.window, .int .i64 x.item.sk.count, .int .i64 x.item.sk.sum, .int .i64 x.item.sk.min, .int .i64 x.item.sk.max, .slice a1 n1 c1, .slice a2 n2 c2, .slice a3 n3 c3] 32) := ⟨Below.next HB.out.1 hb2, HB.out.2.below hb2⟩
  clear hb2
  obtain ⟨d5, hd5⟩ : ∃ d, d = (x.taken.seqTo l && x.taken.ok) := ⟨_, rfl⟩
  rw [← hd5]
  have HD5 : Hid (d5 = (x.taken.ok && x.taken.taken)) := by
    show _ = _
    rw [hd5]
    cases q : x.taken.ok
    · simp
    · rw [← HP.out.2.2, seq_taken q, Bool.and_true, Bool.true_and]
  clear hd5
  cases d5
  · have HV : Hid (x.ok = false) := by
      show _ = _
      unfold Fr.ok
      rw [Bool.and_assoc _ x.taken.ok x.taken.taken, ← HD1.out, ← HD2.out, ← HD3.out, ← HD4.out, ← HD5.out]; rfl
    go_wp2
    go_ret
    exact ⟨ret_bool HV.out.symm, HB2.out.1⟩
  have HV : Hid (x.ok = (if x.kind = 1 then x.item.ok else decide (x.item = It.zero))) := by
    show _ = _
    unfold Fr.ok
    rw [Bool.and_assoc _ x.taken.ok x.taken.taken, ← HD1.out, ← HD2.out, ← HD3.out, ← HD4.out, ← HD5.out]; rfl
  go_wp2_with (first | go_skip | (with_reducible refine stopLoad 32 rfl ?_))
  refine load_cutw 32 w.heap.size 0 16 _ #[.int .i64 x.kind, .int .i64 x.agent, .int .i64 x.epoch, .int .i64 x.granted, .slice b l c, .int .i64 x.item.seq, .int .i64 x.item.cls, .int .i64 x.item.key, .int .i64 x.item.window, .int .i64 x.item.sk.count, .int .i64 x.item.sk.sum, .int .i64 x.item.sk.min, .int .i64 x.item.sk.max, .slice a1 n1 c1, .slice a2 n2 c2, .slice a3 n3 c3] 32 _ HB2.out.2 rfl rfl rfl Tryz.underlying32 rfl infoFrF7 (by simp) rfl ?_
  go_wp2_with fail
  refine (itemFits_any _ x F G _ (HH.out.1.below HB2.out.1) HH.out.2).mono ?_
  rintro e w3 ⟨rfl, hb3⟩
  have HB3 : Hid (Below w.heap.size w w3) := Below.next HB2.out.1 hb3
  clear hb3
  obtain ⟨d, hd⟩ : ∃ d, d = (if x.kind = 1 then x.item.ok else decide (x.item = It.zero)) := ⟨_, rfl⟩
  rw [← hd] at HV ⊢
  clear hd
  go_wp2
  go_ret
  exact ⟨ret_bool HV.out.symm, HB3.out⟩
end Go.Proofs.YtfbfklgjccbplabGreat
/- The walks through the program's SketchBytes, numbersOfItem, crcBytes. No statement of the seat is proved here. -/
namespace Go.Proofs.YtfbfklgjccbplabGreat
open Go.RowKit
theorem tl_nums {s : Sk} (h : s.lens7) : s.tl = s.nums := by
  unfold Sk.tl Sk.nums
  conv => rhs; rw [two_rows7 h.rows]
  simp
theorem ok_shaped {s : Sk} (h : s.ok = true) : s.shaped = true := by
  have l := (Sk.ok_lens h).1
  cases q : s.shaped
  · have e : okT s s.tl = false := by unfold okT; rw [q]; rfl
    rw [okT_ok (fun _ => rfl), h] at e
    cases e
  · rfl
set_option maxRecDepth 100000 in
set_option maxHeartbeats 4000000 in
theorem sketchBytesImpl_any (v : Value) (s : Sk) (F : List Nat) (w : World) (h : RdSk w v s F) (hw : s.wide) :
    Calls Tryz.prog 14 #[v] w fun e w' => ∃ u, e = .returned u ∧ w'.ownsRow w.heap.size 5 1 u s.bytes.length (s.bytes.map (Value.int .u8)) ∧ Below w.heap.size w w' := by
  obtain ⟨cs, rfl, hc7⟩ : ∃ cs, v = .agg cs ∧ cs.size = 7 := by
    obtain ⟨a1, n1, c1, a2, n2, c2, a3, n3, c3, F1, F2, F3, rfl, _⟩ := h
    exact ⟨_, rfl, rfl⟩
  have HH : Hid (RdSk w (.agg cs) s F ∧ s.wide) := ⟨h, hw⟩
  have HT : Hid (Blk (w.alloc (.cells cs 28)) w.heap.size cs 28 ∧ Below w.heap.size w (w.alloc (.cells cs 28))) := ⟨Blk.made _ _ _, (Below.refl _ _).alloc (Nat.le_refl _) _⟩
  have hsz : (Tryz.prog.info? 28).map (·.size) = some cs.size := by rw [hc7]; exact infoSkI
  clear h hw
  go_enter Tryz.func14, Tryz.ntmps14
  go_wp2_with (first | go_skip | (with_reducible refine stopLoad 28 rfl ?_))
  refine load_known 28 w.heap.size cs 28 _ HT.out.1 rfl rfl rfl Tryz.underlying28 rfl hsz ?_
  go_wp2_with fail
  refine (okTally_any _ s F _ (HH.out.1.below HT.out.2) HH.out.2).mono ?_
  rintro e w1 ⟨xs, ys, rfl, _, hy, hx, hxy, hb1⟩
  obtain ⟨d, hd⟩ : ∃ d, d = okT s xs := ⟨_, rfl⟩
  have HB : Hid (ys.length = 28 ∧ d = s.ok ∧ (s.ok = true → ys = s.nums) ∧ Below w.heap.size w w1) := ⟨hy, hd.trans (okT_ok hx), fun e => by rw [hxy (by rw [okT_ok hx]; exact e), hx (ok_shaped e), tl_nums (Sk.ok_lens e).1], Below.next HT.out.2 hb1⟩
  rw [← hd]
  clear hb1 hy hx hxy hd HT hsz
  go_wp2_with (with_reducible refine stopStore 75 rfl ?_)
  refine store_fresh 75 w1.heap.size rfl (tc (List.replicate 28 0)) (tc ys) 75 rfl rfl rfl rfl (tallySize HB.out.1) (by rw [tc_size, tc_size, HB.out.1]; rfl) (tc_one _) ?_
  intro W2 hg2 hb2
  have HB2 : Hid (Blk W2 w1.heap.size (tc ys) 75 ∧ Below w.heap.size w W2) := ⟨hg2, Below.next HB.out.2.2.2 hb2⟩
  clear hb2 hg2
  cases d
  · have HV : Hid (s.bytes = []) := by show _ = _; unfold Sk.bytes; rw [← HB.out.2.1]; rfl
    go_wp2
    go_ret
    rw [HV.out]
    exact ⟨_, rfl, World.ownsRow_nil _ _ _ _, HB2.out.2⟩
  have HV : Hid (s.bytes = putAll ys ∧ ∀ x ∈ ys, InN x) := by
    have e := HB.out.2.1.symm
    rw [HB.out.2.2.1 e]
    exact ⟨Sk.bytes_ok e, (Sk.ok_lens e).2⟩
  go_wp2_with (first | go_skip | (with_reducible refine stopLoad 75 rfl ?_))
  refine load_part 75 w1.heap.size 0 28 ys 75 _ HB2.out.1 rfl rfl rfl Tryz.underlying75 rfl infoTally (by rw [HB.out.1]; omega) ?_
  rw [List.drop_zero, List.take_of_length_le (Nat.le_of_eq HB.out.1)]
  go_wp2_with fail
  refine (numbers_any ys _ HB.out.1).mono ?_
  rintro e w3 ⟨u, rfl, hown, hb3⟩
  obtain ⟨a, cap, G, rfl, hr, _⟩ := rdI_of_own hown
  have HR3 : Hid (RdI w3 a ys.length ys G ∧ Below w.heap.size w w3) := ⟨hr, Below.next HB2.out.2 hb3⟩
  clear hown hb3 hr
  rw [HB.out.1] at HR3 ⊢
  go_wp2_with fail
  refine (bytesOfNumbers_any a 28 cap ys G _ HR3.out.1 HV.out.2 (by omega)).mono ?_
  rintro e w4 ⟨u4, rfl, hown, hb4⟩
  have h4 : w4.ownsRow w.heap.size 5 1 u4 s.bytes.length (s.bytes.map (Value.int .u8)) := by
    rw [HV.out.1]
    exact own_mono7 hown HR3.out.2.size
  have HR4 : Hid (w4.ownsRow w.heap.size 5 1 u4 s.bytes.length (s.bytes.map (Value.int .u8)) ∧ Below w.heap.size w w4) := ⟨h4, Below.next HR3.out.2 hb4⟩
  clear hown hb4 h4
  go_wp2
  go_ret
  exact ⟨_, rfl, HR4.out⟩
def ItHeld (g : Nat) (cs : Array Value) (k : Nat) (ys : List Int) (W : World) : Prop := Blk W g cs 30 ∧ Blk W k (tc ys) 75
set_option maxRecDepth 200000 in
set_option maxHeartbeats 4000000 in
theorem numbersOfItem_any (v : Value) (x : It) (F : List Nat) (w : World) (h : RdIt w v x F) (hok : x.sk.ok = true) (hw : x.sk.wide) :
    Calls Tryz.prog 58 #[v] w fun e w' => ∃ u, e = .returned u ∧ w'.ownsRow w.heap.size 3 1 u 32 (([x.seq, x.cls, x.key, x.window] ++ x.sk.nums).map (Value.int .i64)) ∧ Below w.heap.size w w' := by
  obtain ⟨i0, hi, hz0, hz1, hz2⟩ := info_parts infoInt
  obtain ⟨a1, n1, c1, a2, n2, c2, a3, n3, c3, rfl, hr⟩ := h
  have HR : Hid (RdSk w (.agg #[.int .i64 x.sk.count, .int .i64 x.sk.sum, .int .i64 x.sk.min, .int .i64 x.sk.max, .slice a1 n1 c1, .slice a2 n2 c2, .slice a3 n3 c3]) x.sk F ∧ x.sk.wide ∧ x.sk.ok = true) := ⟨hr, hw, hok⟩
  have HT : Hid (Blk (w.alloc (.cells #[.int .i64 x.seq, .int .i64 x.cls, .int .i64 x.key, .int .i64 x.window, .int .i64 x.sk.count, .int .i64 x.sk.sum, .int .i64 x.sk.min, .int .i64 x.sk.max, .slice a1 n1 c1, .slice a2 n2 c2, .slice a3 n3 c3] 30)) w.heap.size #[.int .i64 x.seq, .int .i64 x.cls, .int .i64 x.key, .int .i64 x.window, .int .i64 x.sk.count, .int .i64 x.sk.sum, .int .i64 x.sk.min, .int .i64 x.sk.max, .slice a1 n1 c1, .slice a2 n2 c2, .slice a3 n3 c3] 30 ∧ Below w.heap.size w (w.alloc (.cells #[.int .i64 x.seq, .int .i64 x.cls, .int .i64 x.key, .int .i64 x.window, .int .i64 x.sk.count, .int .i64 x.sk.sum, .int .i64 x.sk.min, .int .i64 x.sk.max, .slice a1 n1 c1, .slice a2 n2 c2, .slice a3 n3 c3] 30))) := ⟨Blk.made _ _ _, (Below.refl _ _).alloc (Nat.le_refl _) _⟩
  clear hr hw hok
  go_enter Tryz.func58, Tryz.ntmps58
  go_wp2_with (first | go_skip | (with_reducible refine stopLoad 28 rfl ?_))
  refine load_cut 28 w.heap.size 4 7 _ #[.int .i64 x.sk.count, .int .i64 x.sk.sum, .int .i64 x.sk.min, .int .i64 x.sk.max, .slice a1 n1 c1, .slice a2 n2 c2, .slice a3 n3 c3] 30 _ HT.out.1 rfl rfl rfl Tryz.underlying28 rfl infoSkI (by simp) rfl ?_
  go_wp2_with fail
  refine (okTally_any _ x.sk F _ (HR.out.1.below HT.out.2) HR.out.2.1).mono ?_
  rintro e w1 ⟨xs, ys, rfl, _, hy, hx, hxy, hb1⟩
  obtain ⟨d, hd⟩ : ∃ d, d = okT x.sk xs := ⟨_, rfl⟩
  have HB : Hid (ys.length = 28 ∧ ys = x.sk.nums ∧ Below w.heap.size w w1 ∧ Blk w1 w.heap.size #[.int .i64 x.seq, .int .i64 x.cls, .int .i64 x.key, .int .i64 x.window, .int .i64 x.sk.count, .int .i64 x.sk.sum, .int .i64 x.sk.min, .int .i64 x.sk.max, .slice a1 n1 c1, .slice a2 n2 c2, .slice a3 n3 c3] 30) := ⟨hy, by rw [hxy (by rw [okT_ok hx]; exact HR.out.2.2), hx (ok_shaped HR.out.2.2), tl_nums (Sk.ok_lens HR.out.2.2).1], Below.next HT.out.2 hb1, HT.out.1.below hb1⟩
  rw [← hd]
  clear hb1 hy hx hxy hd HT
  go_wp2_with (with_reducible refine stopStore 75 rfl ?_)
  refine store_fresh 75 w1.heap.size rfl (tc (List.replicate 28 0)) (tc ys) 75 rfl rfl rfl rfl (tallySize HB.out.1) (by rw [tc_size, tc_size, HB.out.1]; rfl) (tc_one _) ?_
  intro W2 hg2 hb2
  have HB2 : Hid (ItHeld w.heap.size #[.int .i64 x.seq, .int .i64 x.cls, .int .i64 x.key, .int .i64 x.window, .int .i64 x.sk.count, .int .i64 x.sk.sum, .int .i64 x.sk.min, .int .i64 x.sk.max, .slice a1 n1 c1, .slice a2 n2 c2, .slice a3 n3 c3] w1.heap.size ys W2.drew ∧ Below w.heap.size w W2.drew) := ⟨⟨(HB.out.2.2.2.below hb2).drew, hg2.drew⟩, (Below.next HB.out.2.2.1 hb2).drew⟩
  clear hb2 hg2
  go_wp2
  refine wp_region_held (S := ItHeld w.heap.size #[.int .i64 x.seq, .int .i64 x.cls, .int .i64 x.key, .int .i64 x.window, .int .i64 x.sk.count, .int .i64 x.sk.sum, .int .i64 x.sk.min, .int .i64 x.sk.max, .slice a1 n1 c1, .slice a2 n2 c2, .slice a3 n3 c3] w1.heap.size ys) (by kernel_rfl) ?_
  change wpAnyH _ _ _ _ _ _ _ _ (World.drew _)
  refine takeH (o := ?o1) 0 (.pointer (some ⟨w.heap.size, 0, none⟩)) ?h1 ?r1
  case h1 => simp only [List.getElem?_toArray, List.getElem?_cons_zero]; rfl
  refine ⟨_, by simp [Act.put]; rfl, by kernel_rfl, by kernel_rfl, by kernel_rfl, fun _ _ _ h => h, (.inl ⟨rfl, fun W _ => by go_simp⟩), HB2.out.1, ?_⟩
  refine takeH (o := ?o2) 1 (.int .i64 x.seq) ?h2 ?r2
  case h2 => simp only [List.getElem?_toArray, List.getElem?_cons_succ, List.getElem?_cons_zero]; rfl
  refine ⟨_, by simp [Act.put]; rfl, by kernel_rfl, by kernel_rfl, by kernel_rfl, fun _ _ _ h => h, (.inl ⟨rfl, fun W hW => by have c := hW.1.cell 0; simp only [List.getElem?_toArray, List.getElem?_cons_zero] at c; go_simp⟩), HB2.out.1, ?_⟩
  refine takeH (o := ?o3) 2 (.pointer (some ⟨w.heap.size, 1, none⟩)) ?h3 ?r3
  case h3 => simp only [List.getElem?_toArray, List.getElem?_cons_succ, List.getElem?_cons_zero]; rfl
  refine ⟨_, by simp [Act.put]; rfl, by kernel_rfl, by kernel_rfl, by kernel_rfl, fun _ _ _ h => h, (.inl ⟨rfl, fun W _ => by go_simp⟩), HB2.out.1, ?_⟩
  refine takeH (o := ?o4) 3 (.int .i64 x.cls) ?h4 ?r4
  case h4 => simp only [List.getElem?_toArray, List.getElem?_cons_succ, List.getElem?_cons_zero]; rfl
  refine ⟨_, by simp [Act.put]; rfl, by kernel_rfl, by kernel_rfl, by kernel_rfl, fun _ _ _ h => h, (.inl ⟨rfl, fun W hW => by have c := hW.1.cell 1; simp only [List.getElem?_toArray, List.getElem?_cons_succ, List.getElem?_cons_zero] at c; go_simp⟩), HB2.out.1, ?_⟩
  refine takeH (o := ?o5) 4 (.pointer (some ⟨w.heap.size, 2, none⟩)) ?h5 ?r5
  case h5 => simp only [List.getElem?_toArray, List.getElem?_cons_succ, List.getElem?_cons_zero]; rfl
  refine ⟨_, by simp [Act.put]; rfl, by kernel_rfl, by kernel_rfl, by kernel_rfl, fun _ _ _ h => h, (.inl ⟨rfl, fun W _ => by go_simp⟩), HB2.out.1, ?_⟩
  refine takeH (o := ?o6) 5 (.int .i64 x.key) ?h6 ?r6
  case h6 => simp only [List.getElem?_toArray, List.getElem?_cons_succ, List.getElem?_cons_zero]; rfl
  refine ⟨_, by simp [Act.put]; rfl, by kernel_rfl, by kernel_rfl, by kernel_rfl, fun _ _ _ h => h, (.inl ⟨rfl, fun W hW => by have c := hW.1.cell 2; simp only [List.getElem?_toArray, List.getElem?_cons_succ, List.getElem?_cons_zero] at c; go_simp⟩), HB2.out.1, ?_⟩
  refine takeH (o := ?o7) 6 (.pointer (some ⟨w.heap.size, 3, none⟩)) ?h7 ?r7
  case h7 => simp only [List.getElem?_toArray, List.getElem?_cons_succ, List.getElem?_cons_zero]; rfl
  refine ⟨_, by simp [Act.put]; rfl, by kernel_rfl, by kernel_rfl, by kernel_rfl, fun _ _ _ h => h, (.inl ⟨rfl, fun W _ => by go_simp⟩), HB2.out.1, ?_⟩
  refine takeH (o := ?o8) 7 (.int .i64 x.window) ?h8 ?r8
  case h8 => simp only [List.getElem?_toArray, List.getElem?_cons_succ, List.getElem?_cons_zero]; rfl
  refine ⟨_, by simp [Act.put]; rfl, by kernel_rfl, by kernel_rfl, by kernel_rfl, fun _ _ _ h => h, (.inl ⟨rfl, fun W hW => by have c := hW.1.cell 3; simp only [List.getElem?_toArray, List.getElem?_cons_succ, List.getElem?_cons_zero] at c; go_simp⟩), HB2.out.1, ?_⟩
  refine takeH (o := ?o9) 9 (.agg (tc ys)) ?h9 ?r9
  case h9 => simp only [List.getElem?_toArray, List.getElem?_cons_succ, List.getElem?_cons_zero]; rfl
  refine ⟨_, by simp [Act.put]; rfl, by kernel_rfl, by kernel_rfl, by kernel_rfl, fun _ _ _ h => h, (yields_whole 75 w1.heap.size (tc ys) 75 _ rfl rfl rfl Tryz.underlying75 rfl (tallySize HB.out.1) (fun W hW => hW.2)), HB2.out.1, ?_⟩
  obtain ⟨Y, hY⟩ : ∃ Y, Y = W2.drew := ⟨_, rfl⟩
  rw [← hY] at HB2 ⊢
  clear hY
  refine twoH (o := ?o10) (o' := ?p10) 8 10 (by kernel_rfl) ?h10 ?g10 ?r10 ?s10
  case h10 => simp only [List.getElem?_toArray, List.getElem?_cons_succ, List.getElem?_cons_zero]; rfl
  case g10 => simp only [List.getElem?_toArray, List.getElem?_cons_succ, List.getElem?_cons_zero]; rfl
  case r10 =>
    intro K hK
    have hY1 : w.heap.size < Y.heap.size := HB2.out.1.1.lt
    have hY2 : w1.heap.size < Y.heap.size := HB2.out.1.2.lt
    have HL : Hid ((Y.alloc (.cells #[.int .i64 x.seq, .int .i64 x.cls, .int .i64 x.key, .int .i64 x.window] 3)).ownsRow w.heap.size 3 1 (.slice (some ⟨Y.heap.size, 0, none⟩) 4 4) 4 ([x.seq, x.cls, x.key, x.window].map (Value.int .i64))) := World.ownsRow_lit Y #[.int .i64 x.seq, .int .i64 x.cls, .int .i64 x.key, .int .i64 x.window] 4 HB2.out.2.size (by unfold maxLen; omega) rfl
    have bY : Below Y.heap.size Y (Y.alloc (.cells #[.int .i64 x.seq, .int .i64 x.cls, .int .i64 x.key, .int .i64 x.window] 3)) := (Below.refl _ _).alloc (Nat.le_refl _) _
    have HS3 : Hid (ItHeld w.heap.size #[.int .i64 x.seq, .int .i64 x.cls, .int .i64 x.key, .int .i64 x.window, .int .i64 x.sk.count, .int .i64 x.sk.sum, .int .i64 x.sk.min, .int .i64 x.sk.max, .slice a1 n1 c1, .slice a2 n2 c2, .slice a3 n3 c3] w1.heap.size ys (Y.alloc (.cells #[.int .i64 x.seq, .int .i64 x.cls, .int .i64 x.key, .int .i64 x.window] 3)) ∧ Below w.heap.size w (Y.alloc (.cells #[.int .i64 x.seq, .int .i64 x.cls, .int .i64 x.key, .int .i64 x.window] 3))) := ⟨⟨HB2.out.1.1.below bY, HB2.out.1.2.below bY⟩, Below.next HB2.out.2 bY⟩
    refine op_turn (.slice (some ⟨Y.heap.size, 0, none⟩) 4 4) (Y.alloc (.cells #[.int .i64 x.seq, .int .i64 x.cls, .int .i64 x.key, .int .i64 x.window] 3)) rfl (by go_simp) ⟨_, by simp [Act.put]; rfl, hK _ _ ⟨HS3.out.1, ?_⟩⟩
    clear hK bY
    obtain ⟨Z, hZ⟩ : ∃ Z, Z = Y.alloc (.cells #[.int .i64 x.seq, .int .i64 x.cls, .int .i64 x.key, .int .i64 x.window] 3) := ⟨_, rfl⟩
    rw [← hZ] at HL HS3 ⊢
    clear hZ
    refine onlyH (o := ?o11) 10 (by kernel_rfl) ?h11 ?r11
    case h11 => simp only [List.getElem?_toArray, List.getElem?_cons_succ, List.getElem?_cons_zero]; rfl
    intro K hK
    refine op_call1 44 _ _ Tryz.f44 (fun v w' => w'.ownsRow Z.heap.size 3 1 v ys.length (ys.map (Value.int .i64)) ∧ Below Z.heap.size Z w') rfl rfl Tryz.func44 (by kernel_rfl) (by kernel_rfl) ((numbers_any ys Z HB.out.1).mono (by rintro e w' ⟨u, rfl, h1, h2⟩; exact ⟨_, rfl, h1, h2⟩)) ?_
    rintro u W4 ⟨hu, hb4⟩
    obtain ⟨gu, cu, rfl, _⟩ := own_shape7 hu (by rw [HB.out.1]; omega)
    rw [HB.out.1] at hu ⊢
    have HO : Hid (W4.ownsRow w.heap.size 3 1 (.slice (some ⟨Y.heap.size, 0, none⟩) 4 4) 4 ([x.seq, x.cls, x.key, x.window].map (Value.int .i64)) ∧ (∀ j u, (ys.map (Value.int .i64))[j]? = some u → W4.cell? ((⟨gu, 0, none⟩ : Addr).add j) = some u) ∧ Below w.heap.size w W4) := ⟨ownsRow_below HL.out hb4, own_news hu, Below.next HS3.out.2 hb4⟩
    refine ⟨_, by simp [Act.put]; rfl, hK _ _ ⟨⟨HS3.out.1.1.below hb4, HS3.out.1.2.below hb4⟩, ?_⟩⟩
    have HSS : Hid (ItHeld w.heap.size #[.int .i64 x.seq, .int .i64 x.cls, .int .i64 x.key, .int .i64 x.window, .int .i64 x.sk.count, .int .i64 x.sk.sum, .int .i64 x.sk.min, .int .i64 x.sk.max, .slice a1 n1 c1, .slice a2 n2 c2, .slice a3 n3 c3] w1.heap.size ys W4) := ⟨HS3.out.1.1.below hb4, HS3.out.1.2.below hb4⟩
    clear hK hu hb4 HL HS3 HB2
    refine onlyH (o := ?o12) 11 (by kernel_rfl) ?h12 ?r12
    case h12 => simp only [List.getElem?_toArray, List.getElem?_cons_succ, List.getElem?_cons_zero]; rfl
    intro K hK
    refine op_append7 _ _ 25 rfl rfl w.heap.size 3 i0 (.int .i64 0) 1 8 Tryz.underlying25 hi hz0 hz1 hz2 rfl (by decide) _ _ _ rfl HO.out.1 ⟨gu, 0, none⟩ 28 cu (ys.map (Value.int .i64)) rfl (by simp [HB.out.1]) HO.out.2.1 (ints_one _) (by unfold maxLen; simp) (by simp) HO.out.2.2.size ?_
    intro v8 w8 hown hgrow
    have HF : Hid (w8.ownsRow w.heap.size 3 1 v8 32 (([x.seq, x.cls, x.key, x.window] ++ ys).map (Value.int .i64)) ∧ Below w.heap.size w w8) := ⟨by rw [List.map_append]; exact hown, HO.out.2.2.grown hgrow HO.out.2.2.size (fun g hg => (HO.out.1.lt g hg).1)⟩
    have bg : Below Y.heap.size W4 w8 := (Below.refl _ _).grown hgrow (by have := HO.out.1.lt Y.heap.size rfl; omega) (fun g hg => by cases hg; exact Nat.le_refl _)
    have HSX : Hid (ItHeld w.heap.size #[.int .i64 x.seq, .int .i64 x.cls, .int .i64 x.key, .int .i64 x.window, .int .i64 x.sk.count, .int .i64 x.sk.sum, .int .i64 x.sk.min, .int .i64 x.sk.max, .slice a1 n1 c1, .slice a2 n2 c2, .slice a3 n3 c3] w1.heap.size ys w8) := ⟨HSS.out.1.agree (bg.block _ hY1), HSS.out.2.agree (bg.block _ hY2)⟩
    clear hown hgrow HO bg
    refine ⟨_, by simp [Act.put]; rfl, hK _ _ ⟨HSX.out, ?_⟩⟩
    clear hK
    refine onlyH (o := ?o13) 12 (by kernel_rfl) ?h13 ?r13
    case h13 => simp only [List.getElem?_toArray, List.getElem?_cons_succ, List.getElem?_cons_zero]; rfl
    intro K hK
    refine op_value v8 rfl (by go_simp) ⟨_, by simp [Act.put]; rfl, hK _ _ ⟨HSX.out, ?_⟩⟩
    clear hK
    refine wpAnyH_done (by kernel_rfl) ?_ _
    go_wp2
    go_ret
    rw [← HB.out.2.1]
    exact ⟨_, rfl, HF.out⟩
  case s10 =>
    intro K hK
    refine op_call1 44 _ _ Tryz.f44 (fun v w' => w'.ownsRow Y.heap.size 3 1 v ys.length (ys.map (Value.int .i64)) ∧ Below Y.heap.size Y w') rfl rfl Tryz.func44 (by kernel_rfl) (by kernel_rfl) ((numbers_any ys Y HB.out.1).mono (by rintro e w' ⟨u, rfl, h1, h2⟩; exact ⟨_, rfl, h1, h2⟩)) ?_
    rintro u W4 ⟨hu, hb4⟩
    obtain ⟨gu, cu, rfl, _⟩ := own_shape7 hu (by rw [HB.out.1]; omega)
    rw [HB.out.1] at hu ⊢
    have HS3 : Hid (ItHeld w.heap.size #[.int .i64 x.seq, .int .i64 x.cls, .int .i64 x.key, .int .i64 x.window, .int .i64 x.sk.count, .int .i64 x.sk.sum, .int .i64 x.sk.min, .int .i64 x.sk.max, .slice a1 n1 c1, .slice a2 n2 c2, .slice a3 n3 c3] w1.heap.size ys W4 ∧ Below w.heap.size w W4 ∧ W4.ownsRow Y.heap.size 3 1 (.slice (some ⟨gu, 0, none⟩) 28 cu) 28 (ys.map (Value.int .i64))) := ⟨⟨HB2.out.1.1.below hb4, HB2.out.1.2.below hb4⟩, Below.next HB2.out.2 hb4, hu⟩
    refine ⟨_, by simp [Act.put]; rfl, hK _ _ ⟨HS3.out.1, ?_⟩⟩
    clear hK hu hb4 HB2
    refine onlyH (o := ?o14) 8 (by kernel_rfl) ?h14 ?r14
    case h14 => simp only [List.getElem?_toArray, List.getElem?_cons_succ, List.getElem?_cons_zero]; rfl
    intro K hK
    have hY1 : w.heap.size < W4.heap.size := HS3.out.1.1.lt
    have hY2 : w1.heap.size < W4.heap.size := HS3.out.1.2.lt
    have HL : Hid ((W4.alloc (.cells #[.int .i64 x.seq, .int .i64 x.cls, .int .i64 x.key, .int .i64 x.window] 3)).ownsRow w.heap.size 3 1 (.slice (some ⟨W4.heap.size, 0, none⟩) 4 4) 4 ([x.seq, x.cls, x.key, x.window].map (Value.int .i64))) := World.ownsRow_lit W4 #[.int .i64 x.seq, .int .i64 x.cls, .int .i64 x.key, .int .i64 x.window] 4 HS3.out.2.1.size (by unfold maxLen; omega) rfl
    have bY : Below W4.heap.size W4 (W4.alloc (.cells #[.int .i64 x.seq, .int .i64 x.cls, .int .i64 x.key, .int .i64 x.window] 3)) := (Below.refl _ _).alloc (Nat.le_refl _) _
    have HO : Hid ((W4.alloc (.cells #[.int .i64 x.seq, .int .i64 x.cls, .int .i64 x.key, .int .i64 x.window] 3)).ownsRow w.heap.size 3 1 (.slice (some ⟨W4.heap.size, 0, none⟩) 4 4) 4 ([x.seq, x.cls, x.key, x.window].map (Value.int .i64)) ∧ (∀ j u, (ys.map (Value.int .i64))[j]? = some u → (W4.alloc (.cells #[.int .i64 x.seq, .int .i64 x.cls, .int .i64 x.key, .int .i64 x.window] 3)).cell? ((⟨gu, 0, none⟩ : Addr).add j) = some u) ∧ Below w.heap.size w (W4.alloc (.cells #[.int .i64 x.seq, .int .i64 x.cls, .int .i64 x.key, .int .i64 x.window] 3))) := ⟨HL.out, own_news (ownsRow_below HS3.out.2.2 bY), Below.next HS3.out.2.1 bY⟩
    have HSS : Hid (ItHeld w.heap.size #[.int .i64 x.seq, .int .i64 x.cls, .int .i64 x.key, .int .i64 x.window, .int .i64 x.sk.count, .int .i64 x.sk.sum, .int .i64 x.sk.min, .int .i64 x.sk.max, .slice a1 n1 c1, .slice a2 n2 c2, .slice a3 n3 c3] w1.heap.size ys (W4.alloc (.cells #[.int .i64 x.seq, .int .i64 x.cls, .int .i64 x.key, .int .i64 x.window] 3))) := ⟨HS3.out.1.1.below bY, HS3.out.1.2.below bY⟩
    refine op_turn (.slice (some ⟨W4.heap.size, 0, none⟩) 4 4) (W4.alloc (.cells #[.int .i64 x.seq, .int .i64 x.cls, .int .i64 x.key, .int .i64 x.window] 3)) rfl (by go_simp) ⟨_, by simp [Act.put]; rfl, hK _ _ ⟨HSS.out, ?_⟩⟩
    clear hK bY HL HS3
    obtain ⟨Z, hZ⟩ : ∃ Z, Z = W4.alloc (.cells #[.int .i64 x.seq, .int .i64 x.cls, .int .i64 x.key, .int .i64 x.window] 3) := ⟨_, rfl⟩
    rw [← hZ] at HO HSS ⊢
    clear hZ
    refine onlyH (o := ?o15) 11 (by kernel_rfl) ?h15 ?r15
    case h15 => simp only [List.getElem?_toArray, List.getElem?_cons_succ, List.getElem?_cons_zero]; rfl
    intro K hK
    refine op_append7 _ _ 25 rfl rfl w.heap.size 3 i0 (.int .i64 0) 1 8 Tryz.underlying25 hi hz0 hz1 hz2 rfl (by decide) _ _ _ rfl HO.out.1 ⟨gu, 0, none⟩ 28 cu (ys.map (Value.int .i64)) rfl (by simp [HB.out.1]) HO.out.2.1 (ints_one _) (by unfold maxLen; simp) (by simp) HO.out.2.2.size ?_
    intro v8 w8 hown hgrow
    have HF : Hid (w8.ownsRow w.heap.size 3 1 v8 32 (([x.seq, x.cls, x.key, x.window] ++ ys).map (Value.int .i64)) ∧ Below w.heap.size w w8) := ⟨by rw [List.map_append]; exact hown, HO.out.2.2.grown hgrow HO.out.2.2.size (fun g hg => (HO.out.1.lt g hg).1)⟩
    have bg : Below W4.heap.size Z w8 := (Below.refl _ _).grown hgrow (by have := HO.out.1.lt W4.heap.size rfl; omega) (fun g hg => by cases hg; exact Nat.le_refl _)
    have HSX : Hid (ItHeld w.heap.size #[.int .i64 x.seq, .int .i64 x.cls, .int .i64 x.key, .int .i64 x.window, .int .i64 x.sk.count, .int .i64 x.sk.sum, .int .i64 x.sk.min, .int .i64 x.sk.max, .slice a1 n1 c1, .slice a2 n2 c2, .slice a3 n3 c3] w1.heap.size ys w8) := ⟨HSS.out.1.agree (bg.block _ hY1), HSS.out.2.agree (bg.block _ hY2)⟩
    clear hown hgrow HO bg
    refine ⟨_, by simp [Act.put]; rfl, hK _ _ ⟨HSX.out, ?_⟩⟩
    clear hK
    refine onlyH (o := ?o16) 12 (by kernel_rfl) ?h16 ?r16
    case h16 => simp only [List.getElem?_toArray, List.getElem?_cons_succ, List.getElem?_cons_zero]; rfl
    intro K hK
    refine op_value v8 rfl (by go_simp) ⟨_, by simp [Act.put]; rfl, hK _ _ ⟨HSX.out, ?_⟩⟩
    clear hK
    refine wpAnyH_done (by kernel_rfl) ?_ _
    go_wp2
    go_ret
    rw [← HB.out.2.1]
    exact ⟨_, rfl, HF.out⟩
set_option maxRecDepth 100000 in
set_option maxHeartbeats 4000000 in
theorem crcBytes_any (a : Option Addr) (len cap : Nat) (zs : List Int) (w : World) (h : RdB w a len zs) (hlen : len ≤ 1048576) :
    Calls Tryz.prog 24 #[.slice a len cap] w fun e w' => e = .returned (.slice (some ⟨w.heap.size, 0, none⟩) 4 4) ∧ w' = w.alloc (.cells ((sumOf zs).map (Value.int .u8)).toArray 5) := by
  have HR : Hid (RdB w a len zs) := h
  have hc := crcOf_range zs h.range
  clear h
  go_enter Tryz.func24, Tryz.ntmps24
  go_wp2_with fail
  refine (crcImpl_any a len cap zs _ HR.out hlen).mono ?_
  rintro e w1 ⟨rfl, hw1⟩
  have hw1' := hw1.symm
  subst hw1'
  clear hw1
  obtain ⟨c, hcc⟩ : ∃ c, c = crcOf zs := ⟨_, rfl⟩
  rw [show bits .xor .i64 (crc64 zs) 4294967295 = c from hcc.symm]
  rw [← hcc] at hc
  have HC : Hid (c = crcOf zs) := hcc
  clear hcc
  go_wp2
  go_ret
  refine ⟨rfl, ?_⟩
  unfold sumOf
  rw [← HC.out]
  simp
end Go.Proofs.YtfbfklgjccbplabGreat
/- The walks through the program's sketchOfNumbers and SketchOf. No statement of the seat is proved here. -/
namespace Go.Proofs.YtfbfklgjccbplabGreat
open Go.RowKit
/-- These numbers are that summary's; or no summary's. -/
def SkN (l : List Int) (s : Sk) (d : Bool) : Prop := if d = true then l.length = 28 ∧ s = skOf l ∧ s.ok = true else s = Sk.zero ∧ ¬ (l.length = 28 ∧ (skOf l).ok = true)
theorem rdI_own_cap {w : World} {B e n : Nat} {v : Value} {zs : List Int} (h : w.ownsRow B e 1 v n (zs.map (Value.int .i64))) : ∃ a cap F, v = .slice a n cap ∧ RdI w a n zs F ∧ n ≤ cap := by
  obtain ⟨a, cap, F, rfl, hr, _⟩ := rdI_of_own h
  refine ⟨a, cap, F, rfl, hr, ?_⟩
  rcases h.2 with ⟨_, h0⟩ | ⟨g, c, cur, h1, _, _, h2, _⟩
  · omega
  · cases h1; exact h2
theorem skN_bad {l : List Int} (h : ¬ (l.length = 28 ∧ (skOf l).ok = true)) : SkN l Sk.zero false := (if_neg (by simp)).mpr ⟨rfl, h⟩
theorem skN_yes {l : List Int} (h1 : l.length = 28) (h2 : (skOf l).ok = true) : SkN l (skOf l) true := (if_pos rfl).mpr ⟨h1, rfl, h2⟩
theorem num_splice {l : List Int} (h : l.length = 28) : splice (splice (splice (splice (([l.getD 0 0, l.getD 1 0, l.getD 2 0, l.getD 3 0] ++ List.replicate 24 0).map (Value.int .i64)) 4 (((l.drop 4).take 8).map (Value.int .i64))) 12 (((l.drop 12).take 8).map (Value.int .i64))) 20 (((l.drop 20).take 4).map (Value.int .i64))) 24 (((l.drop 24).take 4).map (Value.int .i64)) = l.map (Value.int .i64) := by
  have e := tl_map (skOf l) (by simp [skOf]; omega) (by simp [skOf]; omega) (by simp [skOf]; omega) (by simp [skOf]; omega)
  have t : (skOf l).tl = l := by rw [tl_nums (skOf_lens h), skOf_nums h]
  rw [t] at e
  exact e
set_option maxRecDepth 200000 in
set_option maxHeartbeats 8000000 in
theorem sketchOfNumbers_any (a : Option Addr) (len cap : Nat) (l : List Int) (F : List Nat) (w : World) (h : RdI w a len l F) (hlen : len ≤ 1048576) (hcap : len ≤ cap) :
    Calls Tryz.prog 42 #[.slice a len cap] w fun e w' => NewSk2 w (SkN l) e w' := by
  have HL : Hid (l.length = len) := h.length
  have bR : Below w.heap.size w (w.alloc (.cells #[.int .i64 0, .int .i64 0, .int .i64 0, .int .i64 0, .slice none 0 0, .slice none 0 0, .slice none 0 0] 28)) := (Below.refl _ _).alloc (Nat.le_refl _) _
  have HT : Hid (Blk (w.alloc (.cells #[.int .i64 0, .int .i64 0, .int .i64 0, .int .i64 0, .slice none 0 0, .slice none 0 0, .slice none 0 0] 28)) w.heap.size #[.int .i64 0, .int .i64 0, .int .i64 0, .int .i64 0, .slice none 0 0, .slice none 0 0, .slice none 0 0] 28 ∧ Below w.heap.size w (w.alloc (.cells #[.int .i64 0, .int .i64 0, .int .i64 0, .int .i64 0, .slice none 0 0, .slice none 0 0, .slice none 0 0] 28))) := ⟨Blk.made _ _ _, bR⟩
  clear bR
  by_cases hne : len = 28
  rotate_left
  · have hneb : ((len : Int) != 28) = true := by simpa using (by omega : ¬ (len : Int) = 28)
    have HV : Hid (SkN l Sk.zero false) := skN_bad (by rw [HL.out]; omega)
    clear h hne
    go_enter Tryz.func42, Tryz.ntmps42
    go_wp2_with (first | go_skip | (with_reducible refine stopStore 28 rfl ?_))
    refine store_known 28 w.heap.size _ #[.int .i64 0, .int .i64 0, .int .i64 0, .int .i64 0, .slice none 0 0, .slice none 0 0, .slice none 0 0] 28 HT.out.1 rfl rfl rfl rfl infoSkI rfl (by simp [Value.oneCell']) ?_
    go_wp2
    refine bodyPost_ret (results_row_tmp Tryz.results42 _ _ w.heap.size _ _ _ _ rfl HT.out.1.setRow Tryz.underlying28 rfl infoSkI) rfl ?_
    exact ⟨_, Sk.zero, false, [], rfl, rdSk_zero7 _, Own.nil, below_setRow HT.out.2 (Nat.le_refl _) _, HV.out⟩
  subst hne
  have hneb : (((28 : Nat) : Int) != 28) = false := by simp
  obtain ⟨b, off, rfl⟩ := h.addr (by omega)
  have HR : Hid (RdI w (some ⟨b, off, none⟩) 28 l F) := h
  obtain ⟨x0, hx0⟩ : ∃ x, x = l.getD 0 0 := ⟨_, rfl⟩
  obtain ⟨x1, hx1⟩ : ∃ x, x = l.getD 1 0 := ⟨_, rfl⟩
  obtain ⟨x2, hx2⟩ : ∃ x, x = l.getD 2 0 := ⟨_, rfl⟩
  obtain ⟨x3, hx3⟩ : ∃ x, x = l.getD 3 0 := ⟨_, rfl⟩
  have HX : Hid (x0 = l.getD 0 0 ∧ x1 = l.getD 1 0 ∧ x2 = l.getD 2 0 ∧ x3 = l.getD 3 0) := ⟨hx0, hx1, hx2, hx3⟩
  have HB0 : Hid (∀ W, Below w.heap.size w W → NumHeld b off x0 x1 x2 x3 W) := by
    intro W hb
    have r := HR.out.below hb
    rcases r.cells with ⟨h0, _⟩ | ⟨b', off', _, e, _, hc⟩
    · omega
    · cases e
      exact ⟨by rw [hx0]; exact hc 0 (by omega), by rw [hx1]; exact hc 1 (by omega), by rw [hx2]; exact hc 2 (by omega), by rw [hx3]; exact hc 3 (by omega)⟩
  have HK : Hid (∀ W, Below w.heap.size w W → ∀ k n, k + n ≤ 28 → 0 < n → ∃ ad, (some ⟨b, off + k, none⟩ : Option Addr) = some ad ∧ ∀ j v, (((l.drop k).take n).map (Value.int .i64))[j]? = some v → W.cell? (ad.add j) = some v) := by
    intro W hb k n hkn hn
    refine ⟨_, rfl, fun j v hj => ?_⟩
    have r := HR.out.below hb
    rcases r.cells with ⟨h0, _⟩ | ⟨b', off', _, e, _, hc⟩
    · omega
    · cases e
      rw [List.getElem?_map, Option.map_eq_some_iff] at hj
      obtain ⟨x, hj, rfl⟩ := hj
      have hjn : j < n := by
        have := (List.getElem?_eq_some_iff.1 hj).1
        rw [List.length_take] at this
        omega
      rw [List.getElem?_take, if_pos hjn, List.getElem?_drop] at hj
      rw [show (⟨b, off + k, none⟩ : Addr).add j = ⟨b, off + (k + j), none⟩ from by cases j <;> simp [Addr.add, Nat.add_assoc], hc (k + j) (by omega)]
      simp [hj]
  clear h hx0 hx1 hx2 hx3
  go_enter Tryz.func42, Tryz.ntmps42
  go_wp2
  obtain ⟨W0, hW0⟩ : ∃ W, W = w.alloc (.cells #[.int .i64 0, .int .i64 0, .int .i64 0, .int .i64 0, .slice none 0 0, .slice none 0 0, .slice none 0 0] 28) := ⟨_, rfl⟩
  rw [← hW0] at HT ⊢
  clear hW0
  have HS : Hid (NumHeld b off x0 x1 x2 x3 W0.drew ∧ Below w.heap.size w W0.drew ∧ Blk W0.drew w.heap.size #[.int .i64 0, .int .i64 0, .int .i64 0, .int .i64 0, .slice none 0 0, .slice none 0 0, .slice none 0 0] 28) := ⟨HB0.out _ HT.out.2.drew, HT.out.2.drew, HT.out.1.drew⟩
  refine wp_region_held (S := NumHeld b off x0 x1 x2 x3) (by kernel_rfl) ?_
  change wpAnyH _ _ _ _ _ _ _ _ (World.drew _)
  refine takeH (o := ?o1) 0 (.slice (some ⟨b, off, none⟩) 28 cap) ?h1 ?r1
  case h1 => simp only [List.getElem?_toArray, List.getElem?_cons_zero]; rfl
  refine ⟨_, by simp [Act.put]; rfl, by kernel_rfl, by kernel_rfl, by kernel_rfl, fun _ _ _ h => h, (.inl ⟨rfl, fun W _ => by go_simp⟩), HS.out.1, ?_⟩
  refine takeH (o := ?o2) 1 (.pointer (some ⟨b, off, none⟩)) ?h2 ?r2
  case h2 => simp only [List.getElem?_toArray, List.getElem?_cons_succ, List.getElem?_cons_zero]; rfl
  refine ⟨_, by simp [Act.put]; rfl, by kernel_rfl, by kernel_rfl, by kernel_rfl, fun _ _ _ h => h, (.inl ⟨rfl, fun W _ => by go_simp⟩), HS.out.1, ?_⟩
  refine takeH (o := ?o3) 2 (.int .i64 x0) ?h3 ?r3
  case h3 => simp only [List.getElem?_toArray, List.getElem?_cons_succ, List.getElem?_cons_zero]; rfl
  refine ⟨_, by simp [Act.put]; rfl, by kernel_rfl, by kernel_rfl, by kernel_rfl, fun _ _ _ h => h, (.inl ⟨rfl, fun W hW => by have c := hW.1; go_simp⟩), HS.out.1, ?_⟩
  refine takeH (o := ?o4) 3 (.slice (some ⟨b, off, none⟩) 28 cap) ?h4 ?r4
  case h4 => simp only [List.getElem?_toArray, List.getElem?_cons_succ, List.getElem?_cons_zero]; rfl
  refine ⟨_, by simp [Act.put]; rfl, by kernel_rfl, by kernel_rfl, by kernel_rfl, fun _ _ _ h => h, (.inl ⟨rfl, fun W _ => by go_simp⟩), HS.out.1, ?_⟩
  refine takeH (o := ?o5) 4 (.pointer (some ⟨b, off + 1, none⟩)) ?h5 ?r5
  case h5 => simp only [List.getElem?_toArray, List.getElem?_cons_succ, List.getElem?_cons_zero]; rfl
  refine ⟨_, by simp [Act.put]; rfl, by kernel_rfl, by kernel_rfl, by kernel_rfl, fun _ _ _ h => h, (.inl ⟨rfl, fun W _ => by go_simp⟩), HS.out.1, ?_⟩
  refine takeH (o := ?o6) 5 (.int .i64 x1) ?h6 ?r6
  case h6 => simp only [List.getElem?_toArray, List.getElem?_cons_succ, List.getElem?_cons_zero]; rfl
  refine ⟨_, by simp [Act.put]; rfl, by kernel_rfl, by kernel_rfl, by kernel_rfl, fun _ _ _ h => h, (.inl ⟨rfl, fun W hW => by have c := hW.2.1; go_simp⟩), HS.out.1, ?_⟩
  refine takeH (o := ?o7) 6 (.slice (some ⟨b, off, none⟩) 28 cap) ?h7 ?r7
  case h7 => simp only [List.getElem?_toArray, List.getElem?_cons_succ, List.getElem?_cons_zero]; rfl
  refine ⟨_, by simp [Act.put]; rfl, by kernel_rfl, by kernel_rfl, by kernel_rfl, fun _ _ _ h => h, (.inl ⟨rfl, fun W _ => by go_simp⟩), HS.out.1, ?_⟩
  refine takeH (o := ?o8) 7 (.pointer (some ⟨b, off + 2, none⟩)) ?h8 ?r8
  case h8 => simp only [List.getElem?_toArray, List.getElem?_cons_succ, List.getElem?_cons_zero]; rfl
  refine ⟨_, by simp [Act.put]; rfl, by kernel_rfl, by kernel_rfl, by kernel_rfl, fun _ _ _ h => h, (.inl ⟨rfl, fun W _ => by go_simp⟩), HS.out.1, ?_⟩
  refine takeH (o := ?o9) 8 (.int .i64 x2) ?h9 ?r9
  case h9 => simp only [List.getElem?_toArray, List.getElem?_cons_succ, List.getElem?_cons_zero]; rfl
  refine ⟨_, by simp [Act.put]; rfl, by kernel_rfl, by kernel_rfl, by kernel_rfl, fun _ _ _ h => h, (.inl ⟨rfl, fun W hW => by have c := hW.2.2.1; go_simp⟩), HS.out.1, ?_⟩
  refine takeH (o := ?o10) 9 (.slice (some ⟨b, off, none⟩) 28 cap) ?h10 ?r10
  case h10 => simp only [List.getElem?_toArray, List.getElem?_cons_succ, List.getElem?_cons_zero]; rfl
  refine ⟨_, by simp [Act.put]; rfl, by kernel_rfl, by kernel_rfl, by kernel_rfl, fun _ _ _ h => h, (.inl ⟨rfl, fun W _ => by go_simp⟩), HS.out.1, ?_⟩
  refine takeH (o := ?o11) 10 (.pointer (some ⟨b, off + 3, none⟩)) ?h11 ?r11
  case h11 => simp only [List.getElem?_toArray, List.getElem?_cons_succ, List.getElem?_cons_zero]; rfl
  refine ⟨_, by simp [Act.put]; rfl, by kernel_rfl, by kernel_rfl, by kernel_rfl, fun _ _ _ h => h, (.inl ⟨rfl, fun W _ => by go_simp⟩), HS.out.1, ?_⟩
  refine takeH (o := ?o12) 11 (.int .i64 x3) ?h12 ?r12
  case h12 => simp only [List.getElem?_toArray, List.getElem?_cons_succ, List.getElem?_cons_zero]; rfl
  refine ⟨_, by simp [Act.put]; rfl, by kernel_rfl, by kernel_rfl, by kernel_rfl, fun _ _ _ h => h, (.inl ⟨rfl, fun W hW => by have c := hW.2.2.2; go_simp⟩), HS.out.1, ?_⟩
  refine takeH (o := ?o13) 12 (.agg (tc ([x0, x1, x2, x3] ++ List.replicate 24 0))) ?h13 ?r13
  case h13 => simp only [List.getElem?_toArray, List.getElem?_cons_succ, List.getElem?_cons_zero]; rfl
  refine ⟨_, by simp [Act.put]; rfl, by kernel_rfl, by kernel_rfl, by kernel_rfl, fun _ _ _ h => h, (.inl ⟨rfl, fun W _ => by go_simp; rfl⟩), HS.out.1, ?_⟩
  refine onlyH (o := ?o14) 13 (by kernel_rfl) ?h14 ?r14
  case h14 => simp only [List.getElem?_toArray, List.getElem?_cons_succ, List.getElem?_cons_zero]; rfl
  intro K hK
  have bA : Below W0.drew.heap.size W0.drew (W0.drew.alloc (.cells (tc (List.replicate 28 0)) 75)) := (Below.refl _ _).alloc (Nat.le_refl _) _
  have HA : Hid (Below w.heap.size w (W0.drew.alloc (.cells (tc (List.replicate 28 0)) 75)) ∧ Blk (W0.drew.alloc (.cells (tc (List.replicate 28 0)) 75)) w.heap.size #[.int .i64 0, .int .i64 0, .int .i64 0, .int .i64 0, .slice none 0 0, .slice none 0 0, .slice none 0 0] 28 ∧ Blk (W0.drew.alloc (.cells (tc (List.replicate 28 0)) 75)) W0.heap.size (tc (List.replicate 28 0)) 75) := ⟨Below.next HS.out.2.1 bA, HS.out.2.2.below bA, Blk.made W0.drew _ _⟩
  refine op_turn (.pointer (some ⟨W0.heap.size, 0, none⟩)) (W0.drew.alloc (.cells (tc (List.replicate 28 0)) 75)) rfl (by go_simp; rfl) ⟨_, by simp [Act.put]; rfl, hK _ _ ⟨HB0.out _ HA.out.1, ?_⟩⟩
  clear hK bA
  refine onlyH (o := ?o15) 14 (by kernel_rfl) ?h15 ?r15
  case h15 => simp only [List.getElem?_toArray, List.getElem?_cons_succ, List.getElem?_cons_zero]; rfl
  intro K hK
  have lt0 : w.heap.size < W0.heap.size := HT.out.1.lt
  have hbS : Below w.heap.size w ((W0.drew.alloc (.cells (tc (List.replicate 28 0)) 75)).setRow W0.heap.size (tc ([x0, x1, x2, x3] ++ List.replicate 24 0))) := below_setRow HA.out.1 (by omega) _
  refine op_store 75 W0.heap.size (tc (List.replicate 28 0)) (tc ([x0, x1, x2, x3] ++ List.replicate 24 0)) 75 rfl rfl rfl rfl HA.out.2.2 (tallySize rfl) rfl (tc_one _) ⟨_, by simp [Act.put]; rfl, hK _ _ ⟨HB0.out _ hbS, ?_⟩⟩
  clear hK
  refine wpAnyH_done (by kernel_rfl) ?_ _
  obtain ⟨W1, hW1⟩ : ∃ W, W = (W0.drew.alloc (.cells (tc (List.replicate 28 0)) 75)).setRow W0.heap.size (tc ([x0, x1, x2, x3] ++ List.replicate 24 0)) := ⟨_, rfl⟩
  obtain ⟨L0, hL0⟩ : ∃ L, L = ([x0, x1, x2, x3] ++ List.replicate 24 0).map (Value.int .i64) := ⟨_, rfl⟩
  have HL0 : Hid (L0 = ([x0, x1, x2, x3] ++ List.replicate 24 0).map (Value.int .i64)) := hL0
  have HG1 : Hid (W1.heap[W0.heap.size]? = some (.cells L0.toArray 75 (0, 0)) ∧ L0.length = 28) := ⟨by rw [hW1, hL0]; exact HA.out.2.2.setRow, by rw [hL0]; rfl⟩
  have HQ1 : Hid (Below w.heap.size w W1 ∧ Blk W1 w.heap.size #[.int .i64 0, .int .i64 0, .int .i64 0, .int .i64 0, .slice none 0 0, .slice none 0 0, .slice none 0 0] 28) := ⟨by rw [hW1]; exact hbS, by rw [hW1]; exact HA.out.2.1.setRowOther (by omega)⟩
  rw [← hW1]
  obtain ⟨T, hT⟩ : ∃ T, T = W0.heap.size := ⟨_, rfl⟩
  rw [← hT] at HG1 lt0 ⊢
  clear HA hbS hW1 hL0 HS HT hT
  have HM : Hid (∀ k n, k + n ≤ 28 → (((l.drop k).take n).map (Value.int .i64)).length = n) := by
    intro k n hkn
    have := HL.out
    simp
    omega
  go_wp2_with (first | go_skip | (with_reducible refine stopCopy rfl ?_))
  refine Stop.intro (wpList_copy_splice rfl _ _ 25 25 rfl 3 Tryz.underlying25 infoInt1 _ _ _ _ _ _ rfl rfl T 4 L0 75 HG1.out.1 (((l.drop 4).take 8).map (Value.int .i64)) (by rw [HM.out 4 8 (by omega)]; rfl) (fun _ => ⟨rfl, HK.out _ HQ1.out.1 4 8 (by omega) (by omega)⟩) (by rw [HM.out 4 8 (by omega), HG1.out.2]; omega) (ints_one _) T W1 (Below.refl _ _) (Nat.le_refl _) ?_)
  intro W2 hg hb
  obtain ⟨L1, hL1⟩ : ∃ L, L = splice L0 4 (((l.drop 4).take 8).map (Value.int .i64)) := ⟨_, rfl⟩
  have HG2 : Hid (W2.heap[T]? = some (.cells L1.toArray 75 (0, 0)) ∧ L1.length = 28) := ⟨by rw [hL1]; exact hg.out, by rw [hL1, length_splice _ _ _ (by rw [HM.out 4 8 (by omega), HG1.out.2]; omega)]; exact HG1.out.2⟩
  have HL1 : Hid (L1 = splice L0 4 (((l.drop 4).take 8).map (Value.int .i64))) := hL1
  have HQ2 : Hid (Below w.heap.size w W2 ∧ Blk W2 w.heap.size #[.int .i64 0, .int .i64 0, .int .i64 0, .int .i64 0, .slice none 0 0, .slice none 0 0, .slice none 0 0] 28) := ⟨HQ1.out.1.trans (hb.mono (by omega)), HQ1.out.2.agree (hb.block _ (by omega))⟩
  rw [HM.out 4 8 (by omega)]
  clear hg hb hL1 HG1 HQ1
  go_wp2_with (first | go_skip | (with_reducible refine stopCopy rfl ?_))
  refine Stop.intro (wpList_copy_splice rfl _ _ 25 25 rfl 3 Tryz.underlying25 infoInt1 _ _ _ _ _ _ rfl rfl T 12 L1 75 HG2.out.1 (((l.drop 12).take 8).map (Value.int .i64)) (by rw [HM.out 12 8 (by omega)]; rfl) (fun _ => ⟨rfl, HK.out _ HQ2.out.1 12 8 (by omega) (by omega)⟩) (by rw [HM.out 12 8 (by omega), HG2.out.2]; omega) (ints_one _) T W2 (Below.refl _ _) (Nat.le_refl _) ?_)
  intro W3 hg hb
  obtain ⟨L2, hL2⟩ : ∃ L, L = splice L1 12 (((l.drop 12).take 8).map (Value.int .i64)) := ⟨_, rfl⟩
  have HG3 : Hid (W3.heap[T]? = some (.cells L2.toArray 75 (0, 0)) ∧ L2.length = 28) := ⟨by rw [hL2]; exact hg.out, by rw [hL2, length_splice _ _ _ (by rw [HM.out 12 8 (by omega), HG2.out.2]; omega)]; exact HG2.out.2⟩
  have HL2 : Hid (L2 = splice L1 12 (((l.drop 12).take 8).map (Value.int .i64))) := hL2
  have HQ3 : Hid (Below w.heap.size w W3 ∧ Blk W3 w.heap.size #[.int .i64 0, .int .i64 0, .int .i64 0, .int .i64 0, .slice none 0 0, .slice none 0 0, .slice none 0 0] 28) := ⟨HQ2.out.1.trans (hb.mono (by omega)), HQ2.out.2.agree (hb.block _ (by omega))⟩
  rw [HM.out 12 8 (by omega)]
  clear hg hb hL2 HG2 HQ2
  go_wp2
  refine wp_loop_rounds 3 ?_
  rw [rounds_succ]
  go_wp2_with (first | go_skip | (with_reducible refine stopCopy rfl ?_))
  refine Stop.intro (wpList_copy_splice rfl _ _ 25 25 rfl 3 Tryz.underlying25 infoInt1 _ _ _ _ _ _ rfl rfl T 20 L2 75 HG3.out.1 (((l.drop 20).take 4).map (Value.int .i64)) (by rw [HM.out 20 4 (by omega)]; rfl) (fun _ => ⟨rfl, HK.out _ HQ3.out.1 20 4 (by omega) (by omega)⟩) (by rw [HM.out 20 4 (by omega), HG3.out.2]; omega) (ints_one _) T W3 (Below.refl _ _) (Nat.le_refl _) ?_)
  intro W4 hg hb
  obtain ⟨L3, hL3⟩ : ∃ L, L = splice L2 20 (((l.drop 20).take 4).map (Value.int .i64)) := ⟨_, rfl⟩
  have HG4 : Hid (W4.heap[T]? = some (.cells L3.toArray 75 (0, 0)) ∧ L3.length = 28) := ⟨by rw [hL3]; exact hg.out, by rw [hL3, length_splice _ _ _ (by rw [HM.out 20 4 (by omega), HG3.out.2]; omega)]; exact HG3.out.2⟩
  have HL3 : Hid (L3 = splice L2 20 (((l.drop 20).take 4).map (Value.int .i64))) := hL3
  have HQ4 : Hid (Below w.heap.size w W4 ∧ Blk W4 w.heap.size #[.int .i64 0, .int .i64 0, .int .i64 0, .int .i64 0, .slice none 0 0, .slice none 0 0, .slice none 0 0] 28) := ⟨HQ3.out.1.trans (hb.mono (by omega)), HQ3.out.2.agree (hb.block _ (by omega))⟩
  rw [HM.out 20 4 (by omega)]
  clear hg hb hL3 HG3 HQ3
  go_wp2_with fail
  rw [rounds_succ]
  go_wp2_with (first | go_skip | (with_reducible refine stopCopy rfl ?_))
  refine Stop.intro (wpList_copy_splice rfl _ _ 25 25 rfl 3 Tryz.underlying25 infoInt1 _ _ _ _ _ _ rfl rfl T 24 L3 75 HG4.out.1 (((l.drop 24).take 4).map (Value.int .i64)) (by rw [HM.out 24 4 (by omega)]; rfl) (fun _ => ⟨rfl, HK.out _ HQ4.out.1 24 4 (by omega) (by omega)⟩) (by rw [HM.out 24 4 (by omega), HG4.out.2]; omega) (ints_one _) T W4 (Below.refl _ _) (Nat.le_refl _) ?_)
  intro W5 hg hb
  obtain ⟨L4, hL4⟩ : ∃ L, L = splice L3 24 (((l.drop 24).take 4).map (Value.int .i64)) := ⟨_, rfl⟩
  have HG5 : Hid (W5.heap[T]? = some (.cells L4.toArray 75 (0, 0)) ∧ L4.length = 28) := ⟨by rw [hL4]; exact hg.out, by rw [hL4, length_splice _ _ _ (by rw [HM.out 24 4 (by omega), HG4.out.2]; omega)]; exact HG4.out.2⟩
  have HL4 : Hid (L4 = splice L3 24 (((l.drop 24).take 4).map (Value.int .i64))) := hL4
  have HQ5 : Hid (Below w.heap.size w W5 ∧ Blk W5 w.heap.size #[.int .i64 0, .int .i64 0, .int .i64 0, .int .i64 0, .slice none 0 0, .slice none 0 0, .slice none 0 0] 28) := ⟨HQ4.out.1.trans (hb.mono (by omega)), HQ4.out.2.agree (hb.block _ (by omega))⟩
  rw [HM.out 24 4 (by omega)]
  clear hg hb hL4 HG4 HQ4
  have HG6 : Hid (Blk W5 T (tc l) 75) := by
    have e : L4 = l.map (Value.int .i64) := by
      rw [HL4.out, HL3.out, HL2.out, HL1.out, HL0.out, HX.out.1, HX.out.2.1, HX.out.2.2.1, HX.out.2.2.2]
      exact num_splice HL.out
    have := HG5.out.1
    rw [e] at this
    exact this
  clear HG5
  go_wp2_with fail
  all_goals
    rw [rounds_succ]
    go_wp2_with (first | go_skip | (with_reducible refine stopLoad 75 rfl ?_))
    refine load_known 75 T (tc l) 75 _ HG6.out rfl rfl rfl Tryz.underlying75 rfl (tallySize HL.out) ?_
    go_wp2_with fail
    refine (sketch_any l _ HL.out).mono ?_
    rintro e W6 ⟨vs, X, rfl, rs, os, bs⟩
    obtain ⟨ds, rfl, hd7, hdone⟩ := rs.cells
    have HW6 : Hid (RdSk W6 (.agg ds) (skOf l) X ∧ Own W5.heap.size W6 X ∧ Below w.heap.size w W6 ∧ Blk W6 w.heap.size #[.int .i64 0, .int .i64 0, .int .i64 0, .int .i64 0, .slice none 0 0, .slice none 0 0, .slice none 0 0] 28 ∧ ds.size = 7 ∧ ds.all (·.oneCell') = true) := ⟨rs, os, Below.next HQ5.out.1 bs, HQ5.out.2.below bs, hd7, hdone⟩
    have lt5 : w.heap.size < W5.heap.size := HQ5.out.2.lt
    clear rs os bs hd7 hdone HG6 HQ5
    go_wp2_with (first | go_skip | (with_reducible refine stopStore 28 rfl ?_))
    refine store_fresh 28 W6.heap.size rfl #[.int .i64 0, .int .i64 0, .int .i64 0, .int .i64 0, .slice none 0 0, .slice none 0 0, .slice none 0 0] ds 28 rfl rfl rfl rfl (by rw [HW6.out.2.2.2.2.1]; exact infoSkI) (by rw [HW6.out.2.2.2.2.1]; rfl) HW6.out.2.2.2.2.2 ?_
    intro W7 hg7 hb7
    have HW7 : Hid (RdSk W7 (.agg ds) (skOf l) X ∧ Own W5.heap.size W7 X ∧ Below w.heap.size w W7 ∧ Blk W7 w.heap.size #[.int .i64 0, .int .i64 0, .int .i64 0, .int .i64 0, .slice none 0 0, .slice none 0 0, .slice none 0 0] 28 ∧ Blk W7 W6.heap.size ds 28 ∧ ds.size = 7 ∧ ds.all (·.oneCell') = true) := ⟨HW6.out.1.below hb7, HW6.out.2.1.below HW6.out.1.lt hb7, Below.next HW6.out.2.2.1 hb7, HW6.out.2.2.2.1.below hb7, hg7, HW6.out.2.2.2.2⟩
    clear hg7 hb7 HW6
    go_wp2_with (first | go_skip | (with_reducible refine stopLoad 28 rfl ?_))
    refine load_known 28 W6.heap.size ds 28 _ HW7.out.2.2.2.2.1 rfl rfl rfl Tryz.underlying28 rfl (by rw [HW7.out.2.2.2.2.2.1]; exact infoSkI) ?_
    go_wp2_with fail
    refine (okImpl_any _ (skOf l) X _ HW7.out.1 (wide_skOf HL.out)).mono ?_
    rintro e W8 ⟨rfl, hb8⟩
    have HW8 : Hid (RdSk W8 (.agg ds) (skOf l) X ∧ Own W5.heap.size W8 X ∧ Below w.heap.size w W8 ∧ Blk W8 w.heap.size #[.int .i64 0, .int .i64 0, .int .i64 0, .int .i64 0, .slice none 0 0, .slice none 0 0, .slice none 0 0] 28 ∧ Blk W8 W6.heap.size ds 28 ∧ ds.size = 7 ∧ ds.all (·.oneCell') = true) := ⟨HW7.out.1.below hb8, HW7.out.2.1.below HW7.out.1.lt hb8, Below.next HW7.out.2.2.1 hb8, HW7.out.2.2.2.1.below hb8, HW7.out.2.2.2.2.1.below hb8, HW7.out.2.2.2.2.2⟩
    clear hb8 HW7
    obtain ⟨d, hd⟩ : ∃ d, d = (skOf l).ok := ⟨_, rfl⟩
    rw [← hd]
    have HD : Hid (d = (skOf l).ok) := hd
    clear hd
    cases d
    · have HV : Hid (SkN l Sk.zero false) := skN_bad (fun q => by rw [← HD.out] at q; cases q.2)
      go_wp2_with (first | go_skip | (with_reducible refine stopStore 28 rfl ?_))
      refine store_known 28 w.heap.size _ #[.int .i64 0, .int .i64 0, .int .i64 0, .int .i64 0, .slice none 0 0, .slice none 0 0, .slice none 0 0] 28 HW8.out.2.2.2.1 rfl rfl rfl rfl infoSkI rfl (by simp [Value.oneCell']) ?_
      go_wp2
      refine bodyPost_ret (results_row_tmp Tryz.results42 _ _ w.heap.size _ _ _ _ rfl HW8.out.2.2.2.1.setRow Tryz.underlying28 rfl infoSkI) rfl ?_
      exact ⟨_, Sk.zero, false, [], rfl, rdSk_zero7 _, Own.nil, below_setRow HW8.out.2.2.1 (Nat.le_refl _) _, HV.out⟩
    have HV : Hid (SkN l (skOf l) true) := skN_yes HL.out HD.out.symm
    go_wp2_with (first | go_skip | (with_reducible refine stopLoad 28 rfl ?_))
    refine load_known 28 W6.heap.size ds 28 _ HW8.out.2.2.2.2.1 rfl rfl rfl Tryz.underlying28 rfl (by rw [HW8.out.2.2.2.2.2.1]; exact infoSkI) ?_
    go_wp2_with (first | go_skip | (with_reducible refine stopStore 28 rfl ?_))
    refine store_known 28 w.heap.size _ ds 28 HW8.out.2.2.2.1 rfl rfl rfl rfl (by rw [HW8.out.2.2.2.2.2.1]; exact infoSkI) (by rw [HW8.out.2.2.2.2.2.1]; rfl) HW8.out.2.2.2.2.2.2 ?_
    have nX : w.heap.size ∉ X := fun hx => by have := HW8.out.2.1.ge _ hx; omega
    have HF : Hid (RdSk (W8.setRow w.heap.size ds) (.agg ds) (skOf l) X ∧ Own w.heap.size (W8.setRow w.heap.size ds) X ∧ Below w.heap.size w (W8.setRow w.heap.size ds) ∧ Blk (W8.setRow w.heap.size ds) w.heap.size ds 28) := ⟨HW8.out.1.agree (Agree.row nX ds), (HW8.out.2.1.agree (Agree.row nX ds)).mono (by omega), below_setRow HW8.out.2.2.1 (Nat.le_refl _) _, HW8.out.2.2.2.1.setRow⟩
    have hds : (Tryz.prog.info? 28).map (·.size) = some ds.size := by rw [HW8.out.2.2.2.2.2.1]; exact infoSkI
    clear HW8 nX
    go_wp2
    refine bodyPost_ret (results_row_tmp Tryz.results42 _ _ w.heap.size _ _ _ _ rfl HF.out.2.2.2 Tryz.underlying28 rfl hds) rfl ?_
    exact ⟨_, skOf l, true, X, rfl, HF.out.1, HF.out.2.1, HF.out.2.2.1, HV.out⟩
theorem skIs_of {zs l : List Int} {s : Sk} {d : Bool} (h : AllIs zs l true) (k : SkN l s d) : SkIs zs s d := by
  unfold AllIs at h
  rw [if_pos rfl] at h
  unfold SkN at k
  cases d <;> simp only [if_true, Bool.false_eq_true, if_false] at k
  · rw [k.1]
    by_cases q : l.length = 28
    · exact skIs_bad h.2 h.1 (by cases e : (skOf l).ok; rfl; exact absurd ⟨q, e⟩ k.2)
    · exact skIs_long q h.2 h.1
  · rw [k.2.1]
    exact skIs_yes k.1 h.1 (by rw [← k.2.1]; exact k.2.2)
set_option maxRecDepth 200000 in
set_option maxHeartbeats 4000000 in
theorem sketchOfImpl_any (a : Option Addr) (len cap : Nat) (zs : List Int) (w : World) (h : RdB w a len zs) (hlen : len ≤ 1048576) (hcap : len ≤ cap) (ha : a = none → cap = 0) :
    Calls Tryz.prog 13 #[.slice a len cap] w fun e w' => NewSk2 w (SkIs zs) e w' := by
  have HR : Hid (RdB w a len zs ∧ len ≤ cap ∧ (a = none → cap = 0)) := ⟨h, hcap, ha⟩
  have HT : Hid (Blk (w.alloc (.cells #[.int .i64 0, .int .i64 0, .int .i64 0, .int .i64 0, .slice none 0 0, .slice none 0 0, .slice none 0 0] 28)) w.heap.size #[.int .i64 0, .int .i64 0, .int .i64 0, .int .i64 0, .slice none 0 0, .slice none 0 0, .slice none 0 0] 28 ∧ Below w.heap.size w (w.alloc (.cells #[.int .i64 0, .int .i64 0, .int .i64 0, .int .i64 0, .slice none 0 0, .slice none 0 0, .slice none 0 0] 28))) := ⟨Blk.made _ _ _, (Below.refl _ _).alloc (Nat.le_refl _) _⟩
  have hzl := h.length
  clear h hcap ha
  go_enter Tryz.func13, Tryz.ntmps13
  go_wp2_with fail
  refine (numbersOfBytes_any a len cap zs _ (HR.out.1.below HT.out.2) hlen HR.out.2.1 HR.out.2.2).mono ?_
  rintro e w1 ⟨⟨v, l, d, rfl, hown, hAll⟩, hb1⟩
  obtain ⟨a1, c1, X1, rfl, hr1, hc1⟩ := rdI_own_cap hown
  have HT1 : Hid (Blk w1 w.heap.size #[.int .i64 0, .int .i64 0, .int .i64 0, .int .i64 0, .slice none 0 0, .slice none 0 0, .slice none 0 0] 28 ∧ Below w.heap.size w w1 ∧ RdI w1 a1 l.length l X1 ∧ l.length ≤ c1 ∧ AllIs zs l d) := ⟨HT.out.1.below hb1, Below.next HT.out.2 hb1, hr1, hc1, hAll⟩
  have hll : l.length ≤ 1048576 := by have := (allIs_len hAll).1; omega
  clear hown hAll hb1 HT hr1 hc1 hzl
  cases d
  · have HV : Hid (SkIs zs Sk.zero false) := skIs_no (by have q := HT1.out.2.2.2.2; unfold AllIs at q; rw [if_neg (by simp)] at q; exact q.2)
    go_wp2_with (first | go_skip | (with_reducible refine stopStore 28 rfl ?_))
    refine store_known 28 w.heap.size _ #[.int .i64 0, .int .i64 0, .int .i64 0, .int .i64 0, .slice none 0 0, .slice none 0 0, .slice none 0 0] 28 HT1.out.1 rfl rfl rfl rfl infoSkI rfl (by simp [Value.oneCell']) ?_
    go_wp2
    refine bodyPost_ret (results_row_tmp Tryz.results13 _ _ w.heap.size _ _ _ _ rfl HT1.out.1.setRow Tryz.underlying28 rfl infoSkI) rfl ?_
    exact ⟨_, Sk.zero, false, [], rfl, rdSk_zero7 _, Own.nil, below_setRow HT1.out.2.1 (Nat.le_refl _) _, HV.out⟩
  obtain ⟨n1, hn1⟩ : ∃ n, n = l.length := ⟨_, rfl⟩
  rw [← hn1] at HT1 hll ⊢
  clear hn1
  go_wp2_with fail
  refine (sketchOfNumbers_any a1 n1 c1 l X1 _ HT1.out.2.2.1 hll HT1.out.2.2.2.1).mono ?_
  rintro e w2 ⟨v2, s, d, X, rfl, rs, os, bs, hR⟩
  obtain ⟨ds, rfl, hd7, hdone⟩ := rs.cells
  have HW2 : Hid (RdSk w2 (.agg ds) s X ∧ Own w1.heap.size w2 X ∧ Below w.heap.size w w2 ∧ Blk w2 w.heap.size #[.int .i64 0, .int .i64 0, .int .i64 0, .int .i64 0, .slice none 0 0, .slice none 0 0, .slice none 0 0] 28 ∧ ds.size = 7 ∧ ds.all (·.oneCell') = true ∧ SkIs zs s d) := ⟨rs, os, Below.next HT1.out.2.1 bs, HT1.out.1.below bs, hd7, hdone, skIs_of HT1.out.2.2.2.2 hR⟩
  have lt1 : w.heap.size < w1.heap.size := HT1.out.1.lt
  clear rs os bs hd7 hdone hR HT1
  go_wp2_with (first | go_skip | (with_reducible refine stopStore 28 rfl ?_))
  refine store_known 28 w.heap.size _ ds 28 HW2.out.2.2.2.1 rfl rfl rfl rfl (by rw [HW2.out.2.2.2.2.1]; exact infoSkI) (by rw [HW2.out.2.2.2.2.1]; rfl) HW2.out.2.2.2.2.2.1 ?_
  have nX : w.heap.size ∉ X := fun hx => by have := HW2.out.2.1.ge _ hx; omega
  have HF : Hid (RdSk (w2.setRow w.heap.size ds) (.agg ds) s X ∧ Own w.heap.size (w2.setRow w.heap.size ds) X ∧ Below w.heap.size w (w2.setRow w.heap.size ds) ∧ Blk (w2.setRow w.heap.size ds) w.heap.size ds 28 ∧ SkIs zs s d) := ⟨HW2.out.1.agree (Agree.row nX ds), (HW2.out.2.1.agree (Agree.row nX ds)).mono (by omega), below_setRow HW2.out.2.2.1 (Nat.le_refl _) _, HW2.out.2.2.2.1.setRow, HW2.out.2.2.2.2.2.2⟩
  have hds : (Tryz.prog.info? 28).map (·.size) = some ds.size := by rw [HW2.out.2.2.2.2.1]; exact infoSkI
  clear HW2 nX
  go_wp2
  refine bodyPost_ret (results_row_tmp Tryz.results13 _ _ w.heap.size _ _ _ _ rfl HF.out.2.2.2.1 Tryz.underlying28 rfl hds) rfl ?_
  exact ⟨_, s, d, X, rfl, HF.out.1, HF.out.2.1, HF.out.2.2.1, HF.out.2.2.2.2⟩
end Go.Proofs.YtfbfklgjccbplabGreat
/- The walk through the program's spansOfNumbers. No statement of the seat is proved here. -/
namespace Go.Proofs.YtfbfklgjccbplabGreat
open Go.RowKit
/-- These numbers are how many spans, these, and what stands behind; or they are not. -/
def SpansIs (l : List Int) (ps : Sp) (rest : List Int) (d : Bool) : Prop := if d = true then l = (ps.length : Int) :: (flat ps ++ rest) else ps = [] ∧ rest = [] ∧ ∀ (qs : Sp) (r : List Int), l ≠ (qs.length : Int) :: (flat qs ++ r)
theorem spans_no {l : List Int} (h : l.length = 0 ∨ (l.length : Int) - 1 < 2 * l.getD 0 0) : SpansIs l [] [] false := (if_neg (by simp)).mpr ⟨rfl, rfl, fun qs r e => by
  have a := congrArg List.length e
  simp only [List.length_cons, List.length_append, flat_length] at a
  have c : l.getD 0 0 = (qs.length : Int) := by rw [e]; rfl
  rw [c] at h
  omega⟩
def psOf (l : List Int) : Nat → Sp
  | 0 => []
  | k + 1 => psOf l k ++ [(l.getD (1 + 2 * k) 0, l.getD (2 + 2 * k) 0)]
theorem psOf_len (l : List Int) : ∀ k, (psOf l k).length = k
  | 0 => rfl
  | k + 1 => by rw [psOf, List.length_append, psOf_len l k]; rfl
theorem psOf_flat {l : List Int} : ∀ {k : Nat}, 1 + 2 * k ≤ l.length → l = l.getD 0 0 :: (flat (psOf l k) ++ l.drop (1 + 2 * k))
  | 0, h => by
    cases l with
    | nil => simp at h
    | cons a l => rfl
  | k + 1, h => by
    have i := psOf_flat (l := l) (k := k) (by omega)
    have e : l.drop (1 + 2 * k) = l.getD (1 + 2 * k) 0 :: l.getD (2 + 2 * k) 0 :: l.drop (1 + 2 * (k + 1)) := by
      rw [List.drop_eq_getElem_cons (show 1 + 2 * k < l.length by omega), List.drop_eq_getElem_cons (show 1 + 2 * k + 1 < l.length by omega)]
      rw [List.getD_eq_getElem?_getD, List.getElem?_eq_getElem (show 1 + 2 * k < l.length by omega), List.getD_eq_getElem?_getD, List.getElem?_eq_getElem (show 2 + 2 * k < l.length by omega)]
      congr 2
      congr 1; omega
    conv => lhs; rw [i, e]
    rw [psOf, flat_append]
    simp [flat]
theorem spans_yes {l : List Int} {n : Nat} (h0 : l.getD 0 0 = (n : Int)) (h : 1 + 2 * n ≤ l.length) : SpansIs l (psOf l n) (l.drop (1 + 2 * n)) true := (if_pos rfl).mpr (by rw [psOf_len, ← h0]; exact psOf_flat h)
def NewSpans (w : World) (len : Nat) (l : List Int) (e : Ending) (w' : World) : Prop := ∃ b n c a' l' c' ps rest d F G, e = .returned (.tuple #[.slice b n c, .slice a' l' c', .bool d]) ∧ RdP w' b n ps F ∧ Capd b n c ∧ Own w.heap.size w' F ∧ RdI w' a' l' rest G ∧ l' ≤ len ∧ l' ≤ c' ∧ SpansIs l ps rest d ∧ Below w.heap.size w w'
def TwoHeld (p o : Nat) (x y : Int) (W : World) : Prop := W.cell? ⟨p, o, none⟩ = some (.int .i64 x) ∧ W.cell? ⟨p, o + 1, none⟩ = some (.int .i64 y)
theorem RdI.behind {W : World} {b off n : Nat} {l : List Int} {F : List Nat} (h : RdI W (some ⟨b, off, none⟩) n l F) {k : Nat} (hk : k ≤ n) : ∃ G, RdI W (some ⟨b, off + k, none⟩) (n - k) (l.drop k) G := by
  have hl := h.length
  by_cases q : n - k = 0
  · exact ⟨[], by rw [List.length_drop]; omega, .inl ⟨q, rfl⟩⟩
  · rcases h.cells with ⟨h0, _⟩ | ⟨b', off', _, e, hF, hc⟩
    · omega
    · cases e
      refine ⟨F, by rw [List.length_drop]; omega, .inr ⟨b, off + k, by omega, rfl, hF, fun i hi => ?_⟩⟩
      rw [Nat.add_assoc, hc (k + i) (by omega)]
      simp
theorem RdI.nothing {W : World} {a : Option Addr} {l : List Int} (h : l = []) : RdI W a 0 l [] := by subst h; exact ⟨rfl, .inl ⟨rfl, rfl⟩⟩
set_option maxRecDepth 200000 in
set_option maxHeartbeats 8000000 in
theorem spansOfNumbers_any (a : Option Addr) (len cap : Nat) (l : List Int) (F : List Nat) (w : World) (h : RdI w a len l F) (hlen : len ≤ 1048576) (hcap : len ≤ cap) (hn : ∀ x ∈ l, InN x) :
    Calls Tryz.prog 63 #[.slice a len cap] w fun e w' => NewSpans w len l e w' := by
  obtain ⟨t0, hi, hz0, hz1, hz2⟩ := info_parts infoSpan
  have HL : Hid (l.length = len) := h.length
  by_cases h0 : len = 0
  · subst h0
    have HV : Hid (SpansIs l [] [] false) := spans_no (.inl HL.out)
    have hz : (((0 : Nat) : Int) == 0) = true := by simp
    clear h
    go_enter Tryz.func63, Tryz.ntmps63
    go_wp2
    go_ret3
    exact ⟨none, 0, 0, none, 0, 0, [], [], false, [], [], rfl, RdP.nil, ⟨fun _ => rfl, Nat.le_refl _⟩, Own.nil, RdI.nothing rfl, by omega, by omega, HV.out, Below.refl _ _⟩
  obtain ⟨b, off, rfl⟩ := h.addr (by omega)
  have hz : ((len : Int) == 0) = false := by simpa using (by omega : ¬ (len : Int) = 0)
  have HR : Hid (RdI w (some ⟨b, off, none⟩) len l F) := h
  have hmem : l.getD 0 0 ∈ l := mem_getD (d := 0) (by rw [HL.out]; omega)
  obtain ⟨x0, hx0⟩ : ∃ x, x = l.getD 0 0 := ⟨_, rfl⟩
  have c0 : w.cell? ⟨b, off, none⟩ = some (.int .i64 x0) := by
    rcases h.cells with ⟨q, _⟩ | ⟨b', off', _, e, _, hc⟩
    · omega
    · cases e; rw [hx0]; exact hc 0 (by omega)
  have hb0 : b < w.heap.size := World.block_lt_of_cell? _ _ c0
  have hin := hn _ hmem
  rw [← hx0] at hin
  have hi0 : 0 ≤ x0 := hin.1
  have HX0 : Hid (x0 = l.getD 0 0) := hx0
  clear h hmem hin hn hx0
  have hdiv : ((len : Int) - 1).tdiv 2 = ((len : Int) - 1) / 2 := Int.tdiv_eq_ediv_of_nonneg (by omega)
  by_cases hbig : ((len : Int) - 1) / 2 < x0
  · have hbd : decide (((len : Int) - 1) / 2 < x0) = true := dec_true hbig
    have HV : Hid (SpansIs l [] [] false) := spans_no (.inr (by rw [HL.out, ← HX0.out]; omega))
    go_enter Tryz.func63, Tryz.ntmps63
    go_wp2
    go_ret3
    exact ⟨none, 0, 0, none, 0, 0, [], [], false, [], [], rfl, RdP.nil, ⟨fun _ => rfl, Nat.le_refl _⟩, Own.nil, RdI.nothing rfl, by omega, by omega, HV.out, Below.refl _ _⟩
  have hbd : decide (((len : Int) - 1) / 2 < x0) = false := dec_false hbig
  obtain ⟨n, rfl⟩ := Int.eq_ofNat_of_zero_le hi0
  have hnl : 1 + 2 * n ≤ len := by omega
  have HV : Hid (SpansIs l (psOf l n) (l.drop (1 + 2 * n)) true) := spans_yes HX0.out.symm (by rw [HL.out]; exact hnl)
  have h1l : (1 : Int) ≤ (len : Int) := by omega
  by_cases hc1 : cap = 1
  · subst hc1
    obtain rfl : n = 0 := by omega
    obtain rfl : len = 1 := by omega
    have HZ : Hid (l.drop (1 + 2 * 0) = []) := List.eq_nil_of_length_eq_zero (by rw [List.length_drop, HL.out])
    go_enter Tryz.func63, Tryz.ntmps63
    go_wp2
    refine wp_loop_rounds 1 ?_
    rw [rounds_succ]
    go_wp2
    go_ret3
    exact ⟨none, 0, 0, _, 0, _, [], _, true, [], [], rfl, RdP.nil, ⟨fun _ => rfl, Nat.le_refl _⟩, Own.nil, RdI.nothing HZ.out, by omega, by omega, HV.out, Below.refl _ _⟩
  · go_enter Tryz.func63, Tryz.ntmps63
    go_wp2
    clear hdiv hbd hbig hz
    go_loopw [5, 6, 25] (fun v r i wr => ∃ (k : Nat) (ar : Option Addr) (cr : Nat) (G : List Nat), k ≤ n ∧ i = .int .i64 k ∧ r = .slice ar (len - 1 - 2 * k) cr ∧ len - 1 - 2 * k ≤ cr ∧ Hid (RdI w ar (len - 1 - 2 * k) (l.drop (1 + 2 * k)) G) ∧ Hid (wr.ownsRow w.heap.size 61 2 v k ((flat (psOf l k)).map (Value.int .i64)) ∧ Below w.heap.size w wr)) (fun _ _ i _ => n - (intOf i).toNat)
    case atStart =>
      obtain ⟨G, hG⟩ := HR.out.behind (k := 1) (by omega)
      exact ⟨0, _, _, G, by omega, rfl, rfl, by omega, hG, World.ownsRow_nil _ _ _ _, Below.refl _ _⟩
    case round =>
      obtain ⟨k, ar, cr, G, hk, rfl, rfl, hcr, HG, HO⟩ := hrel
      by_cases hlt : k < n
      · obtain ⟨p, o, rfl⟩ := HG.out.addr (by omega)
        obtain ⟨x, hx⟩ : ∃ x, x = l.getD (1 + 2 * k) 0 := ⟨_, rfl⟩
        obtain ⟨y, hy⟩ : ∃ x, x = l.getD (2 + 2 * k) 0 := ⟨_, rfl⟩
        have HPS : Hid (psOf l (k + 1) = psOf l k ++ [(x, y)]) := by show _ = _; rw [psOf, hx, hy]
        have HTW : Hid (∀ W, Below w.heap.size w W → TwoHeld p o x y W) := by
          intro W hb
          rcases (HG.out.below hb).cells with ⟨q, _⟩ | ⟨b', off', _, e, _, hc⟩
          · omega
          · cases e
            refine ⟨?_, ?_⟩
            · have := hc 0 (by omega)
              rw [Nat.add_zero] at this
              rw [this, hx]
              simp
            · have := hc 1 (by omega)
              rw [this, hy]
              simp [show 1 + 2 * k + 1 = 2 + 2 * k by omega]
        have HNX : Hid (∃ G', RdI w (some ⟨p, o + 2, none⟩) (len - 1 - 2 * (k + 1)) (l.drop (1 + 2 * (k + 1))) G') := by
          obtain ⟨G', g⟩ := HG.out.behind (k := 2) (by omega)
          refine ⟨G', ?_⟩
          rw [List.drop_drop, show 1 + 2 * k + 2 = 1 + 2 * (k + 1) by omega, show len - 1 - 2 * k - 2 = len - 1 - 2 * (k + 1) by omega] at g
          exact g
        have hI : (k : Int) < (n : Int) := by omega
        have hl0 : (0 : Int) < ((len - 1 - 2 * k : Nat) : Int) := by omega
        have hl1 : (1 : Int) < ((len - 1 - 2 * k : Nat) : Int) := by omega
        have hl2 : (2 : Int) ≤ ((len - 1 - 2 * k : Nat) : Int) := by omega
        obtain ⟨lr, hlr⟩ : ∃ z, z = len - 1 - 2 * k := ⟨_, rfl⟩
        rw [← hlr] at hcr hl0 hl1 hl2 ⊢
        have HLR : Hid (lr = len - 1 - 2 * k) := hlr
        clear hx hy HG hlr
        go_wp2
        have HS : Hid (TwoHeld p o x y wr.drew) := HTW.out _ HO.out.2.drew
        refine wp_region_held (S := TwoHeld p o x y) (by kernel_rfl) ?_
        change wpAnyH _ _ _ _ _ _ _ _ (World.drew _)
        refine takeH (o := ?o1) 0 (u5) ?h1 ?r1
        case h1 => simp only [List.getElem?_toArray, List.getElem?_cons_zero]; rfl
        refine ⟨_, by simp [Act.put]; rfl, by kernel_rfl, by kernel_rfl, by kernel_rfl, fun _ _ _ h => h, (.inl ⟨rfl, fun W _ => by go_simp⟩), HS.out, ?_⟩
        refine takeH (o := ?o2) 1 (.slice (some ⟨p, o, none⟩) lr cr) ?h2 ?r2
        case h2 => simp only [List.getElem?_toArray, List.getElem?_cons_succ, List.getElem?_cons_zero]; rfl
        refine ⟨_, by simp [Act.put]; rfl, by kernel_rfl, by kernel_rfl, by kernel_rfl, fun _ _ _ h => h, (.inl ⟨rfl, fun W _ => by go_simp⟩), HS.out, ?_⟩
        refine takeH (o := ?o3) 2 (.pointer (some ⟨p, o, none⟩)) ?h3 ?r3
        case h3 => simp only [List.getElem?_toArray, List.getElem?_cons_succ, List.getElem?_cons_zero]; rfl
        refine ⟨_, by simp [Act.put]; rfl, by kernel_rfl, by kernel_rfl, by kernel_rfl, fun _ _ _ h => h, (.inl ⟨rfl, fun W _ => by go_simp; intro h; omega⟩), HS.out, ?_⟩
        refine takeH (o := ?o4) 3 (.int .i64 x) ?h4 ?r4
        case h4 => simp only [List.getElem?_toArray, List.getElem?_cons_succ, List.getElem?_cons_zero]; rfl
        refine ⟨_, by simp [Act.put]; rfl, by kernel_rfl, by kernel_rfl, by kernel_rfl, fun _ _ _ h => h, (.inl ⟨rfl, fun W hW => by have c := hW.1; go_simp⟩), HS.out, ?_⟩
        refine takeH (o := ?o5) 4 (.slice (some ⟨p, o, none⟩) lr cr) ?h5 ?r5
        case h5 => simp only [List.getElem?_toArray, List.getElem?_cons_succ, List.getElem?_cons_zero]; rfl
        refine ⟨_, by simp [Act.put]; rfl, by kernel_rfl, by kernel_rfl, by kernel_rfl, fun _ _ _ h => h, (.inl ⟨rfl, fun W _ => by go_simp⟩), HS.out, ?_⟩
        refine takeH (o := ?o6) 5 (.pointer (some ⟨p, o + 1, none⟩)) ?h6 ?r6
        case h6 => simp only [List.getElem?_toArray, List.getElem?_cons_succ, List.getElem?_cons_zero]; rfl
        refine ⟨_, by simp [Act.put]; rfl, by kernel_rfl, by kernel_rfl, by kernel_rfl, fun _ _ _ h => h, (.inl ⟨rfl, fun W _ => by go_simp⟩), HS.out, ?_⟩
        refine takeH (o := ?o7) 6 (.int .i64 y) ?h7 ?r7
        case h7 => simp only [List.getElem?_toArray, List.getElem?_cons_succ, List.getElem?_cons_zero]; rfl
        refine ⟨_, by simp [Act.put]; rfl, by kernel_rfl, by kernel_rfl, by kernel_rfl, fun _ _ _ h => h, (.inl ⟨rfl, fun W hW => by have c := hW.2; go_simp⟩), HS.out, ?_⟩
        refine takeH (o := ?o8) 7 (.agg #[.int .i64 x, .int .i64 y]) ?h8 ?r8
        case h8 => simp only [List.getElem?_toArray, List.getElem?_cons_succ, List.getElem?_cons_zero]; rfl
        refine ⟨_, by simp [Act.put]; rfl, by kernel_rfl, by kernel_rfl, by kernel_rfl, fun _ _ _ h => h, (.inl ⟨rfl, fun W _ => by go_simp⟩), HS.out, ?_⟩
        refine onlyH (o := ?o9) 8 (by kernel_rfl) ?h9 ?r9
        case h9 => simp only [List.getElem?_toArray, List.getElem?_cons_succ, List.getElem?_cons_zero]; rfl
        intro K hK
        have bA : Below w.heap.size w (wr.drew.alloc (.cells #[.int .i64 x, .int .i64 y] 61)) := Below.allocW _ HO.out.2.drew (Nat.le_refl _)
        have HO1 : Hid ((wr.drew.alloc (.cells #[.int .i64 x, .int .i64 y] 61)).ownsRow w.heap.size 61 2 u5 k ((flat (psOf l k)).map (Value.int .i64)) ∧ Below w.heap.size w (wr.drew.alloc (.cells #[.int .i64 x, .int .i64 y] 61))) := ⟨World.ownsRow.alloc (w := wr.drew) HO.out.1 _, bA⟩
        refine op_turn (.slice (some ⟨wr.heap.size, 0, none⟩) 1 1) (wr.drew.alloc (.cells #[.int .i64 x, .int .i64 y] 61)) rfl (by go_simp) ⟨_, by simp [Act.put]; rfl, hK _ _ ⟨HTW.out _ bA, ?_⟩⟩
        clear hK bA
        refine onlyH (o := ?o10) 9 (by kernel_rfl) ?h10 ?r10
        case h10 => simp only [List.getElem?_toArray, List.getElem?_cons_succ, List.getElem?_cons_zero]; rfl
        intro K hK
        refine op_append7 _ _ 24 rfl rfl w.heap.size 61 t0 (.agg #[.int .i64 0, .int .i64 0]) 2 16 Tryz.underlying24 hi hz0 hz1 hz2 rfl (by decide) _ _ _ rfl HO1.out.1 ⟨wr.heap.size, 0, none⟩ 1 1 [.int .i64 x, .int .i64 y] rfl rfl (cell_new2 wr.drew (.int .i64 x) (.int .i64 y) _) (by intro u hu; simp at hu; rcases hu with rfl | rfl <;> rfl) (by unfold maxLen; omega) (by omega) HO1.out.2.size ?_
        intro v2 w2 hown hgrow
        have HO2 : Hid (w2.ownsRow w.heap.size 61 2 v2 (k + 1) ((flat (psOf l (k + 1))).map (Value.int .i64)) ∧ Below w.heap.size w w2) := by
          refine ⟨?_, HO1.out.2.grown hgrow HO1.out.2.size (fun g hg => (HO1.out.1.lt g hg).1)⟩
          rw [HPS.out, flat_append, List.map_append]
          exact hown
        clear hown hgrow HO1 HO
        refine ⟨_, by simp [Act.put]; rfl, hK _ _ ⟨HTW.out _ HO2.out.2, ?_⟩⟩
        clear hK
        refine onlyH (o := ?o11) 10 (by kernel_rfl) ?h11 ?r11
        case h11 => simp only [List.getElem?_toArray, List.getElem?_cons_succ, List.getElem?_cons_zero]; rfl
        intro K hK
        refine op_value v2 rfl (by go_simp) ⟨_, by simp [Act.put]; rfl, hK _ _ ⟨HTW.out _ HO2.out.2, ?_⟩⟩
        clear hK
        refine wpAnyH_done (by kernel_rfl) ?_ _
        go_wp2
        all_goals
          go_roundw
          case rel =>
            by_cases hc2 : cr = 2
            · have e : len - 1 - 2 * (k + 1) = 0 := by have := HLR.out; omega
              have e2 : lr - 2 = len - 1 - 2 * (k + 1) := by have := HLR.out; omega
              exact ⟨k + 1, some ⟨p, o, none⟩, cr - 2, [], by omega, by go_num, by rw [e2, if_pos hc2], by omega, by rw [e]; exact RdI.nothing (List.eq_nil_of_length_eq_zero (by rw [List.length_drop, HL.out]; omega)), HO2⟩
            · obtain ⟨G', g⟩ := HNX.out
              have e2 : lr - 2 = len - 1 - 2 * (k + 1) := by have := HLR.out; omega
              exact ⟨k + 1, some ⟨p, o + 2, none⟩, cr - 2, G', by omega, by go_num, by rw [e2, if_neg hc2], by omega, g, HO2⟩
          case measure => simp [intOf]; omega
      · obtain rfl : k = n := by omega
        obtain ⟨bb, cc, FF, rfl, hrp, hoo, hcd⟩ := rdP_of_own HO.out.1
        have HRP : Hid (RdP wr bb k (psOf l k) FF ∧ Own w.heap.size wr FF ∧ Capd bb k cc) := ⟨hrp, hoo, hcd⟩
        clear hrp hoo hcd
        go_wp2
        go_ret3
        exact ⟨bb, k, cc, ar, _, cr, psOf l k, _, true, FF, G, rfl, HRP.out.1, HRP.out.2.2, HRP.out.2.1, HG.out.below HO.out.2, by omega, hcr, HV.out, HO.out.2⟩
end Go.Proofs.YtfbfklgjccbplabGreat
/- The walk through the program's itemOfNumbers. No statement of the seat is proved here. -/
namespace Go.Proofs.YtfbfklgjccbplabGreat
open Go.RowKit
/-- These numbers are that item's, in a frame of that kind; or no item's. -/
def ItemIs (kind : Int) (l : List Int) (x : It) (d : Bool) : Prop := if d = true then (if kind = 1 then l = [x.seq, x.cls, x.key, x.window] ++ x.sk.nums ∧ x.sk.ok = true else l = [] ∧ x = It.zero) else (kind = 1 → ∀ y : It, y.sk.ok = true → l ≠ [y.seq, y.cls, y.key, y.window] ++ y.sk.nums) ∧ (kind ≠ 1 → l ≠ [])
def NewIt2 (w : World) (R : It → Bool → Prop) (e : Ending) (w' : World) : Prop := ∃ v x d F, e = .returned (.tuple #[v, .bool d]) ∧ RdIt w' v x F ∧ Own w.heap.size w' F ∧ Below w.heap.size w w' ∧ x.sk.wide ∧ R x d
theorem item_other {kind : Int} {l : List Int} {len : Nat} (hl : l.length = len) (hk : ¬ kind = 1) : ItemIs kind l It.zero ((len : Int) == 0) := by
  unfold ItemIs
  by_cases q : len = 0
  · have e : (((len : Nat) : Int) == 0) = true := by simpa using q
    rw [e, if_pos rfl, if_neg hk]
    exact ⟨List.eq_nil_of_length_eq_zero (by omega), rfl⟩
  · have e : (((len : Nat) : Int) == 0) = false := by simpa using q
    rw [e, if_neg (by simp)]
    exact ⟨fun h => absurd h hk, fun _ h => q (by rw [← hl, h]; rfl)⟩
theorem item_short {l : List Int} (hl : l.length < 4) : ItemIs 1 l It.zero false := by
  refine (if_neg (by simp)).mpr ⟨fun _ y _ e => ?_, fun h => absurd rfl h⟩
  have := congrArg List.length e
  simp only [List.length_append, List.length_cons, List.length_nil] at this
  omega
theorem split4 {l : List Int} (h : 4 ≤ l.length) : l = [l.getD 0 0, l.getD 1 0, l.getD 2 0, l.getD 3 0] ++ l.drop 4 := by
  match l, h with
  | a :: b :: c :: d :: r, _ => rfl
theorem item_of {l : List Int} {s : Sk} {d : Bool} (h : 4 ≤ l.length) (k : SkN (l.drop 4) s d) : ItemIs 1 l ⟨l.getD 0 0, l.getD 1 0, l.getD 2 0, l.getD 3 0, s⟩ d := by
  unfold SkN at k
  unfold ItemIs
  cases d <;> simp only [if_true, Bool.false_eq_true, if_false] at k ⊢
  · refine ⟨fun _ y hy e => ?_, fun h => absurd rfl h⟩
    have e2 : l.drop 4 = y.sk.nums := by rw [e]; rfl
    refine k.2 ?_
    rw [e2, nums_skOf (Sk.ok_lens hy).1]
    exact ⟨Sk.nums_len (Sk.ok_lens hy).1, hy⟩
  · refine ⟨?_, k.2.2⟩
    rw [k.2.1, skOf_nums k.1]
    exact split4 h
theorem skN_wide {l : List Int} {s : Sk} {d : Bool} (k : SkN l s d) : s.wide := by
  unfold SkN at k
  cases d <;> simp only [if_true, Bool.false_eq_true, if_false] at k
  · rw [k.1]; exact It.zero_wide
  · rw [k.2.1]; exact wide_skOf k.1
theorem RdI.rest {W : World} {b off n cap : Nat} {l : List Int} {F : List Nat} (h : RdI W (some ⟨b, off, none⟩) n l F) (k : Nat) (hk : k ≤ n) (hc : n ≤ cap) : ∃ G, RdI W (if cap = k then some ⟨b, off, none⟩ else some ⟨b, off + k, none⟩) (n - k) (l.drop k) G := by
  by_cases q : cap = k
  · have e : n - k = 0 := by omega
    rw [e]
    exact ⟨[], RdI.nothing (List.eq_nil_of_length_eq_zero (by rw [List.length_drop, h.length]; exact e))⟩
  · rw [if_neg q]
    exact h.behind hk
def NumSkHeld (b off : Nat) (x0 x1 x2 x3 : Int) (g : Nat) (ds : Array Value) (W : World) : Prop := NumHeld b off x0 x1 x2 x3 W ∧ Blk W g ds 28
set_option maxRecDepth 200000 in
set_option maxHeartbeats 4000000 in
theorem itemOfNumbers_any (a : Option Addr) (len cap : Nat) (kind : Int) (l : List Int) (F : List Nat) (w : World) (h : RdI w a len l F) (hlen : len ≤ 1048576) (hcap : len ≤ cap) :
    Calls Tryz.prog 64 #[.slice a len cap, .int .i64 kind] w fun e w' => NewIt2 w (ItemIs kind l) e w' := by
  have HL : Hid (l.length = len) := h.length
  have HT : Hid (Blk (w.alloc (.cells #[.int .i64 0, .int .i64 0, .int .i64 0, .int .i64 0, .int .i64 0, .int .i64 0, .int .i64 0, .int .i64 0, .slice none 0 0, .slice none 0 0, .slice none 0 0] 30)) w.heap.size #[.int .i64 0, .int .i64 0, .int .i64 0, .int .i64 0, .int .i64 0, .int .i64 0, .int .i64 0, .int .i64 0, .slice none 0 0, .slice none 0 0, .slice none 0 0] 30 ∧ Below w.heap.size w (w.alloc (.cells #[.int .i64 0, .int .i64 0, .int .i64 0, .int .i64 0, .int .i64 0, .int .i64 0, .int .i64 0, .int .i64 0, .slice none 0 0, .slice none 0 0, .slice none 0 0] 30))) := ⟨Blk.made _ _ _, (Below.refl _ _).alloc (Nat.le_refl _) _⟩
  by_cases hk : kind = 1
  rotate_left
  · have hkb : (kind != 1) = true := by simpa using hk
    have HV : Hid (ItemIs kind l It.zero ((len : Int) == 0)) := item_other HL.out hk
    obtain ⟨d, hd⟩ : ∃ d, d = ((len : Int) == 0) := ⟨_, rfl⟩
    rw [← hd] at HV
    clear h hk
    go_enter Tryz.func64, Tryz.ntmps64
    go_wp2_with (first | go_skip | (with_reducible refine stopStore 30 rfl ?_))
    refine store_known 30 w.heap.size _ #[.int .i64 0, .int .i64 0, .int .i64 0, .int .i64 0, .int .i64 0, .int .i64 0, .int .i64 0, .int .i64 0, .slice none 0 0, .slice none 0 0, .slice none 0 0] 30 HT.out.1 rfl rfl rfl rfl infoItA7 rfl (by simp [Value.oneCell']) ?_
    go_wp2
    refine bodyPost_ret (results_row_tmp Tryz.results64 _ _ w.heap.size _ _ _ _ rfl HT.out.1.setRow Tryz.underlying30 rfl infoItA7) rfl ?_
    exact ⟨_, It.zero, d, [], by rw [hd]; rfl, rdIt_zero _, Own.nil, below_setRow HT.out.2 (Nat.le_refl _) _, It.zero_wide, HV.out⟩
  subst hk
  have hkb : ((1 : Int) != 1) = false := by simp
  by_cases h4 : len < 4
  · have h4b : decide ((len : Int) < 4) = true := dec_true (by omega)
    have HV : Hid (ItemIs 1 l It.zero false) := item_short (by rw [HL.out]; exact h4)
    clear h
    go_enter Tryz.func64, Tryz.ntmps64
    go_wp2_with (first | go_skip | (with_reducible refine stopStore 30 rfl ?_))
    refine store_known 30 w.heap.size _ #[.int .i64 0, .int .i64 0, .int .i64 0, .int .i64 0, .int .i64 0, .int .i64 0, .int .i64 0, .int .i64 0, .slice none 0 0, .slice none 0 0, .slice none 0 0] 30 HT.out.1 rfl rfl rfl rfl infoItA7 rfl (by simp [Value.oneCell']) ?_
    go_wp2
    refine bodyPost_ret (results_row_tmp Tryz.results64 _ _ w.heap.size _ _ _ _ rfl HT.out.1.setRow Tryz.underlying30 rfl infoItA7) rfl ?_
    exact ⟨_, It.zero, false, [], rfl, rdIt_zero _, Own.nil, below_setRow HT.out.2 (Nat.le_refl _) _, It.zero_wide, HV.out⟩
  have h4b : decide ((len : Int) < 4) = false := dec_false (by omega)
  have h4i : (4 : Int) ≤ (len : Int) := by omega
  obtain ⟨b, off, rfl⟩ := h.addr (by omega)
  have HR : Hid (RdI w (some ⟨b, off, none⟩) len l F) := h
  obtain ⟨x0, hx0⟩ : ∃ x, x = l.getD 0 0 := ⟨_, rfl⟩
  obtain ⟨x1, hx1⟩ : ∃ x, x = l.getD 1 0 := ⟨_, rfl⟩
  obtain ⟨x2, hx2⟩ : ∃ x, x = l.getD 2 0 := ⟨_, rfl⟩
  obtain ⟨x3, hx3⟩ : ∃ x, x = l.getD 3 0 := ⟨_, rfl⟩
  have HX : Hid (x0 = l.getD 0 0 ∧ x1 = l.getD 1 0 ∧ x2 = l.getD 2 0 ∧ x3 = l.getD 3 0) := ⟨hx0, hx1, hx2, hx3⟩
  have HKN : Hid (∀ W, Below w.heap.size w W → NumHeld b off x0 x1 x2 x3 W) := fun W hb => by rw [hx0, hx1, hx2, hx3]; exact (HR.out.below hb).numHeld (by omega)
  by_cases hc4 : cap = 4
  · obtain ⟨G, hG⟩ := (h.below HT.out.2).rest (cap := cap) 4 (by omega) hcap
    rw [if_pos hc4] at hG
    have HG : Hid (RdI (w.alloc (.cells #[.int .i64 0, .int .i64 0, .int .i64 0, .int .i64 0, .int .i64 0, .int .i64 0, .int .i64 0, .int .i64 0, .slice none 0 0, .slice none 0 0, .slice none 0 0] 30)) (some ⟨b, off, none⟩) (len - 4) (l.drop 4) G) := hG
    clear h hx0 hx1 hx2 hx3 hG
    go_enter Tryz.func64, Tryz.ntmps64
    go_wp2_with fail
    refine (sketchOfNumbers_any _ (len - 4) _ (l.drop 4) G _ HG.out (by omega) (by omega)).mono ?_
    rintro e w1 ⟨v1, s, d, X, rfl, rs, os, bs, hN⟩
    obtain ⟨a1, n1, c1, a2, n2, c2, a3, n3, c3, F1, F2, F3, rfl, r1, r2, r3, hXF⟩ := rs
    have HRS : Hid (RdSk w1 (.agg #[.int .i64 s.count, .int .i64 s.sum, .int .i64 s.min, .int .i64 s.max, .slice a1 n1 c1, .slice a2 n2 c2, .slice a3 n3 c3]) s X ∧ Own (w.heap.size + 1) w1 X ∧ SkN (l.drop 4) s d) := ⟨⟨a1, n1, c1, a2, n2, c2, a3, n3, c3, F1, F2, F3, rfl, r1, r2, r3, hXF⟩, by simpa using os, hN⟩
    have HT1 : Hid (Blk w1 w.heap.size #[.int .i64 0, .int .i64 0, .int .i64 0, .int .i64 0, .int .i64 0, .int .i64 0, .int .i64 0, .int .i64 0, .slice none 0 0, .slice none 0 0, .slice none 0 0] 30 ∧ Below w.heap.size w w1) := ⟨HT.out.1.below bs, Below.next HT.out.2 bs⟩
    clear r1 r2 r3 hXF os bs hN HT HG
    go_wp2_with (first | go_skip | (with_reducible refine stopStore 28 rfl ?_))
    refine store_fresh 28 w1.heap.size rfl #[.int .i64 0, .int .i64 0, .int .i64 0, .int .i64 0, .slice none 0 0, .slice none 0 0, .slice none 0 0] #[.int .i64 s.count, .int .i64 s.sum, .int .i64 s.min, .int .i64 s.max, .slice a1 n1 c1, .slice a2 n2 c2, .slice a3 n3 c3] 28 rfl rfl rfl rfl infoSkI rfl (by simp [Value.oneCell']) ?_
    intro W2 hg2 hb2
    have HW2 : Hid (NumSkHeld b off x0 x1 x2 x3 w1.heap.size #[.int .i64 s.count, .int .i64 s.sum, .int .i64 s.min, .int .i64 s.max, .slice a1 n1 c1, .slice a2 n2 c2, .slice a3 n3 c3] W2.drew ∧ Below w.heap.size w W2.drew ∧ Blk W2.drew w.heap.size #[.int .i64 0, .int .i64 0, .int .i64 0, .int .i64 0, .int .i64 0, .int .i64 0, .int .i64 0, .int .i64 0, .slice none 0 0, .slice none 0 0, .slice none 0 0] 30 ∧ RdSk W2.drew (.agg #[.int .i64 s.count, .int .i64 s.sum, .int .i64 s.min, .int .i64 s.max, .slice a1 n1 c1, .slice a2 n2 c2, .slice a3 n3 c3]) s X ∧ Own (w.heap.size + 1) W2.drew X) := by
      have bb := (Below.next HT1.out.2 hb2).drew
      exact ⟨⟨HKN.out _ bb, hg2.drew⟩, bb, (HT1.out.1.below hb2).drew, (HRS.out.1.below hb2).below (Below.refl _ _).drew, (HRS.out.2.1.below HRS.out.1.lt hb2).agree (fun _ _ => rfl)⟩
    have lt1 : w.heap.size < w1.heap.size := HT1.out.1.lt
    clear hg2 hb2 HT1
    go_wp2
    refine wp_region_held (S := NumSkHeld b off x0 x1 x2 x3 w1.heap.size #[.int .i64 s.count, .int .i64 s.sum, .int .i64 s.min, .int .i64 s.max, .slice a1 n1 c1, .slice a2 n2 c2, .slice a3 n3 c3]) (by kernel_rfl) ?_
    change wpAnyH _ _ _ _ _ _ _ _ (World.drew _)
    refine takeH (o := ?oa1) 0 (.slice (some ⟨b, off, none⟩) len cap) ?ha1 ?ra1
    case ha1 => simp only [List.getElem?_toArray, List.getElem?_cons_zero]; rfl
    refine ⟨_, by simp [Act.put]; rfl, by kernel_rfl, by kernel_rfl, by kernel_rfl, fun _ _ _ h => h, (.inl ⟨rfl, fun W _ => by go_simp⟩), HW2.out.1, ?_⟩
    refine takeH (o := ?oa2) 1 (.pointer (some ⟨b, off, none⟩)) ?ha2 ?ra2
    case ha2 => simp only [List.getElem?_toArray, List.getElem?_cons_succ, List.getElem?_cons_zero]; rfl
    refine ⟨_, by simp [Act.put]; rfl, by kernel_rfl, by kernel_rfl, by kernel_rfl, fun _ _ _ h => h, (.inl ⟨rfl, fun W _ => by (have q0 : (0 : Int) < (len : Int) := by omega); first | (go_simp; done) | (go_simp; intro h; omega)⟩), HW2.out.1, ?_⟩
    refine takeH (o := ?oa3) 2 (.int .i64 x0) ?ha3 ?ra3
    case ha3 => simp only [List.getElem?_toArray, List.getElem?_cons_succ, List.getElem?_cons_zero]; rfl
    refine ⟨_, by simp [Act.put]; rfl, by kernel_rfl, by kernel_rfl, by kernel_rfl, fun _ _ _ h => h, (.inl ⟨rfl, fun W hW => by have c := hW.1.1; go_simp⟩), HW2.out.1, ?_⟩
    refine takeH (o := ?oa4) 3 (.slice (some ⟨b, off, none⟩) len cap) ?ha4 ?ra4
    case ha4 => simp only [List.getElem?_toArray, List.getElem?_cons_succ, List.getElem?_cons_zero]; rfl
    refine ⟨_, by simp [Act.put]; rfl, by kernel_rfl, by kernel_rfl, by kernel_rfl, fun _ _ _ h => h, (.inl ⟨rfl, fun W _ => by go_simp⟩), HW2.out.1, ?_⟩
    refine takeH (o := ?oa5) 4 (.pointer (some ⟨b, off + 1, none⟩)) ?ha5 ?ra5
    case ha5 => simp only [List.getElem?_toArray, List.getElem?_cons_succ, List.getElem?_cons_zero]; rfl
    refine ⟨_, by simp [Act.put]; rfl, by kernel_rfl, by kernel_rfl, by kernel_rfl, fun _ _ _ h => h, (.inl ⟨rfl, fun W _ => by (have q1 : (1 : Int) < (len : Int) := by omega); first | (go_simp; done) | (go_simp; intro h; omega)⟩), HW2.out.1, ?_⟩
    refine takeH (o := ?oa6) 5 (.int .i64 x1) ?ha6 ?ra6
    case ha6 => simp only [List.getElem?_toArray, List.getElem?_cons_succ, List.getElem?_cons_zero]; rfl
    refine ⟨_, by simp [Act.put]; rfl, by kernel_rfl, by kernel_rfl, by kernel_rfl, fun _ _ _ h => h, (.inl ⟨rfl, fun W hW => by have c := hW.1.2.1; go_simp⟩), HW2.out.1, ?_⟩
    refine takeH (o := ?oa7) 6 (.slice (some ⟨b, off, none⟩) len cap) ?ha7 ?ra7
    case ha7 => simp only [List.getElem?_toArray, List.getElem?_cons_succ, List.getElem?_cons_zero]; rfl
    refine ⟨_, by simp [Act.put]; rfl, by kernel_rfl, by kernel_rfl, by kernel_rfl, fun _ _ _ h => h, (.inl ⟨rfl, fun W _ => by go_simp⟩), HW2.out.1, ?_⟩
    refine takeH (o := ?oa8) 7 (.pointer (some ⟨b, off + 2, none⟩)) ?ha8 ?ra8
    case ha8 => simp only [List.getElem?_toArray, List.getElem?_cons_succ, List.getElem?_cons_zero]; rfl
    refine ⟨_, by simp [Act.put]; rfl, by kernel_rfl, by kernel_rfl, by kernel_rfl, fun _ _ _ h => h, (.inl ⟨rfl, fun W _ => by (have q2 : (2 : Int) < (len : Int) := by omega); first | (go_simp; done) | (go_simp; intro h; omega)⟩), HW2.out.1, ?_⟩
    refine takeH (o := ?oa9) 8 (.int .i64 x2) ?ha9 ?ra9
    case ha9 => simp only [List.getElem?_toArray, List.getElem?_cons_succ, List.getElem?_cons_zero]; rfl
    refine ⟨_, by simp [Act.put]; rfl, by kernel_rfl, by kernel_rfl, by kernel_rfl, fun _ _ _ h => h, (.inl ⟨rfl, fun W hW => by have c := hW.1.2.2.1; go_simp⟩), HW2.out.1, ?_⟩
    refine takeH (o := ?oa10) 9 (.slice (some ⟨b, off, none⟩) len cap) ?ha10 ?ra10
    case ha10 => simp only [List.getElem?_toArray, List.getElem?_cons_succ, List.getElem?_cons_zero]; rfl
    refine ⟨_, by simp [Act.put]; rfl, by kernel_rfl, by kernel_rfl, by kernel_rfl, fun _ _ _ h => h, (.inl ⟨rfl, fun W _ => by go_simp⟩), HW2.out.1, ?_⟩
    refine takeH (o := ?oa11) 10 (.pointer (some ⟨b, off + 3, none⟩)) ?ha11 ?ra11
    case ha11 => simp only [List.getElem?_toArray, List.getElem?_cons_succ, List.getElem?_cons_zero]; rfl
    refine ⟨_, by simp [Act.put]; rfl, by kernel_rfl, by kernel_rfl, by kernel_rfl, fun _ _ _ h => h, (.inl ⟨rfl, fun W _ => by (have q3 : (3 : Int) < (len : Int) := by omega); first | (go_simp; done) | (go_simp; intro h; omega)⟩), HW2.out.1, ?_⟩
    refine takeH (o := ?oa12) 11 (.int .i64 x3) ?ha12 ?ra12
    case ha12 => simp only [List.getElem?_toArray, List.getElem?_cons_succ, List.getElem?_cons_zero]; rfl
    refine ⟨_, by simp [Act.put]; rfl, by kernel_rfl, by kernel_rfl, by kernel_rfl, fun _ _ _ h => h, (.inl ⟨rfl, fun W hW => by have c := hW.1.2.2.2; go_simp⟩), HW2.out.1, ?_⟩
    refine takeH (o := ?oa13) 12 (.agg #[.int .i64 s.count, .int .i64 s.sum, .int .i64 s.min, .int .i64 s.max, .slice a1 n1 c1, .slice a2 n2 c2, .slice a3 n3 c3]) ?ha13 ?ra13
    case ha13 => simp only [List.getElem?_toArray, List.getElem?_cons_succ, List.getElem?_cons_zero]; rfl
    refine ⟨_, by simp [Act.put]; rfl, by kernel_rfl, by kernel_rfl, by kernel_rfl, fun _ _ _ h => h, (yields_whole 28 w1.heap.size #[.int .i64 s.count, .int .i64 s.sum, .int .i64 s.min, .int .i64 s.max, .slice a1 n1 c1, .slice a2 n2 c2, .slice a3 n3 c3] 28 _ rfl rfl rfl Tryz.underlying28 rfl infoSkI (fun W hW => hW.2)), HW2.out.1, ?_⟩
    refine takeH (o := ?oa14) 13 (.agg #[.int .i64 x0, .int .i64 x1, .int .i64 x2, .int .i64 x3, .int .i64 s.count, .int .i64 s.sum, .int .i64 s.min, .int .i64 s.max, .slice a1 n1 c1, .slice a2 n2 c2, .slice a3 n3 c3]) ?ha14 ?ra14
    case ha14 => simp only [List.getElem?_toArray, List.getElem?_cons_succ, List.getElem?_cons_zero]; rfl
    refine ⟨_, by simp [Act.put]; rfl, by kernel_rfl, by kernel_rfl, by kernel_rfl, fun _ _ _ h => h, (.inl ⟨rfl, fun W _ => by go_simp⟩), HW2.out.1, ?_⟩
    refine takeH (o := ?oa15) 14 (.bool d) ?ha15 ?ra15
    case ha15 => simp only [List.getElem?_toArray, List.getElem?_cons_succ, List.getElem?_cons_zero]; rfl
    refine ⟨_, by simp [Act.put]; rfl, by kernel_rfl, by kernel_rfl, by kernel_rfl, fun _ _ _ h => h, (.inl ⟨rfl, fun W _ => by go_simp⟩), HW2.out.1, ?_⟩
    refine onlyH (o := ?oa16) 15 (by kernel_rfl) ?ha16 ?ra16
    case ha16 => simp only [List.getElem?_toArray, List.getElem?_cons_succ, List.getElem?_cons_zero]; rfl
    intro K hK
    have bV : Below w.heap.size w (W2.drew.setRow w.heap.size #[.int .i64 x0, .int .i64 x1, .int .i64 x2, .int .i64 x3, .int .i64 s.count, .int .i64 s.sum, .int .i64 s.min, .int .i64 s.max, .slice a1 n1 c1, .slice a2 n2 c2, .slice a3 n3 c3]) := below_setRow HW2.out.2.1 (Nat.le_refl _) _
    have nX : w.heap.size ∉ X := fun hx => by have := HW2.out.2.2.2.2.ge _ hx; omega
    have HV2 : Hid (NumSkHeld b off x0 x1 x2 x3 w1.heap.size #[.int .i64 s.count, .int .i64 s.sum, .int .i64 s.min, .int .i64 s.max, .slice a1 n1 c1, .slice a2 n2 c2, .slice a3 n3 c3] (W2.drew.setRow w.heap.size #[.int .i64 x0, .int .i64 x1, .int .i64 x2, .int .i64 x3, .int .i64 s.count, .int .i64 s.sum, .int .i64 s.min, .int .i64 s.max, .slice a1 n1 c1, .slice a2 n2 c2, .slice a3 n3 c3]) ∧ Below w.heap.size w (W2.drew.setRow w.heap.size #[.int .i64 x0, .int .i64 x1, .int .i64 x2, .int .i64 x3, .int .i64 s.count, .int .i64 s.sum, .int .i64 s.min, .int .i64 s.max, .slice a1 n1 c1, .slice a2 n2 c2, .slice a3 n3 c3]) ∧ Blk (W2.drew.setRow w.heap.size #[.int .i64 x0, .int .i64 x1, .int .i64 x2, .int .i64 x3, .int .i64 s.count, .int .i64 s.sum, .int .i64 s.min, .int .i64 s.max, .slice a1 n1 c1, .slice a2 n2 c2, .slice a3 n3 c3]) w.heap.size #[.int .i64 x0, .int .i64 x1, .int .i64 x2, .int .i64 x3, .int .i64 s.count, .int .i64 s.sum, .int .i64 s.min, .int .i64 s.max, .slice a1 n1 c1, .slice a2 n2 c2, .slice a3 n3 c3] 30 ∧ RdSk (W2.drew.setRow w.heap.size #[.int .i64 x0, .int .i64 x1, .int .i64 x2, .int .i64 x3, .int .i64 s.count, .int .i64 s.sum, .int .i64 s.min, .int .i64 s.max, .slice a1 n1 c1, .slice a2 n2 c2, .slice a3 n3 c3]) (.agg #[.int .i64 s.count, .int .i64 s.sum, .int .i64 s.min, .int .i64 s.max, .slice a1 n1 c1, .slice a2 n2 c2, .slice a3 n3 c3]) s X ∧ Own w.heap.size (W2.drew.setRow w.heap.size #[.int .i64 x0, .int .i64 x1, .int .i64 x2, .int .i64 x3, .int .i64 s.count, .int .i64 s.sum, .int .i64 s.min, .int .i64 s.max, .slice a1 n1 c1, .slice a2 n2 c2, .slice a3 n3 c3]) X) := ⟨⟨HKN.out _ bV, HW2.out.1.2.setRowOther (by omega)⟩, bV, HW2.out.2.2.1.setRow, HW2.out.2.2.2.1.agree (Agree.row nX _), (HW2.out.2.2.2.2.agree (Agree.row nX _)).mono (by omega)⟩
    refine op_store 30 w.heap.size #[.int .i64 0, .int .i64 0, .int .i64 0, .int .i64 0, .int .i64 0, .int .i64 0, .int .i64 0, .int .i64 0, .slice none 0 0, .slice none 0 0, .slice none 0 0] #[.int .i64 x0, .int .i64 x1, .int .i64 x2, .int .i64 x3, .int .i64 s.count, .int .i64 s.sum, .int .i64 s.min, .int .i64 s.max, .slice a1 n1 c1, .slice a2 n2 c2, .slice a3 n3 c3] 30 rfl rfl rfl rfl HW2.out.2.2.1 infoItA7 rfl (by simp [Value.oneCell']) ⟨_, by simp [Act.put]; rfl, hK _ _ ⟨HV2.out.1, ?_⟩⟩
    clear hK bV nX HW2
    refine onlyH (o := ?oa17) 16 (by kernel_rfl) ?ha17 ?ra17
    case ha17 => simp only [List.getElem?_toArray, List.getElem?_cons_succ, List.getElem?_cons_zero]; rfl
    intro K hK
    refine op_value (.bool d) rfl (by go_simp) ⟨_, by simp [Act.put]; rfl, hK _ _ ⟨HV2.out.1, ?_⟩⟩
    clear hK
    refine wpAnyH_done (by kernel_rfl) ?_ _
    go_wp2
    refine bodyPost_ret (results_row_tmp Tryz.results64 _ _ w.heap.size _ _ _ _ rfl HV2.out.2.2.1 Tryz.underlying30 rfl infoItA7) rfl ?_
    have hit := item_of (l := l) (by rw [HL.out]; omega) HRS.out.2.2
    rw [← HX.out.1, ← HX.out.2.1, ← HX.out.2.2.1, ← HX.out.2.2.2] at hit
    exact ⟨_, ⟨x0, x1, x2, x3, s⟩, d, X, rfl, ⟨a1, n1, c1, a2, n2, c2, a3, n3, c3, rfl, HV2.out.2.2.2.1⟩, HV2.out.2.2.2.2, HV2.out.2.1, skN_wide HRS.out.2.2, hit⟩
  · obtain ⟨G, hG⟩ := (h.below HT.out.2).rest (cap := cap) 4 (by omega) hcap
    rw [if_neg hc4] at hG
    have HG : Hid (RdI (w.alloc (.cells #[.int .i64 0, .int .i64 0, .int .i64 0, .int .i64 0, .int .i64 0, .int .i64 0, .int .i64 0, .int .i64 0, .slice none 0 0, .slice none 0 0, .slice none 0 0] 30)) (some ⟨b, off + 4, none⟩) (len - 4) (l.drop 4) G) := hG
    clear h hx0 hx1 hx2 hx3 hG
    go_enter Tryz.func64, Tryz.ntmps64
    go_wp2_with fail
    refine (sketchOfNumbers_any _ (len - 4) _ (l.drop 4) G _ HG.out (by omega) (by omega)).mono ?_
    rintro e w1 ⟨v1, s, d, X, rfl, rs, os, bs, hN⟩
    obtain ⟨a1, n1, c1, a2, n2, c2, a3, n3, c3, F1, F2, F3, rfl, r1, r2, r3, hXF⟩ := rs
    have HRS : Hid (RdSk w1 (.agg #[.int .i64 s.count, .int .i64 s.sum, .int .i64 s.min, .int .i64 s.max, .slice a1 n1 c1, .slice a2 n2 c2, .slice a3 n3 c3]) s X ∧ Own (w.heap.size + 1) w1 X ∧ SkN (l.drop 4) s d) := ⟨⟨a1, n1, c1, a2, n2, c2, a3, n3, c3, F1, F2, F3, rfl, r1, r2, r3, hXF⟩, by simpa using os, hN⟩
    have HT1 : Hid (Blk w1 w.heap.size #[.int .i64 0, .int .i64 0, .int .i64 0, .int .i64 0, .int .i64 0, .int .i64 0, .int .i64 0, .int .i64 0, .slice none 0 0, .slice none 0 0, .slice none 0 0] 30 ∧ Below w.heap.size w w1) := ⟨HT.out.1.below bs, Below.next HT.out.2 bs⟩
    clear r1 r2 r3 hXF os bs hN HT HG
    go_wp2_with (first | go_skip | (with_reducible refine stopStore 28 rfl ?_))
    refine store_fresh 28 w1.heap.size rfl #[.int .i64 0, .int .i64 0, .int .i64 0, .int .i64 0, .slice none 0 0, .slice none 0 0, .slice none 0 0] #[.int .i64 s.count, .int .i64 s.sum, .int .i64 s.min, .int .i64 s.max, .slice a1 n1 c1, .slice a2 n2 c2, .slice a3 n3 c3] 28 rfl rfl rfl rfl infoSkI rfl (by simp [Value.oneCell']) ?_
    intro W2 hg2 hb2
    have HW2 : Hid (NumSkHeld b off x0 x1 x2 x3 w1.heap.size #[.int .i64 s.count, .int .i64 s.sum, .int .i64 s.min, .int .i64 s.max, .slice a1 n1 c1, .slice a2 n2 c2, .slice a3 n3 c3] W2.drew ∧ Below w.heap.size w W2.drew ∧ Blk W2.drew w.heap.size #[.int .i64 0, .int .i64 0, .int .i64 0, .int .i64 0, .int .i64 0, .int .i64 0, .int .i64 0, .int .i64 0, .slice none 0 0, .slice none 0 0, .slice none 0 0] 30 ∧ RdSk W2.drew (.agg #[.int .i64 s.count, .int .i64 s.sum, .int .i64 s.min, .int .i64 s.max, .slice a1 n1 c1, .slice a2 n2 c2, .slice a3 n3 c3]) s X ∧ Own (w.heap.size + 1) W2.drew X) := by
      have bb := (Below.next HT1.out.2 hb2).drew
      exact ⟨⟨HKN.out _ bb, hg2.drew⟩, bb, (HT1.out.1.below hb2).drew, (HRS.out.1.below hb2).below (Below.refl _ _).drew, (HRS.out.2.1.below HRS.out.1.lt hb2).agree (fun _ _ => rfl)⟩
    have lt1 : w.heap.size < w1.heap.size := HT1.out.1.lt
    clear hg2 hb2 HT1
    go_wp2
    refine wp_region_held (S := NumSkHeld b off x0 x1 x2 x3 w1.heap.size #[.int .i64 s.count, .int .i64 s.sum, .int .i64 s.min, .int .i64 s.max, .slice a1 n1 c1, .slice a2 n2 c2, .slice a3 n3 c3]) (by kernel_rfl) ?_
    change wpAnyH _ _ _ _ _ _ _ _ (World.drew _)
    refine takeH (o := ?ob1) 0 (.slice (some ⟨b, off, none⟩) len cap) ?hb1 ?rb1
    case hb1 => simp only [List.getElem?_toArray, List.getElem?_cons_zero]; rfl
    refine ⟨_, by simp [Act.put]; rfl, by kernel_rfl, by kernel_rfl, by kernel_rfl, fun _ _ _ h => h, (.inl ⟨rfl, fun W _ => by go_simp⟩), HW2.out.1, ?_⟩
    refine takeH (o := ?ob2) 1 (.pointer (some ⟨b, off, none⟩)) ?hb2 ?rb2
    case hb2 => simp only [List.getElem?_toArray, List.getElem?_cons_succ, List.getElem?_cons_zero]; rfl
    refine ⟨_, by simp [Act.put]; rfl, by kernel_rfl, by kernel_rfl, by kernel_rfl, fun _ _ _ h => h, (.inl ⟨rfl, fun W _ => by (have q0 : (0 : Int) < (len : Int) := by omega); first | (go_simp; done) | (go_simp; intro h; omega)⟩), HW2.out.1, ?_⟩
    refine takeH (o := ?ob3) 2 (.int .i64 x0) ?hb3 ?rb3
    case hb3 => simp only [List.getElem?_toArray, List.getElem?_cons_succ, List.getElem?_cons_zero]; rfl
    refine ⟨_, by simp [Act.put]; rfl, by kernel_rfl, by kernel_rfl, by kernel_rfl, fun _ _ _ h => h, (.inl ⟨rfl, fun W hW => by have c := hW.1.1; go_simp⟩), HW2.out.1, ?_⟩
    refine takeH (o := ?ob4) 3 (.slice (some ⟨b, off, none⟩) len cap) ?hb4 ?rb4
    case hb4 => simp only [List.getElem?_toArray, List.getElem?_cons_succ, List.getElem?_cons_zero]; rfl
    refine ⟨_, by simp [Act.put]; rfl, by kernel_rfl, by kernel_rfl, by kernel_rfl, fun _ _ _ h => h, (.inl ⟨rfl, fun W _ => by go_simp⟩), HW2.out.1, ?_⟩
    refine takeH (o := ?ob5) 4 (.pointer (some ⟨b, off + 1, none⟩)) ?hb5 ?rb5
    case hb5 => simp only [List.getElem?_toArray, List.getElem?_cons_succ, List.getElem?_cons_zero]; rfl
    refine ⟨_, by simp [Act.put]; rfl, by kernel_rfl, by kernel_rfl, by kernel_rfl, fun _ _ _ h => h, (.inl ⟨rfl, fun W _ => by (have q1 : (1 : Int) < (len : Int) := by omega); first | (go_simp; done) | (go_simp; intro h; omega)⟩), HW2.out.1, ?_⟩
    refine takeH (o := ?ob6) 5 (.int .i64 x1) ?hb6 ?rb6
    case hb6 => simp only [List.getElem?_toArray, List.getElem?_cons_succ, List.getElem?_cons_zero]; rfl
    refine ⟨_, by simp [Act.put]; rfl, by kernel_rfl, by kernel_rfl, by kernel_rfl, fun _ _ _ h => h, (.inl ⟨rfl, fun W hW => by have c := hW.1.2.1; go_simp⟩), HW2.out.1, ?_⟩
    refine takeH (o := ?ob7) 6 (.slice (some ⟨b, off, none⟩) len cap) ?hb7 ?rb7
    case hb7 => simp only [List.getElem?_toArray, List.getElem?_cons_succ, List.getElem?_cons_zero]; rfl
    refine ⟨_, by simp [Act.put]; rfl, by kernel_rfl, by kernel_rfl, by kernel_rfl, fun _ _ _ h => h, (.inl ⟨rfl, fun W _ => by go_simp⟩), HW2.out.1, ?_⟩
    refine takeH (o := ?ob8) 7 (.pointer (some ⟨b, off + 2, none⟩)) ?hb8 ?rb8
    case hb8 => simp only [List.getElem?_toArray, List.getElem?_cons_succ, List.getElem?_cons_zero]; rfl
    refine ⟨_, by simp [Act.put]; rfl, by kernel_rfl, by kernel_rfl, by kernel_rfl, fun _ _ _ h => h, (.inl ⟨rfl, fun W _ => by (have q2 : (2 : Int) < (len : Int) := by omega); first | (go_simp; done) | (go_simp; intro h; omega)⟩), HW2.out.1, ?_⟩
    refine takeH (o := ?ob9) 8 (.int .i64 x2) ?hb9 ?rb9
    case hb9 => simp only [List.getElem?_toArray, List.getElem?_cons_succ, List.getElem?_cons_zero]; rfl
    refine ⟨_, by simp [Act.put]; rfl, by kernel_rfl, by kernel_rfl, by kernel_rfl, fun _ _ _ h => h, (.inl ⟨rfl, fun W hW => by have c := hW.1.2.2.1; go_simp⟩), HW2.out.1, ?_⟩
    refine takeH (o := ?ob10) 9 (.slice (some ⟨b, off, none⟩) len cap) ?hb10 ?rb10
    case hb10 => simp only [List.getElem?_toArray, List.getElem?_cons_succ, List.getElem?_cons_zero]; rfl
    refine ⟨_, by simp [Act.put]; rfl, by kernel_rfl, by kernel_rfl, by kernel_rfl, fun _ _ _ h => h, (.inl ⟨rfl, fun W _ => by go_simp⟩), HW2.out.1, ?_⟩
    refine takeH (o := ?ob11) 10 (.pointer (some ⟨b, off + 3, none⟩)) ?hb11 ?rb11
    case hb11 => simp only [List.getElem?_toArray, List.getElem?_cons_succ, List.getElem?_cons_zero]; rfl
    refine ⟨_, by simp [Act.put]; rfl, by kernel_rfl, by kernel_rfl, by kernel_rfl, fun _ _ _ h => h, (.inl ⟨rfl, fun W _ => by (have q3 : (3 : Int) < (len : Int) := by omega); first | (go_simp; done) | (go_simp; intro h; omega)⟩), HW2.out.1, ?_⟩
    refine takeH (o := ?ob12) 11 (.int .i64 x3) ?hb12 ?rb12
    case hb12 => simp only [List.getElem?_toArray, List.getElem?_cons_succ, List.getElem?_cons_zero]; rfl
    refine ⟨_, by simp [Act.put]; rfl, by kernel_rfl, by kernel_rfl, by kernel_rfl, fun _ _ _ h => h, (.inl ⟨rfl, fun W hW => by have c := hW.1.2.2.2; go_simp⟩), HW2.out.1, ?_⟩
    refine takeH (o := ?ob13) 12 (.agg #[.int .i64 s.count, .int .i64 s.sum, .int .i64 s.min, .int .i64 s.max, .slice a1 n1 c1, .slice a2 n2 c2, .slice a3 n3 c3]) ?hb13 ?rb13
    case hb13 => simp only [List.getElem?_toArray, List.getElem?_cons_succ, List.getElem?_cons_zero]; rfl
    refine ⟨_, by simp [Act.put]; rfl, by kernel_rfl, by kernel_rfl, by kernel_rfl, fun _ _ _ h => h, (yields_whole 28 w1.heap.size #[.int .i64 s.count, .int .i64 s.sum, .int .i64 s.min, .int .i64 s.max, .slice a1 n1 c1, .slice a2 n2 c2, .slice a3 n3 c3] 28 _ rfl rfl rfl Tryz.underlying28 rfl infoSkI (fun W hW => hW.2)), HW2.out.1, ?_⟩
    refine takeH (o := ?ob14) 13 (.agg #[.int .i64 x0, .int .i64 x1, .int .i64 x2, .int .i64 x3, .int .i64 s.count, .int .i64 s.sum, .int .i64 s.min, .int .i64 s.max, .slice a1 n1 c1, .slice a2 n2 c2, .slice a3 n3 c3]) ?hb14 ?rb14
    case hb14 => simp only [List.getElem?_toArray, List.getElem?_cons_succ, List.getElem?_cons_zero]; rfl
    refine ⟨_, by simp [Act.put]; rfl, by kernel_rfl, by kernel_rfl, by kernel_rfl, fun _ _ _ h => h, (.inl ⟨rfl, fun W _ => by go_simp⟩), HW2.out.1, ?_⟩
    refine takeH (o := ?ob15) 14 (.bool d) ?hb15 ?rb15
    case hb15 => simp only [List.getElem?_toArray, List.getElem?_cons_succ, List.getElem?_cons_zero]; rfl
    refine ⟨_, by simp [Act.put]; rfl, by kernel_rfl, by kernel_rfl, by kernel_rfl, fun _ _ _ h => h, (.inl ⟨rfl, fun W _ => by go_simp⟩), HW2.out.1, ?_⟩
    refine onlyH (o := ?ob16) 15 (by kernel_rfl) ?hb16 ?rb16
    case hb16 => simp only [List.getElem?_toArray, List.getElem?_cons_succ, List.getElem?_cons_zero]; rfl
    intro K hK
    have bV : Below w.heap.size w (W2.drew.setRow w.heap.size #[.int .i64 x0, .int .i64 x1, .int .i64 x2, .int .i64 x3, .int .i64 s.count, .int .i64 s.sum, .int .i64 s.min, .int .i64 s.max, .slice a1 n1 c1, .slice a2 n2 c2, .slice a3 n3 c3]) := below_setRow HW2.out.2.1 (Nat.le_refl _) _
    have nX : w.heap.size ∉ X := fun hx => by have := HW2.out.2.2.2.2.ge _ hx; omega
    have HV2 : Hid (NumSkHeld b off x0 x1 x2 x3 w1.heap.size #[.int .i64 s.count, .int .i64 s.sum, .int .i64 s.min, .int .i64 s.max, .slice a1 n1 c1, .slice a2 n2 c2, .slice a3 n3 c3] (W2.drew.setRow w.heap.size #[.int .i64 x0, .int .i64 x1, .int .i64 x2, .int .i64 x3, .int .i64 s.count, .int .i64 s.sum, .int .i64 s.min, .int .i64 s.max, .slice a1 n1 c1, .slice a2 n2 c2, .slice a3 n3 c3]) ∧ Below w.heap.size w (W2.drew.setRow w.heap.size #[.int .i64 x0, .int .i64 x1, .int .i64 x2, .int .i64 x3, .int .i64 s.count, .int .i64 s.sum, .int .i64 s.min, .int .i64 s.max, .slice a1 n1 c1, .slice a2 n2 c2, .slice a3 n3 c3]) ∧ Blk (W2.drew.setRow w.heap.size #[.int .i64 x0, .int .i64 x1, .int .i64 x2, .int .i64 x3, .int .i64 s.count, .int .i64 s.sum, .int .i64 s.min, .int .i64 s.max, .slice a1 n1 c1, .slice a2 n2 c2, .slice a3 n3 c3]) w.heap.size #[.int .i64 x0, .int .i64 x1, .int .i64 x2, .int .i64 x3, .int .i64 s.count, .int .i64 s.sum, .int .i64 s.min, .int .i64 s.max, .slice a1 n1 c1, .slice a2 n2 c2, .slice a3 n3 c3] 30 ∧ RdSk (W2.drew.setRow w.heap.size #[.int .i64 x0, .int .i64 x1, .int .i64 x2, .int .i64 x3, .int .i64 s.count, .int .i64 s.sum, .int .i64 s.min, .int .i64 s.max, .slice a1 n1 c1, .slice a2 n2 c2, .slice a3 n3 c3]) (.agg #[.int .i64 s.count, .int .i64 s.sum, .int .i64 s.min, .int .i64 s.max, .slice a1 n1 c1, .slice a2 n2 c2, .slice a3 n3 c3]) s X ∧ Own w.heap.size (W2.drew.setRow w.heap.size #[.int .i64 x0, .int .i64 x1, .int .i64 x2, .int .i64 x3, .int .i64 s.count, .int .i64 s.sum, .int .i64 s.min, .int .i64 s.max, .slice a1 n1 c1, .slice a2 n2 c2, .slice a3 n3 c3]) X) := ⟨⟨HKN.out _ bV, HW2.out.1.2.setRowOther (by omega)⟩, bV, HW2.out.2.2.1.setRow, HW2.out.2.2.2.1.agree (Agree.row nX _), (HW2.out.2.2.2.2.agree (Agree.row nX _)).mono (by omega)⟩
    refine op_store 30 w.heap.size #[.int .i64 0, .int .i64 0, .int .i64 0, .int .i64 0, .int .i64 0, .int .i64 0, .int .i64 0, .int .i64 0, .slice none 0 0, .slice none 0 0, .slice none 0 0] #[.int .i64 x0, .int .i64 x1, .int .i64 x2, .int .i64 x3, .int .i64 s.count, .int .i64 s.sum, .int .i64 s.min, .int .i64 s.max, .slice a1 n1 c1, .slice a2 n2 c2, .slice a3 n3 c3] 30 rfl rfl rfl rfl HW2.out.2.2.1 infoItA7 rfl (by simp [Value.oneCell']) ⟨_, by simp [Act.put]; rfl, hK _ _ ⟨HV2.out.1, ?_⟩⟩
    clear hK bV nX HW2
    refine onlyH (o := ?ob17) 16 (by kernel_rfl) ?hb17 ?rb17
    case hb17 => simp only [List.getElem?_toArray, List.getElem?_cons_succ, List.getElem?_cons_zero]; rfl
    intro K hK
    refine op_value (.bool d) rfl (by go_simp) ⟨_, by simp [Act.put]; rfl, hK _ _ ⟨HV2.out.1, ?_⟩⟩
    clear hK
    refine wpAnyH_done (by kernel_rfl) ?_ _
    go_wp2
    refine bodyPost_ret (results_row_tmp Tryz.results64 _ _ w.heap.size _ _ _ _ rfl HV2.out.2.2.1 Tryz.underlying30 rfl infoItA7) rfl ?_
    have hit := item_of (l := l) (by rw [HL.out]; omega) HRS.out.2.2
    rw [← HX.out.1, ← HX.out.2.1, ← HX.out.2.2.1, ← HX.out.2.2.2] at hit
    exact ⟨_, ⟨x0, x1, x2, x3, s⟩, d, X, rfl, ⟨a1, n1, c1, a2, n2, c2, a3, n3, c3, rfl, HV2.out.2.2.2.1⟩, HV2.out.2.2.2.2, HV2.out.2.1, skN_wide HRS.out.2.2, hit⟩
end Go.Proofs.YtfbfklgjccbplabGreat
