/- Several texts of mine, laid together. No statement of the seat is proved here. -/
import Derived.Test.YtbmbmnhamogghapB9
import Derived.Test.YtbmbmnhamogghapB6
import Derived.Test.YtbmbmnhamogghapB8
import Derived.Test.YtbmbmnhamogghapB7
import Derived.Test.YtbmbmnhamogghapB3
import Derived.Laws.StructEq
/- Sets of numbers: what makes two of them the same, and what is made of both. No statement of the seat is proved here. -/
namespace Go.Proofs.Ytbmbmnhamogghap
open Go.RowKit
/-- Right from l on: the spans rise, with a gap between any two. -/
def okFrom : Int → Sp → Prop
  | _, [] => True
  | l, p :: ps => (l ≤ p.1 ∧ p.1 ≤ p.2 ∧ p.2 ≤ 9999) ∧ okFrom (p.2 + 2) ps
def endOf : Int → Sp → Int
  | l, [] => l
  | _, p :: ps => endOf (p.2 + 2) ps
theorem okFrom_append : ∀ (o r : Sp) (l : Int), okFrom l (o ++ r) ↔ okFrom l o ∧ okFrom (endOf l o) r
  | [], r, l => by simp [okFrom, endOf]
  | p :: o, r, l => by simp only [List.cons_append, okFrom, endOf, okFrom_append o r, and_assoc]
theorem endOf_snoc : ∀ (o : Sp) (t : Int × Int) (l : Int), endOf l (o ++ [t]) = t.2 + 2
  | [], t, l => rfl
  | p :: o, t, l => by simp only [List.cons_append, endOf, endOf_snoc o t]
theorem okFrom_mono : ∀ {ps : Sp} {l m : Int}, okFrom l ps → m ≤ l → okFrom m ps
  | [], _, _, _, _ => trivial
  | p :: ps, l, m, h, hm => ⟨⟨by have := h.1; omega, h.1.2⟩, h.2⟩
theorem has_cons (p : Int × Int) (ps : Sp) (n : Int) : Sp.has (p :: ps) n = (decide (p.1 ≤ n ∧ n ≤ p.2) || Sp.has ps n) := rfl
theorem has_nil (n : Int) : Sp.has [] n = false := rfl
theorem has_append (ps qs : Sp) (n : Int) : Sp.has (ps ++ qs) n = (Sp.has ps n || Sp.has qs n) := by simp [Sp.has]
/-- n is in ps. -/
def InS (ps : Sp) (n : Int) : Prop := ps.has n = true
theorem inS_cons {p : Int × Int} {ps : Sp} {n : Int} : InS (p :: ps) n ↔ (p.1 ≤ n ∧ n ≤ p.2) ∨ InS ps n := by unfold InS; rw [has_cons]; simp
theorem inS_nil {n : Int} : ¬ InS [] n := by unfold InS; rw [has_nil]; simp
theorem inS_append {ps qs : Sp} {n : Int} : InS (ps ++ qs) n ↔ InS ps n ∨ InS qs n := by unfold InS; rw [has_append]; simp
theorem inS_ge : ∀ {ps : Sp} {l n : Int}, okFrom l ps → InS ps n → l ≤ n
  | [], _, _, _, h => (inS_nil h).elim
  | p :: ps, l, n, h, hn => by
    rcases inS_cons.1 hn with e | e
    · have := h.1; omega
    · have := inS_ge h.2 e; have := h.1; omega
theorem inS_le : ∀ {ps : Sp} {l n : Int}, okFrom l ps → InS ps n → n ≤ 9999
  | [], _, _, _, h => (inS_nil h).elim
  | p :: ps, l, n, h, hn => by
    rcases inS_cons.1 hn with e | e
    · have := h.1; omega
    · exact inS_le h.2 e
theorem sp_ext : ∀ {ps qs : Sp} {l m : Int}, okFrom l ps → okFrom m qs → (∀ n, InS ps n ↔ InS qs n) → ps = qs
  | [], [], _, _, _, _, _ => rfl
  | [], q :: qs, _, _, _, h2, h => by
    have := (h q.1).2 (inS_cons.2 (.inl ⟨Int.le_refl _, h2.1.2.1⟩))
    exact (inS_nil this).elim
  | p :: ps, [], _, _, h1, _, h => by
    have := (h p.1).1 (inS_cons.2 (.inl ⟨Int.le_refl _, h1.1.2.1⟩))
    exact (inS_nil this).elim
  | p :: ps, q :: qs, l, m, h1, h2, h => by
    obtain ⟨⟨a1, a2, a3⟩, a4⟩ := h1
    obtain ⟨⟨b1, b2, b3⟩, b4⟩ := h2
    have e1 : p.1 = q.1 := by
      have x1 := inS_ge (ps := q :: qs) (l := q.1) ⟨⟨Int.le_refl _, b2, b3⟩, b4⟩ ((h p.1).1 (inS_cons.2 (.inl ⟨Int.le_refl _, a2⟩)))
      have x2 := inS_ge (ps := p :: ps) (l := p.1) ⟨⟨Int.le_refl _, a2, a3⟩, a4⟩ ((h q.1).2 (inS_cons.2 (.inl ⟨Int.le_refl _, b2⟩)))
      omega
    have e2 : p.2 = q.2 := by
      rcases Int.lt_trichotomy p.2 q.2 with c | c | c
      · rcases inS_cons.1 ((h (p.2 + 1)).2 (inS_cons.2 (.inl ⟨by omega, by omega⟩))) with e | e
        · omega
        · have := inS_ge a4 e; omega
      · exact c
      · rcases inS_cons.1 ((h (q.2 + 1)).1 (inS_cons.2 (.inl ⟨by omega, by omega⟩))) with e | e
        · omega
        · have := inS_ge b4 e; omega
    have e3 : ps = qs := sp_ext a4 b4 (fun n => by
      constructor
      · intro hn
        have := inS_ge a4 hn
        rcases inS_cons.1 ((h n).1 (inS_cons.2 (.inr hn))) with e | e
        · omega
        · exact e
      · intro hn
        have := inS_ge b4 hn
        rcases inS_cons.1 ((h n).2 (inS_cons.2 (.inr hn))) with e | e
        · omega
        · exact e)
    rw [e3, Prod.ext e1 e2]
/-- What is right, seen from the k-th span on. -/
def floorAt (ps : Sp) (k : Nat) : Int := if k = 0 then 0 else (ps.at (k - 1)).2 + 2
theorem okAt_iff (ps : Sp) (k : Nat) : ps.okAt k = true ↔ (if k = 0 then 0 else (ps.at (k - 1)).2 + 2) ≤ (ps.at k).1 ∧ 0 ≤ (ps.at k).1 ∧ (ps.at k).1 ≤ (ps.at k).2 ∧ (ps.at k).2 ≤ 9999 := by
  unfold Sp.okAt
  simp only [Bool.and_eq_true, Bool.or_eq_true, decide_eq_true_eq]
  split <;> omega
theorem okFrom_drop (ps : Sp) : ∀ (d k : Nat), k + d = ps.length → 0 ≤ floorAt ps k → ((∀ j, k ≤ j → j < ps.length → ps.okAt j = true) ↔ okFrom (floorAt ps k) (ps.drop k))
  | 0, k, hk, _ => by
    rw [List.drop_eq_nil_of_le (by omega)]
    exact ⟨fun _ => trivial, fun _ j h1 h2 => by omega⟩
  | d + 1, k, hk, h0 => by
    rw [drop_at (by omega), okFrom]
    have e : floorAt ps (k + 1) = (ps.at k).2 + 2 := by unfold floorAt; rw [if_neg (by omega), show k + 1 - 1 = k by omega]
    constructor
    · intro h
      have hk1 := (okAt_iff ps k).1 (h k (Nat.le_refl _) (by omega))
      refine ⟨⟨hk1.1, hk1.2.2⟩, ?_⟩
      rw [← e]
      exact (okFrom_drop ps d (k + 1) (by omega) (by rw [e]; omega)).1 (fun j h1 h2 => h j (by omega) h2)
    · rintro ⟨h1, h2⟩ j hj1 hj2
      by_cases c : j = k
      · subst c
        exact (okAt_iff ps j).2 ⟨h1.1, by omega, h1.2⟩
      · rw [← e] at h2
        exact (okFrom_drop ps d (k + 1) (by omega) (by rw [e]; omega)).2 h2 j (by omega) hj2
theorem ok_iff {ps : Sp} : ps.ok = true ↔ okFrom 0 ps := by
  have e := okFrom_drop ps ps.length 0 (by omega) (by simp [floorAt])
  simp only [floorAt, if_true, List.drop_zero] at e
  rw [← e]
  exact ⟨fun h j _ hj => Sp.ok_at h j hj, fun h => Sp.ok_all (fun j hj => h j (Nat.zero_le _) hj)⟩
theorem put_true_same : ∀ {ps : Sp} {x : Int × Int} {l : Int}, okFrom l ps → x.2 + 2 ≤ l → x.1 ≤ x.2 → put ps x true = ps
  | [], _, _, _, _, _ => rfl
  | p :: ps, x, l, h, hl, hx => by
    obtain ⟨⟨a1, a2, a3⟩, a4⟩ := h
    rw [put, if_neg (by omega), if_pos (by omega), put_true_same a4 (by omega) hx]
    rfl
theorem put_ok : ∀ {ps : Sp} {x : Int × Int} {l : Int}, okFrom l ps → l ≤ x.1 → x.1 ≤ x.2 → x.2 ≤ 9999 → okFrom l (put ps x false) ∧ ∀ n, InS (put ps x false) n ↔ InS ps n ∨ (x.1 ≤ n ∧ n ≤ x.2)
  | [], x, l, _, h1, h2, h3 => ⟨⟨⟨h1, h2, h3⟩, trivial⟩, fun n => by
      show InS [x] n ↔ _
      rw [inS_cons]
      exact ⟨fun h => h.symm.imp (fun e => e) (fun e => e), fun h => h.symm.imp (fun e => e) (fun e => e)⟩⟩
  | p :: ps, x, l, h, h1, h2, h3 => by
    obtain ⟨⟨a1, a2, a3⟩, a4⟩ := h
    rw [put]
    split
    · obtain ⟨i1, i2⟩ := put_ok a4 (by omega) h2 h3
      refine ⟨⟨⟨a1, a2, a3⟩, i1⟩, fun n => ?_⟩
      rw [inS_cons, inS_cons, i2, or_assoc]
    · split
      · rw [put_true_same (l := p.2 + 2) a4 (by omega) h2]
        refine ⟨⟨⟨h1, h2, h3⟩, ⟨⟨by omega, a2, a3⟩, a4⟩⟩, fun n => ?_⟩
        show InS (x :: p :: ps) n ↔ _
        rw [inS_cons (p := x)]
        exact or_comm
      · obtain ⟨i1, i2⟩ := put_ok (x := (min x.1 p.1, max x.2 p.2)) (l := l) (okFrom_mono a4 (by omega)) (by simp only; omega) (by simp only; omega) (by simp only; omega)
        refine ⟨i1, fun n => ?_⟩
        rw [i2, inS_cons]
        have : (min x.1 p.1 ≤ n ∧ n ≤ max x.2 p.2) ↔ (p.1 ≤ n ∧ n ≤ p.2) ∨ (x.1 ≤ n ∧ n ≤ x.2) := by omega
        rw [show ((min x.1 p.1, max x.2 p.2).1 ≤ n ∧ n ≤ (min x.1 p.1, max x.2 p.2).2) ↔ (p.1 ≤ n ∧ n ≤ p.2) ∨ (x.1 ≤ n ∧ n ≤ x.2) from this, or_comm, or_right_comm]
theorem okFrom_at {ps : Sp} (h : okFrom 0 ps) {k : Nat} (hk : k < ps.length) : 0 ≤ (ps.at k).1 ∧ (ps.at k).1 ≤ (ps.at k).2 ∧ (ps.at k).2 ≤ 9999 := (Sp.okAt_parts (Sp.ok_at (ok_iff.2 h) k hk)).1
theorem take_inS {qs : Sp} {k : Nat} (hk : k < qs.length) (n : Int) : InS (qs.take (k + 1)) n ↔ InS (qs.take k) n ∨ ((qs.at k).1 ≤ n ∧ n ≤ (qs.at k).2) := by
  rw [takeP_succ qs k hk, inS_append, inS_cons]
  show _ ∨ (_ ∨ InS [] n) ↔ _
  exact ⟨fun h => h.imp id (fun h => h.resolve_right inS_nil), fun h => h.imp id .inl⟩
theorem joinTo_ok {ps qs : Sp} (h1 : okFrom 0 ps) (h2 : okFrom 0 qs) : ∀ k, k ≤ qs.length → okFrom 0 (joinTo ps qs k) ∧ ∀ n, InS (joinTo ps qs k) n ↔ InS ps n ∨ InS (qs.take k) n
  | 0, _ => by
    rw [joinTo_zero]
    exact ⟨h1, fun n => ⟨.inl, fun h => h.resolve_right inS_nil⟩⟩
  | k + 1, hk => by
    have hq := okFrom_at h2 (k := k) (by omega)
    obtain ⟨i1, i2⟩ := joinTo_ok h1 h2 k (by omega)
    obtain ⟨j1, j2⟩ := put_ok (x := qs.at k) i1 (by omega) (by omega) (by omega)
    rw [joinTo_succ (by omega)]
    refine ⟨j1, fun n => ?_⟩
    rw [j2, i2, take_inS (by omega), or_assoc]
theorem join_ok {ps qs : Sp} (h1 : okFrom 0 ps) (h2 : okFrom 0 qs) : okFrom 0 (joinTo ps qs qs.length) ∧ ∀ n, InS (joinTo ps qs qs.length) n ↔ InS ps n ∨ InS qs n := by
  have := joinTo_ok h1 h2 qs.length (Nat.le_refl _)
  rw [List.take_length] at this
  exact this
/-- A span is laid behind o: apart, or into its last one. -/
def lay1 (o : Sp) (x : Int × Int) : Sp := if o = [] ∨ (o.at (o.length - 1)).2 + 1 < x.1 then o ++ [x] else o.take (o.length - 1) ++ [((o.at (o.length - 1)).1, max (o.at (o.length - 1)).2 x.2)]
def lay (o xs : Sp) : Sp := xs.foldl lay1 o
/-- How many spans begin no later than n. -/
def cutN : Sp → Int → Nat
  | [], _ => 0
  | p :: ps, n => if p.1 ≤ n then cutN ps n + 1 else 0
/-- Both sets, gone through once; o: what has come. -/
def both : Sp → Sp → Sp → Sp
  | a, [], o => lay o a
  | a, x :: b, o => both (a.drop (cutN a x.1)) b (lay1 (lay o (a.take (cutN a x.1))) x)
theorem snoc_cases (o : Sp) : o = [] ∨ ∃ o' t, o = o' ++ [t] := by
  rcases List.eq_nil_or_concat o with h | ⟨o', t, h⟩
  · exact .inl h
  · exact .inr ⟨o', t, by simpa using h⟩
theorem lay1_nil (x : Int × Int) : lay1 [] x = [x] := by simp [lay1]
theorem lay1_snoc (o : Sp) (t x : Int × Int) : lay1 (o ++ [t]) x = if t.2 + 1 < x.1 then o ++ [t] ++ [x] else o ++ [(t.1, max t.2 x.2)] := by
  have e : (o ++ [t]).at ((o ++ [t]).length - 1) = t := by simp [Sp.at]
  have e2 : (o ++ [t]).take ((o ++ [t]).length - 1) = o := by simp
  unfold lay1
  rw [e, e2]
  simp
/-- Right so far; the last span begins at m or ahead of it. -/
structure LayOk (o : Sp) (m : Int) : Prop where
  ok : okFrom 0 o
  le : ∀ o' t, o = o' ++ [t] → t.1 ≤ m
theorem LayOk.nil (m : Int) : LayOk [] m := ⟨trivial, fun o' t h => by simp at h⟩
theorem LayOk.up {o : Sp} {m m' : Int} (h : LayOk o m) (hm : m ≤ m') : LayOk o m' := ⟨h.ok, fun o' t e => Int.le_trans (h.le o' t e) hm⟩
theorem lay1_ok {o : Sp} {x : Int × Int} {m : Int} (h : LayOk o m) (hm : m ≤ x.1) (h0 : 0 ≤ x.1) (h1 : x.1 ≤ x.2) (h2 : x.2 ≤ 9999) : LayOk (lay1 o x) x.1 ∧ ∀ n, InS (lay1 o x) n ↔ InS o n ∨ (x.1 ≤ n ∧ n ≤ x.2) := by
  rcases snoc_cases o with rfl | ⟨o', t, rfl⟩
  · rw [lay1_nil]
    refine ⟨⟨⟨⟨h0, h1, h2⟩, trivial⟩, fun o' t e => ?_⟩, fun n => ?_⟩
    · obtain ⟨rfl, rfl⟩ : o' = [] ∧ x = t := by
        cases o' with
        | nil => simpa using e
        | cons y ys => simp at e
      exact Int.le_refl _
    · rw [inS_cons]
      exact ⟨fun h => .inr (h.resolve_right inS_nil), fun h => .inl (h.resolve_left inS_nil)⟩
  · have ht := h.le o' t rfl
    have hok := h.ok
    rw [okFrom_append] at hok
    obtain ⟨k1, ⟨k2, k3, k4⟩, _⟩ := hok
    rw [lay1_snoc]
    split
    · refine ⟨⟨?_, fun o2 t2 e => ?_⟩, fun n => ?_⟩
      · rw [okFrom_append, endOf_snoc]
        exact ⟨h.ok, ⟨by omega, h1, h2⟩, trivial⟩
      · have e3 := List.append_inj_right' e rfl
        obtain rfl : x = t2 := by simpa using e3
        exact Int.le_refl _
      · rw [inS_append (ps := o' ++ [t]), inS_cons (p := x)]
        exact ⟨fun h => h.imp id (fun h => h.resolve_right inS_nil), fun h => h.imp id .inl⟩
    · refine ⟨⟨?_, fun o2 t2 e => ?_⟩, fun n => ?_⟩
      · rw [okFrom_append]
        exact ⟨k1, ⟨k2, by simp only; omega, by simp only; omega⟩, trivial⟩
      · have e3 := List.append_inj_right' e rfl
        have e4 : (t.1, max t.2 x.2) = t2 := by simpa using e3
        rw [← e4]; simp only; omega
      · rw [inS_append, inS_append, inS_cons, inS_cons]
        have : (t.1 ≤ n ∧ n ≤ max t.2 x.2) ↔ (t.1 ≤ n ∧ n ≤ t.2) ∨ (x.1 ≤ n ∧ n ≤ x.2) := by omega
        rw [show ((t.1, max t.2 x.2).1 ≤ n ∧ n ≤ (t.1, max t.2 x.2).2) ↔ (t.1 ≤ n ∧ n ≤ t.2) ∨ (x.1 ≤ n ∧ n ≤ x.2) from this]
        have e := inS_nil (n := n)
        simp only [e, or_false, or_assoc]
theorem lay_ok : ∀ {xs o : Sp} {m l M : Int}, LayOk o m → okFrom l xs → m ≤ l → 0 ≤ l → m ≤ M → (∀ p ∈ xs, p.1 ≤ M) → LayOk (lay o xs) M ∧ ∀ n, InS (lay o xs) n ↔ InS o n ∨ InS xs n
  | [], o, m, l, M, h, _, _, _, hM, _ => ⟨h.up hM, fun n => ⟨.inl, fun h => h.resolve_right inS_nil⟩⟩
  | x :: xs, o, m, l, M, h, hx, hm, h0, hM, hall => by
    obtain ⟨⟨a1, a2, a3⟩, a4⟩ := hx
    obtain ⟨i1, i2⟩ := lay1_ok h (x := x) (by omega) (by omega) a2 a3
    obtain ⟨j1, j2⟩ := lay_ok (xs := xs) (M := M) i1 a4 (by omega) (by omega) (hall x (by simp)) (fun p hp => hall p (by simp [hp]))
    refine ⟨j1, fun n => ?_⟩
    rw [show lay o (x :: xs) = lay (lay1 o x) xs from rfl, j2, i2, inS_cons, or_assoc]
theorem cutN_le : ∀ (a : Sp) (n : Int), cutN a n ≤ a.length
  | [], _ => by simp [cutN]
  | p :: a, n => by
    rw [cutN]
    split
    · have := cutN_le a n; simp; omega
    · simp
theorem cut_take : ∀ (a : Sp) (n : Int), ∀ p ∈ a.take (cutN a n), p.1 ≤ n
  | [], _, p, hp => by simp [cutN] at hp
  | q :: a, n, p, hp => by
    rw [cutN] at hp
    split at hp
    · rw [List.take_succ_cons] at hp
      rcases List.mem_cons.1 hp with rfl | hp
      · assumption
      · exact cut_take a n p hp
    · simp at hp
theorem okFrom_take {l : Int} {a : Sp} (k : Nat) (h : okFrom l a) : okFrom l (a.take k) := by
  have := h
  rw [← List.take_append_drop k a, okFrom_append] at this
  exact this.1
theorem cut_drop : ∀ {a : Sp} {n l : Int}, okFrom l a → okFrom n (a.drop (cutN a n))
  | [], _, _, _ => by simp [cutN, okFrom]
  | q :: a, n, l, h => by
    rw [cutN]
    split
    · rw [List.drop_succ_cons]; exact cut_drop h.2
    · exact ⟨⟨by omega, h.1.2⟩, h.2⟩
theorem both_ok : ∀ {b a o : Sp} {m la lb : Int}, LayOk o m → okFrom la a → okFrom lb b → m ≤ la → m ≤ lb → 0 ≤ la → 0 ≤ lb → okFrom 0 (both a b o) ∧ ∀ n, InS (both a b o) n ↔ InS o n ∨ InS a n ∨ InS b n
  | [], a, o, m, la, lb, h, ha, _, h1, _, h0, _ => by
    obtain ⟨M, hM⟩ : ∃ M : Int, m ≤ M ∧ ∀ p ∈ a, p.1 ≤ M := ⟨max m 9999, by omega, fun p hp => by
      obtain ⟨k, hk, rfl⟩ := List.getElem_of_mem hp
      have := okFrom_at (okFrom_mono ha h0) hk
      unfold Sp.at at this
      rw [List.getElem?_eq_getElem hk] at this
      simp only [Option.getD_some] at this
      omega⟩
    obtain ⟨i1, i2⟩ := lay_ok h ha h1 h0 hM.1 hM.2
    refine ⟨i1.ok, fun n => ?_⟩
    rw [both, i2]
    exact ⟨fun h => h.imp id .inl, fun h => h.imp id (fun h => h.resolve_right inS_nil)⟩
  | x :: b, a, o, m, la, lb, h, ha, hb, h1, h2, h0, h00 => by
    obtain ⟨⟨b1, b2, b3⟩, b4⟩ := hb
    obtain ⟨i1, i2⟩ := lay_ok (M := x.1) h (okFrom_take (cutN a x.1) ha) h1 h0 (by omega) (cut_take a x.1)
    obtain ⟨j1, j2⟩ := lay1_ok (x := x) i1 (Int.le_refl _) (by omega) b2 b3
    obtain ⟨k1, k2⟩ := both_ok (a := a.drop (cutN a x.1)) (b := b) j1 (cut_drop ha) b4 (Int.le_refl _) (by omega) (by omega) (by omega)
    refine ⟨k1, fun n => ?_⟩
    have e : InS a n ↔ InS (a.take (cutN a x.1)) n ∨ InS (a.drop (cutN a x.1)) n := by rw [← inS_append, List.take_append_drop]
    rw [both, k2, j2, i2, inS_cons, e]
    simp only [or_assoc]
    constructor
    · rintro (h | h | h | h | h) <;> simp [h]
    · rintro (h | h | h | h | h) <;> simp [h]
theorem both_nil_ok {a b : Sp} (ha : okFrom 0 a) (hb : okFrom 0 b) : okFrom 0 (both a b []) ∧ ∀ n, InS (both a b []) n ↔ InS a n ∨ InS b n := by
  obtain ⟨i1, i2⟩ := both_ok (LayOk.nil 0) ha hb (Int.le_refl _) (Int.le_refl _) (Int.le_refl _) (Int.le_refl _)
  exact ⟨i1, fun n => by rw [i2]; exact ⟨fun h => h.resolve_left inS_nil, .inr⟩⟩
theorem both_join {a b : Sp} (ha : a.ok = true) (hb : b.ok = true) : both a b [] = a.join b := by
  rw [Sp.join_yes ha hb]
  obtain ⟨i1, i2⟩ := both_nil_ok (ok_iff.1 ha) (ok_iff.1 hb)
  obtain ⟨j1, j2⟩ := join_ok (ok_iff.1 ha) (ok_iff.1 hb)
  exact sp_ext i1 j1 (fun n => by rw [i2, j2])
theorem single_ok {n : Int} (h : 0 ≤ n ∧ n ≤ 9999) : okFrom 0 [(n, n)] := ⟨⟨h.1, Int.le_refl _, h.2⟩, trivial⟩
theorem inS_single {n m : Int} : InS [(n, n)] m ↔ m = n := by
  rw [inS_cons]
  exact ⟨fun h => by have := h.resolve_right inS_nil; simp only at this; omega, fun h => .inl (by simp only; omega)⟩
theorem both_add {a : Sp} {n : Int} (ha : a.ok = true) (hn : 0 ≤ n ∧ n ≤ 9999) : both a [(n, n)] [] = (a.add n).1 ∧ (a.add n).2 = decide (¬ both a [(n, n)] [] = a) := by
  obtain ⟨i1, i2⟩ := both_nil_ok (ok_iff.1 ha) (single_ok hn)
  by_cases h : a.has n = true
  · have e : both a [(n, n)] [] = a := sp_ext i1 (ok_iff.1 ha) (fun m => by
      rw [i2, inS_single]
      exact ⟨fun e => e.elim id (fun e => by rw [e]; exact h), .inl⟩)
    rw [Sp.add_not (fun e => by rw [h] at e; cases e.2.2), e]
    simp
  · have h' : a.has n = false := by simpa using h
    rw [Sp.add_yes ha hn h']
    obtain ⟨j1, j2⟩ := put_ok (x := (n, n)) (ok_iff.1 ha) hn.1 (Int.le_refl _) hn.2
    have e : both a [(n, n)] [] = put a (n, n) false := sp_ext i1 j1 (fun m => by
      rw [i2, j2, inS_single]
      exact ⟨fun e => e.imp id (fun e => by simp only; omega), fun e => e.imp id (fun e => by simp only at e; omega)⟩)
    refine ⟨e, ?_⟩
    have ne : ¬ both a [(n, n)] [] = a := fun e => h (by
      have := (i2 n).2 (.inr (inS_single.2 rfl))
      rw [e] at this
      exact this)
    simp [ne]
/-- No span of the one meets one of the other. -/
def noMeet (a b : Sp) : Bool := a.all fun p => b.all fun q => !meet p q
theorem meet_comm (p q : Int × Int) : meet p q = meet q p := by unfold meet; rw [Bool.eq_iff_iff]; simp only [decide_eq_true_eq]; exact and_comm
theorem noMeet_nil (b : Sp) : noMeet [] b = true := rfl
theorem noMeet_comm (a b : Sp) : noMeet a b = noMeet b a := by
  unfold noMeet
  rw [Bool.eq_iff_iff]
  simp only [List.all_eq_true]
  exact ⟨fun h q hq p hp => by rw [meet_comm]; exact h p hp q hq, fun h q hq p hp => by rw [meet_comm]; exact h p hp q hq⟩
theorem okFrom_mem : ∀ {b : Sp} {l : Int}, okFrom l b → ∀ q ∈ b, l ≤ q.1 ∧ q.1 ≤ q.2 ∧ q.2 ≤ 9999
  | [], _, _, q, hq => by simp at hq
  | p :: b, l, h, q, hq => by
    rcases List.mem_cons.1 hq with rfl | hq
    · exact h.1
    · have := okFrom_mem h.2 q hq
      have := h.1
      omega
theorem noMeet_hit {p q : Int × Int} {a b : Sp} (h1 : p.1 ≤ q.1) (h2 : q.1 ≤ p.2) (h3 : q.1 ≤ q.2) : noMeet (p :: a) (q :: b) = false := by
  have : meet p q = true := by unfold meet; exact decT (by omega)
  simp [noMeet, this]
theorem noMeet_drop {p q : Int × Int} {a b : Sp} {l : Int} (h : okFrom l (q :: b)) (h2 : p.2 < q.1) : noMeet (p :: a) (q :: b) = noMeet a (q :: b) := by
  have e : (q :: b).all (fun q => !meet p q) = true := by
    rw [List.all_eq_true]
    intro r hr
    have := okFrom_mem (l := q.1) (b := q :: b) ⟨⟨Int.le_refl _, h.1.2⟩, h.2⟩ r hr
    unfold meet
    rw [decF (by omega)]
    rfl
  show ((q :: b).all _ && _) = _
  rw [e]
  rfl
theorem apart_eq (ps qs : Sp) : ps.apart qs = (ps.ok && qs.ok && noMeet ps qs) := rfl
end Go.Proofs.Ytbmbmnhamogghap
/- The walks through the program's SetOk, SetHas and SetSize. No statement of the seat is proved here. -/
namespace Go.Proofs.Ytbmbmnhamogghap
open Go.RowKit
theorem cells_of {w : World} {a : Option Addr} {len : Nat} {ps : Sp} {F : List Nat} (h : RdP w a len ps F) : len = 0 ∨ ∃ b off, a = some ⟨b, off, none⟩ ∧ b < w.heap.size ∧ SpCells w b off len ps := by
  rcases h.cells with ⟨h0, _⟩ | ⟨b, off, hp, e, _, hc⟩
  · exact .inl h0
  · exact .inr ⟨b, off, e, World.block_lt_of_cell? _ _ (hc 0 hp).1, hc⟩
theorem floorAt_succ (ps : Sp) (k : Nat) : floorAt ps (k + 1) = (ps.at k).2 + 2 := by unfold floorAt; rw [if_neg (by omega), show k + 1 - 1 = k by omega]
set_option maxRecDepth 200000 in
set_option maxHeartbeats 2000000 in
theorem setOkImpl_any (a : Option Addr) (len cap : Nat) (ps : Sp) (F : List Nat) (w : World) (h : RdP w a len ps F) (hlen : len ≤ 2097152) :
    Calls Try.prog 77 #[.slice a len cap] w fun e w' => e = .returned (.bool ps.ok) ∧ Below w.heap.size w w' := by
  have HL : Hid (ps.length = len) := h.length
  have HC : Hid (len = 0 ∨ ∃ b off, a = some ⟨b, off, none⟩ ∧ b < w.heap.size ∧ SpCells w b off len ps) := cells_of h
  clear h
  go_enter Try.func77, Try.ntmps77
  go_wp2
  go_loopw [3, 8] (fun q i wr => ∃ (k : Nat) (l : Int), k ≤ len ∧ i = .int .i64 k ∧ q = .int .i64 l ∧ 0 ≤ l ∧ l ≤ 10001 ∧ Hid (Below w.heap.size w wr) ∧ Hid (l = floorAt ps k ∧ ∀ j, j < k → ps.okAt j = true)) (fun _ i _ => len - (intOf i).toNat)
  case atStart => exact ⟨0, 0, by omega, rfl, rfl, by omega, by omega, Below.refl _ _, rfl, fun j hj => by omega⟩
  case round =>
    obtain ⟨k, l, hk, rfl, rfl, l0, l1, HB, HN⟩ := hrel
    by_cases hlt : k < len
    · have hca := HC.out
      rcases hca with h0 | ⟨b, off, rfl, hbw, hc⟩
      · omega
      obtain ⟨x, hx⟩ : ∃ x, x = (ps.at k).1 := ⟨_, rfl⟩
      obtain ⟨y, hy⟩ : ∃ x, x = (ps.at k).2 := ⟨_, rfl⟩
      have e := hc k hlt
      rw [← hx, ← hy] at e
      have d1 : wr.cell? ⟨b, off + k * 2, none⟩ = some (.int .i64 x) := (HB.out.cell (by exact hbw)).trans e.1
      have d2 : wr.cell? ⟨b, off + k * 2 + 1, none⟩ = some (.int .i64 y) := (HB.out.cell (by exact hbw)).trans e.2
      have HX : Hid (x = (ps.at k).1 ∧ y = (ps.at k).2) := ⟨hx, hy⟩
      have HB2 : Hid (Below w.heap.size w (wr.alloc (.cells #[.int .i64 x, .int .i64 y] 85))) := Below.allocW _ HB.out (Nat.le_refl _)
      have HOK : Hid (ps.okAt k = true ↔ l ≤ x ∧ 0 ≤ x ∧ x ≤ y ∧ y ≤ 9999) := by
        have := okAt_iff ps k
        rw [← hx, ← hy] at this
        rw [HN.out.1]
        exact this
      have hI : (k : Int) < (len : Int) := by omega
      have hkl : k < ps.length := by rw [HL.out]; exact hlt
      clear e hx hy hc HB
      by_cases c1 : x < l
      · have c1d : decide (x < l) = true := decT c1
        have HV : Hid (ps.ok = false) := Sp.ok_not hkl (by rw [Bool.eq_false_iff]; exact fun e => by have := HOK.out.1 e; omega)
        go_wp2
        go_ret
        rw [HV.out]
        exact ⟨rfl, HB2.out⟩
      have c1d : decide (x < l) = false := decF c1
      by_cases c2 : y < x
      · have c2d : decide (y < x) = true := decT c2
        have HV : Hid (ps.ok = false) := Sp.ok_not hkl (by rw [Bool.eq_false_iff]; exact fun e => by have := HOK.out.1 e; omega)
        go_wp2
        go_ret
        rw [HV.out]
        exact ⟨rfl, HB2.out⟩
      have c2d : decide (y < x) = false := decF c2
      by_cases c3 : 9999 < y
      · have c3d : decide (9999 < y) = true := decT c3
        have HV : Hid (ps.ok = false) := Sp.ok_not hkl (by rw [Bool.eq_false_iff]; exact fun e => by have := HOK.out.1 e; omega)
        go_wp2
        go_ret
        rw [HV.out]
        exact ⟨rfl, HB2.out⟩
      have c3d : decide (9999 < y) = false := decF c3
      have HN2 : Hid (y + 2 = floorAt ps (k + 1) ∧ ∀ j, j < k + 1 → ps.okAt j = true) := ⟨by rw [floorAt_succ, HX.out.2], all_up HN.out.2 (HOK.out.2 ⟨by omega, by omega, by omega, by omega⟩)⟩
      go_wp2
      go_roundw
      case rel => exact ⟨k + 1, y + 2, by omega, by go_num, by go_num, by omega, by omega, HB2, HN2⟩
      case measure => simp [intOf]; omega
    · obtain rfl : k = len := by omega
      have HV : Hid (ps.ok = true) := Sp.ok_all (fun j hj => HN.out.2 j (by rw [← HL.out]; exact hj))
      go_wp2
      go_ret
      rw [HV.out]
      exact ⟨rfl, HB.out⟩
end Go.Proofs.Ytbmbmnhamogghap
/- The walk through EntrySame. No statement of the seat is proved here. -/
namespace Go.Proofs.Ytbmbmnhamogghap
open Go.RowKit
set_option maxRecDepth 200000 in
set_option maxHeartbeats 2000000 in
theorem l5Same_any (a b : Option Addr) (la lb ca cb : Nat) (xs ys : Sp) (F G : List Nat) (w : World) (ha : RdP w a la xs F) (hb : RdP w b lb ys G) (hla : la ≤ 140737488355328) (hlb : lb ≤ 140737488355328) :
    Calls Try.prog 62 #[.slice a la ca, .slice b lb cb] w fun e w' => e = .returned (.bool (decide (xs = ys))) ∧ QuietTo w w' := by
  have Hx : Hid (xs.length = la) := ha.length
  have Hy : Hid (ys.length = lb) := hb.length
  by_cases hl : la = lb
  · subst hl
    have hbne : ((la : Int) != (la : Int)) = false := by simp
    have HCA : Hid (la = 0 ∨ ∃ b1 o1, a = some ⟨b1, o1, none⟩ ∧ b1 < w.heap.size ∧ SpCells w b1 o1 la xs) := cells_of ha
    have HCB : Hid (la = 0 ∨ ∃ b1 o1, b = some ⟨b1, o1, none⟩ ∧ b1 < w.heap.size ∧ SpCells w b1 o1 la ys) := cells_of hb
    clear ha hb
    go_enter Try.func62, Try.ntmps62
    go_wp2
    go_loopw [5] (fun i wr => ∃ k : Nat, k ≤ la ∧ i = .int .i64 k ∧ Hid (xs.take k = ys.take k) ∧ Hid (QuietTo w wr)) (fun i _ => la - (intOf i).toNat)
    case atStart => exact ⟨0, by omega, rfl, rfl, QuietTo.refl _⟩
    case round =>
      obtain ⟨k, hk, rfl, HT, HQ⟩ := hrel
      by_cases hlt : k < la
      · rcases HCA.out with h0 | ⟨b1, o1, rfl, hbw1, hc1⟩
        · omega
        rcases HCB.out with h0 | ⟨b2, o2, rfl, hbw2, hc2⟩
        · omega
        obtain ⟨x, hx⟩ : ∃ x, x = (xs.at k).1 := ⟨_, rfl⟩
        obtain ⟨y, hy⟩ : ∃ x, x = (xs.at k).2 := ⟨_, rfl⟩
        obtain ⟨x', hx'⟩ : ∃ x, x = (ys.at k).1 := ⟨_, rfl⟩
        obtain ⟨y', hy'⟩ : ∃ x, x = (ys.at k).2 := ⟨_, rfl⟩
        have e1 := hc1 k hlt
        have e2 := hc2 k hlt
        rw [← hx, ← hy] at e1
        rw [← hx', ← hy'] at e2
        have d1 : wr.cell? ⟨b1, o1 + k * 2, none⟩ = some (.int .i64 x) := (HQ.out.cell _).trans e1.1
        have d2 : wr.cell? ⟨b1, o1 + k * 2 + 1, none⟩ = some (.int .i64 y) := (HQ.out.cell _).trans e1.2
        have d3 : wr.cell? ⟨b2, o2 + k * 2, none⟩ = some (.int .i64 x') := (HQ.out.cell _).trans e2.1
        have d4 : wr.cell? ⟨b2, o2 + k * 2 + 1, none⟩ = some (.int .i64 y') := (HQ.out.cell _).trans e2.2
        have HE : Hid ((x = x' ∧ y = y') ↔ xs[k]?.getD (0, 0) = ys[k]?.getD (0, 0)) := by rw [hx, hy, hx', hy']; exact Prod.ext_iff.symm
        have hI : (k : Int) < (la : Int) := by omega
        clear e1 e2 hx hy hx' hy' hc1 hc2
        by_cases c : x = x' ∧ y = y'
        · have e1 : (x == x') = true := by simp [c.1]
          have e2 : (y == y') = true := by simp [c.2]
          have HT2 : Hid (xs.take (k + 1) = ys.take (k + 1)) := eqP_step (by rw [Hx.out, Hy.out]) (by rw [Hx.out]; exact hlt) HT.out (HE.out.1 c)
          clear c
          go_wp2
          go_quiet (fail)
          go_wp2
          go_roundw
          case rel => exact ⟨k + 1, by omega, by go_num, HT2, HQ.out.drewN _⟩
          case measure => simp [intOf]; omega
        have HV : Hid (decide (xs = ys) = false) := neP_of_at (fun e => c (HE.out.2 e))
        by_cases c1 : x = x'
        · have e1 : (x == x') = true := by simp [c1]
          have e2 : (y == y') = false := by simpa using (fun e => c ⟨c1, e⟩)
          clear c c1
          go_wp2
          go_quiet (fail)
          go_wp2
          go_ret
          exact ⟨ret_bool HV.out.symm, HQ.out.drewN _⟩
        · have e1 : (x == x') = false := by simpa using c1
          clear c c1
          go_wp2
          go_quiet (fail)
          go_wp2
          go_ret
          exact ⟨ret_bool HV.out.symm, HQ.out.drewN _⟩
      · obtain rfl : k = la := by omega
        go_wp2
        go_ret
        exact ⟨ret_bool (eqP_end Hx.out Hy.out HT.out).symm, HQ.out⟩
  · have hbne : ((la : Int) != (lb : Int)) = true := by simp; omega
    have e : decide (xs = ys) = false := by
      rw [decide_eq_false_iff_not]; intro e; subst e; exact hl (Hx.out.symm.trans Hy.out)
    clear ha hb
    go_enter Try.func62, Try.ntmps62
    go_wp2
    go_ret
    exact ⟨ret_bool e.symm, QuietTo.refl _⟩
set_option maxRecDepth 200000 in
set_option maxHeartbeats 4000000 in
theorem entrySameSpec_any (v u : Value) (x y : En) (F F' G G' : List Nat) (w : World) (h : RdEn w v x F F') (k : RdEn w u y G G') (hx : x.sk.wide) (hy : y.sk.wide) (hlx : x.ids.length ≤ 2097152) (hly : y.ids.length ≤ 2097152) :
    Calls Try.prog 26 #[v, u] w fun e w' => e = .returned (.bool (decide (x = y))) ∧ Below w.heap.size w w' := by
  obtain ⟨p, l, g, a1, n1, nc1, a2, n2, nc2, a3, n3, nc3, rfl, px, sx, _⟩ := h
  obtain ⟨q, k, j, b1, m1, mc1, b2, m2, mc2, b3, m3, mc3, rfl, py, sy, _⟩ := k
  have HX : Hid (RdSk w (.agg #[.int .i64 x.sk.count, .int .i64 x.sk.sum, .int .i64 x.sk.min, .int .i64 x.sk.max, .slice a1 n1 nc1, .slice a2 n2 nc2, .slice a3 n3 nc3]) x.sk F' ∧ RdSk w (.agg #[.int .i64 y.sk.count, .int .i64 y.sk.sum, .int .i64 y.sk.min, .int .i64 y.sk.max, .slice b1 m1 mc1, .slice b2 m2 mc2, .slice b3 m3 mc3]) y.sk G' ∧ x.sk.wide ∧ y.sk.wide) := ⟨sx, sy, hx, hy⟩
  have HP : Hid (RdP w p l x.ids F ∧ RdP w q k y.ids G ∧ l ≤ 2097152 ∧ k ≤ 2097152) := ⟨px, py, by rw [← px.length]; exact hlx, by rw [← py.length]; exact hly⟩
  have HT : Hid (_ ∧ _ ∧ _) := two_made w #[.int .i64 x.key, .int .i64 x.window, .slice p l g, .int .i64 x.sk.count, .int .i64 x.sk.sum, .int .i64 x.sk.min, .int .i64 x.sk.max, .slice a1 n1 nc1, .slice a2 n2 nc2, .slice a3 n3 nc3] #[.int .i64 y.key, .int .i64 y.window, .slice q k j, .int .i64 y.sk.count, .int .i64 y.sk.sum, .int .i64 y.sk.min, .int .i64 y.sk.max, .slice b1 m1 mc1, .slice b2 m2 mc2, .slice b3 m3 mc3] 34 34
  obtain ⟨d, hd⟩ : ∃ d, d = decide (x = y) := ⟨_, rfl⟩
  rw [← hd]
  have HD : Hid (d = decide (x = y)) := hd
  clear px py sx sy hx hy hlx hly hd
  obtain ⟨W0, hW0⟩ : ∃ W0, W0 = (w.alloc (.cells #[.int .i64 x.key, .int .i64 x.window, .slice p l g, .int .i64 x.sk.count, .int .i64 x.sk.sum, .int .i64 x.sk.min, .int .i64 x.sk.max, .slice a1 n1 nc1, .slice a2 n2 nc2, .slice a3 n3 nc3] 34)).alloc (.cells #[.int .i64 y.key, .int .i64 y.window, .slice q k j, .int .i64 y.sk.count, .int .i64 y.sk.sum, .int .i64 y.sk.min, .int .i64 y.sk.max, .slice b1 m1 mc1, .slice b2 m2 mc2, .slice b3 m3 mc3] 34) := ⟨_, rfl⟩
  have k0 := HT.out.1.cell 0
  have k1 := HT.out.1.cell 1
  have k2 := HT.out.1.cell 2
  have j0 := HT.out.2.1.cell 0
  have j1 := HT.out.2.1.cell 1
  have j2 := HT.out.2.1.cell 2
  simp only [List.getElem?_toArray, List.getElem?_cons_succ, List.getElem?_cons_zero] at k0 k1 k2 j0 j1 j2
  clear hW0 W0
  by_cases c1 : x.key = y.key
  rotate_left
  · have HV : Hid (d = false) := by show d = _; rw [HD.out]; exact dec_false (fun e => c1 (by rw [e]))
    have z1 : (x.key == y.key) = false := by simpa using c1
    clear c1
    go_enter Try.func26, Try.ntmps26
    go_wp2
    go_ret
    exact ⟨ret_bool HV.out.symm, HT.out.2.2⟩
  have z1 : (x.key == y.key) = true := by simpa using c1
  by_cases c2 : x.window = y.window
  rotate_left
  · have HV : Hid (d = false) := by show d = _; rw [HD.out]; exact dec_false (fun e => c2 (by rw [e]))
    have z2 : (x.window == y.window) = false := by simpa using c2
    clear c1 c2
    go_enter Try.func26, Try.ntmps26
    go_wp2
    go_ret
    exact ⟨ret_bool HV.out.symm, HT.out.2.2⟩
  have z2 : (x.window == y.window) = true := by simpa using c2
  have HC : Hid (x.key = y.key ∧ x.window = y.window) := ⟨c1, c2⟩
  clear c1 c2
  go_enter Try.func26, Try.ntmps26
  go_wp2_with fail
  refine (l5Same_any p q l k g j x.ids y.ids F G _ (HP.out.1.below HT.out.2.2) (HP.out.2.1.below HT.out.2.2) (by have := HP.out.2.2; omega) (by have := HP.out.2.2; omega)).mono ?_
  rintro e w1 ⟨rfl, hq⟩
  have HB1 : Hid (Blk w1 w.heap.size #[.int .i64 x.key, .int .i64 x.window, .slice p l g, .int .i64 x.sk.count, .int .i64 x.sk.sum, .int .i64 x.sk.min, .int .i64 x.sk.max, .slice a1 n1 nc1, .slice a2 n2 nc2, .slice a3 n3 nc3] 34 ∧ Blk w1 (w.heap.size + 1) #[.int .i64 y.key, .int .i64 y.window, .slice q k j, .int .i64 y.sk.count, .int .i64 y.sk.sum, .int .i64 y.sk.min, .int .i64 y.sk.max, .slice b1 m1 mc1, .slice b2 m2 mc2, .slice b3 m3 mc3] 34 ∧ Below w.heap.size w w1) := ⟨HT.out.1.below (quiet_below hq), HT.out.2.1.below (quiet_below hq), Below.next HT.out.2.2 (quiet_below hq)⟩
  clear hq HT k0 k1 k2 j0 j1 j2 z1 z2
  by_cases c3 : x.ids = y.ids
  rotate_left
  · rw [dec_false c3]
    have HV : Hid (d = false) := by show d = _; rw [HD.out]; exact dec_false (fun e => c3 (by rw [e]))
    clear c3
    go_wp2
    go_ret
    exact ⟨ret_bool HV.out.symm, HB1.out.2.2⟩
  rw [dec_true c3]
  have HC3 : Hid (x.ids = y.ids) := c3
  clear c3
  go_wp2_with (first | go_skip | (with_reducible refine stopLoad 32 rfl ?_))
  refine load_cutw 32 w.heap.size 3 7 _ #[.int .i64 x.sk.count, .int .i64 x.sk.sum, .int .i64 x.sk.min, .int .i64 x.sk.max, .slice a1 n1 nc1, .slice a2 n2 nc2, .slice a3 n3 nc3] 34 _ HB1.out.1 rfl rfl rfl Try.underlying32 rfl infoSkI (by simp) rfl ?_
  go_wp2_with (first | go_skip | (with_reducible refine stopLoad 32 rfl ?_))
  refine load_cutw 32 (w.heap.size + 1) 3 7 _ #[.int .i64 y.sk.count, .int .i64 y.sk.sum, .int .i64 y.sk.min, .int .i64 y.sk.max, .slice b1 m1 mc1, .slice b2 m2 mc2, .slice b3 m3 mc3] 34 _ HB1.out.2.1 rfl rfl rfl Try.underlying32 rfl infoSkI (by simp) rfl ?_
  go_wp2_with fail
  refine (sameSpec_any _ _ x.sk y.sk F' G' _ (HX.out.1.below HB1.out.2.2) (HX.out.2.1.below HB1.out.2.2) HX.out.2.2.1 HX.out.2.2.2).mono ?_
  rintro e w2 ⟨rfl, b2⟩
  have HB2 : Hid (Below w.heap.size w w2) := Below.next HB1.out.2.2 b2
  clear b2
  obtain ⟨d2, hd2⟩ : ∃ d, d = decide (x.sk = y.sk) := ⟨_, rfl⟩
  rw [← hd2]
  have HV : Hid (d2 = d) := by
    show _ = _
    rw [hd2, HD.out]
    by_cases e : x.sk = y.sk
    · rw [dec_true e, dec_true (En.eq_of HC.out.1 HC.out.2 HC3.out e)]
    · rw [dec_false e, dec_false (fun q => e (by rw [q]))]
  clear hd2
  go_wp2
  go_ret
  exact ⟨ret_bool HV.out, HB2.out⟩
end Go.Proofs.Ytbmbmnhamogghap
/- Arrays of numbers compared as wholes. No statement of the seat is proved here. -/
namespace Go.Proofs.Ytbmbmnhamogghap
open Go.RowKit
def eqAt (d : Nat) (e : TypeId) (n : Nat) (xs ys : Array Value) : List Nat → Sem Bool
  | [] => pure true
  | i :: is => do
    let a ← part e xs (i * n)
    let b ← part e ys (i * n)
    let r ← Op.equalIn d e a b
    if (!r) = true then pure false else eqAt d e n xs ys is
theorem run_equalIn_array {P : Program} (w : World) (d : Nat) (t e : TypeId) (len n : Nat) (xs ys : Array Value) (ht : P.underlying t = some (.array len e)) (hn : ∀ w, (sizeOf e).run P w = .ok n w) :
    (Op.equalIn (d + 1) t (.agg xs) (.agg ys)).run P w = (eqAt d e n xs ys (List.range' 0 len 1)).run P w := by
  simp only [Op.equalIn, Sem.run_bind, run_underlying ht, Result.andThen_ok, hn]
  rw [Std.Legacy.Range.forIn_eq_forIn_range']
  simp only [Std.Legacy.Range.size, Nat.sub_zero, Nat.add_sub_cancel, Nat.div_one]
  generalize List.range' 0 len 1 = is
  induction is generalizing w with
  | nil => simp [eqAt]
  | cons i is ih =>
    simp only [List.forIn_cons, eqAt, Sem.run_bind]
    generalize (part e xs (i * n)).run P w = r1
    cases r1 with
    | ok a w1 =>
      simp only [Result.andThen_ok]
      generalize (part e ys (i * n)).run P w1 = r2
      cases r2 with
      | ok b w2 =>
        simp only [Result.andThen_ok]
        generalize (Op.equalIn d e a b).run P w2 = r3
        cases r3 with
        | ok r w3 =>
          cases r
          · simp only [Result.andThen_ok, Bool.not_false, if_true, Sem.run_pure]
          · simp only [Result.andThen_ok, Bool.not_true, Bool.false_eq_true, if_false, Sem.run_pure]
            exact ih w3
        | halt x w3 => simp [Result.andThen]
      | halt x w2 => simp [Result.andThen]
    | halt x w1 => simp [Result.andThen]
theorem run_part_tc {P : Program} (w : World) (e : TypeId) (xs : List Int) (i : Nat) (hu : P.underlying e = some (.int .i64)) (hi : i < xs.length) : (part e (tc xs) i).run P w = .ok (.int .i64 (xs.getD i 0)) w := by
  have h1 : (tc xs)[i]? = some (.int .i64 (xs.getD i 0)) := by rw [tc_at, List.getElem?_eq_getElem hi]; simp [List.getElem?_eq_getElem hi]
  have hagg : (isAgg e).run P w = .ok false w := by unfold isAgg; rw [Sem.run_bind, run_underlying hu w]; simp
  unfold part
  simp [Sem.run_bind, hagg, h1]
theorem eqAt_ints {P : Program} (d : Nat) (e : TypeId) (xs ys : List Int) (hu : P.underlying e = some (.int .i64)) : ∀ (is : List Nat) (w : World), (∀ i ∈ is, i < xs.length ∧ i < ys.length) →
    (eqAt (d + 1) e 1 (tc xs) (tc ys) is).run P w = .ok (is.all fun i => decide (xs.getD i 0 = ys.getD i 0)) w
  | [], w, _ => by simp [eqAt]
  | i :: is, w, h => by
    have ⟨h1, h2⟩ := h i List.mem_cons_self
    have ih := eqAt_ints d e xs ys hu is w (fun j hj => h j (List.mem_cons_of_mem _ hj))
    rw [eqAt, Sem.run_bind, Nat.mul_one, run_part_tc w e xs i hu h1, Result.andThen_ok, Sem.run_bind, run_part_tc w e ys i hu h2, Result.andThen_ok, Sem.run_bind, run_equalIn_int w d e .i64 .i64 _ _ hu, Result.andThen_ok, List.all_cons]
    by_cases q : xs.getD i 0 = ys.getD i 0
    · rw [q]
      simp only [beq_self_eq_true, Bool.not_true, Bool.false_eq_true, if_false, decide_true, Bool.true_and]
      exact ih
    · have q2 : (xs.getD i 0 == ys.getD i 0) = false := by simpa using q
      rw [q2, dec_false q]
      simp
theorem all_range_eq (xs ys : List Int) (n : Nat) (hx : xs.length = n) (hy : ys.length = n) : ((List.range' 0 n 1).all fun i => decide (xs.getD i 0 = ys.getD i 0)) = decide (xs = ys) := by
  by_cases q : xs = ys
  · subst q; simp
  · rw [dec_false q]
    rw [List.all_eq_false]
    refine Classical.byContradiction fun hc => q ?_
    apply List.ext_getElem (by omega)
    intro i h1 h2
    refine Classical.byContradiction fun hne => hc ⟨i, by simp [List.mem_range'_1]; omega, ?_⟩
    simpa [List.getElem?_eq_getElem h1, List.getElem?_eq_getElem h2] using hne
/-- Two arrays of numbers, compared. -/
theorem run_eq_ints {P : Program} (w : World) (d : Nat) (t e : TypeId) (n : Nat) (xs ys : List Int) (ht : P.underlying t = some (.array n e)) (hu : P.underlying e = some (.int .i64)) (hn : ∀ w, (sizeOf e).run P w = .ok 1 w) (hx : xs.length = n) (hy : ys.length = n) :
    (Op.equalIn (d + 2) t (.agg (tc xs)) (.agg (tc ys))).run P w = .ok (decide (xs = ys)) w := by
  rw [run_equalIn_array w (d + 1) t e n 1 _ _ ht hn, eqAt_ints d e xs ys hu _ w (fun i hi => by simp [List.mem_range'_1] at hi; omega), all_range_eq xs ys n hx hy]
theorem tc_extract (xs : List Int) (a b : Nat) : (tc xs).extract a (a + b) = tc ((xs.drop a).take b) := by
  apply Array.ext'
  simp [tc, List.extract_eq_take_drop, List.map_take, List.map_drop]
/-- Two arrays of two arrays of four numbers, compared. -/
theorem run_eq_rows {P : Program} (w : World) (d : Nat) (t u e : TypeId) (xs ys : List Int) (ht : P.underlying t = some (.array 2 u)) (hu : P.underlying u = some (.array 4 e)) (he : P.underlying e = some (.int .i64)) (hn : ∀ w, (sizeOf e).run P w = .ok 1 w) (hn4 : ∀ w, (sizeOf u).run P w = .ok 4 w) (hx : xs.length = 8) (hy : ys.length = 8) :
    (Op.equalIn (d + 3) t (.agg (tc xs)) (.agg (tc ys))).run P w = .ok (decide (xs = ys)) w := by
  have hagg : (isAgg u).run P w = .ok true w := by unfold isAgg; rw [Sem.run_bind, run_underlying hu w]; simp
  have hp : ∀ (zs : List Int) i, (part u (tc zs) i).run P w = .ok (.agg (tc ((zs.drop i).take 4))) w := by
    intro zs i
    unfold part
    simp only [Sem.run_bind, hagg, Result.andThen_ok, if_true, hn4, Sem.run_pure]
    rw [tc_extract]
  have h4 : ∀ i, i + 4 ≤ 8 → (Op.equalIn (d + 2) u (.agg (tc ((xs.drop i).take 4))) (.agg (tc ((ys.drop i).take 4)))).run P w = .ok (decide ((xs.drop i).take 4 = (ys.drop i).take 4)) w := fun i hi =>
    run_eq_ints w d u e 4 _ _ hu he hn (by simp; omega) (by simp; omega)
  rw [run_equalIn_array w (d + 2) t u 2 4 _ _ ht hn4]
  show (eqAt (d + 2) u 4 (tc xs) (tc ys) [0, 1]).run P w = _
  rw [eqAt, Sem.run_bind, hp, Result.andThen_ok, Sem.run_bind, hp, Result.andThen_ok, Sem.run_bind, h4 (0 * 4) (by omega), Result.andThen_ok]
  have ex : xs = (xs.drop 0).take 4 ++ (xs.drop 4).take 4 := by
    rw [List.drop_zero, List.take_of_length_le (l := xs.drop 4) (by simp; omega), List.take_append_drop]
  have ey : ys = (ys.drop 0).take 4 ++ (ys.drop 4).take 4 := by
    rw [List.drop_zero, List.take_of_length_le (l := ys.drop 4) (by simp; omega), List.take_append_drop]
  by_cases q0 : (xs.drop (0 * 4)).take 4 = (ys.drop (0 * 4)).take 4
  · rw [dec_true q0]
    simp only [Bool.not_true, Bool.false_eq_true, if_false]
    rw [eqAt, Sem.run_bind, hp, Result.andThen_ok, Sem.run_bind, hp, Result.andThen_ok, Sem.run_bind, h4 (1 * 4) (by omega), Result.andThen_ok]
    by_cases q1 : (xs.drop (1 * 4)).take 4 = (ys.drop (1 * 4)).take 4
    · rw [dec_true q1, dec_true (p := xs = ys) (by rw [ex, ey]; rw [show xs.drop 0 = xs.drop (0 * 4) from rfl, q0, show xs.drop 4 = xs.drop (1 * 4) from rfl, q1])]
      simp [eqAt]
    · rw [dec_false q1, dec_false (p := xs = ys) (fun e => q1 (by rw [e]))]
      simp
  · rw [dec_false q0, dec_false (p := xs = ys) (fun e => q0 (by rw [e]))]
    simp
/-! ### a part of a whole struct, out of memory -/
section
variable {P : Program} {ops : Array Oper} {Q : Exit → Act → World → Prop} {rest : List Oper} {a : Act} {w : World} {x y : Operand} {o : Oper}
theorem wpList_wanted (hw : Region.wanted o (yielded ops a.tmps) = true) (h : ∀ K : Act → World → Prop, (∀ a w, wpList P ops Q rest a w → K a w) → o.wp P a w K Q) : wpList P ops Q (o :: rest) a w :=
  wpList_step fun K hK => by rw [if_pos hw]; exact h K hK
theorem run_loadVar_part (w : World) (g off n : Nat) (t ty : TypeId) (xs : List Int) (d : TypeDesc) (hg : Blk w g (tc xs) t) (hu : P.underlying ty = some d) (hd : (match d with | .struct _ | .array _ _ => true | _ => false) = true) (hi : (P.info? ty).map (·.size) = some n) (hfit : off + n ≤ xs.length) :
    (loadVar ty ⟨g, off, none⟩).run P w = .ok (.agg (tc ((xs.drop off).take n))) w := by
  have hlen : (((xs.drop off).take n).map (Value.int .i64)).length = n := by simp; omega
  have hl := run_loadCells_list (P := P) w ⟨g, off, none⟩ (((xs.drop off).take n).map (Value.int .i64)) (fun j v hv => by
      have hadd : (⟨g, off, none⟩ : Addr).add j = ⟨g, off + j, none⟩ := by unfold Addr.add; split <;> simp_all
      have hj : j < n := by rw [← hlen]; exact (List.getElem?_eq_some_iff.1 hv).1
      rw [hadd, hg.cell, tc_at]
      rw [List.getElem?_map, List.getElem?_take, if_pos hj, List.getElem?_drop] at hv
      exact hv)
  rw [hlen] at hl
  cases hq : P.info? ty with
  | none => simp [hq] at hi
  | some i =>
    have hs : i.size = n := by simpa [hq] using hi
    have hagg : (isAgg ty).run P w = .ok true w := by
      unfold isAgg
      rw [Sem.run_bind, run_underlying hu w]
      cases d <;> simp_all
    simp only [loadVar, Sem.run_bind, hagg, sizeOf, typeInfo, Result.andThen_ok, if_true]
    simp [tc, hq, hs, hl]
theorem load_part (ty : TypeId) (g off n : Nat) (xs : List Int) (t : TypeId) (d : TypeDesc) (hg : Blk w g (tc xs) t) (hw : Region.wanted o (yielded ops a.tmps) = true) (ho : o.op = .load ty x) (hx : a.eval x = .pointer (some ⟨g, off, none⟩))
    (hu : P.underlying ty = some d) (hd : (match d with | .struct _ | .array _ _ => true | _ => false) = true) (hi : (P.info? ty).map (·.size) = some n) (hfit : off + n ≤ xs.length)
    (h : wpList P ops Q rest (a.put o.dst (.agg (tc ((xs.drop off).take n)))) w) : Stop (wpList P ops Q (o :: rest) a w) := by
  refine wpList_wanted hw fun K hK => ?_
  unfold Oper.wp execOp
  simp only [ho, hx, Instr.loadAt, Instr.sureAddr, Sem.run_bind, Sem.run_pure, Result.andThen_ok, run_loadVar_part w g off n t ty xs d hg hu hd hi hfit]
  exact hK _ _ h
end
end Go.Proofs.Ytbmbmnhamogghap
/- Two rows of numbers of the program's own kind, compared; a summary that is right. No statement of the seat is proved here. -/
namespace Go.Proofs.Ytbmbmnhamogghap
open Go.RowKit
set_option maxRecDepth 200000 in
set_option maxHeartbeats 2000000 in
theorem same_any (xs ys : List Int) (w : World) (hx : xs.length = 28) (hy : ys.length = 28) :
    Calls Try.prog 101 #[.agg (tc xs), .agg (tc ys)] w fun e w' => e = .returned (.bool (decide (xs = ys))) ∧ Below w.heap.size w w' := by
  have HL : Hid (xs.length = 28 ∧ ys.length = 28) := ⟨hx, hy⟩
  have HT : Hid (_ ∧ _ ∧ _) := two_made w (tc xs) (tc ys) 75 75
  obtain ⟨d, hd⟩ : ∃ d, d = decide (xs = ys) := ⟨_, rfl⟩
  rw [← hd]
  have HD : Hid (d = decide (xs = ys)) := hd
  obtain ⟨x0, hx0⟩ : ∃ x, x = xs.getD 0 0 := ⟨_, rfl⟩
  obtain ⟨x1, hx1⟩ : ∃ x, x = xs.getD 1 0 := ⟨_, rfl⟩
  obtain ⟨x2, hx2⟩ : ∃ x, x = xs.getD 2 0 := ⟨_, rfl⟩
  obtain ⟨x3, hx3⟩ : ∃ x, x = xs.getD 3 0 := ⟨_, rfl⟩
  obtain ⟨y0, hy0⟩ : ∃ x, x = ys.getD 0 0 := ⟨_, rfl⟩
  obtain ⟨y1, hy1⟩ : ∃ x, x = ys.getD 1 0 := ⟨_, rfl⟩
  obtain ⟨y2, hy2⟩ : ∃ x, x = ys.getD 2 0 := ⟨_, rfl⟩
  obtain ⟨y3, hy3⟩ : ∃ x, x = ys.getD 3 0 := ⟨_, rfl⟩
  have a0 : (tc xs)[0]? = some (.int .i64 x0) := by rw [hx0]; exact tc_get (by omega)
  have a1 : (tc xs)[1]? = some (.int .i64 x1) := by rw [hx1]; exact tc_get (by omega)
  have a2 : (tc xs)[2]? = some (.int .i64 x2) := by rw [hx2]; exact tc_get (by omega)
  have a3 : (tc xs)[3]? = some (.int .i64 x3) := by rw [hx3]; exact tc_get (by omega)
  have b0 : (tc ys)[0]? = some (.int .i64 y0) := by rw [hy0]; exact tc_get (by omega)
  have b1 : (tc ys)[1]? = some (.int .i64 y1) := by rw [hy1]; exact tc_get (by omega)
  have b2 : (tc ys)[2]? = some (.int .i64 y2) := by rw [hy2]; exact tc_get (by omega)
  have b3 : (tc ys)[3]? = some (.int .i64 y3) := by rw [hy3]; exact tc_get (by omega)
  have HX : Hid ((x0 = xs.getD 0 0 ∧ y0 = ys.getD 0 0) ∧ (x1 = xs.getD 1 0 ∧ y1 = ys.getD 1 0) ∧ (x2 = xs.getD 2 0 ∧ y2 = ys.getD 2 0) ∧ (x3 = xs.getD 3 0 ∧ y3 = ys.getD 3 0)) := ⟨⟨hx0, hy0⟩, ⟨hx1, hy1⟩, ⟨hx2, hy2⟩, ⟨hx3, hy3⟩⟩
  clear hx hy hd hx0 hx1 hx2 hx3 hy0 hy1 hy2 hy3
  go_enter Try.func101, Try.ntmps101
  by_cases q0 : x0 = y0
  rotate_left
  · have q0' : (x0 == y0) = false := by simpa using q0
    have HN : Hid (d = false) := by show d = _; rw [HD.out]; exact dec_false (fun e => q0 (by rw [HX.out.1.1, HX.out.1.2, e]))
    clear q0
    go_wp2
    go_ret
    exact ⟨ret_bool HN.out.symm, HT.out.2.2⟩
  have Q0 : Hid (x0 = y0) := q0
  have q0' : (x0 == y0) = true := by simpa using q0
  clear q0
  by_cases q1 : x1 = y1
  rotate_left
  · have q1' : (x1 == y1) = false := by simpa using q1
    have HN : Hid (d = false) := by show d = _; rw [HD.out]; exact dec_false (fun e => q1 (by rw [HX.out.2.1.1, HX.out.2.1.2, e]))
    clear q1
    go_wp2
    go_ret
    exact ⟨ret_bool HN.out.symm, HT.out.2.2⟩
  have Q1 : Hid (x1 = y1) := q1
  have q1' : (x1 == y1) = true := by simpa using q1
  clear q1
  by_cases q2 : x2 = y2
  rotate_left
  · have q2' : (x2 == y2) = false := by simpa using q2
    have HN : Hid (d = false) := by show d = _; rw [HD.out]; exact dec_false (fun e => q2 (by rw [HX.out.2.2.1.1, HX.out.2.2.1.2, e]))
    clear q2
    go_wp2
    go_ret
    exact ⟨ret_bool HN.out.symm, HT.out.2.2⟩
  have Q2 : Hid (x2 = y2) := q2
  have q2' : (x2 == y2) = true := by simpa using q2
  clear q2
  by_cases q3 : x3 = y3
  rotate_left
  · have q3' : (x3 == y3) = false := by simpa using q3
    have HN : Hid (d = false) := by show d = _; rw [HD.out]; exact dec_false (fun e => q3 (by rw [HX.out.2.2.2.1, HX.out.2.2.2.2, e]))
    clear q3
    go_wp2
    go_ret
    exact ⟨ret_bool HN.out.symm, HT.out.2.2⟩
  have Q3 : Hid (x3 = y3) := q3
  have q3' : (x3 == y3) = true := by simpa using q3
  clear q3
  go_wp2_with (first | go_skip | (with_reducible refine stopLoad 71 rfl ?_))
  refine load_part 71 w.heap.size 4 8 xs 75 _ HT.out.1 rfl rfl rfl Try.underlying71 rfl (by kernel_rfl) (by rw [HL.out.1]; omega) ?_
  go_wp2_with (first | go_skip | (with_reducible refine stopLoad 71 rfl ?_))
  refine load_part 71 (w.heap.size + 1) 4 8 ys 75 _ HT.out.2.1 rfl rfl rfl Try.underlying71 rfl (by kernel_rfl) (by rw [HL.out.2]; omega) ?_
  have hq0 : ∀ w, (Op.equalIn 10000 71 (.agg (tc ((xs.drop 4).take 8))) (.agg (tc ((ys.drop 4).take 8)))).run Try.prog w = .ok (decide ((xs.drop 4).take 8 = (ys.drop 4).take 8)) w := fun w => run_eq_ints w 9998 71 3 8 _ _ Try.underlying71 Try.underlying3 (fun _ => by simp) (by simp; have := HL.out.1; omega) (by simp; have := HL.out.2; omega)
  cases q4 : decide ((xs.drop 4).take 8 = (ys.drop 4).take 8)
  · rw [q4] at hq0
    have HN : Hid (d = false) := by show d = _; rw [HD.out]; exact dec_false (fun e => by rw [e] at q4; simp at q4)
    clear q4
    go_wp2
    go_ret
    exact ⟨ret_bool HN.out.symm, HT.out.2.2⟩
  rw [q4] at hq0
  have Q4 : Hid ((xs.drop 4).take 8 = (ys.drop 4).take 8) := (show (xs.drop 4).take 8 = (ys.drop 4).take 8 from of_decide_eq_true q4)
  clear q4
  go_wp2_with (first | go_skip | (with_reducible refine stopLoad 71 rfl ?_))
  refine load_part 71 w.heap.size 12 8 xs 75 _ HT.out.1 rfl rfl rfl Try.underlying71 rfl (by kernel_rfl) (by rw [HL.out.1]; omega) ?_
  go_wp2_with (first | go_skip | (with_reducible refine stopLoad 71 rfl ?_))
  refine load_part 71 (w.heap.size + 1) 12 8 ys 75 _ HT.out.2.1 rfl rfl rfl Try.underlying71 rfl (by kernel_rfl) (by rw [HL.out.2]; omega) ?_
  have hq1 : ∀ w, (Op.equalIn 10000 71 (.agg (tc ((xs.drop 12).take 8))) (.agg (tc ((ys.drop 12).take 8)))).run Try.prog w = .ok (decide ((xs.drop 12).take 8 = (ys.drop 12).take 8)) w := fun w => run_eq_ints w 9998 71 3 8 _ _ Try.underlying71 Try.underlying3 (fun _ => by simp) (by simp; have := HL.out.1; omega) (by simp; have := HL.out.2; omega)
  cases q5 : decide ((xs.drop 12).take 8 = (ys.drop 12).take 8)
  · rw [q5] at hq1
    have HN : Hid (d = false) := by show d = _; rw [HD.out]; exact dec_false (fun e => by rw [e] at q5; simp at q5)
    clear q5
    go_wp2
    go_ret
    exact ⟨ret_bool HN.out.symm, HT.out.2.2⟩
  rw [q5] at hq1
  have Q5 : Hid ((xs.drop 12).take 8 = (ys.drop 12).take 8) := (show (xs.drop 12).take 8 = (ys.drop 12).take 8 from of_decide_eq_true q5)
  clear q5
  go_wp2_with (first | go_skip | (with_reducible refine stopLoad 73 rfl ?_))
  refine load_part 73 w.heap.size 20 8 xs 75 _ HT.out.1 rfl rfl rfl Try.underlying73 rfl (by kernel_rfl) (by rw [HL.out.1]; omega) ?_
  go_wp2_with (first | go_skip | (with_reducible refine stopLoad 73 rfl ?_))
  refine load_part 73 (w.heap.size + 1) 20 8 ys 75 _ HT.out.2.1 rfl rfl rfl Try.underlying73 rfl (by kernel_rfl) (by rw [HL.out.2]; omega) ?_
  have hq2 : ∀ w, (Op.equalIn 10000 73 (.agg (tc ((xs.drop 20).take 8))) (.agg (tc ((ys.drop 20).take 8)))).run Try.prog w = .ok (decide ((xs.drop 20).take 8 = (ys.drop 20).take 8)) w := fun w => run_eq_rows w 9997 73 72 3 _ _ Try.underlying73 Try.underlying72 Try.underlying3 (fun _ => by simp) (fun _ => by simp) (by simp; have := HL.out.1; omega) (by simp; have := HL.out.2; omega)
  cases q6 : decide ((xs.drop 20).take 8 = (ys.drop 20).take 8)
  · rw [q6] at hq2
    have HN : Hid (d = false) := by show d = _; rw [HD.out]; exact dec_false (fun e => by rw [e] at q6; simp at q6)
    clear q6
    go_wp2
    go_ret
    exact ⟨ret_bool HN.out.symm, HT.out.2.2⟩
  rw [q6] at hq2
  have Q6 : Hid ((xs.drop 20).take 8 = (ys.drop 20).take 8) := (show (xs.drop 20).take 8 = (ys.drop 20).take 8 from of_decide_eq_true q6)
  clear q6
  have HN : Hid (d = true) := by show d = _; rw [HD.out]; exact dec_true (eq28 HL.out.1 HL.out.2 (by rw [← HX.out.1.1, ← HX.out.1.2]; exact Q0.out) (by rw [← HX.out.2.1.1, ← HX.out.2.1.2]; exact Q1.out) (by rw [← HX.out.2.2.1.1, ← HX.out.2.2.1.2]; exact Q2.out) (by rw [← HX.out.2.2.2.1, ← HX.out.2.2.2.2]; exact Q3.out) Q4.out Q5.out Q6.out)
  go_wp2
  go_ret
  exact ⟨ret_bool HN.out.symm, HT.out.2.2⟩
end Go.Proofs.Ytbmbmnhamogghap
