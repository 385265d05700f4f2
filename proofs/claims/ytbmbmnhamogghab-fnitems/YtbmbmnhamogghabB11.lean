/- Several texts of mine, laid together. No statement of the seat is proved here. -/
import Derived.Test.YtbmbmnhamogghabB10
import Derived.Test.YtbmbmnhamogghabB3
import Derived.Test.YtbmbmnhamogghabB9
/- Sets of numbers: what makes two of them the same, and what is made of both. No statement of the seat is proved here. -/
namespace Go.Proofs.Ytbmbmnhamogghab
open Go.RowKit
/-- Right from l on: the spans rise, with a gap between any two. -/
def okFrom : Int → Sp → Prop
  | _, [] => True
  | l, p :: ps => (l ≤ p.1 ∧ p.1 ≤ p.2 ∧ p.2 ≤ 9999) ∧ okFrom (p.2 + 2) ps
def endOf : Int → Sp → Int
  | l, [] => l
  | _, p :: ps => endOf (p.2 + 2) ps
theorem okFrom_append : ∀ (o r : Sp) (l : Int), okFrom l (o ++ r) ↔ okFrom l o ∧ okFrom (endOf l o) r
  | [], r, l => by simp [okFrom, endOf]
  | p :: o, r, l => by simp only [List.cons_append, okFrom, endOf, okFrom_append o r, and_assoc]
theorem endOf_snoc : ∀ (o : Sp) (t : Int × Int) (l : Int), endOf l (o ++ [t]) = t.2 + 2
  | [], t, l => rfl
  | p :: o, t, l => by simp only [List.cons_append, endOf, endOf_snoc o t]
theorem okFrom_mono : ∀ {ps : Sp} {l m : Int}, okFrom l ps → m ≤ l → okFrom m ps
  | [], _, _, _, _ => trivial
  | p :: ps, l, m, h, hm => ⟨⟨by have := h.1; omega, h.1.2⟩, h.2⟩
theorem has_cons (p : Int × Int) (ps : Sp) (n : Int) : Sp.has (p :: ps) n = (decide (p.1 ≤ n ∧ n ≤ p.2) || Sp.has ps n) := rfl
theorem has_nil (n : Int) : Sp.has [] n = false := rfl
theorem has_append (ps qs : Sp) (n : Int) : Sp.has (ps ++ qs) n = (Sp.has ps n || Sp.has qs n) := by simp [Sp.has]
/-- n is in ps. -/
def InS (ps : Sp) (n : Int) : Prop := ps.has n = true
theorem inS_cons {p : Int × Int} {ps : Sp} {n : Int} : InS (p :: ps) n ↔ (p.1 ≤ n ∧ n ≤ p.2) ∨ InS ps n := by unfold InS; rw [has_cons]; simp
theorem inS_nil {n : Int} : ¬ InS [] n := by unfold InS; rw [has_nil]; simp
theorem inS_append {ps qs : Sp} {n : Int} : InS (ps ++ qs) n ↔ InS ps n ∨ InS qs n := by unfold InS; rw [has_append]; simp
theorem inS_ge : ∀ {ps : Sp} {l n : Int}, okFrom l ps → InS ps n → l ≤ n
  | [], _, _, _, h => (inS_nil h).elim
  | p :: ps, l, n, h, hn => by
    rcases inS_cons.1 hn with e | e
    · have := h.1; omega
    · have := inS_ge h.2 e; have := h.1; omega
theorem inS_le : ∀ {ps : Sp} {l n : Int}, okFrom l ps → InS ps n → n ≤ 9999
  | [], _, _, _, h => (inS_nil h).elim
  | p :: ps, l, n, h, hn => by
    rcases inS_cons.1 hn with e | e
    · have := h.1; omega
    · exact inS_le h.2 e
theorem sp_ext : ∀ {ps qs : Sp} {l m : Int}, okFrom l ps → okFrom m qs → (∀ n, InS ps n ↔ InS qs n) → ps = qs
  | [], [], _, _, _, _, _ => rfl
  | [], q :: qs, _, _, _, h2, h => by
    have := (h q.1).2 (inS_cons.2 (.inl ⟨Int.le_refl _, h2.1.2.1⟩))
    exact (inS_nil this).elim
  | p :: ps, [], _, _, h1, _, h => by
    have := (h p.1).1 (inS_cons.2 (.inl ⟨Int.le_refl _, h1.1.2.1⟩))
    exact (inS_nil this).elim
  | p :: ps, q :: qs, l, m, h1, h2, h => by
    obtain ⟨⟨a1, a2, a3⟩, a4⟩ := h1
    obtain ⟨⟨b1, b2, b3⟩, b4⟩ := h2
    have e1 : p.1 = q.1 := by
      have x1 := inS_ge (ps := q :: qs) (l := q.1) ⟨⟨Int.le_refl _, b2, b3⟩, b4⟩ ((h p.1).1 (inS_cons.2 (.inl ⟨Int.le_refl _, a2⟩)))
      have x2 := inS_ge (ps := p :: ps) (l := p.1) ⟨⟨Int.le_refl _, a2, a3⟩, a4⟩ ((h q.1).2 (inS_cons.2 (.inl ⟨Int.le_refl _, b2⟩)))
      omega
    have e2 : p.2 = q.2 := by
      rcases Int.lt_trichotomy p.2 q.2 with c | c | c
      · rcases inS_cons.1 ((h (p.2 + 1)).2 (inS_cons.2 (.inl ⟨by omega, by omega⟩))) with e | e
        · omega
        · have := inS_ge a4 e; omega
      · exact c
      · rcases inS_cons.1 ((h (q.2 + 1)).1 (inS_cons.2 (.inl ⟨by omega, by omega⟩))) with e | e
        · omega
        · have := inS_ge b4 e; omega
    have e3 : ps = qs := sp_ext a4 b4 (fun n => by
      constructor
      · intro hn
        have := inS_ge a4 hn
        rcases inS_cons.1 ((h n).1 (inS_cons.2 (.inr hn))) with e | e
        · omega
        · exact e
      · intro hn
        have := inS_ge b4 hn
        rcases inS_cons.1 ((h n).2 (inS_cons.2 (.inr hn))) with e | e
        · omega
        · exact e)
    rw [e3, Prod.ext e1 e2]
/-- What is right, seen from the k-th span on. -/
def floorAt (ps : Sp) (k : Nat) : Int := if k = 0 then 0 else (ps.at (k - 1)).2 + 2
theorem okAt_iff (ps : Sp) (k : Nat) : ps.okAt k = true ↔ (if k = 0 then 0 else (ps.at (k - 1)).2 + 2) ≤ (ps.at k).1 ∧ 0 ≤ (ps.at k).1 ∧ (ps.at k).1 ≤ (ps.at k).2 ∧ (ps.at k).2 ≤ 9999 := by
  unfold Sp.okAt
  simp only [Bool.and_eq_true, Bool.or_eq_true, decide_eq_true_eq]
  split <;> omega
theorem okFrom_drop (ps : Sp) : ∀ (d k : Nat), k + d = ps.length → 0 ≤ floorAt ps k → ((∀ j, k ≤ j → j < ps.length → ps.okAt j = true) ↔ okFrom (floorAt ps k) (ps.drop k))
  | 0, k, hk, _ => by
    rw [List.drop_eq_nil_of_le (by omega)]
    exact ⟨fun _ => trivial, fun _ j h1 h2 => by omega⟩
  | d + 1, k, hk, h0 => by
    rw [drop_at (by omega), okFrom]
    have e : floorAt ps (k + 1) = (ps.at k).2 + 2 := by unfold floorAt; rw [if_neg (by omega), show k + 1 - 1 = k by omega]
    constructor
    · intro h
      have hk1 := (okAt_iff ps k).1 (h k (Nat.le_refl _) (by omega))
      refine ⟨⟨hk1.1, hk1.2.2⟩, ?_⟩
      rw [← e]
      exact (okFrom_drop ps d (k + 1) (by omega) (by rw [e]; omega)).1 (fun j h1 h2 => h j (by omega) h2)
    · rintro ⟨h1, h2⟩ j hj1 hj2
      by_cases c : j = k
      · subst c
        exact (okAt_iff ps j).2 ⟨h1.1, by omega, h1.2⟩
      · rw [← e] at h2
        exact (okFrom_drop ps d (k + 1) (by omega) (by rw [e]; omega)).2 h2 j (by omega) hj2
theorem ok_iff {ps : Sp} : ps.ok = true ↔ okFrom 0 ps := by
  have e := okFrom_drop ps ps.length 0 (by omega) (by simp [floorAt])
  simp only [floorAt, if_true, List.drop_zero] at e
  rw [← e]
  exact ⟨fun h j _ hj => Sp.ok_at h j hj, fun h => Sp.ok_all (fun j hj => h j (Nat.zero_le _) hj)⟩
theorem put_true_same : ∀ {ps : Sp} {x : Int × Int} {l : Int}, okFrom l ps → x.2 + 2 ≤ l → x.1 ≤ x.2 → put ps x true = ps
  | [], _, _, _, _, _ => rfl
  | p :: ps, x, l, h, hl, hx => by
    obtain ⟨⟨a1, a2, a3⟩, a4⟩ := h
    rw [put, if_neg (by omega), if_pos (by omega), put_true_same a4 (by omega) hx]
    rfl
theorem put_ok : ∀ {ps : Sp} {x : Int × Int} {l : Int}, okFrom l ps → l ≤ x.1 → x.1 ≤ x.2 → x.2 ≤ 9999 → okFrom l (put ps x false) ∧ ∀ n, InS (put ps x false) n ↔ InS ps n ∨ (x.1 ≤ n ∧ n ≤ x.2)
  | [], x, l, _, h1, h2, h3 => ⟨⟨⟨h1, h2, h3⟩, trivial⟩, fun n => by
      show InS [x] n ↔ _
      rw [inS_cons]
      exact ⟨fun h => h.symm.imp (fun e => e) (fun e => e), fun h => h.symm.imp (fun e => e) (fun e => e)⟩⟩
  | p :: ps, x, l, h, h1, h2, h3 => by
    obtain ⟨⟨a1, a2, a3⟩, a4⟩ := h
    rw [put]
    split
    · obtain ⟨i1, i2⟩ := put_ok a4 (by omega) h2 h3
      refine ⟨⟨⟨a1, a2, a3⟩, i1⟩, fun n => ?_⟩
      rw [inS_cons, inS_cons, i2, or_assoc]
    · split
      · rw [put_true_same (l := p.2 + 2) a4 (by omega) h2]
        refine ⟨⟨⟨h1, h2, h3⟩, ⟨⟨by omega, a2, a3⟩, a4⟩⟩, fun n => ?_⟩
        show InS (x :: p :: ps) n ↔ _
        rw [inS_cons (p := x)]
        exact or_comm
      · obtain ⟨i1, i2⟩ := put_ok (x := (min x.1 p.1, max x.2 p.2)) (l := l) (okFrom_mono a4 (by omega)) (by simp only; omega) (by simp only; omega) (by simp only; omega)
        refine ⟨i1, fun n => ?_⟩
        rw [i2, inS_cons]
        have : (min x.1 p.1 ≤ n ∧ n ≤ max x.2 p.2) ↔ (p.1 ≤ n ∧ n ≤ p.2) ∨ (x.1 ≤ n ∧ n ≤ x.2) := by omega
        rw [show ((min x.1 p.1, max x.2 p.2).1 ≤ n ∧ n ≤ (min x.1 p.1, max x.2 p.2).2) ↔ (p.1 ≤ n ∧ n ≤ p.2) ∨ (x.1 ≤ n ∧ n ≤ x.2) from this, or_comm, or_right_comm]
theorem okFrom_at {ps : Sp} (h : okFrom 0 ps) {k : Nat} (hk : k < ps.length) : 0 ≤ (ps.at k).1 ∧ (ps.at k).1 ≤ (ps.at k).2 ∧ (ps.at k).2 ≤ 9999 := (Sp.okAt_parts (Sp.ok_at (ok_iff.2 h) k hk)).1
theorem take_inS {qs : Sp} {k : Nat} (hk : k < qs.length) (n : Int) : InS (qs.take (k + 1)) n ↔ InS (qs.take k) n ∨ ((qs.at k).1 ≤ n ∧ n ≤ (qs.at k).2) := by
  rw [takeP_succ qs k hk, inS_append, inS_cons]
  show _ ∨ (_ ∨ InS [] n) ↔ _
  exact ⟨fun h => h.imp id (fun h => h.resolve_right inS_nil), fun h => h.imp id .inl⟩
theorem joinTo_ok {ps qs : Sp} (h1 : okFrom 0 ps) (h2 : okFrom 0 qs) : ∀ k, k ≤ qs.length → okFrom 0 (joinTo ps qs k) ∧ ∀ n, InS (joinTo ps qs k) n ↔ InS ps n ∨ InS (qs.take k) n
  | 0, _ => by
    rw [joinTo_zero]
    exact ⟨h1, fun n => ⟨.inl, fun h => h.resolve_right inS_nil⟩⟩
  | k + 1, hk => by
    have hq := okFrom_at h2 (k := k) (by omega)
    obtain ⟨i1, i2⟩ := joinTo_ok h1 h2 k (by omega)
    obtain ⟨j1, j2⟩ := put_ok (x := qs.at k) i1 (by omega) (by omega) (by omega)
    rw [joinTo_succ (by omega)]
    refine ⟨j1, fun n => ?_⟩
    rw [j2, i2, take_inS (by omega), or_assoc]
theorem join_ok {ps qs : Sp} (h1 : okFrom 0 ps) (h2 : okFrom 0 qs) : okFrom 0 (joinTo ps qs qs.length) ∧ ∀ n, InS (joinTo ps qs qs.length) n ↔ InS ps n ∨ InS qs n := by
  have := joinTo_ok h1 h2 qs.length (Nat.le_refl _)
  rw [List.take_length] at this
  exact this
/-- A span is laid behind o: apart, or into its last one. -/
def lay1 (o : Sp) (x : Int × Int) : Sp := if o = [] ∨ (o.at (o.length - 1)).2 + 1 < x.1 then o ++ [x] else o.take (o.length - 1) ++ [((o.at (o.length - 1)).1, max (o.at (o.length - 1)).2 x.2)]
def lay (o xs : Sp) : Sp := xs.foldl lay1 o
/-- How many spans begin no later than n. -/
def cutN : Sp → Int → Nat
  | [], _ => 0
  | p :: ps, n => if p.1 ≤ n then cutN ps n + 1 else 0
/-- Both sets, gone through once; o: what has come. -/
def both : Sp → Sp → Sp → Sp
  | a, [], o => lay o a
  | a, x :: b, o => both (a.drop (cutN a x.1)) b (lay1 (lay o (a.take (cutN a x.1))) x)
theorem snoc_cases (o : Sp) : o = [] ∨ ∃ o' t, o = o' ++ [t] := by
  rcases List.eq_nil_or_concat o with h | ⟨o', t, h⟩
  · exact .inl h
  · exact .inr ⟨o', t, by simpa using h⟩
theorem lay1_nil (x : Int × Int) : lay1 [] x = [x] := by simp [lay1]
theorem lay1_snoc (o : Sp) (t x : Int × Int) : lay1 (o ++ [t]) x = if t.2 + 1 < x.1 then o ++ [t] ++ [x] else o ++ [(t.1, max t.2 x.2)] := by
  have e : (o ++ [t]).at ((o ++ [t]).length - 1) = t := by simp [Sp.at]
  have e2 : (o ++ [t]).take ((o ++ [t]).length - 1) = o := by simp
  unfold lay1
  rw [e, e2]
  simp
/-- Right so far; the last span begins at m or ahead of it. -/
structure LayOk (o : Sp) (m : Int) : Prop where
  ok : okFrom 0 o
  le : ∀ o' t, o = o' ++ [t] → t.1 ≤ m
theorem LayOk.nil (m : Int) : LayOk [] m := ⟨trivial, fun o' t h => by simp at h⟩
theorem LayOk.up {o : Sp} {m m' : Int} (h : LayOk o m) (hm : m ≤ m') : LayOk o m' := ⟨h.ok, fun o' t e => Int.le_trans (h.le o' t e) hm⟩
theorem lay1_ok {o : Sp} {x : Int × Int} {m : Int} (h : LayOk o m) (hm : m ≤ x.1) (h0 : 0 ≤ x.1) (h1 : x.1 ≤ x.2) (h2 : x.2 ≤ 9999) : LayOk (lay1 o x) x.1 ∧ ∀ n, InS (lay1 o x) n ↔ InS o n ∨ (x.1 ≤ n ∧ n ≤ x.2) := by
  rcases snoc_cases o with rfl | ⟨o', t, rfl⟩
  · rw [lay1_nil]
    refine ⟨⟨⟨⟨h0, h1, h2⟩, trivial⟩, fun o' t e => ?_⟩, fun n => ?_⟩
    · obtain ⟨rfl, rfl⟩ : o' = [] ∧ x = t := by
        cases o' with
        | nil => simpa using e
        | cons y ys => simp at e
      exact Int.le_refl _
    · rw [inS_cons]
      exact ⟨fun h => .inr (h.resolve_right inS_nil), fun h => .inl (h.resolve_left inS_nil)⟩
  · have ht := h.le o' t rfl
    have hok := h.ok
    rw [okFrom_append] at hok
    obtain ⟨k1, ⟨k2, k3, k4⟩, _⟩ := hok
    rw [lay1_snoc]
    split
    · refine ⟨⟨?_, fun o2 t2 e => ?_⟩, fun n => ?_⟩
      · rw [okFrom_append, endOf_snoc]
        exact ⟨h.ok, ⟨by omega, h1, h2⟩, trivial⟩
      · have e3 := List.append_inj_right' e rfl
        obtain rfl : x = t2 := by simpa using e3
        exact Int.le_refl _
      · rw [inS_append (ps := o' ++ [t]), inS_cons (p := x)]
        exact ⟨fun h => h.imp id (fun h => h.resolve_right inS_nil), fun h => h.imp id .inl⟩
    · refine ⟨⟨?_, fun o2 t2 e => ?_⟩, fun n => ?_⟩
      · rw [okFrom_append]
        exact ⟨k1, ⟨k2, by simp only; omega, by simp only; omega⟩, trivial⟩
      · have e3 := List.append_inj_right' e rfl
        have e4 : (t.1, max t.2 x.2) = t2 := by simpa using e3
        rw [← e4]; simp only; omega
      · rw [inS_append, inS_append, inS_cons, inS_cons]
        have : (t.1 ≤ n ∧ n ≤ max t.2 x.2) ↔ (t.1 ≤ n ∧ n ≤ t.2) ∨ (x.1 ≤ n ∧ n ≤ x.2) := by omega
        rw [show ((t.1, max t.2 x.2).1 ≤ n ∧ n ≤ (t.1, max t.2 x.2).2) ↔ (t.1 ≤ n ∧ n ≤ t.2) ∨ (x.1 ≤ n ∧ n ≤ x.2) from this]
        have e := inS_nil (n := n)
        simp only [e, or_false, or_assoc]
theorem lay_ok : ∀ {xs o : Sp} {m l M : Int}, LayOk o m → okFrom l xs → m ≤ l → 0 ≤ l → m ≤ M → (∀ p ∈ xs, p.1 ≤ M) → LayOk (lay o xs) M ∧ ∀ n, InS (lay o xs) n ↔ InS o n ∨ InS xs n
  | [], o, m, l, M, h, _, _, _, hM, _ => ⟨h.up hM, fun n => ⟨.inl, fun h => h.resolve_right inS_nil⟩⟩
  | x :: xs, o, m, l, M, h, hx, hm, h0, hM, hall => by
    obtain ⟨⟨a1, a2, a3⟩, a4⟩ := hx
    obtain ⟨i1, i2⟩ := lay1_ok h (x := x) (by omega) (by omega) a2 a3
    obtain ⟨j1, j2⟩ := lay_ok (xs := xs) (M := M) i1 a4 (by omega) (by omega) (hall x (by simp)) (fun p hp => hall p (by simp [hp]))
    refine ⟨j1, fun n => ?_⟩
    rw [show lay o (x :: xs) = lay (lay1 o x) xs from rfl, j2, i2, inS_cons, or_assoc]
theorem cutN_le : ∀ (a : Sp) (n : Int), cutN a n ≤ a.length
  | [], _ => by simp [cutN]
  | p :: a, n => by
    rw [cutN]
    split
    · have := cutN_le a n; simp; omega
    · simp
theorem cut_take : ∀ (a : Sp) (n : Int), ∀ p ∈ a.take (cutN a n), p.1 ≤ n
  | [], _, p, hp => by simp [cutN] at hp
  | q :: a, n, p, hp => by
    rw [cutN] at hp
    split at hp
    · rw [List.take_succ_cons] at hp
      rcases List.mem_cons.1 hp with rfl | hp
      · assumption
      · exact cut_take a n p hp
    · simp at hp
theorem okFrom_take {l : Int} {a : Sp} (k : Nat) (h : okFrom l a) : okFrom l (a.take k) := by
  have := h
  rw [← List.take_append_drop k a, okFrom_append] at this
  exact this.1
theorem cut_drop : ∀ {a : Sp} {n l : Int}, okFrom l a → okFrom n (a.drop (cutN a n))
  | [], _, _, _ => by simp [cutN, okFrom]
  | q :: a, n, l, h => by
    rw [cutN]
    split
    · rw [List.drop_succ_cons]; exact cut_drop h.2
    · exact ⟨⟨by omega, h.1.2⟩, h.2⟩
theorem both_ok : ∀ {b a o : Sp} {m la lb : Int}, LayOk o m → okFrom la a → okFrom lb b → m ≤ la → m ≤ lb → 0 ≤ la → 0 ≤ lb → okFrom 0 (both a b o) ∧ ∀ n, InS (both a b o) n ↔ InS o n ∨ InS a n ∨ InS b n
  | [], a, o, m, la, lb, h, ha, _, h1, _, h0, _ => by
    obtain ⟨M, hM⟩ : ∃ M : Int, m ≤ M ∧ ∀ p ∈ a, p.1 ≤ M := ⟨max m 9999, by omega, fun p hp => by
      obtain ⟨k, hk, rfl⟩ := List.getElem_of_mem hp
      have := okFrom_at (okFrom_mono ha h0) hk
      unfold Sp.at at this
      rw [List.getElem?_eq_getElem hk] at this
      simp only [Option.getD_some] at this
      omega⟩
    obtain ⟨i1, i2⟩ := lay_ok h ha h1 h0 hM.1 hM.2
    refine ⟨i1.ok, fun n => ?_⟩
    rw [both, i2]
    exact ⟨fun h => h.imp id .inl, fun h => h.imp id (fun h => h.resolve_right inS_nil)⟩
  | x :: b, a, o, m, la, lb, h, ha, hb, h1, h2, h0, h00 => by
    obtain ⟨⟨b1, b2, b3⟩, b4⟩ := hb
    obtain ⟨i1, i2⟩ := lay_ok (M := x.1) h (okFrom_take (cutN a x.1) ha) h1 h0 (by omega) (cut_take a x.1)
    obtain ⟨j1, j2⟩ := lay1_ok (x := x) i1 (Int.le_refl _) (by omega) b2 b3
    obtain ⟨k1, k2⟩ := both_ok (a := a.drop (cutN a x.1)) (b := b) j1 (cut_drop ha) b4 (Int.le_refl _) (by omega) (by omega) (by omega)
    refine ⟨k1, fun n => ?_⟩
    have e : InS a n ↔ InS (a.take (cutN a x.1)) n ∨ InS (a.drop (cutN a x.1)) n := by rw [← inS_append, List.take_append_drop]
    rw [both, k2, j2, i2, inS_cons, e]
    simp only [or_assoc]
    constructor
    · rintro (h | h | h | h | h) <;> simp [h]
    · rintro (h | h | h | h | h) <;> simp [h]
theorem both_nil_ok {a b : Sp} (ha : okFrom 0 a) (hb : okFrom 0 b) : okFrom 0 (both a b []) ∧ ∀ n, InS (both a b []) n ↔ InS a n ∨ InS b n := by
  obtain ⟨i1, i2⟩ := both_ok (LayOk.nil 0) ha hb (Int.le_refl _) (Int.le_refl _) (Int.le_refl _) (Int.le_refl _)
  exact ⟨i1, fun n => by rw [i2]; exact ⟨fun h => h.resolve_left inS_nil, .inr⟩⟩
theorem both_join {a b : Sp} (ha : a.ok = true) (hb : b.ok = true) : both a b [] = a.join b := by
  rw [Sp.join_yes ha hb]
  obtain ⟨i1, i2⟩ := both_nil_ok (ok_iff.1 ha) (ok_iff.1 hb)
  obtain ⟨j1, j2⟩ := join_ok (ok_iff.1 ha) (ok_iff.1 hb)
  exact sp_ext i1 j1 (fun n => by rw [i2, j2])
theorem single_ok {n : Int} (h : 0 ≤ n ∧ n ≤ 9999) : okFrom 0 [(n, n)] := ⟨⟨h.1, Int.le_refl _, h.2⟩, trivial⟩
theorem inS_single {n m : Int} : InS [(n, n)] m ↔ m = n := by
  rw [inS_cons]
  exact ⟨fun h => by have := h.resolve_right inS_nil; simp only at this; omega, fun h => .inl (by simp only; omega)⟩
theorem both_add {a : Sp} {n : Int} (ha : a.ok = true) (hn : 0 ≤ n ∧ n ≤ 9999) : both a [(n, n)] [] = (a.add n).1 ∧ (a.add n).2 = decide (¬ both a [(n, n)] [] = a) := by
  obtain ⟨i1, i2⟩ := both_nil_ok (ok_iff.1 ha) (single_ok hn)
  by_cases h : a.has n = true
  · have e : both a [(n, n)] [] = a := sp_ext i1 (ok_iff.1 ha) (fun m => by
      rw [i2, inS_single]
      exact ⟨fun e => e.elim id (fun e => by rw [e]; exact h), .inl⟩)
    rw [Sp.add_not (fun e => by rw [h] at e; cases e.2.2), e]
    simp
  · have h' : a.has n = false := by simpa using h
    rw [Sp.add_yes ha hn h']
    obtain ⟨j1, j2⟩ := put_ok (x := (n, n)) (ok_iff.1 ha) hn.1 (Int.le_refl _) hn.2
    have e : both a [(n, n)] [] = put a (n, n) false := sp_ext i1 j1 (fun m => by
      rw [i2, j2, inS_single]
      exact ⟨fun e => e.imp id (fun e => by simp only; omega), fun e => e.imp id (fun e => by simp only at e; omega)⟩)
    refine ⟨e, ?_⟩
    have ne : ¬ both a [(n, n)] [] = a := fun e => h (by
      have := (i2 n).2 (.inr (inS_single.2 rfl))
      rw [e] at this
      exact this)
    simp [ne]
/-- No span of the one meets one of the other. -/
def noMeet (a b : Sp) : Bool := a.all fun p => b.all fun q => !meet p q
theorem meet_comm (p q : Int × Int) : meet p q = meet q p := by unfold meet; rw [Bool.eq_iff_iff]; simp only [decide_eq_true_eq]; exact and_comm
theorem noMeet_nil (b : Sp) : noMeet [] b = true := rfl
theorem noMeet_comm (a b : Sp) : noMeet a b = noMeet b a := by
  unfold noMeet
  rw [Bool.eq_iff_iff]
  simp only [List.all_eq_true]
  exact ⟨fun h q hq p hp => by rw [meet_comm]; exact h p hp q hq, fun h q hq p hp => by rw [meet_comm]; exact h p hp q hq⟩
theorem okFrom_mem : ∀ {b : Sp} {l : Int}, okFrom l b → ∀ q ∈ b, l ≤ q.1 ∧ q.1 ≤ q.2 ∧ q.2 ≤ 9999
  | [], _, _, q, hq => by simp at hq
  | p :: b, l, h, q, hq => by
    rcases List.mem_cons.1 hq with rfl | hq
    · exact h.1
    · have := okFrom_mem h.2 q hq
      have := h.1
      omega
theorem noMeet_hit {p q : Int × Int} {a b : Sp} (h1 : p.1 ≤ q.1) (h2 : q.1 ≤ p.2) (h3 : q.1 ≤ q.2) : noMeet (p :: a) (q :: b) = false := by
  have : meet p q = true := by unfold meet; exact decT (by omega)
  simp [noMeet, this]
theorem noMeet_drop {p q : Int × Int} {a b : Sp} {l : Int} (h : okFrom l (q :: b)) (h2 : p.2 < q.1) : noMeet (p :: a) (q :: b) = noMeet a (q :: b) := by
  have e : (q :: b).all (fun q => !meet p q) = true := by
    rw [List.all_eq_true]
    intro r hr
    have := okFrom_mem (l := q.1) (b := q :: b) ⟨⟨Int.le_refl _, h.1.2⟩, h.2⟩ r hr
    unfold meet
    rw [decF (by omega)]
    rfl
  show ((q :: b).all _ && _) = _
  rw [e]
  rfl
theorem apart_eq (ps qs : Sp) : ps.apart qs = (ps.ok && qs.ok && noMeet ps qs) := rfl
end Go.Proofs.Ytbmbmnhamogghab
/- The walks through the program's SetOk, SetHas and SetSize. No statement of the seat is proved here. -/
namespace Go.Proofs.Ytbmbmnhamogghab
open Go.RowKit
theorem cells_of {w : World} {a : Option Addr} {len : Nat} {ps : Sp} {F : List Nat} (h : RdP w a len ps F) : len = 0 ∨ ∃ b off, a = some ⟨b, off, none⟩ ∧ b < w.heap.size ∧ SpCells w b off len ps := by
  rcases h.cells with ⟨h0, _⟩ | ⟨b, off, hp, e, _, hc⟩
  · exact .inl h0
  · exact .inr ⟨b, off, e, World.block_lt_of_cell? _ _ (hc 0 hp).1, hc⟩
theorem floorAt_succ (ps : Sp) (k : Nat) : floorAt ps (k + 1) = (ps.at k).2 + 2 := by unfold floorAt; rw [if_neg (by omega), show k + 1 - 1 = k by omega]
set_option maxRecDepth 200000 in
set_option maxHeartbeats 2000000 in
theorem setOkImpl_any (a : Option Addr) (len cap : Nat) (ps : Sp) (F : List Nat) (w : World) (h : RdP w a len ps F) (hlen : len ≤ 2097152) :
    Calls Try.prog 32 #[.slice a len cap] w fun e w' => e = .returned (.bool ps.ok) ∧ Below w.heap.size w w' := by
  have HL : Hid (ps.length = len) := h.length
  have HC : Hid (len = 0 ∨ ∃ b off, a = some ⟨b, off, none⟩ ∧ b < w.heap.size ∧ SpCells w b off len ps) := cells_of h
  clear h
  go_enter Try.func32, Try.ntmps32
  go_wp2
  go_loopw [3, 8] (fun q i wr => ∃ (k : Nat) (l : Int), k ≤ len ∧ i = .int .i64 k ∧ q = .int .i64 l ∧ 0 ≤ l ∧ l ≤ 10001 ∧ Hid (Below w.heap.size w wr) ∧ Hid (l = floorAt ps k ∧ ∀ j, j < k → ps.okAt j = true)) (fun _ i _ => len - (intOf i).toNat)
  case atStart => exact ⟨0, 0, by omega, rfl, rfl, by omega, by omega, Below.refl _ _, rfl, fun j hj => by omega⟩
  case round =>
    obtain ⟨k, l, hk, rfl, rfl, l0, l1, HB, HN⟩ := hrel
    by_cases hlt : k < len
    · have hca := HC.out
      rcases hca with h0 | ⟨b, off, rfl, hbw, hc⟩
      · omega
      obtain ⟨x, hx⟩ : ∃ x, x = (ps.at k).1 := ⟨_, rfl⟩
      obtain ⟨y, hy⟩ : ∃ x, x = (ps.at k).2 := ⟨_, rfl⟩
      have e := hc k hlt
      rw [← hx, ← hy] at e
      have d1 : wr.cell? ⟨b, off + k * 2, none⟩ = some (.int .i64 x) := (HB.out.cell (by exact hbw)).trans e.1
      have d2 : wr.cell? ⟨b, off + k * 2 + 1, none⟩ = some (.int .i64 y) := (HB.out.cell (by exact hbw)).trans e.2
      have HX : Hid (x = (ps.at k).1 ∧ y = (ps.at k).2) := ⟨hx, hy⟩
      have HB2 : Hid (Below w.heap.size w (wr.alloc (.cells #[.int .i64 x, .int .i64 y] 68))) := Below.allocW _ HB.out (Nat.le_refl _)
      have HOK : Hid (ps.okAt k = true ↔ l ≤ x ∧ 0 ≤ x ∧ x ≤ y ∧ y ≤ 9999) := by
        have := okAt_iff ps k
        rw [← hx, ← hy] at this
        rw [HN.out.1]
        exact this
      have hI : (k : Int) < (len : Int) := by omega
      have hkl : k < ps.length := by rw [HL.out]; exact hlt
      clear e hx hy hc HB
      by_cases c1 : x < l
      · have c1d : decide (x < l) = true := decT c1
        have HV : Hid (ps.ok = false) := Sp.ok_not hkl (by rw [Bool.eq_false_iff]; exact fun e => by have := HOK.out.1 e; omega)
        go_wp2
        go_ret
        rw [HV.out]
        exact ⟨rfl, HB2.out⟩
      have c1d : decide (x < l) = false := decF c1
      by_cases c2 : y < x
      · have c2d : decide (y < x) = true := decT c2
        have HV : Hid (ps.ok = false) := Sp.ok_not hkl (by rw [Bool.eq_false_iff]; exact fun e => by have := HOK.out.1 e; omega)
        go_wp2
        go_ret
        rw [HV.out]
        exact ⟨rfl, HB2.out⟩
      have c2d : decide (y < x) = false := decF c2
      by_cases c3 : 9999 < y
      · have c3d : decide (9999 < y) = true := decT c3
        have HV : Hid (ps.ok = false) := Sp.ok_not hkl (by rw [Bool.eq_false_iff]; exact fun e => by have := HOK.out.1 e; omega)
        go_wp2
        go_ret
        rw [HV.out]
        exact ⟨rfl, HB2.out⟩
      have c3d : decide (9999 < y) = false := decF c3
      have HN2 : Hid (y + 2 = floorAt ps (k + 1) ∧ ∀ j, j < k + 1 → ps.okAt j = true) := ⟨by rw [floorAt_succ, HX.out.2], all_up HN.out.2 (HOK.out.2 ⟨by omega, by omega, by omega, by omega⟩)⟩
      go_wp2
      go_roundw
      case rel => exact ⟨k + 1, y + 2, by omega, by go_num, by go_num, by omega, by omega, HB2, HN2⟩
      case measure => simp [intOf]; omega
    · obtain rfl : k = len := by omega
      have HV : Hid (ps.ok = true) := Sp.ok_all (fun j hj => HN.out.2 j (by rw [← HL.out]; exact hj))
      go_wp2
      go_ret
      rw [HV.out]
      exact ⟨rfl, HB.out⟩
set_option maxRecDepth 200000 in
set_option maxHeartbeats 2000000 in
theorem hasImpl_any (a : Option Addr) (len cap : Nat) (ps : Sp) (n : Int) (F : List Nat) (w : World) (h : RdP w a len ps F) (hlen : len ≤ 2097152) :
    Calls Try.prog 20 #[.slice a len cap, .int .i64 n] w fun e w' => e = .returned (.bool (ps.has n)) ∧ Below w.heap.size w w' := by
  have HL : Hid (ps.length = len) := h.length
  have HC : Hid (len = 0 ∨ ∃ b off, a = some ⟨b, off, none⟩ ∧ b < w.heap.size ∧ SpCells w b off len ps) := cells_of h
  clear h
  go_enter Try.func20, Try.ntmps20
  go_wp2
  go_loopw [9] (fun i wr => ∃ (k : Nat), k ≤ len ∧ i = .int .i64 k ∧ Hid (Below w.heap.size w wr) ∧ Hid (∀ j, j < k → ¬ ((ps.at j).1 ≤ n ∧ n ≤ (ps.at j).2))) (fun i _ => len - (intOf i).toNat)
  case atStart => exact ⟨0, by omega, rfl, Below.refl _ _, fun j hj => by omega⟩
  case round =>
    obtain ⟨k, hk, rfl, HB, HN⟩ := hrel
    by_cases hlt : k < len
    · have hca := HC.out
      rcases hca with h0 | ⟨b, off, rfl, hbw, hc⟩
      · omega
      obtain ⟨x, hx⟩ : ∃ x, x = (ps.at k).1 := ⟨_, rfl⟩
      obtain ⟨y, hy⟩ : ∃ x, x = (ps.at k).2 := ⟨_, rfl⟩
      have e := hc k hlt
      rw [← hx, ← hy] at e
      have d1 : wr.cell? ⟨b, off + k * 2, none⟩ = some (.int .i64 x) := (HB.out.cell (by exact hbw)).trans e.1
      have d2 : wr.cell? ⟨b, off + k * 2 + 1, none⟩ = some (.int .i64 y) := (HB.out.cell (by exact hbw)).trans e.2
      have HX : Hid (x = (ps.at k).1 ∧ y = (ps.at k).2) := ⟨hx, hy⟩
      have HB2 : Hid (Below w.heap.size w (wr.alloc (.cells #[.int .i64 x, .int .i64 y] 68))) := Below.allocW _ HB.out (Nat.le_refl _)
      have hI : (k : Int) < (len : Int) := by omega
      have hkl : k < ps.length := by rw [HL.out]; exact hlt
      clear e hx hy hc HB
      by_cases hin : x ≤ n ∧ n ≤ y
      · have HV : Hid (ps.has n = true) := Sp.has_at hkl (by rw [← HX.out.1, ← HX.out.2]; exact hin)
        have c1d : decide (x ≤ n) = true := decT hin.1
        have c2d : decide (n ≤ y) = true := decT hin.2
        go_wp2
        go_ret
        rw [HV.out]
        exact ⟨rfl, HB2.out⟩
      have HN2 : Hid (∀ j, j < k + 1 → ¬ ((ps.at j).1 ≤ n ∧ n ≤ (ps.at j).2)) := all_up HN.out (by rw [← HX.out.1, ← HX.out.2]; exact hin)
      by_cases c1 : x ≤ n
      · have c1d : decide (x ≤ n) = true := decT c1
        have c2d : decide (n ≤ y) = false := decF (fun e => hin ⟨c1, e⟩)
        clear hin c1
        go_wp2
        go_roundw
        case rel => exact ⟨k + 1, by omega, by go_num, HB2, HN2⟩
        case measure => simp [intOf]; omega
      · have c1d : decide (x ≤ n) = false := decF c1
        clear hin c1
        go_wp2
        go_roundw
        case rel => exact ⟨k + 1, by omega, by go_num, HB2, HN2⟩
        case measure => simp [intOf]; omega
    · obtain rfl : k = len := by omega
      have HV : Hid (ps.has n = false) := Sp.has_not (fun j hj => HN.out j (by rw [← HL.out]; exact hj))
      go_wp2
      go_ret
      rw [HV.out]
      exact ⟨rfl, HB.out⟩
set_option maxRecDepth 200000 in
set_option maxHeartbeats 2000000 in
theorem sizeImpl_any (a : Option Addr) (len cap : Nat) (ps : Sp) (F : List Nat) (w : World) (h : RdP w a len ps F) (hlen : len ≤ 2097152) :
    Calls Try.prog 11 #[.slice a len cap] w fun e w' => e = .returned (.int .i64 ps.size) ∧ Below w.heap.size w w' := by
  have HL : Hid (ps.length = len) := h.length
  have HR : Hid (RdP w a len ps F) := h
  have HC : Hid (len = 0 ∨ ∃ b off, a = some ⟨b, off, none⟩ ∧ b < w.heap.size ∧ SpCells w b off len ps) := cells_of h
  clear h
  go_enter Try.func11, Try.ntmps11
  go_wp2_with fail
  refine (setOkImpl_any a len cap ps F _ HR.out (by omega)).mono ?_
  rintro e w1 ⟨rfl, hb⟩
  have HB0 : Hid (Below w.heap.size w w1) := hb
  clear hb HR
  obtain ⟨d, hd⟩ : ∃ d, d = ps.ok := ⟨_, rfl⟩
  rw [← hd]
  have HD : Hid (d = ps.ok) := hd
  clear hd
  cases d
  · go_wp2
    go_ret
    rw [Sp.size_not HD.out.symm]
    exact ⟨rfl, HB0.out⟩
  go_wp2
  go_loopw [3, 11] (fun q i wr => ∃ (k : Nat) (u : Int), k ≤ len ∧ i = .int .i64 k ∧ q = .int .i64 u ∧ 0 ≤ u ∧ u ≤ 20971520000 ∧ Hid (Below w.heap.size w wr) ∧ Hid (u = Sp.sum (ps.take k))) (fun _ i _ => len - (intOf i).toNat)
  case atStart => exact ⟨0, 0, by omega, rfl, rfl, by omega, by omega, HB0, rfl⟩
  case round =>
    clear HB0
    obtain ⟨k, u, hk, rfl, rfl, u0, u1, HB, HN⟩ := hrel
    by_cases hlt : k < len
    · have hca := HC.out
      rcases hca with h0 | ⟨b, off, rfl, hbw, hc⟩
      · omega
      obtain ⟨x, hx⟩ : ∃ x, x = (ps.at k).1 := ⟨_, rfl⟩
      obtain ⟨y, hy⟩ : ∃ x, x = (ps.at k).2 := ⟨_, rfl⟩
      have e := hc k hlt
      have hok := (Sp.okAt_parts (Sp.ok_at HD.out.symm k (by rw [HL.out]; exact hlt))).1
      have hst := Sp.sum_step (ps := ps) (k := k) (by rw [HL.out]; exact hlt)
      have hrg := Sp.sum_range HD.out.symm (k + 1) (by rw [HL.out]; exact hlt)
      rw [← hx, ← hy] at e hok hst
      have d1 : wr.cell? ⟨b, off + k * 2, none⟩ = some (.int .i64 x) := (HB.out.cell (by exact hbw)).trans e.1
      have d2 : wr.cell? ⟨b, off + k * 2 + 1, none⟩ = some (.int .i64 y) := (HB.out.cell (by exact hbw)).trans e.2
      have HB2 : Hid (Below w.heap.size w (wr.alloc (.cells #[.int .i64 x, .int .i64 y] 68))) := Below.allocW _ HB.out (Nat.le_refl _)
      have hI : (k : Int) < (len : Int) := by omega
      have x0 : 0 ≤ x := by omega
      have x1 : x ≤ 9999 := by omega
      have y0 : 0 ≤ y := by omega
      have y1 : y ≤ 9999 := by omega
      have HN2 : Hid (u + (y - x + 1) = Sp.sum (ps.take (k + 1)) ∧ 0 ≤ u + (y - x + 1) ∧ u + (y - x + 1) ≤ 20971520000) := by
        have := HN.out
        rw [hst, ← this] at hrg
        exact ⟨by rw [hst, ← this], by omega, by omega⟩
      clear e hx hy hok hst hrg hc HB
      go_wp2
      go_roundw
      case rel => exact ⟨k + 1, u + (y - x + 1), by omega, by go_num, by go_num, HN2.out.2.1, HN2.out.2.2, HB2, HN2.out.1⟩
      case measure => simp [intOf]; omega
    · obtain rfl : k = len := by omega
      have HV : Hid (u = ps.size) := by
        show _ = _
        rw [Sp.size_ok HD.out.symm, HN.out, List.take_of_length_le (by rw [HL.out]; omega)]
      go_wp2
      go_ret
      rw [← HV.out]
      exact ⟨rfl, HB.out⟩
end Go.Proofs.Ytbmbmnhamogghab
/- The walks through the program's IdOf, ItemOk and the reading of an entry. No statement of the seat is proved here. -/
namespace Go.Proofs.Ytbmbmnhamogghab
open Go.RowKit
set_option maxRecDepth 200000 in
theorem isSeq_any (n : Int) (w : World) : Calls Try.prog 43 #[.int .i64 n] w fun e w' => e = .returned (.bool (decide (1 ≤ n ∧ n ≤ 60))) ∧ w' = w := by
  have hd : ∀ d : Bool, d = decide (1 ≤ n ∧ n ≤ 60) → (d = true ↔ 1 ≤ n ∧ n ≤ 60) := by rintro d rfl; simp
  generalize decide (1 ≤ n ∧ n ≤ 60) = d at *
  have hd := hd d rfl
  by_cases h : 1 ≤ n
  · by_cases h2 : n ≤ 60
    · have e : Hid (d = true) := hd.2 ⟨h, h2⟩
      clear hd
      go_enter Try.func43, Try.ntmps43
      go_wp2
      go_ret
      rw [e.out]; exact ⟨rfl, rfl⟩
    · have e : Hid (d = false) := show d = false by cases d; rfl; exact absurd (hd.1 rfl).2 h2
      clear hd
      go_enter Try.func43, Try.ntmps43
      go_wp2
      go_ret
      rw [e.out]; exact ⟨rfl, rfl⟩
  · have e : Hid (d = false) := show d = false by cases d; rfl; exact absurd (hd.1 rfl).1 h
    clear hd
    go_enter Try.func43, Try.ntmps43
    go_wp2
    go_ret
    rw [e.out]; exact ⟨rfl, rfl⟩
set_option maxRecDepth 200000 in
theorem idImpl_any (a s : Int) (w : World) : Calls Try.prog 17 #[.int .i64 a, .int .i64 s] w fun e w' => e = .returned (.int .i64 (idOf a s)) ∧ w' = w := by
  go_enter Try.func17, Try.ntmps17
  go_wp2_with fail
  refine (inRange_any _ _ _).mono ?_
  rintro e w2 ⟨rfl, hw2⟩
  have hw2' := hw2.symm
  subst hw2'
  clear hw2
  by_cases h1 : 0 ≤ a ∧ a ≤ 2
  rotate_left
  · rw [decF h1]
    have HV : Hid (idOf a s = -1) := by show _ = _; unfold idOf; rw [if_neg (fun e => h1 e.1)]
    clear h1
    go_wp2
    go_ret
    rw [HV.out]
    exact ⟨rfl, rfl⟩
  rw [decT h1]
  go_wp2_with fail
  refine (isSeq_any _ _).mono ?_
  rintro e w2 ⟨rfl, hw2⟩
  have hw2' := hw2.symm
  subst hw2'
  clear hw2
  by_cases h2 : 1 ≤ s ∧ s ≤ 60
  rotate_left
  · rw [decF h2]
    have HV : Hid (idOf a s = -1) := by show _ = _; unfold idOf; rw [if_neg (fun e => h2 e.2)]
    clear h1 h2
    go_wp2
    go_ret
    rw [HV.out]
    exact ⟨rfl, rfl⟩
  rw [decT h2]
  have HV : Hid (idOf a s = 100 * a + s) := by show _ = _; unfold idOf; rw [if_pos ⟨h1, h2⟩]
  obtain ⟨a0, a1⟩ := h1
  obtain ⟨s0, s1⟩ := h2
  go_wp2
  go_ret
  rw [HV.out]
  exact ⟨rfl, rfl⟩
set_option maxRecDepth 200000 in
theorem isPlace_any (k p : Int) (w : World) : Calls Try.prog 46 #[.agg #[.int .i64 k, .int .i64 p]] w fun e w' => e = .returned (.bool (placeOk k p)) ∧ Below w.heap.size w w' := by
  have HB : Hid (Below w.heap.size w (w.alloc (.cells #[.int .i64 k, .int .i64 p] 51))) := (Below.refl _ _).alloc (Nat.le_refl _) _
  go_enter Try.func46, Try.ntmps46
  go_wp2_with fail
  refine (inRange_any _ _ _).mono ?_
  rintro e w2 ⟨rfl, hw2⟩
  have hw2' := hw2.symm
  subst hw2'
  clear hw2
  obtain ⟨d1, hd1⟩ : ∃ d, d = decide (0 ≤ k ∧ k ≤ 4) := ⟨_, rfl⟩
  rw [← hd1]
  have HD1 : Hid (d1 = decide (0 ≤ k ∧ k ≤ 4)) := hd1
  clear hd1
  cases d1
  · have HV : Hid (placeOk k p = false) := by show _ = _; unfold placeOk; rw [← HD1.out]; rfl
    go_wp2
    go_ret
    exact ⟨ret_bool HV.out.symm, HB.out⟩
  go_wp2_with fail
  refine (inRange_any _ _ _).mono ?_
  rintro e w2 ⟨rfl, hw2⟩
  have hw2' := hw2.symm
  subst hw2'
  clear hw2
  obtain ⟨d2, hd2⟩ : ∃ d, d = decide (0 ≤ p ∧ p ≤ 20) := ⟨_, rfl⟩
  rw [← hd2]
  have HV : Hid (d2 = placeOk k p) := by show _ = _; unfold placeOk; rw [← HD1.out, ← hd2]; rfl
  clear hd2
  go_wp2
  go_ret
  exact ⟨ret_bool HV.out, HB.out⟩
set_option maxRecDepth 200000 in
set_option maxHeartbeats 2000000 in
theorem itemOkImpl_any (v : Value) (x : It) (F : List Nat) (w : World) (h : RdIt w v x F) (hw : x.sk.wide) :
    Calls Try.prog 19 #[v] w fun e w' => e = .returned (.bool x.ok) ∧ Below w.heap.size w w' := by
  obtain ⟨a1, n1, c1, a2, n2, c2, a3, n3, c3, rfl, hr⟩ := h
  have HR : Hid (RdSk w (.agg #[.int .i64 x.sk.count, .int .i64 x.sk.sum, .int .i64 x.sk.min, .int .i64 x.sk.max, .slice a1 n1 c1, .slice a2 n2 c2, .slice a3 n3 c3]) x.sk F ∧ x.sk.wide) := ⟨hr, hw⟩
  have HB : Hid (Below w.heap.size w (w.alloc (.cells #[.int .i64 x.seq, .int .i64 x.cls, .int .i64 x.key, .int .i64 x.window, .int .i64 x.sk.count, .int .i64 x.sk.sum, .int .i64 x.sk.min, .int .i64 x.sk.max, .slice a1 n1 c1, .slice a2 n2 c2, .slice a3 n3 c3] 40)) ∧ Blk (w.alloc (.cells #[.int .i64 x.seq, .int .i64 x.cls, .int .i64 x.key, .int .i64 x.window, .int .i64 x.sk.count, .int .i64 x.sk.sum, .int .i64 x.sk.min, .int .i64 x.sk.max, .slice a1 n1 c1, .slice a2 n2 c2, .slice a3 n3 c3] 40)) w.heap.size #[.int .i64 x.seq, .int .i64 x.cls, .int .i64 x.key, .int .i64 x.window, .int .i64 x.sk.count, .int .i64 x.sk.sum, .int .i64 x.sk.min, .int .i64 x.sk.max, .slice a1 n1 c1, .slice a2 n2 c2, .slice a3 n3 c3] 40) := ⟨Below.allocW _ (Below.refl _ _) (Nat.le_refl _), Blk.made _ _ _⟩
  clear hr hw
  go_enter Try.func19, Try.ntmps19
  go_wp2_with fail
  refine (isSeq_any _ _).mono ?_
  rintro e w2 ⟨rfl, hw2⟩
  have hw2' := hw2.symm
  subst hw2'
  clear hw2
  obtain ⟨d1, hd1⟩ : ∃ d, d = decide (1 ≤ x.seq ∧ x.seq ≤ 60) := ⟨_, rfl⟩
  rw [← hd1]
  have HD1 : Hid (d1 = decide (1 ≤ x.seq ∧ x.seq ≤ 60)) := hd1
  clear hd1
  cases d1
  · have HV : Hid (x.ok = false) := by show _ = _; unfold It.ok; rw [← HD1.out]; rfl
    go_wp2
    go_ret
    exact ⟨ret_bool HV.out.symm, HB.out.1⟩
  go_wp2_with fail
  refine (inRange_any _ _ _).mono ?_
  rintro e w2 ⟨rfl, hw2⟩
  have hw2' := hw2.symm
  subst hw2'
  clear hw2
  obtain ⟨d2, hd2⟩ : ∃ d, d = decide (0 ≤ x.cls ∧ x.cls ≤ 1) := ⟨_, rfl⟩
  rw [← hd2]
  have HD2 : Hid (d2 = decide (0 ≤ x.cls ∧ x.cls ≤ 1)) := hd2
  clear hd2
  cases d2
  · have HV : Hid (x.ok = false) := by show _ = _; unfold It.ok; rw [← HD1.out, ← HD2.out]; rfl
    go_wp2
    go_ret
    exact ⟨ret_bool HV.out.symm, HB.out.1⟩
  go_wp2_with fail
  refine (isPlace_any _ _ _).mono ?_
  rintro e w2 ⟨rfl, hb2⟩
  have HB2 : Hid (Below w.heap.size w w2 ∧ Blk w2 w.heap.size #[.int .i64 x.seq, .int .i64 x.cls, .int .i64 x.key, .int .i64 x.window, .int .i64 x.sk.count, .int .i64 x.sk.sum, .int .i64 x.sk.min, .int .i64 x.sk.max, .slice a1 n1 c1, .slice a2 n2 c2, .slice a3 n3 c3] 40) := ⟨Below.next HB.out.1 hb2, HB.out.2.below hb2⟩
  clear hb2
  obtain ⟨d3, hd3⟩ : ∃ d, d = placeOk x.key x.window := ⟨_, rfl⟩
  rw [← hd3]
  have HD3 : Hid (d3 = placeOk x.key x.window) := hd3
  clear hd3
  cases d3
  · have HV : Hid (x.ok = false) := by show _ = _; unfold It.ok; rw [← HD1.out, ← HD2.out, ← HD3.out]; rfl
    go_wp2
    go_ret
    exact ⟨ret_bool HV.out.symm, HB2.out.1⟩
  go_wp2_with (first | go_skip | (with_reducible refine stopLoad 28 rfl ?_))
  refine load_cutw 28 w.heap.size 4 7 _ #[.int .i64 x.sk.count, .int .i64 x.sk.sum, .int .i64 x.sk.min, .int .i64 x.sk.max, .slice a1 n1 c1, .slice a2 n2 c2, .slice a3 n3 c3] 40 _ HB2.out.2 rfl rfl rfl Try.underlying28 rfl infoSkI (by simp) rfl ?_
  go_wp2_with fail
  refine (okImpl_any _ x.sk F _ (HR.out.1.below HB2.out.1) HR.out.2).mono ?_
  rintro e w3 ⟨rfl, hb3⟩
  have HB3 : Hid (Below w.heap.size w w3) := Below.next HB2.out.1 hb3
  have HV : Hid (x.ok = x.sk.ok) := by show _ = _; unfold It.ok; rw [← HD1.out, ← HD2.out, ← HD3.out]; rfl
  clear hb3
  obtain ⟨d4, hd4⟩ : ∃ d, d = x.sk.ok := ⟨_, rfl⟩
  rw [← hd4] at HV ⊢
  clear hd4
  go_wp2
  go_ret
  exact ⟨ret_bool HV.out.symm, HB3.out⟩
/-- The cells of an entry as the program holds it. -/
def hc (k p : Int) (a : Option Addr) (l c : Nat) (ys : List Int) : Array Value := (.int .i64 k :: .int .i64 p :: .slice a l c :: ys.map (Value.int .i64)).toArray
theorem hc_size {k p : Int} {a : Option Addr} {l c : Nat} {ys : List Int} (h : ys.length = 28) : (hc k p a l c ys).size = 31 := by
  unfold hc; simp [h]
theorem hc_one (k p : Int) (a : Option Addr) (l c : Nat) (ys : List Int) : (hc k p a l c ys).all (·.oneCell') = true := by
  unfold hc
  simp [Value.oneCell']
section
variable {P : Program} {ops : Array Oper} {Q : Exit → Act → World → Prop} {rest : List Oper} {a : Act} {w : World} {o : Oper}
theorem stopBuild (ty : TypeId) {fs : Array (Nat × Operand)} (_ho : o.op = .build ty fs) (h : Stop (wpList P ops Q (o :: rest) a w)) : wpList P ops Q (o :: rest) a w := h
/-- A value that is put together, by a law of its own. -/
theorem built_any {ty : TypeId} {fs : Array (Nat × Operand)} (v : Value) (hw : Region.wanted o (yielded ops a.tmps) = true) (ho : o.op = .build ty fs) (hr : (Instr.build ty (fs.map fun p => (p.1, a.eval p.2))).run P w = .ok v w) (h : wpList P ops Q rest (a.put o.dst v) w) : Stop (wpList P ops Q (o :: rest) a w) :=
  wpList_step fun K hK => by
    rw [if_pos hw]
    unfold Oper.wp execOp
    simp only [ho]
    simp [hr]
    exact hK _ _ h
end
set_option maxRecDepth 200000 in
theorem build_hold (w : World) (k p : Int) (a : Option Addr) (l c : Nat) (ys : List Int) (h : ys.length = 28) : (Instr.build 58 #[(0, .agg #[.int .i64 k, .int .i64 p]), (1, .slice a l c), (2, .agg (tc ys))]).run Try.prog w = .ok (.agg (hc k p a l c ys)) w := by
  have key : ∀ y0 y1 y2 y3 y4 y5 y6 y7 y8 y9 y10 y11 y12 y13 y14 y15 y16 y17 y18 y19 y20 y21 y22 y23 y24 y25 y26 y27 : Int, (Instr.build 58 #[(0, .agg #[.int .i64 k, .int .i64 p]), (1, .slice a l c), (2, .agg (tc [y0, y1, y2, y3, y4, y5, y6, y7, y8, y9, y10, y11, y12, y13, y14, y15, y16, y17, y18, y19, y20, y21, y22, y23, y24, y25, y26, y27]))]).run Try.prog w = .ok (.agg (hc k p a l c [y0, y1, y2, y3, y4, y5, y6, y7, y8, y9, y10, y11, y12, y13, y14, y15, y16, y17, y18, y19, y20, y21, y22, y23, y24, y25, y26, y27])) w := by
    intro y0 y1 y2 y3 y4 y5 y6 y7 y8 y9 y10 y11 y12 y13 y14 y15 y16 y17 y18 y19 y20 y21 y22 y23 y24 y25 y26 y27
    kernel_rfl
  match ys, h with
  | [y0, y1, y2, y3, y4, y5, y6, y7, y8, y9, y10, y11, y12, y13, y14, y15, y16, y17, y18, y19, y20, y21, y22, y23, y24, y25, y26, y27], _ => exact key y0 y1 y2 y3 y4 y5 y6 y7 y8 y9 y10 y11 y12 y13 y14 y15 y16 y17 y18 y19 y20 y21 y22 y23 y24 y25 y26 y27
theorem holdSize {cs : Array Value} (h : cs.size = 31) : (Try.prog.info? 58).map (·.size) = some cs.size := by rw [h]; kernel_rfl
set_option maxRecDepth 200000 in
set_option maxHeartbeats 4000000 in
theorem okHolding_any (v : Value) (x : En) (F G : List Nat) (w : World) (h : RdEn w v x F G) (hw : x.sk.wide) (hl : x.ids.length ≤ 2097152) :
    Calls Try.prog 23 #[v] w fun e w' => ∃ k p a l c ys, e = .returned (.tuple #[.agg (hc k p a l c ys), .bool x.ok]) ∧ ys.length = 28 ∧ (x.ok = true → k = x.key ∧ p = x.window ∧ ys = x.sk.tl ∧ RdP w a l x.ids F ∧ Capd a l c) ∧ Below w.heap.size w w' := by
  obtain ⟨b, l, c, a1, n1, c1, a2, n2, c2, a3, n3, c3, rfl, hp, hr, hcp⟩ := h
  have HR : Hid (RdSk w (.agg #[.int .i64 x.sk.count, .int .i64 x.sk.sum, .int .i64 x.sk.min, .int .i64 x.sk.max, .slice a1 n1 c1, .slice a2 n2 c2, .slice a3 n3 c3]) x.sk G ∧ x.sk.wide) := ⟨hr, hw⟩
  have HP : Hid (RdP w b l x.ids F ∧ l ≤ 2097152 ∧ x.ids.length = l ∧ Capd b l c) := ⟨hp, by rw [← hp.length]; exact hl, hp.length, hcp⟩
  have hl2 : l ≤ 2097152 := HP.out.2.1
  have Z := two_made w #[.int .i64 x.key, .int .i64 x.window, .slice b l c, .int .i64 x.sk.count, .int .i64 x.sk.sum, .int .i64 x.sk.min, .int .i64 x.sk.max, .slice a1 n1 c1, .slice a2 n2 c2, .slice a3 n3 c3] (hc 0 0 none 0 0 (List.replicate 28 0)) 30 58
  have HZ : Hid (_ ∧ _ ∧ _) := Z
  clear hr hw hp hl Z hcp
  go_enter Try.func23, Try.ntmps23
  go_wp2_with (first | go_skip | (with_reducible refine stopLoad 28 rfl ?_))
  refine load_cutw 28 w.heap.size 3 7 _ #[.int .i64 x.sk.count, .int .i64 x.sk.sum, .int .i64 x.sk.min, .int .i64 x.sk.max, .slice a1 n1 c1, .slice a2 n2 c2, .slice a3 n3 c3] 30 _ HZ.out.1 rfl rfl rfl Try.underlying28 rfl infoSkI (by simp) rfl ?_
  go_wp2_with fail
  refine (okTally_any _ x.sk G _ (HR.out.1.below HZ.out.2.2) HR.out.2).mono ?_
  rintro e w1 ⟨xs, ys, rfl, _, hy, hx, hyx, hb1⟩
  have hok := okT_ok hx
  have HY : Hid (ys.length = 28 ∧ (x.sk.ok = true → ys = x.sk.tl)) := ⟨hy, fun e => by rw [hyx (hok.trans e)]; exact hx (Sk.ok_shaped e)⟩
  have HS1 : Hid (Blk w1 w.heap.size #[.int .i64 x.key, .int .i64 x.window, .slice b l c, .int .i64 x.sk.count, .int .i64 x.sk.sum, .int .i64 x.sk.min, .int .i64 x.sk.max, .slice a1 n1 c1, .slice a2 n2 c2, .slice a3 n3 c3] 30 ∧ Blk w1 (w.heap.size + 1) (hc 0 0 none 0 0 (List.replicate 28 0)) 58 ∧ Below w.heap.size w w1) := ⟨HZ.out.1.below hb1, HZ.out.2.1.below hb1, Below.next HZ.out.2.2 hb1⟩
  rw [hok]
  clear hb1 hy hx hyx hok HZ
  obtain ⟨d, hd⟩ : ∃ d, d = x.sk.ok := ⟨_, rfl⟩
  rw [← hd]
  have HD : Hid (d = x.sk.ok) := hd
  clear hd
  go_wp2_with (first | go_skip | (with_reducible refine stopStore 56 rfl ?_))
  refine store_fresh 56 w1.heap.size rfl (tc (List.replicate 28 0)) (tc ys) 56 rfl rfl rfl rfl (tallySize HY.out.1) (by rw [tc_size, tc_size, HY.out.1]; rfl) (tc_one _) ?_
  intro W2 hg2 hb2
  have HS2 : Hid (Blk W2 w.heap.size #[.int .i64 x.key, .int .i64 x.window, .slice b l c, .int .i64 x.sk.count, .int .i64 x.sk.sum, .int .i64 x.sk.min, .int .i64 x.sk.max, .slice a1 n1 c1, .slice a2 n2 c2, .slice a3 n3 c3] 30 ∧ Blk W2 (w.heap.size + 1) (hc 0 0 none 0 0 (List.replicate 28 0)) 58 ∧ Below w.heap.size w W2) := ⟨HS1.out.1.below hb2, HS1.out.2.1.below hb2, Below.next HS1.out.2.2 hb2⟩
  have HG2 : Hid (Blk W2 w1.heap.size (tc ys) 56) := hg2
  clear hb2 hg2 HS1
  have k0 : W2.cell? ⟨w.heap.size, 0, none⟩ = some (.int .i64 x.key) := by rw [HS2.out.1.cell]; rfl
  have k1 : W2.cell? ⟨w.heap.size, 1, none⟩ = some (.int .i64 x.window) := by rw [HS2.out.1.cell]; rfl
  go_wp2_with (first | go_skip | (with_reducible refine stopStore 51 rfl ?_))
  refine store_fresh 51 W2.heap.size rfl #[.int .i64 0, .int .i64 0] #[.int .i64 x.key, .int .i64 x.window] 51 rfl rfl rfl rfl (by kernel_rfl) rfl (by kernel_rfl) ?_
  intro W3 hg3 hb3
  have HS3 : Hid (Blk W3 w.heap.size #[.int .i64 x.key, .int .i64 x.window, .slice b l c, .int .i64 x.sk.count, .int .i64 x.sk.sum, .int .i64 x.sk.min, .int .i64 x.sk.max, .slice a1 n1 c1, .slice a2 n2 c2, .slice a3 n3 c3] 30 ∧ Blk W3 (w.heap.size + 1) (hc 0 0 none 0 0 (List.replicate 28 0)) 58 ∧ Below w.heap.size w W3) := ⟨HS2.out.1.below hb3, HS2.out.2.1.below hb3, Below.next HS2.out.2.2 hb3⟩
  have HG3 : Hid (Blk W3 w1.heap.size (tc ys) 56 ∧ Blk W3 W2.heap.size #[.int .i64 x.key, .int .i64 x.window] 51) := ⟨HG2.out.below hb3, hg3⟩
  clear hb3 hg3 HS2 HG2 k0 k1
  cases d
  · have HV : Hid (x.ok = false) := by show _ = _; unfold En.ok; rw [← HD.out]; simp
    have HS := HS3
    go_wp2_with (first | go_skip | (with_reducible refine stopStore 58 rfl ?_))
    refine store_known 58 (w.heap.size + 1) _ (hc 0 0 none 0 0 (List.replicate 28 0)) 58 HS.out.2.1 rfl rfl rfl rfl (by kernel_rfl) rfl (by kernel_rfl) ?_
    go_wp2
    refine bodyPost_ret (results_row_tmp Try.results23 _ _ (w.heap.size + 1) _ _ _ _ rfl HS.out.2.1.setRow Try.underlying58 rfl (by kernel_rfl)) rfl ?_
    exact ⟨0, 0, none, 0, 0, List.replicate 28 0, (by rw [HV.out]; rfl), rfl, fun e => (by rw [HV.out] at e; cases e), below_setRow HS.out.2.2 (by omega) _⟩

  go_wp2_with (first | go_skip | (with_reducible refine stopLoad 51 rfl ?_))
  refine load_any 51 W2.heap.size _ 51 _ HG3.out.2 rfl rfl rfl Try.underlying51 rfl (by kernel_rfl) ?_
  go_wp2_with fail
  refine (isPlace_any _ _ _).mono ?_
  rintro e w4 ⟨rfl, hb4⟩
  have HS4 : Hid (Blk w4 w.heap.size #[.int .i64 x.key, .int .i64 x.window, .slice b l c, .int .i64 x.sk.count, .int .i64 x.sk.sum, .int .i64 x.sk.min, .int .i64 x.sk.max, .slice a1 n1 c1, .slice a2 n2 c2, .slice a3 n3 c3] 30 ∧ Blk w4 (w.heap.size + 1) (hc 0 0 none 0 0 (List.replicate 28 0)) 58 ∧ Below w.heap.size w w4) := ⟨HS3.out.1.below hb4, HS3.out.2.1.below hb4, Below.next HS3.out.2.2 hb4⟩
  have HG4 : Hid (Blk w4 w1.heap.size (tc ys) 56 ∧ Blk w4 W2.heap.size #[.int .i64 x.key, .int .i64 x.window] 51) := ⟨HG3.out.1.below hb4, HG3.out.2.below hb4⟩
  clear hb4 HS3 HG3
  obtain ⟨d2, hd2⟩ : ∃ d, d = placeOk x.key x.window := ⟨_, rfl⟩
  rw [← hd2]
  have HD2 : Hid (d2 = placeOk x.key x.window) := hd2
  clear hd2
  cases d2
  · have HV : Hid (x.ok = false) := by show _ = _; unfold En.ok; rw [← HD2.out]; simp
    have HS := HS4
    go_wp2_with (first | go_skip | (with_reducible refine stopStore 58 rfl ?_))
    refine store_known 58 (w.heap.size + 1) _ (hc 0 0 none 0 0 (List.replicate 28 0)) 58 HS.out.2.1 rfl rfl rfl rfl (by kernel_rfl) rfl (by kernel_rfl) ?_
    go_wp2
    refine bodyPost_ret (results_row_tmp Try.results23 _ _ (w.heap.size + 1) _ _ _ _ rfl HS.out.2.1.setRow Try.underlying58 rfl (by kernel_rfl)) rfl ?_
    exact ⟨0, 0, none, 0, 0, List.replicate 28 0, (by rw [HV.out]; rfl), rfl, fun e => (by rw [HV.out] at e; cases e), below_setRow HS.out.2.2 (by omega) _⟩

  have k2 : w4.cell? ⟨w.heap.size, 2, none⟩ = some (.slice b l c) := by rw [HS4.out.1.cell]; rfl
  go_wp2_with fail
  refine (setOkImpl_any b l c x.ids F _ (HP.out.1.below HS4.out.2.2) HP.out.2.1).mono ?_
  rintro e w5 ⟨rfl, hb5⟩
  have HS5 : Hid (Blk w5 w.heap.size #[.int .i64 x.key, .int .i64 x.window, .slice b l c, .int .i64 x.sk.count, .int .i64 x.sk.sum, .int .i64 x.sk.min, .int .i64 x.sk.max, .slice a1 n1 c1, .slice a2 n2 c2, .slice a3 n3 c3] 30 ∧ Blk w5 (w.heap.size + 1) (hc 0 0 none 0 0 (List.replicate 28 0)) 58 ∧ Below w.heap.size w w5) := ⟨HS4.out.1.below hb5, HS4.out.2.1.below hb5, Below.next HS4.out.2.2 hb5⟩
  have HG5 : Hid (Blk w5 w1.heap.size (tc ys) 56 ∧ Blk w5 W2.heap.size #[.int .i64 x.key, .int .i64 x.window] 51) := ⟨HG4.out.1.below hb5, HG4.out.2.below hb5⟩
  have k5 : w5.cell? ⟨w.heap.size, 2, none⟩ = some (.slice b l c) := by rw [HS5.out.1.cell]; rfl
  clear hb5 HS4 HG4 k2
  obtain ⟨d3, hd3⟩ : ∃ d, d = x.ids.ok := ⟨_, rfl⟩
  rw [← hd3]
  have HD3 : Hid (d3 = x.ids.ok) := hd3
  clear hd3
  cases d3
  · have HV : Hid (x.ok = false) := by show _ = _; unfold En.ok; rw [← HD3.out]; simp
    have HS := HS5
    go_wp2_with (first | go_skip | (with_reducible refine stopStore 58 rfl ?_))
    refine store_known 58 (w.heap.size + 1) _ (hc 0 0 none 0 0 (List.replicate 28 0)) 58 HS.out.2.1 rfl rfl rfl rfl (by kernel_rfl) rfl (by kernel_rfl) ?_
    go_wp2
    refine bodyPost_ret (results_row_tmp Try.results23 _ _ (w.heap.size + 1) _ _ _ _ rfl HS.out.2.1.setRow Try.underlying58 rfl (by kernel_rfl)) rfl ?_
    exact ⟨0, 0, none, 0, 0, List.replicate 28 0, (by rw [HV.out]; rfl), rfl, fun e => (by rw [HV.out] at e; cases e), below_setRow HS.out.2.2 (by omega) _⟩

  by_cases h0 : l = 0
  · have HV : Hid (x.ok = false) := by show _ = _; unfold En.ok; rw [HP.out.2.2.1, h0]; simp
    subst h0
    have HS := HS5
    go_wp2_with (first | go_skip | (with_reducible refine stopStore 58 rfl ?_))
    refine store_known 58 (w.heap.size + 1) _ (hc 0 0 none 0 0 (List.replicate 28 0)) 58 HS.out.2.1 rfl rfl rfl rfl (by kernel_rfl) rfl (by kernel_rfl) ?_
    go_wp2
    refine bodyPost_ret (results_row_tmp Try.results23 _ _ (w.heap.size + 1) _ _ _ _ rfl HS.out.2.1.setRow Try.underlying58 rfl (by kernel_rfl)) rfl ?_
    exact ⟨0, 0, none, 0, 0, List.replicate 28 0, (by rw [HV.out]; rfl), rfl, fun e => (by rw [HV.out] at e; cases e), below_setRow HS.out.2.2 (by omega) _⟩

  have g1 : ((l : Int) == 0) = false := by simp; omega
  have HV : Hid (x.ok = true) := by show _ = _; unfold En.ok; rw [← HD.out, ← HD2.out, ← HD3.out, HP.out.2.2.1]; simp; omega
  clear h0
  go_wp2_with (first | go_skip | (with_reducible refine stopLoad 51 rfl ?_))
  refine load_any 51 W2.heap.size _ 51 _ HG5.out.2 rfl rfl rfl Try.underlying51 rfl (by kernel_rfl) ?_
  go_wp2_with (first | go_skip | (with_reducible refine stopLoad 56 rfl ?_))
  refine load_any 56 w1.heap.size (tc ys) 56 _ HG5.out.1 rfl rfl rfl Try.underlying56 rfl (tallySize HY.out.1) ?_
  go_wp2_with (first | go_skip | (with_reducible refine stopBuild 58 rfl ?_))
  refine built_any (.agg (hc x.key x.window b l c ys)) rfl rfl (by simp only [List.map_toArray, List.map_cons, List.map_nil]; exact build_hold _ _ _ _ _ _ _ HY.out.1) ?_
  go_wp2_with (first | go_skip | (with_reducible refine stopStore 58 rfl ?_))
  refine store_known 58 (w.heap.size + 1) _ (hc x.key x.window b l c ys) 58 HS5.out.2.1 rfl rfl rfl rfl (holdSize (hc_size HY.out.1)) (by rw [hc_size HY.out.1]; rfl) (hc_one ..) ?_
  go_wp2
  refine bodyPost_ret (results_row_tmp Try.results23 _ _ (w.heap.size + 1) _ _ _ _ rfl HS5.out.2.1.setRow Try.underlying58 rfl (holdSize (hc_size HY.out.1))) rfl ?_
  exact ⟨x.key, x.window, b, l, c, ys, (by rw [HV.out]; rfl), HY.out.1, fun _ => ⟨rfl, rfl, HY.out.2 HD.out.symm, HP.out.1, HP.out.2.2.2⟩, below_setRow HS5.out.2.2 (by omega) _⟩
set_option maxRecDepth 200000 in
set_option maxHeartbeats 1000000 in
theorem entryOkImpl_en (v : Value) (x : En) (F G : List Nat) (w : World) (h : RdEn w v x F G) (hw : x.sk.wide) (hl : x.ids.length ≤ 2097152) :
    Calls Try.prog 10 #[v] w fun e w' => e = .returned (.bool x.ok) ∧ Below w.heap.size w w' := by
  have HH : Hid (RdEn w v x F G ∧ x.sk.wide ∧ x.ids.length ≤ 2097152) := ⟨h, hw, hl⟩
  obtain ⟨b, l, c, a1, n1, c1, a2, n2, c2, a3, n3, c3, rfl, hp, hr, hcp⟩ := h
  have HT : Hid (Blk (w.alloc (.cells #[.int .i64 x.key, .int .i64 x.window, .slice b l c, .int .i64 x.sk.count, .int .i64 x.sk.sum, .int .i64 x.sk.min, .int .i64 x.sk.max, .slice a1 n1 c1, .slice a2 n2 c2, .slice a3 n3 c3] 30)) w.heap.size #[.int .i64 x.key, .int .i64 x.window, .slice b l c, .int .i64 x.sk.count, .int .i64 x.sk.sum, .int .i64 x.sk.min, .int .i64 x.sk.max, .slice a1 n1 c1, .slice a2 n2 c2, .slice a3 n3 c3] 30 ∧ Below w.heap.size w (w.alloc (.cells #[.int .i64 x.key, .int .i64 x.window, .slice b l c, .int .i64 x.sk.count, .int .i64 x.sk.sum, .int .i64 x.sk.min, .int .i64 x.sk.max, .slice a1 n1 c1, .slice a2 n2 c2, .slice a3 n3 c3] 30))) := ⟨Blk.made _ _ _, (Below.refl _ _).alloc (Nat.le_refl _) _⟩
  clear hp hr hcp hw hl
  go_enter Try.func10, Try.ntmps10
  go_wp2_with (first | go_skip | (with_reducible refine stopLoad 30 rfl ?_))
  refine load_any 30 w.heap.size _ 30 _ HT.out.1 rfl rfl rfl Try.underlying30 rfl (by kernel_rfl) ?_
  go_wp2_with fail
  refine (okHolding_any _ x F G _ (HH.out.1.below HT.out.2) HH.out.2.1 HH.out.2.2).mono ?_
  rintro e w1 ⟨k, p, a, l', c', ys, rfl, hy, _, hb1⟩
  have HB : Hid (ys.length = 28 ∧ Below w.heap.size w w1) := ⟨hy, Below.next HT.out.2 hb1⟩
  clear hb1 hy
  obtain ⟨d, hd⟩ : ∃ d, d = x.ok := ⟨_, rfl⟩
  rw [← hd]
  have HD : Hid (d = x.ok) := hd
  clear hd
  go_wp2_with (first | go_skip | (with_reducible refine stopStore 58 rfl ?_))
  refine store_fresh 58 w1.heap.size rfl (hc 0 0 none 0 0 (List.replicate 28 0)) (hc k p a l' c' ys) 58 rfl rfl rfl rfl (holdSize (hc_size HB.out.1)) (by rw [hc_size HB.out.1]; rfl) (hc_one ..) ?_
  intro W2 _ hb2
  have HB2 : Hid (Below w.heap.size w W2) := Below.next HB.out.2 hb2
  clear hb2
  go_wp2
  go_ret
  exact ⟨ret_bool HD.out, HB2.out⟩
end Go.Proofs.Ytbmbmnhamogghab
