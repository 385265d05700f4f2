/- Several texts of mine, laid together. No statement of the seat is proved here. -/
import Derived.Test.YtillnoeailnnfaaB2
import Derived.Deep.RegionLawGrows
import Derived.Test.YtillnoeailnnfaaB1
import Derived.Test.YtillnoeailnnfaaItHelp
import Derived.Test.YtillnoeailnnfaaSpJoin
import Derived.Test.YtillnoeailnnfaaItHelp2
import Derived.Test.YtillnoeailnnfaaItLaw
import Derived.Test.YtillnoeailnnfaaLstOps
import Derived.Test.YtillnoeailnnfaaWhole
import Derived.Deep.AppendLies
import Derived.Test.YtillnoeailnnfaaPart
/- What is read is what was written: summaries and frames out of their numbers. No statement of the seat is proved here. -/
namespace Go.Proofs.Ytillnoeailnnfaa
open Go.RowKit
theorem skOf_lens {l : List Int} (h : l.length = 28) : (skOf l).lens7 := by
  refine ⟨by simp [skOf]; omega, by simp [skOf]; omega, rfl, fun z hz => ?_⟩
  simp only [skOf, List.mem_cons, List.not_mem_nil, or_false] at hz
  rcases hz with rfl | rfl <;> (simp; omega)
theorem skOf_nums {l : List Int} (h : l.length = 28) : (skOf l).nums = l := by
  unfold Sk.nums skOf
  conv => rhs; rw [split28 h]
  have e : (l.drop 20).take 8 = (l.drop 20).take 4 ++ (l.drop 24).take 4 := by
    rw [show (8 : Nat) = 4 + 4 from rfl, List.take_add, List.drop_drop]
  rw [e]
  simp
theorem nums_skOf {s : Sk} (h : s.lens7) : skOf s.nums = s := by
  obtain ⟨c, u, mi, ma, hi, re, ro⟩ := s
  obtain ⟨h1, h2, h3, h4⟩ := h
  simp only at h1 h2 h3 h4
  match hi, re, ro, h1, h2, h3, h4 with
  | [_, _, _, _, _, _, _, _], [_, _, _, _, _, _, _, _], [r1, r2], _, _, _, h4 =>
    have q1 := h4 r1 (by simp)
    have q2 := h4 r2 (by simp)
    match r1, r2, q1, q2 with
    | [_, _, _, _], [_, _, _, _], _, _ => rfl
theorem Sk.nums_inj {s t : Sk} (hs : s.lens7) (ht : t.lens7) (e : s.nums = t.nums) : s = t := by rw [← nums_skOf hs, ← nums_skOf ht, e]
theorem Sk.bytes_inj {s t : Sk} (hs : s.ok = true) (ht : t.ok = true) (e : s.bytes = t.bytes) : s = t := by
  rw [Sk.bytes_ok hs, Sk.bytes_ok ht] at e
  exact Sk.nums_inj (Sk.ok_lens hs).1 (Sk.ok_lens ht).1 (putAll_inj (Sk.ok_lens hs).2 (Sk.ok_lens ht).2 e)
theorem SkIs.unique {zs : List Int} {s t : Sk} {c d : Bool} (h : SkIs zs s c) (k : SkIs zs t d) : s = t ∧ c = d := by
  unfold SkIs at h k
  cases c <;> cases d <;> simp only [if_true, Bool.false_eq_true, if_false] at h k
  · exact ⟨h.1.trans k.1.symm, rfl⟩
  · exact absurd k.2 (h.2 t k.1)
  · exact absurd h.2 (k.2 s h.1)
  · exact ⟨Sk.bytes_inj h.1 k.1 (h.2.symm.trans k.2), rfl⟩
theorem skIs_yes {zs l : List Int} (hl : l.length = 28) (he : zs = putAll l) (hok : (skOf l).ok = true) : SkIs zs (skOf l) true :=
  (if_pos rfl).mpr ⟨hok, by rw [Sk.bytes_ok hok, skOf_nums hl]; exact he⟩
theorem skIs_bad {zs l : List Int} (hn : ∀ x ∈ l, InN x) (he : zs = putAll l) (hok : (skOf l).ok = false) : SkIs zs Sk.zero false := by
  refine (if_neg (by simp)).mpr ⟨rfl, fun t ht e => ?_⟩
  rw [he, Sk.bytes_ok ht] at e
  have := putAll_inj hn (Sk.ok_lens ht).2 e
  rw [this, nums_skOf (Sk.ok_lens ht).1, ht] at hok
  cases hok
theorem skIs_long {zs l : List Int} (hl : ¬ l.length = 28) (hn : ∀ x ∈ l, InN x) (he : zs = putAll l) : SkIs zs Sk.zero false := by
  refine (if_neg (by simp)).mpr ⟨rfl, fun t ht e => ?_⟩
  rw [he, Sk.bytes_ok ht] at e
  have := putAll_inj hn (Sk.ok_lens ht).2 e
  rw [this] at hl
  exact hl (Sk.nums_len (Sk.ok_lens ht).1)
theorem skIs_no {zs : List Int} (h : ∀ m, (∀ x ∈ m, InN x) → zs ≠ putAll m) : SkIs zs Sk.zero false :=
  (if_neg (by simp)).mpr ⟨rfl, fun t ht e => h t.nums (Sk.ok_lens ht).2 (by rw [e, Sk.bytes_ok ht])⟩
/-- The model's way: 28 numbers are read. -/
theorem skIs_get {zs : List Int} {t : Sk} (ht : t.ok = true) (e : zs = t.bytes) : getTo zs 0 28 = some (t.nums, (zs.length : Int)) := by
  have a := getTo_front t.nums [] (Sk.ok_lens ht).2 (Sk.nums_len (Sk.ok_lens ht).1)
  rw [List.append_nil, ← Sk.bytes_ok ht, ← e] at a
  exact a
theorem skIs_getNone {zs : List Int} (h : getTo zs 0 28 = none) : SkIs zs Sk.zero false :=
  (if_neg (by simp)).mpr ⟨rfl, fun t ht e => by rw [skIs_get ht e] at h; cases h⟩
theorem skIs_getOff {zs l : List Int} {q : Int} (h : getTo zs 0 28 = some (l, q)) (hq : ¬ q = zs.length) : SkIs zs Sk.zero false :=
  (if_neg (by simp)).mpr ⟨rfl, fun t ht e => by rw [skIs_get ht e] at h; cases h; exact hq rfl⟩
theorem skIs_getAll {zs l : List Int} (hz : ∀ x ∈ zs, 0 ≤ x ∧ x ≤ 255) (h : getTo zs 0 28 = some (l, (zs.length : Int))) : zs = putAll l ∧ (∀ x ∈ l, InN x) ∧ l.length = 28 := by
  have a := all_here hz h
  unfold AllIs at a
  rw [if_pos rfl] at a
  exact ⟨a.1, a.2, getTo_len h⟩
/-! ### frames -/
def Fr.numbers (x : Fr) : List Int := [x.kind, x.agent, x.epoch, x.granted, (x.taken.length : Int)] ++ flat x.taken ++ (if x.kind = 1 then [x.item.seq, x.item.cls, x.item.key, x.item.window] ++ x.item.sk.nums else [])
theorem It.ok_nums {x : It} (h : x.ok = true) : (1 ≤ x.seq ∧ x.seq ≤ 60) ∧ (0 ≤ x.cls ∧ x.cls ≤ 1) ∧ InN x.key ∧ InN x.window ∧ x.sk.ok = true := by
  unfold It.ok placeOk at h
  simp only [Bool.and_eq_true, decide_eq_true_eq] at h
  unfold InN
  obtain ⟨⟨⟨h1, h2⟩, h3, h4⟩, h5⟩ := h
  refine ⟨h1, h2, ⟨by omega, by omega⟩, ⟨by omega, by omega⟩, h5⟩
theorem flat_mem {P : Int → Prop} : ∀ {ps : Sp}, (∀ p ∈ ps, P p.1 ∧ P p.2) → ∀ x ∈ flat ps, P x
  | [], _, x, hx => by cases hx
  | p :: ps, h, x, hx => by
    rcases List.mem_cons.1 hx with rfl | hx
    · exact (h p (List.mem_cons_self ..)).1
    rcases List.mem_cons.1 hx with rfl | hx
    · exact (h p (List.mem_cons_self ..)).2
    · exact flat_mem (fun q hq => h q (List.mem_cons_of_mem _ hq)) x hx
theorem Fr.right_spans {x : Fr} (h : x.Right) : ∀ y ∈ flat x.taken, InN y := by
  refine flat_mem (fun p hp => ?_)
  obtain ⟨k, hk, rfl⟩ := List.getElem_of_mem hp
  have a := h.span k hk
  have e : x.taken.at k = x.taken[k] := by unfold Sp.at; rw [List.getElem?_eq_getElem hk]; rfl
  rw [e] at a
  unfold InN
  omega
theorem Fr.right_numbers {x : Fr} (h : x.Right) : ∀ y ∈ x.numbers, InN y := by
  intro y hy
  unfold Fr.numbers at hy
  rcases List.mem_append.1 hy with hy | hy
  · rcases List.mem_append.1 hy with hy | hy
    · have a := h.kind; have b := h.agent; have c := h.epoch; have d := h.granted; have e := h.many
      simp only [List.mem_cons, List.not_mem_nil, or_false] at hy
      unfold InN
      rcases hy with rfl | rfl | rfl | rfl | rfl <;> omega
    · exact Fr.right_spans h y hy
  · have i := h.item
    by_cases q : x.kind = 1
    · rw [if_pos q] at hy i
      obtain ⟨a, b, c, d, e⟩ := It.ok_nums i
      rcases List.mem_append.1 hy with hy | hy
      · simp only [List.mem_cons, List.not_mem_nil, or_false] at hy
        unfold InN at *
        rcases hy with rfl | rfl | rfl | rfl <;> omega
      · exact (Sk.ok_lens e).2 y hy
    · rw [if_neg q] at hy; cases hy
theorem Fr.body_numbers {x : Fr} (h : x.Right) : x.body = [87, 82] ++ putAll x.numbers := by
  unfold Fr.body Fr.numbers
  have i := h.item
  by_cases q : x.kind = 1
  · rw [if_pos q] at i
    simp only [if_pos q]
    rw [putAll_app, putAll_app, putAll_app, Sk.bytes_ok (It.ok_nums i).2.2.2.2]
    simp only [List.append_assoc]
  · simp only [if_neg q, List.append_nil]
    rw [putAll_app]
    simp only [List.append_assoc]
theorem Fr.numbers_inj {x y : Fr} (hx : x.Right) (hy : y.Right) (e : x.numbers = y.numbers) : x = y := by
  unfold Fr.numbers at e
  simp only [List.cons_append, List.nil_append, List.cons.injEq] at e
  obtain ⟨e1, e2, e3, e4, e5, e6⟩ := e
  have el : (flat x.taken).length = (flat y.taken).length := by rw [flat_length, flat_length]; omega
  obtain ⟨e7, e8⟩ := List.append_inj e6 el
  have et : x.taken = y.taken := flat_inj e7
  have ix := hx.item
  have iy := hy.item
  rw [← e1] at iy e8
  by_cases q : x.kind = 1
  · rw [if_pos q] at ix iy
    rw [if_pos q, if_pos q] at e8
    simp only [List.cons.injEq] at e8
    obtain ⟨f1, f2, f3, f4, f5⟩ := e8
    exact Fr.eq_of e1 e2 e3 e4 et (It.eq_of f1 f2 f3 f4 (Sk.nums_inj (Sk.ok_lens (It.ok_nums ix).2.2.2.2).1 (Sk.ok_lens (It.ok_nums iy).2.2.2.2).1 f5))
  · rw [if_neg q] at ix iy
    exact Fr.eq_of e1 e2 e3 e4 et (ix.trans iy.symm)
def Fr.zero : Fr := ⟨0, 0, 0, 0, [], It.zero⟩
/-- These bytes are that frame's; or they are no frame's. -/
def FrIs (zs : List Int) (f : Fr) (d : Bool) : Prop := if d = true then f.ok = true ∧ zs = f.bytes else f = Fr.zero ∧ ∀ g : Fr, g.ok = true → zs ≠ g.bytes
theorem Fr.bytes_ok {x : Fr} (h : x.ok = true) : x.bytes = x.body ++ sumOf x.body := by unfold Fr.bytes; rw [if_pos h]
theorem app4_inj {a b c d : List Int} (hc : c.length = 4) (hd : d.length = 4) (e : a ++ c = b ++ d) : a = b ∧ c = d := by
  refine List.append_inj e ?_
  have := congrArg List.length e
  rw [List.length_append, List.length_append] at this
  omega
theorem Fr.bytes_inj {x y : Fr} (hx : x.ok = true) (hy : y.ok = true) (e : x.bytes = y.bytes) : x = y := by
  rw [Fr.bytes_ok hx, Fr.bytes_ok hy] at e
  have b := (app4_inj (sumOf_len _) (sumOf_len _) e).1
  rw [Fr.body_numbers (Fr.ok_right hx), Fr.body_numbers (Fr.ok_right hy)] at b
  exact Fr.numbers_inj (Fr.ok_right hx) (Fr.ok_right hy) (putAll_inj (Fr.right_numbers (Fr.ok_right hx)) (Fr.right_numbers (Fr.ok_right hy)) (List.append_cancel_left b))
theorem FrIs.unique {zs : List Int} {s t : Fr} {c d : Bool} (h : FrIs zs s c) (k : FrIs zs t d) : s = t ∧ c = d := by
  unfold FrIs at h k
  cases c <;> cases d <;> simp only [if_true, Bool.false_eq_true, if_false] at h k
  · exact ⟨h.1.trans k.1.symm, rfl⟩
  · exact absurd k.2 (h.2 t k.1)
  · exact absurd h.2 (k.2 s h.1)
  · exact ⟨Fr.bytes_inj h.1 k.1 (h.2.symm.trans k.2), rfl⟩
/-- These numbers are that frame's; or they are no frame's. -/
def FrN (l : List Int) (f : Fr) (d : Bool) : Prop := if d = true then f.ok = true ∧ l = f.numbers else f = Fr.zero ∧ ∀ g : Fr, g.ok = true → l ≠ g.numbers
theorem frIs_ne {zs : List Int} (h : ∀ g : Fr, g.ok = true → zs ≠ g.bytes) : FrIs zs Fr.zero false := (if_neg (by simp)).mpr ⟨rfl, h⟩
theorem frIs_yes {zs : List Int} {f : Fr} (h : f.ok = true) (e : zs = f.bytes) : FrIs zs f true := (if_pos rfl).mpr ⟨h, e⟩
/-- What the program reads: a body with its sum, the sign ahead, and numbers. -/
theorem frIs_of {body l : List Int} {f : Fr} {d : Bool} (hl : ∀ x ∈ l, InN x) (h : FrN l f d) (hb : body = [87, 82] ++ putAll l) : FrIs (body ++ sumOf body) f d := by
  unfold FrN at h
  cases d <;> simp only [if_true, Bool.false_eq_true, if_false] at h
  · rw [h.1]
    refine frIs_ne (fun g hg e => ?_)
    rw [Fr.bytes_ok hg] at e
    have b := (app4_inj (sumOf_len _) (sumOf_len _) e).1
    rw [hb, Fr.body_numbers (Fr.ok_right hg)] at b
    exact h.2 g hg (putAll_inj hl (Fr.right_numbers (Fr.ok_right hg)) (List.append_cancel_left b))
  · refine frIs_yes h.1 ?_
    have b : body = f.body := by rw [hb, Fr.body_numbers (Fr.ok_right h.1), h.2]
    rw [Fr.bytes_ok h.1, b]
theorem frIs_noNums {body r : List Int} (hb : body = [87, 82] ++ r) (h : ∀ m, (∀ x ∈ m, InN x) → r ≠ putAll m) : FrIs (body ++ sumOf body) Fr.zero false := by
  refine frIs_ne (fun g hg e => ?_)
  rw [Fr.bytes_ok hg] at e
  have b := (app4_inj (sumOf_len _) (sumOf_len _) e).1
  rw [hb, Fr.body_numbers (Fr.ok_right hg)] at b
  exact h g.numbers (Fr.right_numbers (Fr.ok_right hg)) (List.append_cancel_left b)
theorem frIs_noSign {body : List Int} (h : ∀ r, body ≠ [87, 82] ++ r) : FrIs (body ++ sumOf body) Fr.zero false := by
  refine frIs_ne (fun g hg e => ?_)
  rw [Fr.bytes_ok hg] at e
  have b := (app4_inj (sumOf_len _) (sumOf_len _) e).1
  exact h _ (b.trans (Fr.body_numbers (Fr.ok_right hg)))
theorem frIs_noSum {body s : List Int} (hs : s.length = 4) (h : ¬ s = sumOf body) : FrIs (body ++ s) Fr.zero false := by
  refine frIs_ne (fun g hg e => ?_)
  rw [Fr.bytes_ok hg] at e
  have b := app4_inj hs (sumOf_len _) e
  exact h (by rw [b.2, b.1])
theorem Fr.bytes_min {x : Fr} (h : x.ok = true) : 7 ≤ x.bytes.length := by
  rw [Fr.bytes_ok h, Fr.body_numbers (Fr.ok_right h), List.length_append, List.length_append, sumOf_len]
  have e : x.numbers = x.kind :: x.numbers.tail := by unfold Fr.numbers; rfl
  have k := (Fr.ok_right h).kind
  have p := putAll_pos (a := x.kind) (l := x.numbers.tail) ⟨by omega, by omega⟩
  rw [← e] at p
  simp only [List.length_cons, List.length_nil]
  omega
end Go.Proofs.Ytillnoeailnnfaa
/- What is read out of bytes, as a result; appends that grow, within a region. No statement of the seat is proved here. -/
namespace Go.Proofs.Ytillnoeailnnfaa
open Go.RowKit
def NewSk2 (w : World) (R : Sk → Bool → Prop) (e : Ending) (w' : World) : Prop := ∃ v s d F, e = .returned (.tuple #[v, .bool d]) ∧ RdSk w' v s F ∧ Own w.heap.size w' F ∧ Below w.heap.size w w' ∧ R s d
def NumHeld (b off : Nat) (x0 x1 x2 x3 : Int) (W : World) : Prop := W.cell? ⟨b, off, none⟩ = some (.int .i64 x0) ∧ W.cell? ⟨b, off + 1, none⟩ = some (.int .i64 x1) ∧ W.cell? ⟨b, off + 2, none⟩ = some (.int .i64 x2) ∧ W.cell? ⟨b, off + 3, none⟩ = some (.int .i64 x3)
theorem rdSk_zero7 (w : World) : RdSk w (.agg #[.int .i64 0, .int .i64 0, .int .i64 0, .int .i64 0, .slice none 0 0, .slice none 0 0, .slice none 0 0]) Sk.zero [] := ⟨none, 0, 0, none, 0, 0, none, 0, 0, [], [], [], rfl, ⟨rfl, .inl ⟨rfl, rfl⟩⟩, ⟨rfl, .inl ⟨rfl, rfl⟩⟩, ⟨rfl, .inl ⟨rfl, rfl⟩⟩, rfl⟩
theorem wide_skOf {l : List Int} (h : l.length = 28) : (skOf l).wide := by
  refine ⟨by simp [skOf]; omega, by simp [skOf]; omega, by simp [skOf], fun z hz => ?_⟩
  have := (skOf_lens h).row z hz
  omega
theorem RdI.numHeld {W : World} {b off n : Nat} {l : List Int} {F : List Nat} (h : RdI W (some ⟨b, off, none⟩) n l F) (hn : 4 ≤ n) : NumHeld b off (l.getD 0 0) (l.getD 1 0) (l.getD 2 0) (l.getD 3 0) W := by
  rcases h.cells with ⟨h0, _⟩ | ⟨b', off', _, e, _, hc⟩
  · omega
  · cases e
    exact ⟨hc 0 (by omega), hc 1 (by omega), hc 2 (by omega), hc 3 (by omega)⟩
/-- A part of a list that is read. -/
theorem RdI.part {W : World} {b off m : Nat} {l : List Int} {F : List Nat} (h : RdI W (some ⟨b, off, none⟩) m l F) {k n : Nat} (hkn : k + n ≤ m) (hn : 0 < n) : RdI W (some ⟨b, off + k, none⟩) n ((l.drop k).take n) F := by
  rcases h.cells with ⟨h0, _⟩ | ⟨b', off', _, e, hF, hc⟩
  · omega
  · cases e
    refine ⟨by have := h.length; simp; omega, .inr ⟨b, off + k, hn, rfl, hF, fun i hi => ?_⟩⟩
    rw [Nat.add_assoc, hc (k + i) (by omega)]
    simp [hi]
section
variable {P : Program} {ops : Array Oper} {Q : Exit → Act → World → Prop} {a : Act} {w : World} {o : Oper} {K : Act → World → Prop}
theorem op_grows (s x : Operand) (t : TypeId) (hg : o.guard = none) (hop : o.op = .call { callee := .builtin .append, args := #[s, x], argTypes := #[t, t] })
    (e : TypeId) (i : TypeInfo) (z : Value) (size bytes : Nat) (h1 : P.underlying t = some (.slice e)) (h2 : P.info? e = some i) (h3 : i.zero = some z) (h4 : i.size = size) (h5 : i.bytes = bytes) (h6 : z.cells.size = size) (h7 : 0 < size)
    (ao : Option Addr) (hs : a.eval s = .slice ao 0 0)
    (ad : Addr) (m c : Nat) (news : List Value) (hx : a.eval x = .slice (some ad) m c) (hn : news.length = m * size) (hc : ∀ j u, news[j]? = some u → w.cell? (ad.add j) = some u) (h1c : ∀ u ∈ news, u.oneCell' = true)
    (hm : 0 < m) (b1 : m ≤ maxLen) (b2 : m * bytes ≤ 140737488355328)
    (h : ∀ v' w', w'.ownsRow w.heap.size e size v' m news → Below w.heap.size w w' → ∃ a', a.put o.dst v' = a' ∧ K a' w') : if Region.wanted o (yielded ops a.tmps) = true then Oper.wp P o a w K Q else K (a.put o.dst undef) w := by
  refine step_append_grows hg s x t hop e i z size bytes h1 h2 h3 h4 h5 h6 h7 ao 0 0 [] hs (fun _ => ⟨rfl, rfl⟩) (by simp) (fun _ _ j u hj => by simp at hj) ad m c news hx hn hc h1c (by omega) (by omega) (by simpa using b2) ?_
  intro v' w' k1 k2
  obtain ⟨_, rfl, k3⟩ := h v' w' (by simpa using k1) ((Below.refl _ _).grown k2 (Nat.le_refl _) (fun g e => by cases e))
  exact k3
end
end Go.Proofs.Ytillnoeailnnfaa
/- Appending a slice of numbers, whatever its length, onto an empty literal. No statement of the seat is proved here. -/
namespace Go.Proofs.Ytillnoeailnnfaa
open Go.RowKit
theorem run_append_zero {P : Program} {w : World} (t ty e : TypeId) (i : TypeInfo) (ht : P.underlying t = some (.slice e)) (hi : P.info? e = some i) (ao ax : Option Addr) (c : Nat) :
    (Builtin.append_ #[t, t] ty #[.slice ao 0 0, .slice ax 0 c]).run P w = .ok (.slice ao 0 0) w := by
  have hl : ∀ ad : Addr, (loadCells ad 0).run P w = .ok #[] w := fun ad => by
    have := run_loadCells_list (P := P) w ad [] (fun j v hj => by simp at hj)
    simpa using this
  cases ao <;> cases ax <;> simp [Builtin.append_, run_underlying ht, sizeOf, typeInfo, hi, Builtin.lenOf, Builtin.firstCells, storeCells, hl]
section
variable {P : Program} {ops : Array Oper} {Q : Exit → Act → World → Prop} {a : Act} {w : World} {o : Oper} {K : Act → World → Prop}
theorem op_growsI (s x : Operand) (t : TypeId) (hg : o.guard = none) (hop : o.op = .call { callee := .builtin .append, args := #[s, x], argTypes := #[t, t] })
    (e : TypeId) (i : TypeInfo) (h1 : P.underlying t = some (.slice e)) (h2 : P.info? e = some i) (h3 : i.zero = some (.int .i64 0)) (h4 : i.size = 1) (h5 : i.bytes = 8)
    (ao : Option Addr) (hs : a.eval s = .slice ao 0 0) (ax : Option Addr) (m c : Nat) (zs : List Int) (F : List Nat) (hx : a.eval x = .slice ax m c) (hr : RdI w ax m zs F) (hm : m ≤ 1048576)
    (h : ∀ a' c' F' w', RdI w' a' m zs F' → Own w.heap.size w' F' → Below w.heap.size w w' → (∀ b, a'.map (·.block) = some b → ao.map (·.block) = some b ∨ w.heap.size ≤ b) → ∃ a2, a.put o.dst (.slice a' m c') = a2 ∧ K a2 w') : if Region.wanted o (yielded ops a.tmps) = true then Oper.wp P o a w K Q else K (a.put o.dst undef) w := by
  by_cases h0 : m = 0
  · subst h0
    have hz : zs = [] := List.eq_nil_of_length_eq_zero hr.length
    subst hz
    have hw : Region.wanted o (yielded ops a.tmps) = true := by unfold Region.wanted; rw [hg]
    rw [if_pos hw]
    obtain ⟨_, rfl, k⟩ := h ao 0 [] w ⟨rfl, .inl ⟨rfl, rfl⟩⟩ Own.nil (Below.refl _ _) (fun b hb => .inl hb)
    have hrun := run_append_zero (P := P) (w := w) t o.type e i h1 h2 ao ax c
    unfold Oper.wp
    simp [execOp, hop, resolve, invoke, builtin, hs, hx, hrun, Result.andThen]
    exact k
  · obtain ⟨b, off, rfl⟩ := hr.addr (by omega)
    refine op_grows s x t hg hop e i (.int .i64 0) 1 8 h1 h2 h3 h4 h5 rfl (by decide) ao hs ⟨b, off, none⟩ m c (zs.map (Value.int .i64)) hx (by rw [List.length_map, hr.length]; omega) (hr.from (Below.refl _ _) (by omega)) (ints_one _) (by omega) (by unfold maxLen; omega) (by omega) ?_
    intro v' w' hown hb
    obtain ⟨a', c', F', rfl, hr', ho'⟩ := rdI_of_own hown
    refine h a' c' F' w' hr' ho' hb (fun g hg => ?_)
    rcases hr'.cells with ⟨q, _⟩ | ⟨b', off', _, e', hF, _⟩
    · omega
    · subst e'
      right
      simp at hg
      subst hg
      exact ho'.ge _ (by rw [hF]; simp)
end
end Go.Proofs.Ytillnoeailnnfaa
/- Slices of structs: a tail, a shallow copy by appending onto an empty literal. No statement of the seat is proved here. -/
namespace Go.Proofs.Ytillnoeailnnfaa
open Go.RowKit
section
variable {α : Type} {K : ElK α} {w w' : World}
/-- The cells of a list, one behind the other. -/
theorem rdC_of : ∀ {xs : List α} {b off : Nat} {F : List Nat}, RdEls K w b xs off F → ∃ vs, RdC K w xs vs F ∧ (∀ i, i < vs.length → w.cell? ⟨b, off + i, none⟩ = vs[i]?) ∧ ∀ u ∈ vs, u.oneCell' = true
  | [], b, off, F, h => by
    rw [RdEls] at h
    exact ⟨[], ⟨rfl, h⟩, fun i hi => by simp at hi, by simp⟩
  | x :: xs, b, off, F, h => by
    obtain ⟨cs, F1, F2, h1, h2, h3, h4, rfl⟩ := h
    obtain ⟨vs, k1, k2, k3⟩ := rdC_of h4
    obtain ⟨cs', e, _, hone⟩ := K.cells h3
    injection e with e
    subst e
    refine ⟨cs.toList ++ vs, ⟨cs, vs, F1, F2, rfl, h1, h3, k1, rfl⟩, fun i hi => ?_, fun u hu => ?_⟩
    · by_cases hlt : i < K.n
      · rw [h2 i hlt, List.getElem?_append_left (by rw [Array.length_toList, h1]; exact hlt), Array.getElem?_toList]
      · rw [List.getElem?_append_right (by rw [Array.length_toList, h1]; omega), Array.length_toList, h1]
        have := k2 (i - K.n) (by rw [List.length_append, Array.length_toList, h1] at hi; omega)
        rw [show off + K.n + (i - K.n) = off + i by omega] at this
        exact this
    · rcases List.mem_append.1 hu with hu | hu
      · exact (Array.all_eq_true_iff_forall_mem.1 hone) u (by simpa using hu)
      · exact k3 u hu
/-- A list that a call laid, its elements' blocks wherever they are. -/
theorem rdL_shallow {B e m : Nat} {v : Value} {xs : List α} {vs : List Value} {G : List Nat} (h : w.ownsRow B e K.n v m vs) (hr : RdC K w xs vs G) (hm : 0 < m) :
    ∃ g cap, v = .slice (some ⟨g, 0, none⟩) m cap ∧ m ≤ cap ∧ RdL K w (some ⟨g, 0, none⟩) m xs (g :: G) ∧ B ≤ g ∧ g < w.heap.size ∧ ∀ o, w.frozen? ⟨g, o, none⟩ = false := by
  have hl : xs.length = m := by
    have h1 := hr.length
    have h2 := h.1
    exact Nat.eq_of_mul_eq_mul_right K.pos (h1.symm.trans h2)
  rcases h.2 with ⟨e1, e2⟩ | ⟨g, cap, cur, e1, h1, h2, h3, h4, h5, h6⟩
  · subst e2; omega
  · subst e1
    refine ⟨g, cap, rfl, h3, ⟨hl, .inr ⟨g, 0, G, hm, rfl, rfl, rdEls_of 0 hr (fun i hi => ?_)⟩⟩, h1, (h.lt g rfl).2, fun o => h.frozenAt o⟩
    rw [Nat.zero_add]; exact h.cellAt i (by rw [← h.1]; exact hi)
/-- What a slice of a list is, where it may be empty. -/
def ElsAt (K : ElK α) (w : World) (ax : Option Addr) (m : Nat) (xs : List α) (F : List Nat) : Prop := (m = 0 ∧ xs = [] ∧ F = []) ∨ (0 < m ∧ xs.length = m ∧ ∃ b off, ax = some ⟨b, off, none⟩ ∧ RdEls K w b xs off F)
theorem ElsAt.below {ax : Option Addr} {m : Nat} {xs : List α} {F : List Nat} (h : ElsAt K w ax m xs F) (hb : Below w.heap.size w w') (hlt : ∀ b off, ax = some ⟨b, off, none⟩ → 0 < m → b < w.heap.size) : ElsAt K w' ax m xs F := by
  rcases h with h | ⟨h1, h2, b, off, rfl, h3⟩
  · exact .inl h
  · exact .inr ⟨h1, h2, b, off, rfl, h3.agree (hb.block b (hlt b off rfl h1)) (.below hb h3.lt)⟩
theorem own_cons {lo g : Nat} {F : List Nat} (h : Own lo w F) (hlt : ∀ b ∈ F, b < w.heap.size) (hb : Below w.heap.size w w') (hg : w.heap.size ≤ g) (hlo : lo ≤ w.heap.size) (hf : ∀ o, w'.frozen? ⟨g, o, none⟩ = false) : Own lo w' (g :: F) := by
  have h' := h.below hlt hb
  refine ⟨List.nodup_cons.2 ⟨fun hx => by have := hlt g hx; omega, h'.nodup⟩, fun b hb' o => ?_, fun b hb' => ?_⟩
  · rcases List.mem_cons.1 hb' with rfl | hb'
    · exact hf o
    · exact h'.free b hb' o
  · rcases List.mem_cons.1 hb' with rfl | hb'
    · omega
    · exact h'.ge b hb'
variable {P : Program} {ops : Array Oper} {Q : Exit → Act → World → Prop} {a : Act} {o : Oper} {C : Act → World → Prop}
/-- append([]T{}, x...) of any list of structs: new cells, the elements' own blocks as they were. -/
theorem op_growsL (s x : Operand) (t : TypeId) (hg : o.guard = none) (hop : o.op = .call { callee := .builtin .append, args := #[s, x], argTypes := #[t, t] })
    (e : TypeId) (i : TypeInfo) (z : Value) (bytes : Nat) (h1 : P.underlying t = some (.slice e)) (h2 : P.info? e = some i) (h3 : i.zero = some z) (h4 : i.size = K.n) (h5 : i.bytes = bytes) (h6 : z.cells.size = K.n)
    (ao : Option Addr) (hs : a.eval s = .slice ao 0 0) (ax : Option Addr) (m c : Nat) (xs : List α) (F : List Nat) (hx : a.eval x = .slice ax m c) (hr : ElsAt K w ax m xs F) (b1 : m ≤ maxLen) (b2 : m * bytes ≤ 140737488355328)
    (h : ∀ a' c' G w', RdL K w' a' m xs G → Below w.heap.size w w' → (∀ lo, Own lo w F → lo ≤ w.heap.size → Own lo w' G) → (∀ y ∈ G, y ∈ F ∨ w.heap.size ≤ y) → Capd a' m c' → ∃ a2, a.put o.dst (.slice a' m c') = a2 ∧ C a2 w') : if Region.wanted o (yielded ops a.tmps) = true then Oper.wp P o a w C Q else C (a.put o.dst undef) w := by
  rcases hr with ⟨rfl, rfl, rfl⟩ | ⟨hm, hl, b, off, rfl, he⟩
  · have hw : Region.wanted o (yielded ops a.tmps) = true := by unfold Region.wanted; rw [hg]
    rw [if_pos hw]
    obtain ⟨_, rfl, k⟩ := h ao 0 [] w RdL.zero (Below.refl _ _) (fun _ _ _ => Own.nil) (by simp) ⟨fun _ => rfl, Nat.le_refl _⟩
    have hrun := run_append_zero (P := P) (w := w) t o.type e i h1 h2 ao ax c
    unfold Oper.wp
    simp [execOp, hop, resolve, invoke, builtin, hs, hx, hrun, Result.andThen]
    exact k
  · obtain ⟨vs, k1, k2, k3⟩ := rdC_of he
    have hvl : vs.length = m * K.n := by rw [k1.length, hl]
    refine op_grows s x t hg hop e i z K.n bytes h1 h2 h3 h4 h5 h6 K.pos ao hs ⟨b, off, none⟩ m c vs hx hvl (fun j u hj => ?_) k3 hm b1 b2 ?_
    · have hj' : j < vs.length := (List.getElem?_eq_some_iff.1 hj).1
      have ea : ((⟨b, off, none⟩ : Addr).add j) = ⟨b, off + j, none⟩ := by unfold Addr.add; split <;> simp_all
      rw [ea, k2 j hj', hj]
    intro v' w' hown hb
    obtain ⟨g, cap, rfl, hc, hrl, hge, hlt, hfr⟩ := rdL_shallow hown (k1.below hb) hm
    refine h (some ⟨g, 0, none⟩) cap (g :: F) w' hrl hb (fun lo ho hlo => own_cons ho he.lt hb hge hlo hfr) (fun y hy => ?_) ⟨fun e => (by cases e), hc⟩
    rcases List.mem_cons.1 hy with rfl | hy
    · exact .inr hge
    · exact .inl hy
end
theorem results_row2_tmp {P : Program} {fn : Func} {p u s : Tmp} {ty tz : TypeId} (h : fn.results = #[.cell p ty, .cell u tz, .tmp s]) (tmps : Array Value) (w : World) (g k : Nat) (t t' : TypeId) (cs ds : Array Value) (d d' : TypeDesc)
    (hp : tmps.getD p undef = .pointer (some ⟨g, 0, none⟩)) (hq : tmps.getD u undef = .pointer (some ⟨k, 0, none⟩)) (hg : Blk w g cs t) (hk : Blk w k ds t')
    (hu : P.underlying ty = some d) (hd : (match d with | .struct _ | .array _ _ => true | _ => false) = true) (hi : (P.info? ty).map (·.size) = some cs.size)
    (hu' : P.underlying tz = some d') (hd' : (match d' with | .struct _ | .array _ _ => true | _ => false) = true) (hj : (P.info? tz).map (·.size) = some ds.size) :
    (results fn tmps).run P w = .ok (.tuple #[.agg cs, .agg ds, tmps.getD s undef]) w := by
  have e : (results fn tmps).run P w = ((asAddr (tmps.getD p undef)).run P w).andThen fun a w₁ => ((loadVar ty a).run P w₁).andThen fun v w₂ => ((asAddr (tmps.getD u undef)).run P w₂).andThen fun a w₁ => ((loadVar tz a).run P w₁).andThen fun v' w₂ => .ok (.tuple #[v, v', tmps.getD s undef]) w₂ := by
    simp only [results, h]
    simp [Sem.run_bind, Result.andThen]
  rw [e, hp, hq]
  simp [asAddr, run_loadVar_row w g t ty cs (0, 0) d hg hu hd hi, run_loadVar_row w k t' tz ds (0, 0) d' hk hu' hd' hj, Result.andThen]
end Go.Proofs.Ytillnoeailnnfaa
/- What is taken off a row. No statement of the seat is proved here. -/
namespace Go.Proofs.Ytillnoeailnnfaa
open Go.RowKit
def Rw.pops (x : Rw) : Bool := x.ok && decide (0 < x.list.length)
def Rw.first (x : Rw) : En := if x.pops = true then x.list.headD En.zero else En.zero
def Rw.rest (x : Rw) : Rw := if x.pops = true then ⟨x.list.tail⟩ else x
def NewPop (w : World) (x : Rw) (e : Ending) (w' : World) : Prop := ∃ v u F G, e = .returned (.tuple #[v, u, .bool x.pops]) ∧ RdE w' v x.first F ∧ RdRw w' u x.rest G ∧ Own w.heap.size w' F ∧ Own w.heap.size w' G ∧ (∀ b ∈ F, b ∉ G) ∧ Below w.heap.size w w'
theorem Rw.pop_not {x : Rw} (h : x.pops = false) : x.first = En.zero ∧ x.rest = x := by unfold Rw.first Rw.rest; rw [h]; exact ⟨rfl, rfl⟩
theorem Rw.pop_yes {x : Rw} {y : En} {ys : List En} (h : x.pops = true) (e : x.list = y :: ys) : x.first = y ∧ x.rest = ⟨ys⟩ := by unfold Rw.first Rw.rest; rw [h, e]; exact ⟨rfl, rfl⟩
/-- What a call that answers an entry, a row and a bool has before it. -/
structure Pop3 (w : World) (tA tB tE : TypeId) (A : Array Value) (W : World) : Prop where
  box : Blk W w.heap.size A tA
  ra : Blk W (w.heap.size + 1) #[.int .i64 0, .int .i64 0, .slice none 0 0, .int .i64 0, .int .i64 0, .int .i64 0, .int .i64 0, .slice none 0 0, .slice none 0 0, .slice none 0 0] tE
  rb : Blk W (w.heap.size + 1 + 1) #[.slice none 0 0] tB
  bel : Below w.heap.size w W
theorem Pop3.below {w W W' : World} {tA tB tE : TypeId} {A : Array Value} (h : Pop3 w tA tB tE A W) (b : Below W.heap.size W W') : Pop3 w tA tB tE A W' := ⟨h.box.below b, h.ra.below b, h.rb.below b, Below.next h.bel b⟩
theorem Pop3.made (w : World) (tA tB tE : TypeId) (A : Array Value) : Pop3 w tA tB tE A (((w.alloc (.cells A tA)).alloc (.cells #[.int .i64 0, .int .i64 0, .slice none 0 0, .int .i64 0, .int .i64 0, .int .i64 0, .int .i64 0, .slice none 0 0, .slice none 0 0, .slice none 0 0] tE)).alloc (.cells #[.slice none 0 0] tB)) := by
  have s1 : (w.alloc (.cells A tA)).heap.size = w.heap.size + 1 := by simp
  have s2 : ((w.alloc (.cells A tA)).alloc (.cells #[.int .i64 0, .int .i64 0, .slice none 0 0, .int .i64 0, .int .i64 0, .int .i64 0, .int .i64 0, .slice none 0 0, .slice none 0 0, .slice none 0 0] tE)).heap.size = w.heap.size + 1 + 1 := by simp
  refine ⟨((Blk.made w A tA).alloc _).alloc _, ?_, ?_, (((Below.refl _ _).alloc (Nat.le_refl _) _).alloc (by omega) _).alloc (by omega) _⟩
  · have := Blk.made (w.alloc (.cells A tA)) #[.int .i64 0, .int .i64 0, .slice none 0 0, .int .i64 0, .int .i64 0, .int .i64 0, .int .i64 0, .slice none 0 0, .slice none 0 0, .slice none 0 0] tE
    rw [s1] at this
    exact this.alloc _
  · have := Blk.made ((w.alloc (.cells A tA)).alloc (.cells #[.int .i64 0, .int .i64 0, .slice none 0 0, .int .i64 0, .int .i64 0, .int .i64 0, .int .i64 0, .slice none 0 0, .slice none 0 0, .slice none 0 0] tE)) #[.slice none 0 0] tB
    rw [s2] at this
    exact this
theorem rdE_zero (W : World) : RdE W (.agg #[.int .i64 0, .int .i64 0, .slice none 0 0, .int .i64 0, .int .i64 0, .int .i64 0, .int .i64 0, .slice none 0 0, .slice none 0 0, .slice none 0 0]) En.zero [] := ⟨[], [], rfl, rdEn_zero W⟩
/-- A list of its own, its first entry and the others told apart. -/
theorem RdL.uncons {w : World} {a : Option Addr} {n : Nat} {y : En} {ys : List En} {F : List Nat} (h : RdL enK w a n (y :: ys) F) : ∃ b off cs F1 F2, a = some ⟨b, off, none⟩ ∧ n = ys.length + 1 ∧ F = b :: (F1 ++ F2) ∧ b < w.heap.size ∧ cs.size = 10 ∧ (∀ j, j < 10 → w.cell? ⟨b, off + j, none⟩ = cs[j]?) ∧ RdE w (.agg cs) y F1 ∧ RdEls enK w b ys (off + 10) F2 := by
  rcases h.cells with ⟨h0, _⟩ | ⟨b, off, F', hp, rfl, rfl, he⟩
  · have := h.length; simp at this; omega
  · have hb := he.first
    obtain ⟨cs, F1, F2, h1, h2, h3, h4, rfl⟩ := he
    exact ⟨b, off, cs, F1, F2, rfl, by have := h.length; simp at this; omega, rfl, hb, h1, h2, h3, h4⟩
theorem Own.three {lo b : Nat} {w : World} {F1 F2 : List Nat} (h : Own lo w (b :: (F1 ++ F2))) : Own lo w F1 ∧ Own lo w F2 ∧ Own lo w (b :: F2) ∧ (∀ x ∈ F1, x ∉ b :: F2) ∧ b ∉ F1 ∧ b ∉ F2 ∧ lo ≤ b := by
  have hb := (List.nodup_cons.1 h.nodup).1
  have h' : Own lo w (F1 ++ F2) := ⟨(List.nodup_cons.1 h.nodup).2, fun x hx q => h.free x (List.mem_cons_of_mem _ hx) q, fun x hx => h.ge x (List.mem_cons_of_mem _ hx)⟩
  have b1 : b ∉ F1 := fun hx => hb (List.mem_append_left _ hx)
  have b2 : b ∉ F2 := fun hx => hb (List.mem_append_right _ hx)
  refine ⟨h'.left, h'.right, ⟨List.nodup_cons.2 ⟨b2, h'.right.nodup⟩, fun x hx q => ?_, fun x hx => ?_⟩, fun x hx q => ?_, b1, b2, h.ge b List.mem_cons_self⟩
  · rcases List.mem_cons.1 hx with rfl | hx
    · exact h.free x List.mem_cons_self q
    · exact h'.right.free x hx q
  · rcases List.mem_cons.1 hx with rfl | hx
    · exact h.ge x List.mem_cons_self
    · exact h'.right.ge x hx
  · rcases List.mem_cons.1 q with rfl | q
    · exact b1 hx
    · exact h'.apart x hx q
end Go.Proofs.Ytillnoeailnnfaa
/- The walk through the model's copying of a summary, whatever lists it has. No statement of the seat is proved here. -/
namespace Go.Proofs.Ytillnoeailnnfaa
open Go.RowKit
/-- What is copied behind k rows. -/
structure CopyA (w : World) (A : Array Value) (s : Sk) (a1 a2 : Option Addr) (n1 n2 d1 d2 : Nat) (F1 F2 : List Nat) (lo k : Nat) (v : Value) (vs : List Value) (G : List Nat) (W : World) : Prop where
  three : Three w A 37 #[.int .i64 0, .int .i64 0, .int .i64 0, .int .i64 0, .slice none 0 0, .slice none 0 0, .slice none 0 0] #[.int .i64 s.count, .int .i64 s.sum, .int .i64 s.min, .int .i64 s.max, .slice a1 n1 d1, .slice a2 n2 d2, v] 37 W
  r1 : RdI W a1 n1 s.hist F1
  r2 : RdI W a2 n2 s.regs F2
  own : Own (w.heap.size + 3) W (F1 ++ F2)
  lt : ∀ b ∈ F1 ++ F2, b < lo
  row : W.ownsRow lo 34 1 v k vs
  rd : RdS W ((s.rows.take k).map ints) vs G
  og : Own lo W G
  ap : ∀ b, v.ownBlock = some b → b ∉ G
  big : w.heap.size + 3 ≤ lo
  lw : lo ≤ W.heap.size
section
variable {w W W' : World} {A : Array Value} {s : Sk} {a1 a2 : Option Addr} {n1 n2 d1 d2 : Nat} {F1 F2 : List Nat} {lo k : Nat} {v : Value} {vs : List Value} {G : List Nat}
theorem CopyA.below (h : CopyA w A s a1 a2 n1 n2 d1 d2 F1 F2 lo k v vs G W) (b : Below W.heap.size W W') : CopyA w A s a1 a2 n1 n2 d1 d2 F1 F2 lo k v vs G W' :=
  ⟨h.three.below b, h.r1.below b, h.r2.below b, h.own.below (fun x hx => (List.mem_append.1 hx).elim (h.r1.lt x) (h.r2.lt x)) b, h.lt, ownsRow_below h.row b, h.rd.below b, h.og.below h.rd.lt b, h.ap, h.big, Nat.le_trans h.lw b.size⟩
theorem CopyA.step (h : CopyA w A s a1 a2 n1 n2 d1 d2 F1 F2 lo k v vs G W) {ak : Option Addr} {nk cp3 g4 cp4 L : Nat} {Fk : List Nat} (rk : RdI W ak nk (s.rows.getD k []) Fk) (ok : Own L W Fk) (ltG : ∀ b ∈ G, b < L) (ltv : ∀ b, v.ownBlock = some b → b < L) (hL : lo ≤ L)
    (hown : W'.ownsRow lo 34 1 (.slice (some ⟨g4, 0, none⟩) (k + 1) cp4) (k + 1) (vs ++ [.slice ak nk cp3])) (hgrow : W.grownBy W' v.ownBlock) (hat : v.ownBlock = some g4 ∨ g4 = W.heap.size) (hk : k < s.rows.length) :
    CopyA w A s a1 a2 n1 n2 d1 d2 F1 F2 lo (k + 1) (.slice (some ⟨g4, 0, none⟩) (k + 1) cp4) (vs ++ [.slice ak nk cp3]) (G ++ Fk) (W'.setCell ⟨w.heap.size + 1 + 1, 6, none⟩ (.slice (some ⟨g4, 0, none⟩) (k + 1) cp4)) ∧ CopyS w A W' ∧
      W'.cell? ⟨w.heap.size + 1 + 1, 6, none⟩ = some v ∧ W'.frozen? ⟨w.heap.size + 1 + 1, 6, none⟩ = false := by
  have big := h.big
  have blk : ∀ b, b < W.heap.size → ¬ v.ownBlock = some b → W'.heap[b]? = W.heap[b]? := fun b hb hn => hgrow.block b hb (fun e => hn e.symm)
  have vge : ∀ b, v.ownBlock = some b → lo ≤ b := fun b hb => (h.row.lt b hb).1
  have bx := h.three.box.agree (blk _ h.three.box.lt (fun e => by have := vge _ e; omega))
  have rs := h.three.res.agree (blk _ h.three.res.lt (fun e => by have := vge _ e; omega))
  have lc := h.three.loc.agree (blk _ h.three.loc.lt (fun e => by have := vge _ e; omega))
  have bel : Below w.heap.size w W' := h.three.bel.grown hgrow h.three.bel.size (fun b hb => by have := vge b hb; omega)
  have T : Three w A 37 #[.int .i64 0, .int .i64 0, .int .i64 0, .int .i64 0, .slice none 0 0, .slice none 0 0, .slice none 0 0] #[.int .i64 s.count, .int .i64 s.sum, .int .i64 s.min, .int .i64 s.max, .slice a1 n1 d1, .slice a2 n2 d2, v] 37 W' := ⟨bx, rs, lc, bel⟩
  have no : ∀ b ∈ F1 ++ F2 ++ (G ++ Fk), b ≠ w.heap.size + 1 + 1 := fun b hb e => by
    rcases List.mem_append.1 hb with hb | hb
    · have := h.own.ge b hb; omega
    · rcases List.mem_append.1 hb with hb | hb
      · have := h.og.ge b hb; omega
      · have := ok.ge b hb; omega
  have agF : Agree W (W'.setCell ⟨w.heap.size + 1 + 1, 6, none⟩ (.slice (some ⟨g4, 0, none⟩) (k + 1) cp4)) (F1 ++ F2) := Agree.thenSet (fun b hb => blk b ((List.mem_append.1 hb).elim (h.r1.lt b) (h.r2.lt b)) (fun e => by have := vge _ e; have := h.lt b hb; omega)) (fun hx => no _ (List.mem_append_left _ hx) rfl) _ _
  have agG : Agree W (W'.setCell ⟨w.heap.size + 1 + 1, 6, none⟩ (.slice (some ⟨g4, 0, none⟩) (k + 1) cp4)) (G ++ Fk) := Agree.thenSet (fun b hb => blk b ((List.mem_append.1 hb).elim (h.rd.lt b) (rk.lt b)) (fun e => (List.mem_append.1 hb).elim (h.ap b e) (fun hf => by have := ok.ge b hf; have := ltv b e; omega))) (fun hx => no _ (List.mem_append_right _ hx) rfl) _ _
  have hgw : w.heap.size + 1 + 1 < W'.heap.size := lc.lt
  have rowS : (W'.setCell ⟨w.heap.size + 1 + 1, 6, none⟩ (.slice (some ⟨g4, 0, none⟩) (k + 1) cp4)).ownsRow lo 34 1 (.slice (some ⟨g4, 0, none⟩) (k + 1) cp4) (k + 1) (vs ++ [.slice ak nk cp3]) :=
    own_keep hown (grown_set W' (w.heap.size + 1 + 1) 6 _) (by omega)
  refine ⟨⟨T.set 6 _, h.r1.agree agF.left, h.r2.agree agF.right, h.own.agree agF, h.lt, rowS, ?_, ?_, ?_, h.big, ?_⟩, ⟨bx, bel⟩, by rw [lc.cell]; rfl, lc.frozen 6⟩
  · rw [take_snoc s.rows [] k hk, List.map_append]
    exact (h.rd.agree agG.left).snoc (rd_ints.2 ⟨_, _, _, rfl, rk.agree agG.right⟩)
  · exact (h.og.agree agG.left).join (ok.agree agG.right) ltG hL
  · intro b hb hx
    have hb' : b = g4 := by simpa [Value.ownBlock] using hb.symm
    subst hb'
    rcases hat with e | e
    · rcases List.mem_append.1 hx with hx | hx
      · exact h.ap _ e hx
      · have := ok.ge _ hx; have := ltv _ e; omega
    · rcases List.mem_append.1 hx with hx | hx
      · have := h.rd.lt _ hx; omega
      · have := rk.lt _ hx; omega
  · have := hgrow.size; have := h.lw; simp; omega
theorem CopyA.rows (h : CopyA w A s a1 a2 n1 n2 d1 d2 F1 F2 lo k v vs G W) : ∃ a c F, v = .slice a k c ∧ RdII W a k (s.rows.take k) F ∧ Own (w.heap.size + 3) W (F1 ++ (F2 ++ F)) ∧ k ≤ c := by
  have big := h.big
  rcases h.row.2 with ⟨e, e'⟩ | ⟨g, cap, cur, e, e2, e3, e4⟩
  · subst e'
    exact ⟨none, 0, [], e, ⟨by simp, .inl ⟨rfl, rfl⟩⟩, by simpa using h.own, by omega⟩
  · subst e
    have hl : vs.length = k := by simpa using h.row.1
    have hlen := h.rd.length
    by_cases h0 : k = 0
    · subst h0
      exact ⟨_, cap, [], rfl, ⟨by simp, .inl ⟨rfl, rfl⟩⟩, by simpa using h.own, by omega⟩
    · have hm : RdM W ((s.rows.take k).map ints) g 0 G := rdM_of_own 0 h.rd (fun i hi => by rw [Nat.zero_add]; exact h.row.cellAt i (by omega))
      have hg : lo ≤ g := (h.row.lt g rfl).1
      have hgG : g ∉ G := h.ap g rfl
      have og : Own lo W (g :: G) := ⟨List.nodup_cons.2 ⟨hgG, h.og.nodup⟩, fun b hb o => (List.mem_cons.1 hb).elim (fun e => by subst e; exact h.row.frozenAt o) (fun hb => h.og.free b hb o), fun b hb => (List.mem_cons.1 hb).elim (fun e => by omega) (h.og.ge b)⟩
      refine ⟨_, cap, g :: G, rfl, ⟨by rw [List.length_map] at hlen; omega, .inr ⟨g, 0, G, by omega, rfl, rfl, hm⟩⟩, ?_, e4.1⟩
      rw [← List.append_assoc]
      exact h.own.join og h.lt h.big
end
set_option maxRecDepth 200000 in
set_option maxHeartbeats 8000000 in
theorem l3Copy_all (v : Value) (s : Sk) (F : List Nat) (w : World) (h : RdSk w v s F) (hf : s.fits) :
    Calls Try.prog 68 #[v] w fun e w' => NewSk w s e w' := by
  obtain ⟨i0, hi, hz0, hz1, hz2⟩ := info_parts infoInt
  obtain ⟨j0, hj, hy0, hy1, hy2⟩ := info_parts infoInts
  obtain ⟨a1, n1, c1, a2, n2, c2, a3, n3, c3, F1, F2, F3, rfl, h1, h2, h3, _⟩ := h
  have l1 := h1.length
  have l2 := h2.length
  have l3 := h3.length
  have hn1 : n1 ≤ 1048576 := by rw [← l1]; exact hf.hist
  have hn2 : n2 ≤ 1048576 := by rw [← l2]; exact hf.regs
  have hn3 : n3 ≤ 1048576 := by rw [← l3]; exact hf.rows
  have HR : Hid (RdI w a1 n1 s.hist F1 ∧ RdI w a2 n2 s.regs F2 ∧ RdII w a3 n3 s.rows F3 ∧ s.fits) := ⟨h1, h2, h3, hf⟩
  have HL : Hid (s.hist.length = n1 ∧ s.regs.length = n2 ∧ s.rows.length = n3) := ⟨l1, l2, l3⟩
  clear h1 h2 h3 hf l1 l2 l3
  have HT0 : Hid (Three w _ _ _ _ _ _) := Three.made w #[.int .i64 s.count, .int .i64 s.sum, .int .i64 s.min, .int .i64 s.max, .slice a1 n1 c1, .slice a2 n2 c2, .slice a3 n3 c3] 37 #[.int .i64 0, .int .i64 0, .int .i64 0, .int .i64 0, .slice none 0 0, .slice none 0 0, .slice none 0 0] #[.int .i64 s.count, .int .i64 s.sum, .int .i64 s.min, .int .i64 s.max, .slice a1 n1 c1, .slice a2 n2 c2, .slice a3 n3 c3] 37
  go_enter Try.func68, Try.ntmps68
  go_wp2_with (with_reducible refine stopAppend rfl ?_)
  obtain ⟨W2, hW2⟩ : ∃ W2, W2 = ((w.alloc (.cells #[.int .i64 s.count, .int .i64 s.sum, .int .i64 s.min, .int .i64 s.max, .slice a1 n1 c1, .slice a2 n2 c2, .slice a3 n3 c3] 37)).alloc (.cells #[.int .i64 0, .int .i64 0, .int .i64 0, .int .i64 0, .slice none 0 0, .slice none 0 0, .slice none 0 0] 37)).alloc (.cells #[.int .i64 s.count, .int .i64 s.sum, .int .i64 s.min, .int .i64 s.max, .slice a1 n1 c1, .slice a2 n2 c2, .slice a3 n3 c3] 37) := ⟨_, rfl⟩
  have hs2 : W2.heap.size = w.heap.size + 3 := by rw [hW2]; simp
  rw [← hW2] at HT0 ⊢
  clear hW2
  have bE2 : Below W2.heap.size W2 (W2.alloc (.cells #[] 3)) := (Below.refl _ _).alloc (Nat.le_refl _) _
  have HT1 : Hid (Three w #[.int .i64 s.count, .int .i64 s.sum, .int .i64 s.min, .int .i64 s.max, .slice a1 n1 c1, .slice a2 n2 c2, .slice a3 n3 c3] 37 #[.int .i64 0, .int .i64 0, .int .i64 0, .int .i64 0, .slice none 0 0, .slice none 0 0, .slice none 0 0] #[.int .i64 s.count, .int .i64 s.sum, .int .i64 s.min, .int .i64 s.max, .slice a1 n1 c1, .slice a2 n2 c2, .slice a3 n3 c3] 37 (W2.alloc (.cells #[] 3))) := HT0.out.below bE2
  refine Stop.intro (wpList_step fun K hK => op_growsI _ _ 34 rfl rfl 3 i0 Try.underlying34 hi hz0 hz1 hz2 (some _) rfl a1 n1 c1 s.hist F1 rfl (HR.out.1.below HT1.out.bel) hn1 ?_)
  intro b1 d1 G1 w3 r1 o1 hb1 _
  have HT3 : Hid (Three w #[.int .i64 s.count, .int .i64 s.sum, .int .i64 s.min, .int .i64 s.max, .slice a1 n1 c1, .slice a2 n2 c2, .slice a3 n3 c3] 37 #[.int .i64 0, .int .i64 0, .int .i64 0, .int .i64 0, .slice none 0 0, .slice none 0 0, .slice none 0 0] #[.int .i64 s.count, .int .i64 s.sum, .int .i64 s.min, .int .i64 s.max, .slice a1 n1 c1, .slice a2 n2 c2, .slice a3 n3 c3] 37 w3) := HT1.out.below hb1
  have HQ3 : Hid (RdI w3 b1 n1 s.hist G1 ∧ Own (w.heap.size + 3) w3 G1) := ⟨r1, o1.mono (by have := bE2.size; omega)⟩
  refine ⟨_, by simp [Act.put]; rfl, hK _ _ ?_⟩
  clear hK r1 o1 hb1 bE2 HT1 HT0 hs2
  have c4 := HT3.out.loc.cell 4
  have f4 := HT3.out.loc.frozen 4
  have e5 := HT3.out.box.cell 5
  simp only [aT, aS, aZ] at c4 e5
  have sz3 := HT3.out.size
  have ne3 : ¬ w.heap.size = w3.heap.size := by omega
  have ne3' : ¬ w3.heap.size = w.heap.size := by omega
  have lt3 : w.heap.size < w3.heap.size := by omega
  go_wp2_with (with_reducible refine stopAppend rfl ?_)
  clear ne3 ne3' lt3 sz3
  have ng1 : w.heap.size + 1 + 1 ∉ G1 := fun hx => by have := HQ3.out.2.ge _ hx; omega
  have HT4 : Hid (Three w #[.int .i64 s.count, .int .i64 s.sum, .int .i64 s.min, .int .i64 s.max, .slice a1 n1 c1, .slice a2 n2 c2, .slice a3 n3 c3] 37 #[.int .i64 0, .int .i64 0, .int .i64 0, .int .i64 0, .slice none 0 0, .slice none 0 0, .slice none 0 0] #[.int .i64 s.count, .int .i64 s.sum, .int .i64 s.min, .int .i64 s.max, .slice b1 n1 d1, .slice a2 n2 c2, .slice a3 n3 c3] 37 (w3.setCell ⟨w.heap.size + 1 + 1, 4, none⟩ (.slice b1 n1 d1))) := HT3.out.set 4 _
  have HQ4 : Hid (RdI (w3.setCell ⟨w.heap.size + 1 + 1, 4, none⟩ (.slice b1 n1 d1)) b1 n1 s.hist G1 ∧ Own (w.heap.size + 3) (w3.setCell ⟨w.heap.size + 1 + 1, 4, none⟩ (.slice b1 n1 d1)) G1) := ⟨HQ3.out.1.agree (.set ng1 4 _), HQ3.out.2.agree (.set ng1 4 _)⟩
  obtain ⟨W4, hW4⟩ : ∃ W, W = w3.setCell ⟨w.heap.size + 1 + 1, 4, none⟩ (.slice b1 n1 d1) := ⟨_, rfl⟩
  try rw [show w3.heap.size = W4.heap.size from by rw [hW4]; simp]
  rw [← hW4] at HT4 HQ4 ⊢
  clear hW4 ng1 c4 f4 e5 HT3 HQ3
  have bE4 : Below W4.heap.size W4 (W4.alloc (.cells #[] 3)) := (Below.refl _ _).alloc (Nat.le_refl _) _
  have HT5 : Hid (Three w #[.int .i64 s.count, .int .i64 s.sum, .int .i64 s.min, .int .i64 s.max, .slice a1 n1 c1, .slice a2 n2 c2, .slice a3 n3 c3] 37 #[.int .i64 0, .int .i64 0, .int .i64 0, .int .i64 0, .slice none 0 0, .slice none 0 0, .slice none 0 0] #[.int .i64 s.count, .int .i64 s.sum, .int .i64 s.min, .int .i64 s.max, .slice b1 n1 d1, .slice a2 n2 c2, .slice a3 n3 c3] 37 (W4.alloc (.cells #[] 3))) := HT4.out.below bE4
  have HQ5 : Hid (RdI (W4.alloc (.cells #[] 3)) b1 n1 s.hist G1 ∧ Own (w.heap.size + 3) (W4.alloc (.cells #[] 3)) G1 ∧ (∀ b ∈ G1, b < W4.heap.size) ∧ w.heap.size + 3 ≤ W4.heap.size) := ⟨HQ4.out.1.below bE4, HQ4.out.2.below HQ4.out.1.lt bE4, HQ4.out.1.lt, HT4.out.size⟩
  refine Stop.intro (wpList_step fun K hK => op_growsI _ _ 34 rfl rfl 3 i0 Try.underlying34 hi hz0 hz1 hz2 (some _) rfl a2 n2 c2 s.regs F2 rfl (HR.out.2.1.below HT5.out.bel) hn2 ?_)
  intro b2 d2 G2 w5 r2 o2 hb2 _
  have HT6 : Hid (Three w #[.int .i64 s.count, .int .i64 s.sum, .int .i64 s.min, .int .i64 s.max, .slice a1 n1 c1, .slice a2 n2 c2, .slice a3 n3 c3] 37 #[.int .i64 0, .int .i64 0, .int .i64 0, .int .i64 0, .slice none 0 0, .slice none 0 0, .slice none 0 0] #[.int .i64 s.count, .int .i64 s.sum, .int .i64 s.min, .int .i64 s.max, .slice b1 n1 d1, .slice a2 n2 c2, .slice a3 n3 c3] 37 w5) := HT5.out.below hb2
  have HQ6 : Hid (RdI w5 b1 n1 s.hist G1 ∧ RdI w5 b2 n2 s.regs G2 ∧ Own (w.heap.size + 3) w5 (G1 ++ G2)) := ⟨HQ5.out.1.below hb2, r2, (HQ5.out.2.1.below HQ5.out.1.lt hb2).join o2 (fun b hb => by have := HQ5.out.2.2.1 b hb; have := bE4.size; omega) (by have := HQ5.out.2.2.2; have := bE4.size; omega)⟩
  refine ⟨_, by simp [Act.put]; rfl, hK _ _ ?_⟩
  clear hK r2 o2 hb2 bE4 HT5 HT4 HQ4 HQ5
  have c5 := HT6.out.loc.cell 5
  have f5 := HT6.out.loc.frozen 5
  have c6 := HT6.out.loc.cell 6
  have f6 := HT6.out.loc.frozen 6
  simp only [aT, aS, aZ] at c5 c6
  have hz5 : w.heap.size + 3 ≤ w5.heap.size := HT6.out.size
  go_wp2
  clear c5 f5 c6 f6
  go_loopw [4] (fun i wr => ∃ (k : Nat) (v : Value) (vs : List Value) (GG : List Nat), k ≤ n3 ∧ i = .int .i64 k ∧ Hid (CopyA w #[.int .i64 s.count, .int .i64 s.sum, .int .i64 s.min, .int .i64 s.max, .slice a1 n1 c1, .slice a2 n2 c2, .slice a3 n3 c3] s b1 b2 n1 n2 d1 d2 G1 G2 w5.heap.size k v vs GG wr)) (fun i _ => n3 - (intOf i).toNat)
  case atStart =>
    have nG : w.heap.size + 1 + 1 ∉ G1 ++ G2 := fun hx => by have := HQ6.out.2.2.ge _ hx; omega
    have ag := ((Agree.refl w5 (G1 ++ G2)).thenSet nG 5 (.slice b2 n2 d2)).thenSet nG 6 (.slice none 0 0)
    have T := (HT6.out.set 5 (.slice b2 n2 d2)).set 6 (.slice none 0 0)
    exact ⟨0, .slice none 0 0, [], [], by omega, rfl, ⟨T, HQ6.out.1.agree ag.left, HQ6.out.2.1.agree ag.right, HQ6.out.2.2.agree ag, fun b hb => (List.mem_append.1 hb).elim (HQ6.out.1.lt b) (HQ6.out.2.1.lt b), ⟨rfl, .inl ⟨rfl, rfl⟩⟩, by simp [RdS], Own.nil, fun b hb => (by cases hb), hz5, by simp⟩⟩
  case round =>
    clear HQ6 HT6
    obtain ⟨k, v, vs, GG, hk, rfl, CSS⟩ := hrel
    have e6 := CSS.out.three.box.cell 6
    simp only [aT, aS, aZ] at e6
    by_cases hlt : k < n3
    · have hI : (k : Int) < (n3 : Int) := by omega
      obtain ⟨p3, o3, F3', rfl, hm3⟩ : ∃ b off F', a3 = some ⟨b, off, none⟩ ∧ RdM w (s.rows.map ints) b off F' := by
        rcases HR.out.2.2.1.cells with ⟨h0, _⟩ | ⟨b, off, F', _, e, _, hm⟩
        · omega
        · exact ⟨b, off, F', e, hm⟩
      obtain ⟨ak, nk, ck, Yk, hck, hrk, _⟩ := RdII.row hm3 HL.out.2.2 k hlt
      have hnk : nk ≤ 1048576 := by rw [← hrk.length]; exact HR.out.2.2.2.row _ (mem_getD (d := []) (by rw [HL.out.2.2]; exact hlt))
      have hp3 : p3 < w.heap.size := World.block_lt_of_cell? _ _ hck
      have HQ : Hid (RdI w ak nk (s.rows.getD k []) Yk ∧ k < s.rows.length) := ⟨hrk, by rw [HL.out.2.2]; exact hlt⟩
      have HC : Hid (∀ W, CopyS w #[.int .i64 s.count, .int .i64 s.sum, .int .i64 s.min, .int .i64 s.max, .slice a1 n1 c1, .slice a2 n2 c2, .slice (some ⟨p3, o3, none⟩) n3 c3] W → W.cell? ⟨w.heap.size, 6, none⟩ = some (.slice (some ⟨p3, o3, none⟩) n3 c3) ∧ W.cell? ⟨p3, o3 + k, none⟩ = some (.slice ak nk ck)) := fun W hW => ⟨by rw [hW.1.cell]; rfl, by
        have q : W.cell? ⟨p3, o3 + k, none⟩ = w.cell? ⟨p3, o3 + k, none⟩ := hW.2.cell (p := ⟨p3, o3 + k, none⟩) hp3
        exact q.trans hck⟩
      have HB0 : Hid (∀ b, b < w.heap.size → b < wr.heap.size) := fun b hb => by have := CSS.out.three.bel.size; omega
      clear hck hrk hm3
      go_wp2_with fail
      clear e6
      have CSd : Hid (CopyA w #[.int .i64 s.count, .int .i64 s.sum, .int .i64 s.min, .int .i64 s.max, .slice a1 n1 c1, .slice a2 n2 c2, .slice (some ⟨p3, o3, none⟩) n3 c3] s b1 b2 n1 n2 d1 d2 G1 G2 w5.heap.size k v vs GG wr.drew) := CSS.out.below (Below.refl _ _).drew
      obtain ⟨Y0, hY0⟩ : ∃ Y, Y = wr.drew := ⟨_, rfl⟩
      rw [← hY0] at CSd
      have HLim : Hid ((∀ b ∈ GG, b < Y0.heap.size) ∧ (∀ b, v.ownBlock = some b → b < Y0.heap.size) ∧ w5.heap.size ≤ Y0.heap.size) := ⟨CSd.out.rd.lt, fun b hb => (CSd.out.row.lt b hb).2, CSd.out.lw⟩
      clear CSS HB0
      refine wp_region_held (S := CopyS w #[.int .i64 s.count, .int .i64 s.sum, .int .i64 s.min, .int .i64 s.max, .slice a1 n1 c1, .slice a2 n2 c2, .slice (some ⟨p3, o3, none⟩) n3 c3]) (by kernel_rfl) ?_
      change wpAnyH _ _ _ _ _ _ _ _ (World.drew _)
      rw [← hY0]
      clear hY0
      refine takeH (o := ?o1) 0 (.pointer (some ⟨w.heap.size + 1 + 1, 6, none⟩)) ?h1 ?r1
      case h1 => simp only [aT, aZ]; rfl
      refine ⟨_, by simp [Act.put]; rfl, by kernel_rfl, by kernel_rfl, by kernel_rfl, fun _ _ _ h => h, (.inl ⟨rfl, fun W _ => by kernel_rfl⟩), ⟨CSd.out.three.box, CSd.out.three.bel⟩, ?_⟩
      refine takeH (o := ?o2) 3 (.pointer (some ⟨w.heap.size, 6, none⟩)) ?h2 ?r2
      case h2 => simp only [aT, aS, aZ]; rfl
      refine ⟨_, by simp [Act.put]; rfl, by kernel_rfl, by kernel_rfl, by kernel_rfl, fun _ _ _ h => h, (.inl ⟨rfl, fun W _ => by kernel_rfl⟩), ⟨CSd.out.three.box, CSd.out.three.bel⟩, ?_⟩
      refine takeH (o := ?o3) 4 (.slice (some ⟨p3, o3, none⟩) n3 c3) ?h3 ?r3
      case h3 => simp only [aT, aS, aZ]; rfl
      refine ⟨_, by simp [Act.put]; rfl, by kernel_rfl, by kernel_rfl, by kernel_rfl, fun _ _ _ h => h, (.inl ⟨rfl, fun W hW => by have c := (HC.out W hW).1; go_simp⟩), ⟨CSd.out.three.box, CSd.out.three.bel⟩, ?_⟩
      refine takeH (o := ?o4) 5 (.int .i64 k) ?h4 ?r4
      case h4 => simp only [aT, aS, aZ]; rfl
      refine ⟨_, by simp [Act.put]; rfl, by kernel_rfl, by kernel_rfl, by kernel_rfl, fun _ _ _ h => h, (.inl ⟨rfl, fun W _ => by kernel_rfl⟩), ⟨CSd.out.three.box, CSd.out.three.bel⟩, ?_⟩
      refine takeH (o := ?o5) 6 (.pointer (some ⟨p3, o3 + k, none⟩)) ?h5 ?r5
      case h5 => simp only [aT, aS, aZ]; rfl
      refine ⟨_, by simp [Act.put]; rfl, by kernel_rfl, by kernel_rfl, by kernel_rfl, fun _ _ _ h => h, (.inl ⟨rfl, fun W _ => by go_simp⟩), ⟨CSd.out.three.box, CSd.out.three.bel⟩, ?_⟩
      refine takeH (o := ?o6) 7 (.slice ak nk ck) ?h6 ?r6
      case h6 => simp only [aT, aS, aZ]; rfl
      refine ⟨_, by simp [Act.put]; rfl, by kernel_rfl, by kernel_rfl, by kernel_rfl, fun _ _ _ h => h, (.inl ⟨rfl, fun W hW => by have c := (HC.out W hW).2; go_simp⟩), ⟨CSd.out.three.box, CSd.out.three.bel⟩, ?_⟩
      refine twoH (o := ?o7) (o' := ?p7) 1 2 (by kernel_rfl) ?h7 ?g7 ?r7 ?s7
      case h7 => simp only [aT, aS, aZ]; rfl
      case g7 => simp only [aT, aS, aZ]; rfl
      case r7 =>
        intro K hK
        have co := CSd.out.three.loc.cell 6
        simp only [aT, aS, aZ] at co
        refine op_value v rfl (by go_simp) ⟨_, by simp [Act.put]; rfl, hK _ _ ⟨⟨CSd.out.three.box, CSd.out.three.bel⟩, ?_⟩⟩
        clear hK co
        refine onlyH (o := ?o8) 2 (by kernel_rfl) ?h8 ?r8
        case h8 => simp only [aT, aS, aZ]; rfl
        intro K hK
        have bl : Below Y0.heap.size Y0 (Y0.alloc (.cells #[] 3)) := (Below.refl _ _).alloc (Nat.le_refl _) _
        have CS1 : Hid (CopyA w #[.int .i64 s.count, .int .i64 s.sum, .int .i64 s.min, .int .i64 s.max, .slice a1 n1 c1, .slice a2 n2 c2, .slice (some ⟨p3, o3, none⟩) n3 c3] s b1 b2 n1 n2 d1 d2 G1 G2 w5.heap.size k v vs GG (Y0.alloc (.cells #[] 3)) ∧ Y0.heap.size ≤ Y0.heap.size) := ⟨CSd.out.below bl, (Nat.le_refl _)⟩
        refine op_turn (.slice (some ⟨Y0.heap.size, 0, none⟩) 0 0) (Y0.alloc (.cells #[] 3)) rfl (by kernel_rfl) ⟨_, by simp [Act.put]; rfl, hK _ _ ⟨⟨CS1.out.1.three.box, CS1.out.1.three.bel⟩, ?_⟩⟩
        clear hK bl
        obtain ⟨Y1, hY1⟩ : ∃ Z, Z = Y0.alloc (.cells #[] 3) := ⟨_, rfl⟩
        have g1 : Hid (Y0.heap.size ≤ Y1.heap.size) := by have := CS1.out.2; show _ ≤ _; rw [hY1]; exact Nat.le_trans this (by simp)
        rw [← hY1] at CS1 ⊢
        have CS1 : Hid (CopyA w #[.int .i64 s.count, .int .i64 s.sum, .int .i64 s.min, .int .i64 s.max, .slice a1 n1 c1, .slice a2 n2 c2, .slice (some ⟨p3, o3, none⟩) n3 c3] s b1 b2 n1 n2 d1 d2 G1 G2 w5.heap.size k v vs GG Y1) := CS1.out.1
        clear hY1
        refine onlyH (o := ?o9) 8 (by kernel_rfl) ?h9 ?r9
        case h9 => simp only [aT, aS, aZ]; rfl
        intro K hK
        refine op_growsI _ _ 34 rfl rfl 3 i0 Try.underlying34 hi hz0 hz1 hz2 (some _) rfl ak nk ck (s.rows.getD k []) Yk rfl (HQ.out.1.below CS1.out.three.bel) hnk ?_
        intro ar cr Fr Y2 rr ro rb _
        have g2 : Hid (Y0.heap.size ≤ Y2.heap.size) := Nat.le_trans g1.out rb.size
        have RR2 : Hid (RdI Y2 ar nk (s.rows.getD k []) Fr ∧ Own Y0.heap.size Y2 Fr) := ⟨rr, ro.mono g1.out⟩
        have CS2 : Hid (CopyA w #[.int .i64 s.count, .int .i64 s.sum, .int .i64 s.min, .int .i64 s.max, .slice a1 n1 c1, .slice a2 n2 c2, .slice (some ⟨p3, o3, none⟩) n3 c3] s b1 b2 n1 n2 d1 d2 G1 G2 w5.heap.size k v vs GG Y2) := CS1.out.below rb
        refine ⟨_, by simp [Act.put]; rfl, hK _ _ ⟨⟨CS2.out.three.box, CS2.out.three.bel⟩, ?_⟩⟩
        clear hK rr ro rb
        refine onlyH (o := ?o10) 9 (by kernel_rfl) ?h10 ?r10
        case h10 => simp only [aT, aS, aZ]; rfl
        intro K hK
        have bl : Below Y2.heap.size Y2 (Y2.alloc (.cells #[.slice ar nk cr] 34)) := (Below.refl _ _).alloc (Nat.le_refl _) _
        have CS3 : Hid (CopyA w #[.int .i64 s.count, .int .i64 s.sum, .int .i64 s.min, .int .i64 s.max, .slice a1 n1 c1, .slice a2 n2 c2, .slice (some ⟨p3, o3, none⟩) n3 c3] s b1 b2 n1 n2 d1 d2 G1 G2 w5.heap.size k v vs GG (Y2.alloc (.cells #[.slice ar nk cr] 34))) := CS2.out.below bl
        have RR3 : Hid (RdI (Y2.alloc (.cells #[.slice ar nk cr] 34)) ar nk (s.rows.getD k []) Fr ∧ Own Y0.heap.size (Y2.alloc (.cells #[.slice ar nk cr] 34)) Fr) := ⟨RR2.out.1.below bl, RR2.out.2.below RR2.out.1.lt bl⟩
        have NW3 : Hid (∀ j u, [Value.slice ar nk cr][j]? = some u → ((Y2.alloc (.cells #[.slice ar nk cr] 34))).cell? ((⟨Y2.heap.size, 0, none⟩ : Addr).add j) = some u) := cell_one7 _ _ _
        refine op_turn (.slice (some ⟨Y2.heap.size, 0, none⟩) 1 1) (Y2.alloc (.cells #[.slice ar nk cr] 34)) rfl (by kernel_rfl) ⟨_, by simp [Act.put]; rfl, hK _ _ ⟨⟨CS3.out.three.box, CS3.out.three.bel⟩, ?_⟩⟩
        clear hK bl
        obtain ⟨L3, hL3⟩ : ∃ z, z = Y2.heap.size := ⟨_, rfl⟩
        obtain ⟨Y3, hY3⟩ : ∃ Z, Z = (Y2.alloc (.cells #[.slice ar nk cr] 34)) := ⟨_, rfl⟩
        rw [← hY3, ← hL3] at NW3
        rw [← hY3] at CS3 RR3 ⊢
        rw [← hL3]
        clear hY3 hL3
        refine onlyH (o := ?o11) 10 (by kernel_rfl) ?h11 ?r11
        case h11 => simp only [aT, aS, aZ]; rfl
        intro K hK
        refine op_append Y3 rfl _ _ 35 rfl w5.heap.size 34 j0 (.slice none 0 0) 1 24 Try.underlying35 hj hy0 hy1 hy2 rfl (by decide) v k vs rfl CS3.out.row ⟨L3, 0, none⟩ 1 1 [.slice ar nk cr] rfl rfl NW3.out (by intro u hu; simp at hu; rw [hu]; rfl) (by decide) (by unfold maxLen; omega) (by omega) CS3.out.lw _ rfl ?_
        intro g4 cp4 Y4 hown hgrow hat _
        have ST := CS3.out.step RR3.out.1 RR3.out.2 HLim.out.1 HLim.out.2.1 HLim.out.2.2 hown hgrow hat HQ.out.2
        have CS4 : Hid (CopyA w #[.int .i64 s.count, .int .i64 s.sum, .int .i64 s.min, .int .i64 s.max, .slice a1 n1 c1, .slice a2 n2 c2, .slice (some ⟨p3, o3, none⟩) n3 c3] s b1 b2 n1 n2 d1 d2 G1 G2 w5.heap.size (k + 1) (.slice (some ⟨g4, 0, none⟩) (k + 1) cp4) (vs ++ [.slice ar nk cr]) (GG ++ Fr) (Y4.setCell ⟨w.heap.size + 1 + 1, 6, none⟩ (.slice (some ⟨g4, 0, none⟩) (k + 1) cp4)) ∧ CopyS w #[.int .i64 s.count, .int .i64 s.sum, .int .i64 s.min, .int .i64 s.max, .slice a1 n1 c1, .slice a2 n2 c2, .slice (some ⟨p3, o3, none⟩) n3 c3] Y4) := ⟨ST.1, ST.2.1⟩
        have co := ST.2.2.1
        have fo := ST.2.2.2
        refine ⟨_, by simp [Act.put]; rfl, hK _ _ ⟨CS4.out.2, ?_⟩⟩
        clear hK hown hgrow hat ST
        refine takeH (o := ?o12) 11 (.pointer (some ⟨w.heap.size + 1 + 1, 6, none⟩)) ?h12 ?r12
        case h12 => simp only [aT, aS, aZ]; rfl
        refine ⟨_, by simp [Act.put]; rfl, by kernel_rfl, by kernel_rfl, by kernel_rfl, fun _ _ _ h => h, (.inl ⟨rfl, fun W _ => by kernel_rfl⟩), CS4.out.2, ?_⟩
        refine onlyH (o := ?o13) 12 (by kernel_rfl) ?h13 ?r13
        case h13 => simp only [aT, aS, aZ]; rfl
        intro K hK
        refine op_skip (Y4.setCell ⟨w.heap.size + 1 + 1, 6, none⟩ (.slice (some ⟨g4, 0, none⟩) (k + 1) cp4)) rfl (by go_simp) ⟨_, by simp [Act.put]; rfl, hK _ _ ⟨⟨CS4.out.1.three.box, CS4.out.1.three.bel⟩, ?_⟩⟩
        clear hK co fo
        refine wpAnyH_done (by kernel_rfl) ?_ _
        have HF : Hid (CopyA w #[.int .i64 s.count, .int .i64 s.sum, .int .i64 s.min, .int .i64 s.max, .slice a1 n1 c1, .slice a2 n2 c2, .slice (some ⟨p3, o3, none⟩) n3 c3] s b1 b2 n1 n2 d1 d2 G1 G2 w5.heap.size (k + 1) (.slice (some ⟨g4, 0, none⟩) (k + 1) cp4) (vs ++ [.slice ar nk cr]) (GG ++ Fr) (Y4.setCell ⟨w.heap.size + 1 + 1, 6, none⟩ (.slice (some ⟨g4, 0, none⟩) (k + 1) cp4))) := CS4.out.1
        obtain ⟨YZ, hYZ⟩ : ∃ Z, Z = Y4.setCell ⟨w.heap.size + 1 + 1, 6, none⟩ (.slice (some ⟨g4, 0, none⟩) (k + 1) cp4) := ⟨_, rfl⟩
        rw [← hYZ] at HF ⊢
        clear hYZ CS4
        go_wp2
        go_roundw
        case rel => exact ⟨k + 1, _, _, _, by omega, by go_num, HF.out⟩
        case measure => simp [intOf]; omega
      case s7 =>
        intro K hK
        have bl : Below Y0.heap.size Y0 (Y0.alloc (.cells #[] 3)) := (Below.refl _ _).alloc (Nat.le_refl _) _
        have CS5 : Hid (CopyA w #[.int .i64 s.count, .int .i64 s.sum, .int .i64 s.min, .int .i64 s.max, .slice a1 n1 c1, .slice a2 n2 c2, .slice (some ⟨p3, o3, none⟩) n3 c3] s b1 b2 n1 n2 d1 d2 G1 G2 w5.heap.size k v vs GG (Y0.alloc (.cells #[] 3)) ∧ Y0.heap.size ≤ Y0.heap.size) := ⟨CSd.out.below bl, (Nat.le_refl _)⟩
        refine op_turn (.slice (some ⟨Y0.heap.size, 0, none⟩) 0 0) (Y0.alloc (.cells #[] 3)) rfl (by kernel_rfl) ⟨_, by simp [Act.put]; rfl, hK _ _ ⟨⟨CS5.out.1.three.box, CS5.out.1.three.bel⟩, ?_⟩⟩
        clear hK bl
        obtain ⟨Y5, hY5⟩ : ∃ Z, Z = Y0.alloc (.cells #[] 3) := ⟨_, rfl⟩
        have g5 : Hid (Y0.heap.size ≤ Y5.heap.size) := by have := CS5.out.2; show _ ≤ _; rw [hY5]; exact Nat.le_trans this (by simp)
        rw [← hY5] at CS5 ⊢
        have CS5 : Hid (CopyA w #[.int .i64 s.count, .int .i64 s.sum, .int .i64 s.min, .int .i64 s.max, .slice a1 n1 c1, .slice a2 n2 c2, .slice (some ⟨p3, o3, none⟩) n3 c3] s b1 b2 n1 n2 d1 d2 G1 G2 w5.heap.size k v vs GG Y5) := CS5.out.1
        clear hY5
        refine twoH (o := ?o14) (o' := ?p14) 1 8 (by kernel_rfl) ?h14 ?g14 ?r14 ?s14
        case h14 => simp only [aT, aS, aZ]; rfl
        case g14 => simp only [aT, aS, aZ]; rfl
        case r14 =>
          intro K hK
          have co := CS5.out.three.loc.cell 6
          simp only [aT, aS, aZ] at co
          refine op_value v rfl (by go_simp) ⟨_, by simp [Act.put]; rfl, hK _ _ ⟨⟨CS5.out.three.box, CS5.out.three.bel⟩, ?_⟩⟩
          clear hK co
          refine onlyH (o := ?o15) 8 (by kernel_rfl) ?h15 ?r15
          case h15 => simp only [aT, aS, aZ]; rfl
          intro K hK
          refine op_growsI _ _ 34 rfl rfl 3 i0 Try.underlying34 hi hz0 hz1 hz2 (some _) rfl ak nk ck (s.rows.getD k []) Yk rfl (HQ.out.1.below CS5.out.three.bel) hnk ?_
          intro ar cr Fr Y6 rr ro rb _
          have g6 : Hid (Y0.heap.size ≤ Y6.heap.size) := Nat.le_trans g5.out rb.size
          have RR6 : Hid (RdI Y6 ar nk (s.rows.getD k []) Fr ∧ Own Y0.heap.size Y6 Fr) := ⟨rr, ro.mono g5.out⟩
          have CS6 : Hid (CopyA w #[.int .i64 s.count, .int .i64 s.sum, .int .i64 s.min, .int .i64 s.max, .slice a1 n1 c1, .slice a2 n2 c2, .slice (some ⟨p3, o3, none⟩) n3 c3] s b1 b2 n1 n2 d1 d2 G1 G2 w5.heap.size k v vs GG Y6) := CS5.out.below rb
          refine ⟨_, by simp [Act.put]; rfl, hK _ _ ⟨⟨CS6.out.three.box, CS6.out.three.bel⟩, ?_⟩⟩
          clear hK rr ro rb
          refine onlyH (o := ?o16) 9 (by kernel_rfl) ?h16 ?r16
          case h16 => simp only [aT, aS, aZ]; rfl
          intro K hK
          have bl : Below Y6.heap.size Y6 (Y6.alloc (.cells #[.slice ar nk cr] 34)) := (Below.refl _ _).alloc (Nat.le_refl _) _
          have CS7 : Hid (CopyA w #[.int .i64 s.count, .int .i64 s.sum, .int .i64 s.min, .int .i64 s.max, .slice a1 n1 c1, .slice a2 n2 c2, .slice (some ⟨p3, o3, none⟩) n3 c3] s b1 b2 n1 n2 d1 d2 G1 G2 w5.heap.size k v vs GG (Y6.alloc (.cells #[.slice ar nk cr] 34))) := CS6.out.below bl
          have RR7 : Hid (RdI (Y6.alloc (.cells #[.slice ar nk cr] 34)) ar nk (s.rows.getD k []) Fr ∧ Own Y0.heap.size (Y6.alloc (.cells #[.slice ar nk cr] 34)) Fr) := ⟨RR6.out.1.below bl, RR6.out.2.below RR6.out.1.lt bl⟩
          have NW7 : Hid (∀ j u, [Value.slice ar nk cr][j]? = some u → ((Y6.alloc (.cells #[.slice ar nk cr] 34))).cell? ((⟨Y6.heap.size, 0, none⟩ : Addr).add j) = some u) := cell_one7 _ _ _
          refine op_turn (.slice (some ⟨Y6.heap.size, 0, none⟩) 1 1) (Y6.alloc (.cells #[.slice ar nk cr] 34)) rfl (by kernel_rfl) ⟨_, by simp [Act.put]; rfl, hK _ _ ⟨⟨CS7.out.three.box, CS7.out.three.bel⟩, ?_⟩⟩
          clear hK bl
          obtain ⟨L7, hL7⟩ : ∃ z, z = Y6.heap.size := ⟨_, rfl⟩
          obtain ⟨Y7, hY7⟩ : ∃ Z, Z = (Y6.alloc (.cells #[.slice ar nk cr] 34)) := ⟨_, rfl⟩
          rw [← hY7, ← hL7] at NW7
          rw [← hY7] at CS7 RR7 ⊢
          rw [← hL7]
          clear hY7 hL7
          refine onlyH (o := ?o17) 10 (by kernel_rfl) ?h17 ?r17
          case h17 => simp only [aT, aS, aZ]; rfl
          intro K hK
          refine op_append Y7 rfl _ _ 35 rfl w5.heap.size 34 j0 (.slice none 0 0) 1 24 Try.underlying35 hj hy0 hy1 hy2 rfl (by decide) v k vs rfl CS7.out.row ⟨L7, 0, none⟩ 1 1 [.slice ar nk cr] rfl rfl NW7.out (by intro u hu; simp at hu; rw [hu]; rfl) (by decide) (by unfold maxLen; omega) (by omega) CS7.out.lw _ rfl ?_
          intro g4 cp4 Y8 hown hgrow hat _
          have ST := CS7.out.step RR7.out.1 RR7.out.2 HLim.out.1 HLim.out.2.1 HLim.out.2.2 hown hgrow hat HQ.out.2
          have CS8 : Hid (CopyA w #[.int .i64 s.count, .int .i64 s.sum, .int .i64 s.min, .int .i64 s.max, .slice a1 n1 c1, .slice a2 n2 c2, .slice (some ⟨p3, o3, none⟩) n3 c3] s b1 b2 n1 n2 d1 d2 G1 G2 w5.heap.size (k + 1) (.slice (some ⟨g4, 0, none⟩) (k + 1) cp4) (vs ++ [.slice ar nk cr]) (GG ++ Fr) (Y8.setCell ⟨w.heap.size + 1 + 1, 6, none⟩ (.slice (some ⟨g4, 0, none⟩) (k + 1) cp4)) ∧ CopyS w #[.int .i64 s.count, .int .i64 s.sum, .int .i64 s.min, .int .i64 s.max, .slice a1 n1 c1, .slice a2 n2 c2, .slice (some ⟨p3, o3, none⟩) n3 c3] Y8) := ⟨ST.1, ST.2.1⟩
          have co := ST.2.2.1
          have fo := ST.2.2.2
          refine ⟨_, by simp [Act.put]; rfl, hK _ _ ⟨CS8.out.2, ?_⟩⟩
          clear hK hown hgrow hat ST
          refine takeH (o := ?o18) 11 (.pointer (some ⟨w.heap.size + 1 + 1, 6, none⟩)) ?h18 ?r18
          case h18 => simp only [aT, aS, aZ]; rfl
          refine ⟨_, by simp [Act.put]; rfl, by kernel_rfl, by kernel_rfl, by kernel_rfl, fun _ _ _ h => h, (.inl ⟨rfl, fun W _ => by kernel_rfl⟩), CS8.out.2, ?_⟩
          refine onlyH (o := ?o19) 12 (by kernel_rfl) ?h19 ?r19
          case h19 => simp only [aT, aS, aZ]; rfl
          intro K hK
          refine op_skip (Y8.setCell ⟨w.heap.size + 1 + 1, 6, none⟩ (.slice (some ⟨g4, 0, none⟩) (k + 1) cp4)) rfl (by go_simp) ⟨_, by simp [Act.put]; rfl, hK _ _ ⟨⟨CS8.out.1.three.box, CS8.out.1.three.bel⟩, ?_⟩⟩
          clear hK co fo
          refine wpAnyH_done (by kernel_rfl) ?_ _
          have HF : Hid (CopyA w #[.int .i64 s.count, .int .i64 s.sum, .int .i64 s.min, .int .i64 s.max, .slice a1 n1 c1, .slice a2 n2 c2, .slice (some ⟨p3, o3, none⟩) n3 c3] s b1 b2 n1 n2 d1 d2 G1 G2 w5.heap.size (k + 1) (.slice (some ⟨g4, 0, none⟩) (k + 1) cp4) (vs ++ [.slice ar nk cr]) (GG ++ Fr) (Y8.setCell ⟨w.heap.size + 1 + 1, 6, none⟩ (.slice (some ⟨g4, 0, none⟩) (k + 1) cp4))) := CS8.out.1
          obtain ⟨YZ, hYZ⟩ : ∃ Z, Z = Y8.setCell ⟨w.heap.size + 1 + 1, 6, none⟩ (.slice (some ⟨g4, 0, none⟩) (k + 1) cp4) := ⟨_, rfl⟩
          rw [← hYZ] at HF ⊢
          clear hYZ CS8
          go_wp2
          go_roundw
          case rel => exact ⟨k + 1, _, _, _, by omega, by go_num, HF.out⟩
          case measure => simp [intOf]; omega
        case s14 =>
          intro K hK
          refine op_growsI _ _ 34 rfl rfl 3 i0 Try.underlying34 hi hz0 hz1 hz2 (some _) rfl ak nk ck (s.rows.getD k []) Yk rfl (HQ.out.1.below CS5.out.three.bel) hnk ?_
          intro ar cr Fr Y9 rr ro rb _
          have g9 : Hid (Y0.heap.size ≤ Y9.heap.size) := Nat.le_trans g5.out rb.size
          have RR9 : Hid (RdI Y9 ar nk (s.rows.getD k []) Fr ∧ Own Y0.heap.size Y9 Fr) := ⟨rr, ro.mono g5.out⟩
          have CS9 : Hid (CopyA w #[.int .i64 s.count, .int .i64 s.sum, .int .i64 s.min, .int .i64 s.max, .slice a1 n1 c1, .slice a2 n2 c2, .slice (some ⟨p3, o3, none⟩) n3 c3] s b1 b2 n1 n2 d1 d2 G1 G2 w5.heap.size k v vs GG Y9) := CS5.out.below rb
          refine ⟨_, by simp [Act.put]; rfl, hK _ _ ⟨⟨CS9.out.three.box, CS9.out.three.bel⟩, ?_⟩⟩
          clear hK rr ro rb
          refine twoH (o := ?o20) (o' := ?p20) 1 9 (by kernel_rfl) ?h20 ?g20 ?r20 ?s20
          case h20 => simp only [aT, aS, aZ]; rfl
          case g20 => simp only [aT, aS, aZ]; rfl
          case r20 =>
            intro K hK
            have co := CS9.out.three.loc.cell 6
            simp only [aT, aS, aZ] at co
            refine op_value v rfl (by go_simp) ⟨_, by simp [Act.put]; rfl, hK _ _ ⟨⟨CS9.out.three.box, CS9.out.three.bel⟩, ?_⟩⟩
            clear hK co
            refine onlyH (o := ?o21) 9 (by kernel_rfl) ?h21 ?r21
            case h21 => simp only [aT, aS, aZ]; rfl
            intro K hK
            have bl : Below Y9.heap.size Y9 (Y9.alloc (.cells #[.slice ar nk cr] 34)) := (Below.refl _ _).alloc (Nat.le_refl _) _
            have CS10 : Hid (CopyA w #[.int .i64 s.count, .int .i64 s.sum, .int .i64 s.min, .int .i64 s.max, .slice a1 n1 c1, .slice a2 n2 c2, .slice (some ⟨p3, o3, none⟩) n3 c3] s b1 b2 n1 n2 d1 d2 G1 G2 w5.heap.size k v vs GG (Y9.alloc (.cells #[.slice ar nk cr] 34))) := CS9.out.below bl
            have RR10 : Hid (RdI (Y9.alloc (.cells #[.slice ar nk cr] 34)) ar nk (s.rows.getD k []) Fr ∧ Own Y0.heap.size (Y9.alloc (.cells #[.slice ar nk cr] 34)) Fr) := ⟨RR9.out.1.below bl, RR9.out.2.below RR9.out.1.lt bl⟩
            have NW10 : Hid (∀ j u, [Value.slice ar nk cr][j]? = some u → ((Y9.alloc (.cells #[.slice ar nk cr] 34))).cell? ((⟨Y9.heap.size, 0, none⟩ : Addr).add j) = some u) := cell_one7 _ _ _
            refine op_turn (.slice (some ⟨Y9.heap.size, 0, none⟩) 1 1) (Y9.alloc (.cells #[.slice ar nk cr] 34)) rfl (by kernel_rfl) ⟨_, by simp [Act.put]; rfl, hK _ _ ⟨⟨CS10.out.three.box, CS10.out.three.bel⟩, ?_⟩⟩
            clear hK bl
            obtain ⟨L10, hL10⟩ : ∃ z, z = Y9.heap.size := ⟨_, rfl⟩
            obtain ⟨Y10, hY10⟩ : ∃ Z, Z = (Y9.alloc (.cells #[.slice ar nk cr] 34)) := ⟨_, rfl⟩
            rw [← hY10, ← hL10] at NW10
            rw [← hY10] at CS10 RR10 ⊢
            rw [← hL10]
            clear hY10 hL10
            refine onlyH (o := ?o22) 10 (by kernel_rfl) ?h22 ?r22
            case h22 => simp only [aT, aS, aZ]; rfl
            intro K hK
            refine op_append Y10 rfl _ _ 35 rfl w5.heap.size 34 j0 (.slice none 0 0) 1 24 Try.underlying35 hj hy0 hy1 hy2 rfl (by decide) v k vs rfl CS10.out.row ⟨L10, 0, none⟩ 1 1 [.slice ar nk cr] rfl rfl NW10.out (by intro u hu; simp at hu; rw [hu]; rfl) (by decide) (by unfold maxLen; omega) (by omega) CS10.out.lw _ rfl ?_
            intro g4 cp4 Y11 hown hgrow hat _
            have ST := CS10.out.step RR10.out.1 RR10.out.2 HLim.out.1 HLim.out.2.1 HLim.out.2.2 hown hgrow hat HQ.out.2
            have CS11 : Hid (CopyA w #[.int .i64 s.count, .int .i64 s.sum, .int .i64 s.min, .int .i64 s.max, .slice a1 n1 c1, .slice a2 n2 c2, .slice (some ⟨p3, o3, none⟩) n3 c3] s b1 b2 n1 n2 d1 d2 G1 G2 w5.heap.size (k + 1) (.slice (some ⟨g4, 0, none⟩) (k + 1) cp4) (vs ++ [.slice ar nk cr]) (GG ++ Fr) (Y11.setCell ⟨w.heap.size + 1 + 1, 6, none⟩ (.slice (some ⟨g4, 0, none⟩) (k + 1) cp4)) ∧ CopyS w #[.int .i64 s.count, .int .i64 s.sum, .int .i64 s.min, .int .i64 s.max, .slice a1 n1 c1, .slice a2 n2 c2, .slice (some ⟨p3, o3, none⟩) n3 c3] Y11) := ⟨ST.1, ST.2.1⟩
            have co := ST.2.2.1
            have fo := ST.2.2.2
            refine ⟨_, by simp [Act.put]; rfl, hK _ _ ⟨CS11.out.2, ?_⟩⟩
            clear hK hown hgrow hat ST
            refine takeH (o := ?o23) 11 (.pointer (some ⟨w.heap.size + 1 + 1, 6, none⟩)) ?h23 ?r23
            case h23 => simp only [aT, aS, aZ]; rfl
            refine ⟨_, by simp [Act.put]; rfl, by kernel_rfl, by kernel_rfl, by kernel_rfl, fun _ _ _ h => h, (.inl ⟨rfl, fun W _ => by kernel_rfl⟩), CS11.out.2, ?_⟩
            refine onlyH (o := ?o24) 12 (by kernel_rfl) ?h24 ?r24
            case h24 => simp only [aT, aS, aZ]; rfl
            intro K hK
            refine op_skip (Y11.setCell ⟨w.heap.size + 1 + 1, 6, none⟩ (.slice (some ⟨g4, 0, none⟩) (k + 1) cp4)) rfl (by go_simp) ⟨_, by simp [Act.put]; rfl, hK _ _ ⟨⟨CS11.out.1.three.box, CS11.out.1.three.bel⟩, ?_⟩⟩
            clear hK co fo
            refine wpAnyH_done (by kernel_rfl) ?_ _
            have HF : Hid (CopyA w #[.int .i64 s.count, .int .i64 s.sum, .int .i64 s.min, .int .i64 s.max, .slice a1 n1 c1, .slice a2 n2 c2, .slice (some ⟨p3, o3, none⟩) n3 c3] s b1 b2 n1 n2 d1 d2 G1 G2 w5.heap.size (k + 1) (.slice (some ⟨g4, 0, none⟩) (k + 1) cp4) (vs ++ [.slice ar nk cr]) (GG ++ Fr) (Y11.setCell ⟨w.heap.size + 1 + 1, 6, none⟩ (.slice (some ⟨g4, 0, none⟩) (k + 1) cp4))) := CS11.out.1
            obtain ⟨YZ, hYZ⟩ : ∃ Z, Z = Y11.setCell ⟨w.heap.size + 1 + 1, 6, none⟩ (.slice (some ⟨g4, 0, none⟩) (k + 1) cp4) := ⟨_, rfl⟩
            rw [← hYZ] at HF ⊢
            clear hYZ CS11
            go_wp2
            go_roundw
            case rel => exact ⟨k + 1, _, _, _, by omega, by go_num, HF.out⟩
            case measure => simp [intOf]; omega
          case s20 =>
            intro K hK
            have bl : Below Y9.heap.size Y9 (Y9.alloc (.cells #[.slice ar nk cr] 34)) := (Below.refl _ _).alloc (Nat.le_refl _) _
            have CS12 : Hid (CopyA w #[.int .i64 s.count, .int .i64 s.sum, .int .i64 s.min, .int .i64 s.max, .slice a1 n1 c1, .slice a2 n2 c2, .slice (some ⟨p3, o3, none⟩) n3 c3] s b1 b2 n1 n2 d1 d2 G1 G2 w5.heap.size k v vs GG (Y9.alloc (.cells #[.slice ar nk cr] 34))) := CS9.out.below bl
            have RR12 : Hid (RdI (Y9.alloc (.cells #[.slice ar nk cr] 34)) ar nk (s.rows.getD k []) Fr ∧ Own Y0.heap.size (Y9.alloc (.cells #[.slice ar nk cr] 34)) Fr) := ⟨RR9.out.1.below bl, RR9.out.2.below RR9.out.1.lt bl⟩
            have NW12 : Hid (∀ j u, [Value.slice ar nk cr][j]? = some u → ((Y9.alloc (.cells #[.slice ar nk cr] 34))).cell? ((⟨Y9.heap.size, 0, none⟩ : Addr).add j) = some u) := cell_one7 _ _ _
            refine op_turn (.slice (some ⟨Y9.heap.size, 0, none⟩) 1 1) (Y9.alloc (.cells #[.slice ar nk cr] 34)) rfl (by kernel_rfl) ⟨_, by simp [Act.put]; rfl, hK _ _ ⟨⟨CS12.out.three.box, CS12.out.three.bel⟩, ?_⟩⟩
            clear hK bl
            obtain ⟨L12, hL12⟩ : ∃ z, z = Y9.heap.size := ⟨_, rfl⟩
            obtain ⟨Y12, hY12⟩ : ∃ Z, Z = (Y9.alloc (.cells #[.slice ar nk cr] 34)) := ⟨_, rfl⟩
            rw [← hY12, ← hL12] at NW12
            rw [← hY12] at CS12 RR12 ⊢
            rw [← hL12]
            clear hY12 hL12
            refine onlyH (o := ?o25) 1 (by kernel_rfl) ?h25 ?r25
            case h25 => simp only [aT, aS, aZ]; rfl
            intro K hK
            have co := CS12.out.three.loc.cell 6
            simp only [aT, aS, aZ] at co
            refine op_value v rfl (by go_simp) ⟨_, by simp [Act.put]; rfl, hK _ _ ⟨⟨CS12.out.three.box, CS12.out.three.bel⟩, ?_⟩⟩
            clear hK co
            refine onlyH (o := ?o26) 10 (by kernel_rfl) ?h26 ?r26
            case h26 => simp only [aT, aS, aZ]; rfl
            intro K hK
            refine op_append Y12 rfl _ _ 35 rfl w5.heap.size 34 j0 (.slice none 0 0) 1 24 Try.underlying35 hj hy0 hy1 hy2 rfl (by decide) v k vs rfl CS12.out.row ⟨L12, 0, none⟩ 1 1 [.slice ar nk cr] rfl rfl NW12.out (by intro u hu; simp at hu; rw [hu]; rfl) (by decide) (by unfold maxLen; omega) (by omega) CS12.out.lw _ rfl ?_
            intro g4 cp4 Y13 hown hgrow hat _
            have ST := CS12.out.step RR12.out.1 RR12.out.2 HLim.out.1 HLim.out.2.1 HLim.out.2.2 hown hgrow hat HQ.out.2
            have CS13 : Hid (CopyA w #[.int .i64 s.count, .int .i64 s.sum, .int .i64 s.min, .int .i64 s.max, .slice a1 n1 c1, .slice a2 n2 c2, .slice (some ⟨p3, o3, none⟩) n3 c3] s b1 b2 n1 n2 d1 d2 G1 G2 w5.heap.size (k + 1) (.slice (some ⟨g4, 0, none⟩) (k + 1) cp4) (vs ++ [.slice ar nk cr]) (GG ++ Fr) (Y13.setCell ⟨w.heap.size + 1 + 1, 6, none⟩ (.slice (some ⟨g4, 0, none⟩) (k + 1) cp4)) ∧ CopyS w #[.int .i64 s.count, .int .i64 s.sum, .int .i64 s.min, .int .i64 s.max, .slice a1 n1 c1, .slice a2 n2 c2, .slice (some ⟨p3, o3, none⟩) n3 c3] Y13) := ⟨ST.1, ST.2.1⟩
            have co := ST.2.2.1
            have fo := ST.2.2.2
            refine ⟨_, by simp [Act.put]; rfl, hK _ _ ⟨CS13.out.2, ?_⟩⟩
            clear hK hown hgrow hat ST
            refine takeH (o := ?o27) 11 (.pointer (some ⟨w.heap.size + 1 + 1, 6, none⟩)) ?h27 ?r27
            case h27 => simp only [aT, aS, aZ]; rfl
            refine ⟨_, by simp [Act.put]; rfl, by kernel_rfl, by kernel_rfl, by kernel_rfl, fun _ _ _ h => h, (.inl ⟨rfl, fun W _ => by kernel_rfl⟩), CS13.out.2, ?_⟩
            refine onlyH (o := ?o28) 12 (by kernel_rfl) ?h28 ?r28
            case h28 => simp only [aT, aS, aZ]; rfl
            intro K hK
            refine op_skip (Y13.setCell ⟨w.heap.size + 1 + 1, 6, none⟩ (.slice (some ⟨g4, 0, none⟩) (k + 1) cp4)) rfl (by go_simp) ⟨_, by simp [Act.put]; rfl, hK _ _ ⟨⟨CS13.out.1.three.box, CS13.out.1.three.bel⟩, ?_⟩⟩
            clear hK co fo
            refine wpAnyH_done (by kernel_rfl) ?_ _
            have HF : Hid (CopyA w #[.int .i64 s.count, .int .i64 s.sum, .int .i64 s.min, .int .i64 s.max, .slice a1 n1 c1, .slice a2 n2 c2, .slice (some ⟨p3, o3, none⟩) n3 c3] s b1 b2 n1 n2 d1 d2 G1 G2 w5.heap.size (k + 1) (.slice (some ⟨g4, 0, none⟩) (k + 1) cp4) (vs ++ [.slice ar nk cr]) (GG ++ Fr) (Y13.setCell ⟨w.heap.size + 1 + 1, 6, none⟩ (.slice (some ⟨g4, 0, none⟩) (k + 1) cp4))) := CS13.out.1
            obtain ⟨YZ, hYZ⟩ : ∃ Z, Z = Y13.setCell ⟨w.heap.size + 1 + 1, 6, none⟩ (.slice (some ⟨g4, 0, none⟩) (k + 1) cp4) := ⟨_, rfl⟩
            rw [← hYZ] at HF ⊢
            clear hYZ CS13
            go_wp2
            go_roundw
            case rel => exact ⟨k + 1, _, _, _, by omega, by go_num, HF.out⟩
            case measure => simp [intOf]; omega
    · obtain rfl : k = n3 := by omega
      obtain ⟨b3, d3, F4, rfl, rII, oA, _⟩ := CSS.out.rows
      have HE : Hid (Three w #[.int .i64 s.count, .int .i64 s.sum, .int .i64 s.min, .int .i64 s.max, .slice a1 n1 c1, .slice a2 n2 c2, .slice a3 k c3] 37 #[.int .i64 0, .int .i64 0, .int .i64 0, .int .i64 0, .slice none 0 0, .slice none 0 0, .slice none 0 0] #[.int .i64 s.count, .int .i64 s.sum, .int .i64 s.min, .int .i64 s.max, .slice b1 n1 d1, .slice b2 n2 d2, .slice b3 k d3] 37 wr ∧ RdSk wr (.agg #[.int .i64 s.count, .int .i64 s.sum, .int .i64 s.min, .int .i64 s.max, .slice b1 n1 d1, .slice b2 n2 d2, .slice b3 k d3]) s (G1 ++ (G2 ++ F4)) ∧ Own (w.heap.size + 3) wr (G1 ++ (G2 ++ F4))) := by
        rw [List.take_of_length_le (by rw [HL.out.2.2]; exact Nat.le_refl _)] at rII
        exact ⟨CSS.out.three, ⟨b1, n1, d1, b2, n2, d2, b3, k, d3, G1, G2, F4, rfl, CSS.out.r1, CSS.out.r2, rII, rfl⟩, oA⟩
      clear rII oA CSS e6
      have hI : ¬ (k : Int) < (k : Int) := by omega
      have e6 := HE.out.1.box.cell 6
      simp only [aT, aS, aZ] at e6
      go_wp2_with (first | go_skip | (with_reducible refine stopLoad 37 rfl ?_))
      refine load_known 37 (w.heap.size + 1 + 1) _ 37 _ HE.out.1.loc rfl rfl rfl Try.underlying37 rfl infoSkI ?_
      go_wp2_with (first | go_skip | (with_reducible refine stopStore 37 rfl ?_))
      refine store_known 37 (w.heap.size + 1) _ #[.int .i64 s.count, .int .i64 s.sum, .int .i64 s.min, .int .i64 s.max, .slice b1 n1 d1, .slice b2 n2 d2, .slice b3 k d3] 37 HE.out.1.res rfl rfl rfl rfl infoSkI rfl (by simp [Value.oneCell']) ?_
      go_wp2
      refine bodyPost_ret (results_cell_row Try.results68 _ _ (w.heap.size + 1) _ _ (0, 0) _ rfl HE.out.1.res.setRow Try.underlying37 rfl infoSkI) rfl ?_
      have nr : w.heap.size + 1 ∉ G1 ++ (G2 ++ F4) := fun hx => by have := HE.out.2.2.ge _ hx; omega
      exact ⟨_, _, rfl, HE.out.2.1.agree (Agree.row nr _), (HE.out.2.2.agree (Agree.row nr _)).mono (by omega), below_setRow HE.out.1.bel (by omega) _⟩
end Go.Proofs.Ytillnoeailnnfaa
/- The model's l6Copy, of any entry that fits. No statement of the seat is proved here. -/
namespace Go.Proofs.Ytillnoeailnnfaa
open Go.RowKit
theorem infoEnC10 : (Try.prog.info? 39).map (·.size) = some 10 := by kernel_rfl
set_option maxRecDepth 200000 in
set_option maxHeartbeats 8000000 in
theorem l6Copy_all (ec : Array Value) (x : En) (F G : List Nat) (w : World) (h : RdEn w (.agg ec) x F G) (hf : x.sk.fits) (hl : x.ids.length ≤ 1048576) :
    Calls Try.prog 47 #[.agg ec] w fun e w' => NewEn w x e w' := by
  obtain ⟨b, l, c, a1, n1, c1, a2, n2, c2, a3, n3, c3, ev, hp, hr, hcp⟩ := h
  injection ev with ev
  subst ev
  have HK : Hid (x.sk.fits) := hf
  have HP : Hid (RdP w b l x.ids F ∧ RdSk w (.agg #[.int .i64 x.sk.count, .int .i64 x.sk.sum, .int .i64 x.sk.min, .int .i64 x.sk.max, .slice a1 n1 c1, .slice a2 n2 c2, .slice a3 n3 c3]) x.sk G ∧ l ≤ 2097152 ∧ (b = none → c = 0)) := ⟨hp, hr, by rw [← hp.length]; omega, hcp.1⟩
  have HT : Hid (_ ∧ _ ∧ _) := two_made w #[.int .i64 x.key, .int .i64 x.window, .slice b l c, .int .i64 x.sk.count, .int .i64 x.sk.sum, .int .i64 x.sk.min, .int .i64 x.sk.max, .slice a1 n1 c1, .slice a2 n2 c2, .slice a3 n3 c3] #[.int .i64 0, .int .i64 0, .slice none 0 0, .int .i64 0, .int .i64 0, .int .i64 0, .int .i64 0, .slice none 0 0, .slice none 0 0, .slice none 0 0] 39 39
  clear hp hr hcp hf hl
  go_enter Try.func47, Try.ntmps47
  go_wp2
  obtain ⟨W0, hW0⟩ : ∃ W0, W0 = (w.alloc (.cells #[.int .i64 x.key, .int .i64 x.window, .slice b l c, .int .i64 x.sk.count, .int .i64 x.sk.sum, .int .i64 x.sk.min, .int .i64 x.sk.max, .slice a1 n1 c1, .slice a2 n2 c2, .slice a3 n3 c3] 39)).alloc (.cells #[.int .i64 0, .int .i64 0, .slice none 0 0, .int .i64 0, .int .i64 0, .int .i64 0, .int .i64 0, .slice none 0 0, .slice none 0 0, .slice none 0 0] 39) := ⟨_, rfl⟩
  rw [← hW0] at HT ⊢
  clear hW0
  have HS : Hid (Blk W0.drew w.heap.size #[.int .i64 x.key, .int .i64 x.window, .slice b l c, .int .i64 x.sk.count, .int .i64 x.sk.sum, .int .i64 x.sk.min, .int .i64 x.sk.max, .slice a1 n1 c1, .slice a2 n2 c2, .slice a3 n3 c3] 39) := HT.out.1.drew
  have sz0 : w.heap.size + 1 < W0.drew.heap.size := HT.out.2.1.drew.lt
  refine wp_region_held (S := fun W => Blk W w.heap.size #[.int .i64 x.key, .int .i64 x.window, .slice b l c, .int .i64 x.sk.count, .int .i64 x.sk.sum, .int .i64 x.sk.min, .int .i64 x.sk.max, .slice a1 n1 c1, .slice a2 n2 c2, .slice a3 n3 c3] 39) (by kernel_rfl) ?_
  change wpAnyH _ _ _ _ _ _ _ _ (World.drew _)
  refine takeH (o := ?o1) 0 (.pointer (some ⟨w.heap.size, 0, none⟩)) ?h1 ?r1
  case h1 => simp only [aT, aZ]; rfl
  refine ⟨_, by simp [Act.put]; rfl, by kernel_rfl, by kernel_rfl, by kernel_rfl, fun _ _ _ h => h, (.inl ⟨rfl, fun W _ => by go_simp⟩), HS.out, ?_⟩
  refine takeH (o := ?o2) 1 (.int .i64 x.key) ?h2 ?r2
  case h2 => simp only [aT, aS, aZ]; rfl
  refine ⟨_, by simp [Act.put]; rfl, by kernel_rfl, by kernel_rfl, by kernel_rfl, fun _ _ _ h => h, (.inl ⟨rfl, fun W hW => by have c := hW.cell 0; simp only [aT, aZ] at c; go_simp⟩), HS.out, ?_⟩
  refine takeH (o := ?o3) 2 (.pointer (some ⟨w.heap.size, 1, none⟩)) ?h3 ?r3
  case h3 => simp only [aT, aS, aZ]; rfl
  refine ⟨_, by simp [Act.put]; rfl, by kernel_rfl, by kernel_rfl, by kernel_rfl, fun _ _ _ h => h, (.inl ⟨rfl, fun W _ => by go_simp⟩), HS.out, ?_⟩
  refine takeH (o := ?o4) 3 (.int .i64 x.window) ?h4 ?r4
  case h4 => simp only [aT, aS, aZ]; rfl
  refine ⟨_, by simp [Act.put]; rfl, by kernel_rfl, by kernel_rfl, by kernel_rfl, fun _ _ _ h => h, (.inl ⟨rfl, fun W hW => by have c := hW.cell 1; simp only [aT, aS, aZ] at c; go_simp⟩), HS.out, ?_⟩
  refine takeH (o := ?o5) 4 (.pointer (some ⟨w.heap.size, 2, none⟩)) ?h5 ?r5
  case h5 => simp only [aT, aS, aZ]; rfl
  refine ⟨_, by simp [Act.put]; rfl, by kernel_rfl, by kernel_rfl, by kernel_rfl, fun _ _ _ h => h, (.inl ⟨rfl, fun W _ => by go_simp⟩), HS.out, ?_⟩
  refine takeH (o := ?o6) 5 (.slice b l c) ?h6 ?r6
  case h6 => simp only [aT, aS, aZ]; rfl
  refine ⟨_, by simp [Act.put]; rfl, by kernel_rfl, by kernel_rfl, by kernel_rfl, fun _ _ _ h => h, (.inl ⟨rfl, fun W hW => by have c := hW.cell 2; simp only [aT, aS, aZ] at c; go_simp⟩), HS.out, ?_⟩
  refine takeH (o := ?o7) 7 (.pointer (some ⟨w.heap.size, 3, none⟩)) ?h7 ?r7
  case h7 => simp only [aT, aS, aZ]; rfl
  refine ⟨_, by simp [Act.put]; rfl, by kernel_rfl, by kernel_rfl, by kernel_rfl, fun _ _ _ h => h, (.inl ⟨rfl, fun W _ => by go_simp⟩), HS.out, ?_⟩
  refine takeH (o := ?o8) 8 (.agg #[.int .i64 x.sk.count, .int .i64 x.sk.sum, .int .i64 x.sk.min, .int .i64 x.sk.max, .slice a1 n1 c1, .slice a2 n2 c2, .slice a3 n3 c3]) ?h8 ?r8
  case h8 => simp only [aT, aS, aZ]; rfl
  refine ⟨_, by simp [Act.put]; rfl, by kernel_rfl, by kernel_rfl, by kernel_rfl, fun _ _ _ h => h, (yields_cut 37 w.heap.size 3 7 _ #[.int .i64 x.sk.count, .int .i64 x.sk.sum, .int .i64 x.sk.min, .int .i64 x.sk.max, .slice a1 n1 c1, .slice a2 n2 c2, .slice a3 n3 c3] 39 _ rfl rfl rfl Try.underlying37 rfl infoSkI (by simp) rfl (fun W hW => hW)), HS.out, ?_⟩
  refine onlyH (o := ?o9) 6 (by kernel_rfl) ?h9 ?r9
  case h9 => simp only [aT, aS, aZ]; rfl
  intro K hK
  refine op_call1 56 _ _ Try.f56 (fun v w' => ∃ a len cap F, v = .slice a len cap ∧ RdP w' a len x.ids F ∧ Own W0.drew.heap.size w' F ∧ Below W0.drew.heap.size W0.drew w' ∧ Capd a len cap) rfl rfl Try.func56 (by kernel_rfl) (by kernel_rfl) ((l5Copy_any b l c x.ids F W0.drew (HP.out.1.below HT.out.2.2.drew) HP.out.2.2.1 HP.out.2.2.2).mono (by rintro e w' ⟨a, len, cap, F, rfl, h1, h2, h3, h4⟩; exact ⟨_, rfl, a, len, cap, F, rfl, h1, h2, h3, h4⟩)) ?_
  rintro _ w1 ⟨aj, lj, cj, Fj, rfl, rj, oj, bz, hcj⟩
  refine ⟨_, by simp [Act.put]; rfl, hK _ _ ⟨HS.out.below bz, ?_⟩⟩
  have HJ : Hid (RdP w1 aj lj x.ids Fj ∧ Own (w.heap.size + 2) w1 Fj ∧ Capd aj lj cj) := ⟨rj, oj.mono (by omega), hcj⟩
  have HS1 : Hid (Blk w1 w.heap.size #[.int .i64 x.key, .int .i64 x.window, .slice b l c, .int .i64 x.sk.count, .int .i64 x.sk.sum, .int .i64 x.sk.min, .int .i64 x.sk.max, .slice a1 n1 c1, .slice a2 n2 c2, .slice a3 n3 c3] 39) := HS.out.below bz
  have HZ1 : Hid (Blk w1 (w.heap.size + 1) #[.int .i64 0, .int .i64 0, .slice none 0 0, .int .i64 0, .int .i64 0, .int .i64 0, .int .i64 0, .slice none 0 0, .slice none 0 0, .slice none 0 0] 39 ∧ Below w.heap.size w w1) := ⟨HT.out.2.1.drew.below bz, Below.next HT.out.2.2.drew bz⟩
  clear hK bz rj oj HS hcj
  refine onlyH (o := ?o10) 9 (by kernel_rfl) ?h10 ?r10
  case h10 => simp only [aT, aS, aZ]; rfl
  intro K hK
  have cop : Calls Try.prog 68 #[.agg #[.int .i64 x.sk.count, .int .i64 x.sk.sum, .int .i64 x.sk.min, .int .i64 x.sk.max, .slice a1 n1 c1, .slice a2 n2 c2, .slice a3 n3 c3]] w1 fun e w' => ∃ v, e = .returned v ∧ ∃ X, RdSk w' v x.sk X ∧ Own w1.heap.size w' X ∧ Below w1.heap.size w1 w' := by
    exact (l3Copy_all _ x.sk G w1 (HP.out.2.1.below HZ1.out.2) HK.out).mono (by rintro e w' ⟨v, X, rfl, h1, h2, h3⟩; exact ⟨_, rfl, X, h1, h2, h3⟩)
  refine op_call1 68 _ _ Try.f68 (fun v w' => ∃ X, RdSk w' v x.sk X ∧ Own w1.heap.size w' X ∧ Below w1.heap.size w1 w') rfl rfl Try.func68 (by kernel_rfl) (by kernel_rfl) cop ?_
  clear cop
  rintro vm w2 ⟨X, rm, om, bz⟩
  obtain ⟨e1, r1, f1, e2, r2, f2, e3, r3, f3, rfl⟩ := rm.cells7
  refine ⟨_, by simp [Act.put]; rfl, hK _ _ ⟨HS1.out.below bz, ?_⟩⟩
  have HS2 : Hid (Blk w2 w.heap.size #[.int .i64 x.key, .int .i64 x.window, .slice b l c, .int .i64 x.sk.count, .int .i64 x.sk.sum, .int .i64 x.sk.min, .int .i64 x.sk.max, .slice a1 n1 c1, .slice a2 n2 c2, .slice a3 n3 c3] 39) := HS1.out.below bz
  have HZ2 : Hid (Blk w2 (w.heap.size + 1) #[.int .i64 0, .int .i64 0, .slice none 0 0, .int .i64 0, .int .i64 0, .int .i64 0, .int .i64 0, .slice none 0 0, .slice none 0 0, .slice none 0 0] 39 ∧ Below w.heap.size w w2) := ⟨HZ1.out.1.below bz, Below.next HZ1.out.2 bz⟩
  have HJ2 : Hid (RdP w2 aj lj x.ids Fj ∧ Own (w.heap.size + 2) w2 Fj ∧ RdSk w2 (.agg #[.int .i64 x.sk.count, .int .i64 x.sk.sum, .int .i64 x.sk.min, .int .i64 x.sk.max, .slice e1 r1 f1, .slice e2 r2 f2, .slice e3 r3 f3]) x.sk X ∧ Own (w.heap.size + 2) w2 X ∧ ∀ b ∈ Fj, b ∉ X) := ⟨HJ.out.1.below bz, HJ.out.2.1.below HJ.out.1.lt bz, rm, om.mono HZ1.out.1.lt, fun b hb hx => by have := HJ.out.1.lt b hb; have := om.ge b hx; omega⟩
  clear hK bz rm om HS1 HZ1
  refine takeH (o := ?o11) 10 (.agg #[.int .i64 x.key, .int .i64 x.window, .slice aj lj cj, .int .i64 x.sk.count, .int .i64 x.sk.sum, .int .i64 x.sk.min, .int .i64 x.sk.max, .slice e1 r1 f1, .slice e2 r2 f2, .slice e3 r3 f3]) ?h11 ?r11
  case h11 => simp only [aT, aS, aZ]; rfl
  refine ⟨_, by simp [Act.put]; rfl, by kernel_rfl, by kernel_rfl, by kernel_rfl, fun _ _ _ h => h, (.inl ⟨rfl, fun W _ => by go_simp⟩), HS2.out, ?_⟩
  refine onlyH (o := ?o12) 11 (by kernel_rfl) ?h12 ?r12
  case h12 => simp only [aT, aS, aZ]; rfl
  intro K hK
  refine op_store 39 (w.heap.size + 1) #[.int .i64 0, .int .i64 0, .slice none 0 0, .int .i64 0, .int .i64 0, .int .i64 0, .int .i64 0, .slice none 0 0, .slice none 0 0, .slice none 0 0] #[.int .i64 x.key, .int .i64 x.window, .slice aj lj cj, .int .i64 x.sk.count, .int .i64 x.sk.sum, .int .i64 x.sk.min, .int .i64 x.sk.max, .slice e1 r1 f1, .slice e2 r2 f2, .slice e3 r3 f3] 39 rfl rfl rfl rfl HZ2.out.1 (by kernel_rfl) rfl (by simp [Value.oneCell']) ⟨_, by simp [Act.put]; rfl, hK _ _ ⟨HS2.out.setRowOther (by omega), ?_⟩⟩
  clear hK
  refine wpAnyH_done (by kernel_rfl) ?_ _
  have nf : w.heap.size + 1 ∉ Fj := fun hx => by have := HJ2.out.2.1.ge _ hx; omega
  have nx : w.heap.size + 1 ∉ X := fun hx => by have := HJ2.out.2.2.2.1.ge _ hx; omega
  obtain ⟨E, hE⟩ : ∃ E : Array Value, E = #[.int .i64 x.key, .int .i64 x.window, .slice aj lj cj, .int .i64 x.sk.count, .int .i64 x.sk.sum, .int .i64 x.sk.min, .int .i64 x.sk.max, .slice e1 r1 f1, .slice e2 r2 f2, .slice e3 r3 f3] := ⟨_, rfl⟩
  rw [← hE]
  obtain ⟨w3, hw3⟩ : ∃ W, W = w2.setRow (w.heap.size + 1) E := ⟨_, rfl⟩
  have HF : Hid (Blk w3 (w.heap.size + 1) E 39 ∧ RdP w3 aj lj x.ids Fj ∧ Own w.heap.size w3 Fj ∧ RdSk w3 (.agg #[.int .i64 x.sk.count, .int .i64 x.sk.sum, .int .i64 x.sk.min, .int .i64 x.sk.max, .slice e1 r1 f1, .slice e2 r2 f2, .slice e3 r3 f3]) x.sk X ∧ Own w.heap.size w3 X ∧ (∀ b ∈ Fj, b ∉ X) ∧ Below w.heap.size w w3) := by
    rw [hw3]
    exact ⟨HZ2.out.1.setRow, HJ2.out.1.agree (Agree.row nf E), (HJ2.out.2.1.agree (Agree.row nf E)).mono (by omega), HJ2.out.2.2.1.agree (Agree.row nx E), (HJ2.out.2.2.2.1.agree (Agree.row nx E)).mono (by omega), HJ2.out.2.2.2.2, below_setRow HZ2.out.2 (by omega) _⟩
  have HE : Hid (E = #[.int .i64 x.key, .int .i64 x.window, .slice aj lj cj, .int .i64 x.sk.count, .int .i64 x.sk.sum, .int .i64 x.sk.min, .int .i64 x.sk.max, .slice e1 r1 f1, .slice e2 r2 f2, .slice e3 r3 f3] ∧ E.size = 10) := ⟨hE, by rw [hE]; rfl⟩
  rw [← hw3]
  clear hE hw3 HJ2 HZ2 HS2 nf nx
  go_wp2
  refine bodyPost_ret (results_cell_row Try.results47 _ _ (w.heap.size + 1) _ _ (0, 0) _ rfl HF.out.1 Try.underlying39 rfl (by rw [HE.out.2]; exact infoEnC10)) rfl ?_
  exact ⟨_, Fj, X, rfl, ⟨aj, lj, cj, e1, r1, f1, e2, r2, f2, e3, r3, f3, by rw [HE.out.1], HF.out.2.1, HF.out.2.2.2.1, HJ.out.2.2⟩, HF.out.2.2.1, HF.out.2.2.2.2.1, HF.out.2.2.2.2.2.1, HF.out.2.2.2.2.2.2⟩
set_option maxRecDepth 200000 in
theorem l6Copy_en (v : Value) (x : En) (F : List Nat) (w : World) (h : RdE w v x F) (hf : x.fits) :
    Calls Try.prog 47 #[v] w fun e w' => ∃ v F, e = .returned v ∧ RdE w' v x F ∧ Own w.heap.size w' F ∧ Below w.heap.size w w' := by
  obtain ⟨F1, F2, rfl, h⟩ := h
  obtain ⟨b, l, c, a1, n1, c1, a2, n2, c2, a3, n3, c3, rfl, h'⟩ := h
  refine (l6Copy_all _ x F1 F2 w ⟨b, l, c, a1, n1, c1, a2, n2, c2, a3, n3, c3, rfl, h'⟩ hf.1 hf.2).mono ?_
  rintro e w' ⟨v, F, G, rfl, r, o, o', d, bz⟩
  exact ⟨v, F ++ G, rfl, ⟨F, G, rfl, r⟩, o.app o' d, bz⟩
end Go.Proofs.Ytillnoeailnnfaa
/- The model's l10Copy. No statement of the seat is proved here. -/
namespace Go.Proofs.Ytillnoeailnnfaa
open Go.RowKit
set_option maxRecDepth 200000 in
set_option maxHeartbeats 8000000 in
theorem l10Copy_grow (v : Value) (x : Rw) (F0 : List Nat) (w : World) (h : RdRw w v x F0) (hf : x.fits) :
    Calls Try.prog 29 #[v] w fun e w' => NewRwG w x.list e w' := by
  obtain ⟨j0, hj, hy0, hy1, hy2⟩ := info_parts infoEnG
  obtain ⟨a, n, c, rfl, hL, hcp⟩ := h
  have hn1 : n ≤ 1048576 := by rw [← hL.length]; exact hf.len
  have HL : Hid (RdL enK w a n x.list F0 ∧ (∀ y ∈ x.list, y.fits) ∧ x.list.length = n) := ⟨hL, hf.each, hL.length⟩
  clear hL hf hcp
  have HT0 : Hid (_ ∧ _ ∧ _) := two_made w #[.slice a n c] #[.slice none 0 0] 29 29
  go_enter Try.func29, Try.ntmps29
  go_wp2_with (first | go_skip | (with_reducible refine stopStore 29 rfl ?_))
  refine store_fresh 29 (w.heap.size + 1 + 1) (by simp) #[.slice none 0 0] #[.slice none 0 0] 29 rfl rfl rfl rfl (rwSize rfl) rfl (by simp [Value.oneCell']) ?_
  intro w1 hg hb
  have HT1 : Hid (Three w #[.slice a n c] 29 #[.slice none 0 0] #[.slice none 0 0] 29 w1) := ⟨HT0.out.1.below hb, HT0.out.2.1.below hb, hg, Below.next HT0.out.2.2 hb⟩
  clear hg hb HT0
  have hz1 : w.heap.size + 3 ≤ w1.heap.size := HT1.out.size
  go_wp2
  go_loopw [4] (fun i wr => ∃ (k : Nat) (v : Value) (vs : List Value) (GG : List Nat), k ≤ n ∧ i = .int .i64 k ∧ Hid (CopyR w #[.slice a n c] 29 29 x.list w1.heap.size k v vs GG wr)) (fun i _ => n - (intOf i).toNat)
  case atStart => exact ⟨0, .slice none 0 0, [], [], by omega, rfl, ⟨HT1.out, GrowL.start (Nat.le_refl _), hz1⟩⟩
  case round =>
    obtain ⟨k, v, vs, GG, hk, rfl, CSS⟩ := hrel
    have e4 := CSS.out.three.box.cell 0
    simp only [aT, aZ] at e4
    by_cases hlt : k < n
    · have hI : (k : Int) < (n : Int) := by omega
      obtain ⟨b, off, y, cs, Fi, rfl, hbw, hy, hcs, hcc, hr⟩ := ens_at HL.out.1 hlt
      have HY : Hid (x.list[k]? = some y ∧ y.fits ∧ cs.size = 10 ∧ RdE w (.agg cs) y Fi) := ⟨hy, HL.out.2.1 y (List.mem_of_getElem? hy), hcs, hr⟩
      have HC : Hid (∀ W, Blk W w.heap.size #[.slice (some ⟨b, off, none⟩) n c] 29 ∧ Below w.heap.size w W → W.cell? ⟨w.heap.size, 0, none⟩ = some (.slice (some ⟨b, off, none⟩) n c) ∧ ∀ j, j < 10 → W.cell? ⟨b, off + k * 10 + j, none⟩ = cs[j]?) := fun W hW => ⟨by rw [hW.1.cell]; rfl, fun j hj => by
        have q : W.cell? ⟨b, off + k * 10 + j, none⟩ = w.cell? ⟨b, off + k * 10 + j, none⟩ := hW.2.cell (p := ⟨b, off + k * 10 + j, none⟩) hbw
        exact q.trans (hcc j hj)⟩
      clear hbw hcs hcc hr hy
      go_wp2_with fail
      clear e4
      have CSd : Hid (CopyR w #[.slice (some ⟨b, off, none⟩) n c] 29 29 x.list w1.heap.size k v vs GG wr.drew) := CSS.out.below (Below.refl _ _).drew
      obtain ⟨Y0, hY0⟩ : ∃ Y, Y = wr.drew := ⟨_, rfl⟩
      rw [← hY0] at CSd
      have HLim : Hid ((∀ b ∈ GG, b < Y0.heap.size) ∧ (∀ b, v.ownBlock = some b → b < Y0.heap.size) ∧ w1.heap.size ≤ Y0.heap.size) := CSd.out.grow.lts
      clear CSS
      refine wp_region_held (S := fun W => Blk W w.heap.size #[.slice (some ⟨b, off, none⟩) n c] 29 ∧ Below w.heap.size w W) (by kernel_rfl) ?_
      change wpAnyH _ _ _ _ _ _ _ _ (World.drew _)
      rw [← hY0]
      clear hY0
      refine takeH (o := ?o1) 0 (.pointer (some ⟨w.heap.size + 1 + 1, 0, none⟩)) ?h1 ?r1
      case h1 => simp only [aT, aZ]; rfl
      refine ⟨_, by simp [Act.put]; rfl, by kernel_rfl, by kernel_rfl, by kernel_rfl, fun _ _ _ h => h, (.inl ⟨rfl, fun W _ => by kernel_rfl⟩), ⟨CSd.out.three.box, CSd.out.three.bel⟩, ?_⟩
      refine takeH (o := ?o2) 2 (.pointer (some ⟨w.heap.size, 0, none⟩)) ?h2 ?r2
      case h2 => simp only [aT, aS, aZ]; rfl
      refine ⟨_, by simp [Act.put]; rfl, by kernel_rfl, by kernel_rfl, by kernel_rfl, fun _ _ _ h => h, (.inl ⟨rfl, fun W _ => by kernel_rfl⟩), ⟨CSd.out.three.box, CSd.out.three.bel⟩, ?_⟩
      refine takeH (o := ?o3) 3 (.slice (some ⟨b, off, none⟩) n c) ?h3 ?r3
      case h3 => simp only [aT, aS, aZ]; rfl
      refine ⟨_, by simp [Act.put]; rfl, by kernel_rfl, by kernel_rfl, by kernel_rfl, fun _ _ _ h => h, (.inl ⟨rfl, fun W hW => by have c := (HC.out W hW).1; go_simp⟩), ⟨CSd.out.three.box, CSd.out.three.bel⟩, ?_⟩
      refine takeH (o := ?o4) 4 (.int .i64 k) ?h4 ?r4
      case h4 => simp only [aT, aS, aZ]; rfl
      refine ⟨_, by simp [Act.put]; rfl, by kernel_rfl, by kernel_rfl, by kernel_rfl, fun _ _ _ h => h, (.inl ⟨rfl, fun W _ => by kernel_rfl⟩), ⟨CSd.out.three.box, CSd.out.three.bel⟩, ?_⟩
      refine takeH (o := ?o5) 5 (.pointer (some ⟨b, off + k * 10, none⟩)) ?h5 ?r5
      case h5 => simp only [aT, aS, aZ]; rfl
      refine ⟨_, by simp [Act.put]; rfl, by kernel_rfl, by kernel_rfl, by kernel_rfl, fun _ _ _ h => h, (.inl ⟨rfl, fun W _ => by go_simp; first | done | (intro h; omega) | (rw [if_pos (by omega)]; rfl)⟩), ⟨CSd.out.three.box, CSd.out.three.bel⟩, ?_⟩
      refine takeH (o := ?o6) 6 (.agg cs) ?h6 ?r6
      case h6 => simp only [aT, aS, aZ]; rfl
      refine ⟨_, by simp [Act.put]; rfl, by kernel_rfl, by kernel_rfl, by kernel_rfl, fun _ _ _ h => h, (yields_at 39 b (off + k * 10) 10 cs _ rfl rfl rfl Try.underlying39 rfl infoEnG2 HY.out.2.2.1 (fun W hW => (HC.out W hW).2)), ⟨CSd.out.three.box, CSd.out.three.bel⟩, ?_⟩
      refine twoH (o := ?o7) (o' := ?p7) 1 7 (by kernel_rfl) ?h7 ?g7 ?r7 ?s7
      case h7 => simp only [aT, aS, aZ]; rfl
      case g7 => simp only [aT, aS, aZ]; rfl
      case r7 =>
        intro K hK
        have co := CSd.out.three.loc.cell 0
        simp only [aT, aZ] at co
        refine op_value v rfl (by go_simp) ⟨_, by simp [Act.put]; rfl, hK _ _ ⟨⟨CSd.out.three.box, CSd.out.three.bel⟩, ?_⟩⟩
        clear hK co
        refine onlyH (o := ?o8) 7 (by kernel_rfl) ?h8 ?r8
        case h8 => simp only [aT, aS, aZ]; rfl
        intro K hK
        refine op_call1 47 _ _ Try.f47 (fun v w' => ∃ F, RdE w' v y F ∧ Own Y0.heap.size w' F ∧ Below Y0.heap.size Y0 w') rfl rfl Try.func47 (by kernel_rfl) (by kernel_rfl) ((l6Copy_en (.agg cs) y Fi Y0 (HY.out.2.2.2.below CSd.out.three.bel) HY.out.2.1).mono (by rintro e w' ⟨v, F, rfl, k1, k2, k3⟩; exact ⟨_, rfl, F, k1, k2, k3⟩)) ?_
        rintro vr Y1 ⟨Fr, rr, ro, rb⟩
        obtain ⟨ds, rfl, hd11, hd1⟩ := enK.cells (w := Y1) rr
        have RR1 : Hid (RdE Y1 (.agg ds) y Fr ∧ Own Y0.heap.size Y1 Fr ∧ ds.size = 10 ∧ ds.all (·.oneCell') = true) := ⟨rr, ro.mono (Nat.le_refl _), hd11, hd1⟩
        have CS1 : Hid (CopyR w #[.slice (some ⟨b, off, none⟩) n c] 29 29 x.list w1.heap.size k v vs GG Y1) := CSd.out.below rb
        refine ⟨_, by simp [Act.put]; rfl, hK _ _ ⟨⟨CS1.out.three.box, CS1.out.three.bel⟩, ?_⟩⟩
        clear hK rr ro rb hd11 hd1
        refine onlyH (o := ?o9) 8 (by kernel_rfl) ?h9 ?r9
        case h9 => simp only [aT, aS, aZ]; rfl
        intro K hK
        have bl : Below Y1.heap.size Y1 (Y1.alloc (.cells ds 39)) := (Below.refl _ _).alloc (Nat.le_refl _) _
        have CS2 : Hid (CopyR w #[.slice (some ⟨b, off, none⟩) n c] 29 29 x.list w1.heap.size k v vs GG (Y1.alloc (.cells ds 39))) := CS1.out.below bl
        have RR2 : Hid (RdE (Y1.alloc (.cells ds 39)) (.agg ds) y Fr ∧ Own Y0.heap.size (Y1.alloc (.cells ds 39)) Fr ∧ ds.size = 10 ∧ ds.all (·.oneCell') = true) := ⟨RR1.out.1.below bl, RR1.out.2.1.below RR1.out.1.lt bl, RR1.out.2.2⟩
        have NW2 : Hid (∀ j u, ds.toList[j]? = some u → ((Y1.alloc (.cells ds 39))).cell? ((⟨Y1.heap.size, 0, none⟩ : Addr).add j) = some u) := news_lit _ _ _
        refine op_turn (.slice (some ⟨Y1.heap.size, 0, none⟩) 1 1) (Y1.alloc (.cells ds 39)) rfl (by obtain ⟨_, _, _, _, _, _, _, _, _, _, _, _, _, _, _, ev, _⟩ := RR2.out.1; injection ev with ev; rw [ev]; kernel_rfl) ⟨_, by simp [Act.put]; rfl, hK _ _ ⟨⟨CS2.out.three.box, CS2.out.three.bel⟩, ?_⟩⟩
        clear hK bl
        obtain ⟨L2, hL2⟩ : ∃ z, z = Y1.heap.size := ⟨_, rfl⟩
        obtain ⟨Y2, hY2⟩ : ∃ Z, Z = (Y1.alloc (.cells ds 39)) := ⟨_, rfl⟩
        rw [← hY2, ← hL2] at NW2
        rw [← hY2] at CS2 RR2 ⊢
        rw [← hL2]
        clear hY2 hL2
        refine onlyH (o := ?o10) 9 (by kernel_rfl) ?h10 ?r10
        case h10 => simp only [aT, aS, aZ]; rfl
        intro K hK
        refine op_append Y2 rfl _ _ 27 rfl w1.heap.size 39 j0 (.agg #[.int .i64 0, .int .i64 0, .slice none 0 0, .int .i64 0, .int .i64 0, .int .i64 0, .int .i64 0, .slice none 0 0, .slice none 0 0, .slice none 0 0]) 10 144 Try.underlying27 hj hy0 hy1 hy2 rfl (by decide) v k vs rfl CS2.out.grow.row ⟨L2, 0, none⟩ 1 1 ds.toList rfl (by rw [Array.length_toList, RR2.out.2.2.1]) NW2.out (fun u hu => (Array.all_eq_true_iff_forall_mem.1 RR2.out.2.2.2) u (by simpa using hu)) (by decide) (by unfold maxLen; omega) (by omega) CS2.out.grow.lw _ rfl ?_
        intro g4 cp4 Y3 hown hgrow hat _
        have GS := CS2.out.grow.step HY.out.1 RR2.out.1 RR2.out.2.2.1 RR2.out.2.1 HLim.out.1 HLim.out.2.1 HLim.out.2.2 hown hgrow hat
        have ST := CS2.out.step hgrow GS
        have CS3 : Hid (CopyR w #[.slice (some ⟨b, off, none⟩) n c] 29 29 x.list w1.heap.size (k + 1) (.slice (some ⟨g4, 0, none⟩) (k + 1) cp4) (vs ++ ds.toList) (GG ++ Fr) (Y3.setCell ⟨w.heap.size + 1 + 1, 0, none⟩ (.slice (some ⟨g4, 0, none⟩) (k + 1) cp4)) ∧ Blk Y3 w.heap.size #[.slice (some ⟨b, off, none⟩) n c] 29 ∧ Below w.heap.size w Y3) := ⟨ST.1, ST.2.1, ST.2.2.1⟩
        have co := ST.2.2.2.cell 0
        have fo := ST.2.2.2.frozen 0
        simp only [aT, aZ] at co
        refine ⟨_, by simp [Act.put]; rfl, hK _ _ ⟨CS3.out.2, ?_⟩⟩
        clear hK hown hgrow hat ST GS
        refine takeH (o := ?o11) 10 (.pointer (some ⟨w.heap.size + 1 + 1, 0, none⟩)) ?h11 ?r11
        case h11 => simp only [aT, aS, aZ]; rfl
        refine ⟨_, by simp [Act.put]; rfl, by kernel_rfl, by kernel_rfl, by kernel_rfl, fun _ _ _ h => h, (.inl ⟨rfl, fun W _ => by kernel_rfl⟩), CS3.out.2, ?_⟩
        refine onlyH (o := ?o12) 11 (by kernel_rfl) ?h12 ?r12
        case h12 => simp only [aT, aS, aZ]; rfl
        intro K hK
        refine op_skip (Y3.setCell ⟨w.heap.size + 1 + 1, 0, none⟩ (.slice (some ⟨g4, 0, none⟩) (k + 1) cp4)) rfl (by go_simp) ⟨_, by simp [Act.put]; rfl, hK _ _ ⟨⟨CS3.out.1.three.box, CS3.out.1.three.bel⟩, ?_⟩⟩
        clear hK co fo
        refine wpAnyH_done (by kernel_rfl) ?_ _
        have HF : Hid (CopyR w #[.slice (some ⟨b, off, none⟩) n c] 29 29 x.list w1.heap.size (k + 1) (.slice (some ⟨g4, 0, none⟩) (k + 1) cp4) (vs ++ ds.toList) (GG ++ Fr) (Y3.setCell ⟨w.heap.size + 1 + 1, 0, none⟩ (.slice (some ⟨g4, 0, none⟩) (k + 1) cp4))) := CS3.out.1
        obtain ⟨YZ, hYZ⟩ : ∃ Z, Z = (Y3.setCell ⟨w.heap.size + 1 + 1, 0, none⟩ (.slice (some ⟨g4, 0, none⟩) (k + 1) cp4)) := ⟨_, rfl⟩
        rw [← hYZ] at HF ⊢
        clear hYZ CS3
        go_wp2
        go_roundw
        case rel => exact ⟨k + 1, _, _, _, by omega, by go_num, HF.out⟩
        case measure => simp [intOf]; omega
      case s7 =>
        intro K hK
        refine op_call1 47 _ _ Try.f47 (fun v w' => ∃ F, RdE w' v y F ∧ Own Y0.heap.size w' F ∧ Below Y0.heap.size Y0 w') rfl rfl Try.func47 (by kernel_rfl) (by kernel_rfl) ((l6Copy_en (.agg cs) y Fi Y0 (HY.out.2.2.2.below CSd.out.three.bel) HY.out.2.1).mono (by rintro e w' ⟨v, F, rfl, k1, k2, k3⟩; exact ⟨_, rfl, F, k1, k2, k3⟩)) ?_
        rintro vr Y4 ⟨Fr, rr, ro, rb⟩
        obtain ⟨ds, rfl, hd11, hd1⟩ := enK.cells (w := Y4) rr
        have RR4 : Hid (RdE Y4 (.agg ds) y Fr ∧ Own Y0.heap.size Y4 Fr ∧ ds.size = 10 ∧ ds.all (·.oneCell') = true) := ⟨rr, ro.mono (Nat.le_refl _), hd11, hd1⟩
        have CS4 : Hid (CopyR w #[.slice (some ⟨b, off, none⟩) n c] 29 29 x.list w1.heap.size k v vs GG Y4) := CSd.out.below rb
        refine ⟨_, by simp [Act.put]; rfl, hK _ _ ⟨⟨CS4.out.three.box, CS4.out.three.bel⟩, ?_⟩⟩
        clear hK rr ro rb hd11 hd1
        refine twoH (o := ?o13) (o' := ?p13) 1 8 (by kernel_rfl) ?h13 ?g13 ?r13 ?s13
        case h13 => simp only [aT, aS, aZ]; rfl
        case g13 => simp only [aT, aS, aZ]; rfl
        case r13 =>
          intro K hK
          have co := CS4.out.three.loc.cell 0
          simp only [aT, aZ] at co
          refine op_value v rfl (by go_simp) ⟨_, by simp [Act.put]; rfl, hK _ _ ⟨⟨CS4.out.three.box, CS4.out.three.bel⟩, ?_⟩⟩
          clear hK co
          refine onlyH (o := ?o14) 8 (by kernel_rfl) ?h14 ?r14
          case h14 => simp only [aT, aS, aZ]; rfl
          intro K hK
          have bl : Below Y4.heap.size Y4 (Y4.alloc (.cells ds 39)) := (Below.refl _ _).alloc (Nat.le_refl _) _
          have CS5 : Hid (CopyR w #[.slice (some ⟨b, off, none⟩) n c] 29 29 x.list w1.heap.size k v vs GG (Y4.alloc (.cells ds 39))) := CS4.out.below bl
          have RR5 : Hid (RdE (Y4.alloc (.cells ds 39)) (.agg ds) y Fr ∧ Own Y0.heap.size (Y4.alloc (.cells ds 39)) Fr ∧ ds.size = 10 ∧ ds.all (·.oneCell') = true) := ⟨RR4.out.1.below bl, RR4.out.2.1.below RR4.out.1.lt bl, RR4.out.2.2⟩
          have NW5 : Hid (∀ j u, ds.toList[j]? = some u → ((Y4.alloc (.cells ds 39))).cell? ((⟨Y4.heap.size, 0, none⟩ : Addr).add j) = some u) := news_lit _ _ _
          refine op_turn (.slice (some ⟨Y4.heap.size, 0, none⟩) 1 1) (Y4.alloc (.cells ds 39)) rfl (by obtain ⟨_, _, _, _, _, _, _, _, _, _, _, _, _, _, _, ev, _⟩ := RR5.out.1; injection ev with ev; rw [ev]; kernel_rfl) ⟨_, by simp [Act.put]; rfl, hK _ _ ⟨⟨CS5.out.three.box, CS5.out.three.bel⟩, ?_⟩⟩
          clear hK bl
          obtain ⟨L5, hL5⟩ : ∃ z, z = Y4.heap.size := ⟨_, rfl⟩
          obtain ⟨Y5, hY5⟩ : ∃ Z, Z = (Y4.alloc (.cells ds 39)) := ⟨_, rfl⟩
          rw [← hY5, ← hL5] at NW5
          rw [← hY5] at CS5 RR5 ⊢
          rw [← hL5]
          clear hY5 hL5
          refine onlyH (o := ?o15) 9 (by kernel_rfl) ?h15 ?r15
          case h15 => simp only [aT, aS, aZ]; rfl
          intro K hK
          refine op_append Y5 rfl _ _ 27 rfl w1.heap.size 39 j0 (.agg #[.int .i64 0, .int .i64 0, .slice none 0 0, .int .i64 0, .int .i64 0, .int .i64 0, .int .i64 0, .slice none 0 0, .slice none 0 0, .slice none 0 0]) 10 144 Try.underlying27 hj hy0 hy1 hy2 rfl (by decide) v k vs rfl CS5.out.grow.row ⟨L5, 0, none⟩ 1 1 ds.toList rfl (by rw [Array.length_toList, RR5.out.2.2.1]) NW5.out (fun u hu => (Array.all_eq_true_iff_forall_mem.1 RR5.out.2.2.2) u (by simpa using hu)) (by decide) (by unfold maxLen; omega) (by omega) CS5.out.grow.lw _ rfl ?_
          intro g4 cp4 Y6 hown hgrow hat _
          have GS := CS5.out.grow.step HY.out.1 RR5.out.1 RR5.out.2.2.1 RR5.out.2.1 HLim.out.1 HLim.out.2.1 HLim.out.2.2 hown hgrow hat
          have ST := CS5.out.step hgrow GS
          have CS6 : Hid (CopyR w #[.slice (some ⟨b, off, none⟩) n c] 29 29 x.list w1.heap.size (k + 1) (.slice (some ⟨g4, 0, none⟩) (k + 1) cp4) (vs ++ ds.toList) (GG ++ Fr) (Y6.setCell ⟨w.heap.size + 1 + 1, 0, none⟩ (.slice (some ⟨g4, 0, none⟩) (k + 1) cp4)) ∧ Blk Y6 w.heap.size #[.slice (some ⟨b, off, none⟩) n c] 29 ∧ Below w.heap.size w Y6) := ⟨ST.1, ST.2.1, ST.2.2.1⟩
          have co := ST.2.2.2.cell 0
          have fo := ST.2.2.2.frozen 0
          simp only [aT, aZ] at co
          refine ⟨_, by simp [Act.put]; rfl, hK _ _ ⟨CS6.out.2, ?_⟩⟩
          clear hK hown hgrow hat ST GS
          refine takeH (o := ?o16) 10 (.pointer (some ⟨w.heap.size + 1 + 1, 0, none⟩)) ?h16 ?r16
          case h16 => simp only [aT, aS, aZ]; rfl
          refine ⟨_, by simp [Act.put]; rfl, by kernel_rfl, by kernel_rfl, by kernel_rfl, fun _ _ _ h => h, (.inl ⟨rfl, fun W _ => by kernel_rfl⟩), CS6.out.2, ?_⟩
          refine onlyH (o := ?o17) 11 (by kernel_rfl) ?h17 ?r17
          case h17 => simp only [aT, aS, aZ]; rfl
          intro K hK
          refine op_skip (Y6.setCell ⟨w.heap.size + 1 + 1, 0, none⟩ (.slice (some ⟨g4, 0, none⟩) (k + 1) cp4)) rfl (by go_simp) ⟨_, by simp [Act.put]; rfl, hK _ _ ⟨⟨CS6.out.1.three.box, CS6.out.1.three.bel⟩, ?_⟩⟩
          clear hK co fo
          refine wpAnyH_done (by kernel_rfl) ?_ _
          have HF : Hid (CopyR w #[.slice (some ⟨b, off, none⟩) n c] 29 29 x.list w1.heap.size (k + 1) (.slice (some ⟨g4, 0, none⟩) (k + 1) cp4) (vs ++ ds.toList) (GG ++ Fr) (Y6.setCell ⟨w.heap.size + 1 + 1, 0, none⟩ (.slice (some ⟨g4, 0, none⟩) (k + 1) cp4))) := CS6.out.1
          obtain ⟨YZ, hYZ⟩ : ∃ Z, Z = (Y6.setCell ⟨w.heap.size + 1 + 1, 0, none⟩ (.slice (some ⟨g4, 0, none⟩) (k + 1) cp4)) := ⟨_, rfl⟩
          rw [← hYZ] at HF ⊢
          clear hYZ CS6
          go_wp2
          go_roundw
          case rel => exact ⟨k + 1, _, _, _, by omega, by go_num, HF.out⟩
          case measure => simp [intOf]; omega
        case s13 =>
          intro K hK
          have bl : Below Y4.heap.size Y4 (Y4.alloc (.cells ds 39)) := (Below.refl _ _).alloc (Nat.le_refl _) _
          have CS7 : Hid (CopyR w #[.slice (some ⟨b, off, none⟩) n c] 29 29 x.list w1.heap.size k v vs GG (Y4.alloc (.cells ds 39))) := CS4.out.below bl
          have RR7 : Hid (RdE (Y4.alloc (.cells ds 39)) (.agg ds) y Fr ∧ Own Y0.heap.size (Y4.alloc (.cells ds 39)) Fr ∧ ds.size = 10 ∧ ds.all (·.oneCell') = true) := ⟨RR4.out.1.below bl, RR4.out.2.1.below RR4.out.1.lt bl, RR4.out.2.2⟩
          have NW7 : Hid (∀ j u, ds.toList[j]? = some u → ((Y4.alloc (.cells ds 39))).cell? ((⟨Y4.heap.size, 0, none⟩ : Addr).add j) = some u) := news_lit _ _ _
          refine op_turn (.slice (some ⟨Y4.heap.size, 0, none⟩) 1 1) (Y4.alloc (.cells ds 39)) rfl (by obtain ⟨_, _, _, _, _, _, _, _, _, _, _, _, _, _, _, ev, _⟩ := RR7.out.1; injection ev with ev; rw [ev]; kernel_rfl) ⟨_, by simp [Act.put]; rfl, hK _ _ ⟨⟨CS7.out.three.box, CS7.out.three.bel⟩, ?_⟩⟩
          clear hK bl
          obtain ⟨L7, hL7⟩ : ∃ z, z = Y4.heap.size := ⟨_, rfl⟩
          obtain ⟨Y7, hY7⟩ : ∃ Z, Z = (Y4.alloc (.cells ds 39)) := ⟨_, rfl⟩
          rw [← hY7, ← hL7] at NW7
          rw [← hY7] at CS7 RR7 ⊢
          rw [← hL7]
          clear hY7 hL7
          refine onlyH (o := ?o18) 1 (by kernel_rfl) ?h18 ?r18
          case h18 => simp only [aT, aS, aZ]; rfl
          intro K hK
          have co := CS7.out.three.loc.cell 0
          simp only [aT, aZ] at co
          refine op_value v rfl (by go_simp) ⟨_, by simp [Act.put]; rfl, hK _ _ ⟨⟨CS7.out.three.box, CS7.out.three.bel⟩, ?_⟩⟩
          clear hK co
          refine onlyH (o := ?o19) 9 (by kernel_rfl) ?h19 ?r19
          case h19 => simp only [aT, aS, aZ]; rfl
          intro K hK
          refine op_append Y7 rfl _ _ 27 rfl w1.heap.size 39 j0 (.agg #[.int .i64 0, .int .i64 0, .slice none 0 0, .int .i64 0, .int .i64 0, .int .i64 0, .int .i64 0, .slice none 0 0, .slice none 0 0, .slice none 0 0]) 10 144 Try.underlying27 hj hy0 hy1 hy2 rfl (by decide) v k vs rfl CS7.out.grow.row ⟨L7, 0, none⟩ 1 1 ds.toList rfl (by rw [Array.length_toList, RR7.out.2.2.1]) NW7.out (fun u hu => (Array.all_eq_true_iff_forall_mem.1 RR7.out.2.2.2) u (by simpa using hu)) (by decide) (by unfold maxLen; omega) (by omega) CS7.out.grow.lw _ rfl ?_
          intro g4 cp4 Y8 hown hgrow hat _
          have GS := CS7.out.grow.step HY.out.1 RR7.out.1 RR7.out.2.2.1 RR7.out.2.1 HLim.out.1 HLim.out.2.1 HLim.out.2.2 hown hgrow hat
          have ST := CS7.out.step hgrow GS
          have CS8 : Hid (CopyR w #[.slice (some ⟨b, off, none⟩) n c] 29 29 x.list w1.heap.size (k + 1) (.slice (some ⟨g4, 0, none⟩) (k + 1) cp4) (vs ++ ds.toList) (GG ++ Fr) (Y8.setCell ⟨w.heap.size + 1 + 1, 0, none⟩ (.slice (some ⟨g4, 0, none⟩) (k + 1) cp4)) ∧ Blk Y8 w.heap.size #[.slice (some ⟨b, off, none⟩) n c] 29 ∧ Below w.heap.size w Y8) := ⟨ST.1, ST.2.1, ST.2.2.1⟩
          have co := ST.2.2.2.cell 0
          have fo := ST.2.2.2.frozen 0
          simp only [aT, aZ] at co
          refine ⟨_, by simp [Act.put]; rfl, hK _ _ ⟨CS8.out.2, ?_⟩⟩
          clear hK hown hgrow hat ST GS
          refine takeH (o := ?o20) 10 (.pointer (some ⟨w.heap.size + 1 + 1, 0, none⟩)) ?h20 ?r20
          case h20 => simp only [aT, aS, aZ]; rfl
          refine ⟨_, by simp [Act.put]; rfl, by kernel_rfl, by kernel_rfl, by kernel_rfl, fun _ _ _ h => h, (.inl ⟨rfl, fun W _ => by kernel_rfl⟩), CS8.out.2, ?_⟩
          refine onlyH (o := ?o21) 11 (by kernel_rfl) ?h21 ?r21
          case h21 => simp only [aT, aS, aZ]; rfl
          intro K hK
          refine op_skip (Y8.setCell ⟨w.heap.size + 1 + 1, 0, none⟩ (.slice (some ⟨g4, 0, none⟩) (k + 1) cp4)) rfl (by go_simp) ⟨_, by simp [Act.put]; rfl, hK _ _ ⟨⟨CS8.out.1.three.box, CS8.out.1.three.bel⟩, ?_⟩⟩
          clear hK co fo
          refine wpAnyH_done (by kernel_rfl) ?_ _
          have HF : Hid (CopyR w #[.slice (some ⟨b, off, none⟩) n c] 29 29 x.list w1.heap.size (k + 1) (.slice (some ⟨g4, 0, none⟩) (k + 1) cp4) (vs ++ ds.toList) (GG ++ Fr) (Y8.setCell ⟨w.heap.size + 1 + 1, 0, none⟩ (.slice (some ⟨g4, 0, none⟩) (k + 1) cp4))) := CS8.out.1
          obtain ⟨YZ, hYZ⟩ : ∃ Z, Z = (Y8.setCell ⟨w.heap.size + 1 + 1, 0, none⟩ (.slice (some ⟨g4, 0, none⟩) (k + 1) cp4)) := ⟨_, rfl⟩
          rw [← hYZ] at HF ⊢
          clear hYZ CS8
          go_wp2
          go_roundw
          case rel => exact ⟨k + 1, _, _, _, by omega, by go_num, HF.out⟩
          case measure => simp [intOf]; omega
    · obtain rfl : k = n := by omega
      obtain ⟨q1, d1, F1, rfl, rL, oL, hcp⟩ := CSS.out.grow.done HL.out.2.2
      have HE : Hid (Three w #[.slice a k c] 29 #[.slice none 0 0] #[.slice q1 k d1] 29 wr ∧ RdL enK wr q1 k x.list F1 ∧ Own w1.heap.size wr F1 ∧ Capd q1 k d1) := ⟨CSS.out.three, rL, oL, hcp⟩
      have HGW : Hid (GrowL enK 39 x.list w1.heap.size k (.slice q1 k d1) vs GG wr ∧ w.heap.size + 3 ≤ w1.heap.size) := ⟨CSS.out.grow, hz1⟩
      clear rL oL hcp CSS
      have hI : ¬ (k : Int) < (k : Int) := by omega
      go_wp2_with (first | go_skip | (with_reducible refine stopLoad 29 rfl ?_))
      refine load_known 29 (w.heap.size + 1 + 1) _ 29 _ HE.out.1.loc rfl rfl rfl Try.underlying29 rfl infoRwI ?_
      go_wp2_with (first | go_skip | (with_reducible refine stopStore 29 rfl ?_))
      refine store_known 29 (w.heap.size + 1) _ #[.slice q1 k d1] 29 HE.out.1.res rfl rfl rfl rfl infoRwI rfl (by simp [Value.oneCell']) ?_
      go_wp2
      refine bodyPost_ret (results_cell_row Try.results29 _ _ (w.heap.size + 1) _ _ (0, 0) _ rfl HE.out.1.res.setRow Try.underlying29 rfl infoRwI) rfl ?_
      have nr : w.heap.size + 1 ∉ F1 := fun hx => by have := HE.out.2.2.1.ge _ hx; omega
      have hk' := HL.out.2.2
      subst hk'
      exact ⟨q1, d1, F1, w1.heap.size, vs, GG, rfl, HE.out.2.1.agree (Agree.row nr _), HE.out.2.2.2, (HE.out.2.2.1.agree (Agree.row nr _)).mono (by omega), below_setRow HE.out.1.bel (by omega) _, HGW.out.1.setRow (by have := HGW.out.2; omega), by have := HGW.out.2; omega⟩
set_option maxRecDepth 200000 in
theorem l10Copy_any (v : Value) (x : Rw) (F0 : List Nat) (w : World) (h : RdRw w v x F0) (hf : x.fits) :
    Calls Try.prog 29 #[v] w fun e w' => NewRw w x e w' := (l10Copy_grow v x F0 w h hf).mono fun _ _ h => h.plain
end Go.Proofs.Ytillnoeailnnfaa
/- The model's RowPop. No statement of the seat is proved here. -/
namespace Go.Proofs.Ytillnoeailnnfaa
open Go.RowKit
set_option maxRecDepth 200000 in
set_option maxHeartbeats 8000000 in
theorem rowPopSpec_any (v : Value) (x : Rw) (F : List Nat) (w : World) (h : RdRw w v x F) (hf : x.fits) :
    Calls Try.prog 11 #[v] w fun e w' => NewPop w x e w' := by
  obtain ⟨j0, hj, hy0, hy1, hy2⟩ := info_parts infoEnG
  have HH : Hid (RdRw w v x F ∧ x.fits) := ⟨h, hf⟩
  obtain ⟨a, n, c, rfl, hL, hcp⟩ := h
  have HN : Hid (x.list.length = n) := hL.length
  have hn : n ≤ 1048576 := by rw [← hL.length]; exact hf.len
  have HP0 : Hid (Pop3 w 29 29 39 #[.slice a n c] _) := Pop3.made w 29 29 39 #[.slice a n c]
  clear hL hf hcp
  go_enter Try.func11, Try.ntmps11
  go_wp2_with (first | go_skip | (with_reducible refine stopLoad 29 rfl ?_))
  refine load_any 29 w.heap.size #[.slice a n c] 29 _ HP0.out.box rfl rfl rfl Try.underlying29 rfl (rwSize rfl) ?_
  go_wp2_with fail
  refine (l10Copy_any _ x F _ (HH.out.1.below HP0.out.bel) HH.out.2).mono ?_
  rintro e w1 ⟨v1, FX, rfl, r1, o1, hb1⟩
  obtain ⟨cs, rfl, hc1, hc2⟩ := r1.cells
  have HP1 : Hid (Pop3 w 29 29 39 #[.slice a n c] w1 ∧ RdRw w1 (.agg cs) x FX ∧ Own (w.heap.size + 3) w1 FX) := ⟨HP0.out.below hb1, r1, o1.mono HP0.out.rb.lt⟩
  obtain ⟨X, hX⟩ : ∃ X, X = w1.heap.size := ⟨_, rfl⟩
  have HC : Hid (cs.size = 1 ∧ cs.all (·.oneCell') = true ∧ w.heap.size + 3 ≤ X) := ⟨hc1, hc2, by rw [hX]; exact HP1.out.1.rb.lt⟩
  clear hc1 hc2 r1 o1 hb1 HP0
  go_wp2_with (first | go_skip | (with_reducible refine stopStore 29 rfl ?_))
  refine store_fresh 29 w1.heap.size rfl #[.slice none 0 0] cs 29 rfl rfl rfl rfl (rwSize HC.out.1) HC.out.1.symm HC.out.2.1 ?_
  intro w2 hg hb
  have HP2 : Hid (Pop3 w 29 29 39 #[.slice a n c] w2 ∧ Blk w2 X cs 29 ∧ RdRw w2 (.agg cs) x FX ∧ Own (w.heap.size + 3) w2 FX ∧ X ∉ FX) := ⟨HP1.out.1.below hb, by rw [hX]; exact hg, HP1.out.2.1.below hb, HP1.out.2.2.below HP1.out.2.1.lt hb, fun hx => by have := HP1.out.2.1.lt _ hx; omega⟩
  rw [← hX]
  clear hg hb HP1 hX
  go_wp2_with (first | go_skip | (with_reducible refine stopLoad 29 rfl ?_))
  refine load_any 29 w.heap.size #[.slice a n c] 29 _ HP2.out.1.box rfl rfl rfl Try.underlying29 rfl (rwSize rfl) ?_
  go_wp2_with fail
  refine (rowOkSpec_any _ x F _ (HH.out.1.below HP2.out.1.bel) HH.out.2.wide).mono ?_
  rintro e WQ ⟨rfl, hb2⟩
  have HPQ : Hid (Pop3 w 29 29 39 #[.slice a n c] WQ ∧ Blk WQ X cs 29 ∧ RdRw WQ (.agg cs) x FX ∧ Own (w.heap.size + 3) WQ FX) := ⟨HP2.out.1.below hb2, HP2.out.2.1.below hb2, HP2.out.2.2.1.below hb2, HP2.out.2.2.2.1.below HP2.out.2.2.1.lt hb2⟩
  have HXX : Hid (X ∉ FX) := HP2.out.2.2.2.2
  obtain ⟨dd, hd⟩ : ∃ d, d = x.ok := ⟨_, rfl⟩
  rw [← hd]
  have HD : Hid (dd = x.ok) := hd
  clear hd hb2 HP2 HH
  have c0 := HPQ.out.1.box.cell 0
  simp only [aT, aZ] at c0
  cases dd
  · have HV : Hid (x.pops = false) := by show _ = _; unfold Rw.pops; rw [← HD.out]; rfl
    go_wp2_with fail
    have HPd : Hid (Pop3 w 29 29 39 #[.slice a n c] WQ.drew ∧ Blk WQ.drew X cs 29 ∧ RdRw WQ.drew (.agg cs) x FX ∧ Own (w.heap.size + 3) WQ.drew FX) := by
      have bd : Below WQ.heap.size WQ WQ.drew := (Below.refl _ _).drew
      exact ⟨HPQ.out.1.below bd, HPQ.out.2.1.below bd, HPQ.out.2.2.1.below bd, HPQ.out.2.2.2.below HPQ.out.2.2.1.lt bd⟩
    obtain ⟨Y0, hY0⟩ : ∃ Y, Y = WQ.drew := ⟨_, rfl⟩
    rw [← hY0] at HPd
    refine wp_region_held (S := fun W => Blk W X cs 29) (by kernel_rfl) ?_
    change wpAnyH _ _ _ _ _ _ _ _ (World.drew _)
    rw [← hY0]
    clear hY0
    refine takeH (o := ?o1) 0 (.agg #[.int .i64 0, .int .i64 0, .slice none 0 0, .int .i64 0, .int .i64 0, .int .i64 0, .int .i64 0, .slice none 0 0, .slice none 0 0, .slice none 0 0]) ?h1 ?r1
    case h1 => simp only [aT, aZ]; rfl
    refine ⟨_, by simp [Act.put]; rfl, by kernel_rfl, by kernel_rfl, by kernel_rfl, fun _ _ _ h => h, (.inl ⟨rfl, fun W _ => by kernel_rfl⟩), HPd.out.2.1, ?_⟩
    refine takeH (o := ?o2) 1 (.agg cs) ?h2 ?r2
    case h2 => simp only [aT, aS, aZ]; rfl
    refine ⟨_, by simp [Act.put]; rfl, by kernel_rfl, by kernel_rfl, by kernel_rfl, fun _ _ _ h => h, (yields_whole 29 X cs 29 _ rfl rfl rfl Try.underlying29 rfl (rwSize HC.out.1) (fun W hW => hW)), HPd.out.2.1, ?_⟩
    refine onlyH (o := ?o3) 2 (by kernel_rfl) ?h3 ?r3
    case h3 => simp only [aT, aS, aZ]; rfl
    intro K hK
    refine op_store 39 (w.heap.size + 1) #[.int .i64 0, .int .i64 0, .slice none 0 0, .int .i64 0, .int .i64 0, .int .i64 0, .int .i64 0, .slice none 0 0, .slice none 0 0, .slice none 0 0] #[.int .i64 0, .int .i64 0, .slice none 0 0, .int .i64 0, .int .i64 0, .int .i64 0, .int .i64 0, .slice none 0 0, .slice none 0 0, .slice none 0 0] 39 rfl rfl rfl rfl HPd.out.1.ra infoEnG2 rfl (by simp [Value.oneCell']) ⟨_, by simp [Act.put]; rfl, hK _ _ ⟨HPd.out.2.1.setRowOther (by have := HC.out.2.2; omega), ?_⟩⟩
    clear hK
    refine onlyH (o := ?o4) 3 (by kernel_rfl) ?h4 ?r4
    case h4 => simp only [aT, aS, aZ]; rfl
    intro K hK
    refine op_store 29 (w.heap.size + 1 + 1) #[.slice none 0 0] cs 29 rfl rfl rfl rfl (HPd.out.1.rb.setRowOther (by omega)) (rwSize HC.out.1) HC.out.1.symm HC.out.2.1 ⟨_, by simp [Act.put]; rfl, hK _ _ ⟨(HPd.out.2.1.setRowOther (by have := HC.out.2.2; omega)).setRowOther (by have := HC.out.2.2; omega), ?_⟩⟩
    clear hK
    refine takeH (o := ?o5) 4 (.bool false) ?h5 ?r5
    case h5 => simp only [aT, aS, aZ]; rfl
    refine ⟨_, by simp [Act.put]; rfl, by kernel_rfl, by kernel_rfl, by kernel_rfl, fun _ _ _ h => h, (.inl ⟨rfl, fun W _ => by kernel_rfl⟩), ((HPd.out.2.1.setRowOther (by have := HC.out.2.2; omega)).setRowOther (by have := HC.out.2.2; omega)), ?_⟩
    refine wpAnyH_done (by kernel_rfl) ?_ _
    have HF : Hid (Blk ((Y0.setRow (w.heap.size + 1) #[.int .i64 0, .int .i64 0, .slice none 0 0, .int .i64 0, .int .i64 0, .int .i64 0, .int .i64 0, .slice none 0 0, .slice none 0 0, .slice none 0 0]).setRow (w.heap.size + 1 + 1) cs) (w.heap.size + 1) #[.int .i64 0, .int .i64 0, .slice none 0 0, .int .i64 0, .int .i64 0, .int .i64 0, .int .i64 0, .slice none 0 0, .slice none 0 0, .slice none 0 0] 39 ∧ Blk ((Y0.setRow (w.heap.size + 1) #[.int .i64 0, .int .i64 0, .slice none 0 0, .int .i64 0, .int .i64 0, .int .i64 0, .int .i64 0, .slice none 0 0, .slice none 0 0, .slice none 0 0]).setRow (w.heap.size + 1 + 1) cs) (w.heap.size + 1 + 1) cs 29 ∧ RdRw ((Y0.setRow (w.heap.size + 1) #[.int .i64 0, .int .i64 0, .slice none 0 0, .int .i64 0, .int .i64 0, .int .i64 0, .int .i64 0, .slice none 0 0, .slice none 0 0, .slice none 0 0]).setRow (w.heap.size + 1 + 1) cs) (.agg cs) x FX ∧ Own w.heap.size ((Y0.setRow (w.heap.size + 1) #[.int .i64 0, .int .i64 0, .slice none 0 0, .int .i64 0, .int .i64 0, .int .i64 0, .int .i64 0, .slice none 0 0, .slice none 0 0, .slice none 0 0]).setRow (w.heap.size + 1 + 1) cs) FX ∧ Below w.heap.size w ((Y0.setRow (w.heap.size + 1) #[.int .i64 0, .int .i64 0, .slice none 0 0, .int .i64 0, .int .i64 0, .int .i64 0, .int .i64 0, .slice none 0 0, .slice none 0 0, .slice none 0 0]).setRow (w.heap.size + 1 + 1) cs)) := by
      have ag : Agree Y0 ((Y0.setRow (w.heap.size + 1) #[.int .i64 0, .int .i64 0, .slice none 0 0, .int .i64 0, .int .i64 0, .int .i64 0, .int .i64 0, .slice none 0 0, .slice none 0 0, .slice none 0 0]).setRow (w.heap.size + 1 + 1) cs) FX := (Agree.row (fun hx => by have := HPd.out.2.2.2.ge _ hx; omega) _).trans (Agree.row (fun hx => by have := HPd.out.2.2.2.ge _ hx; omega) _)
      exact ⟨HPd.out.1.ra.setRow.setRowOther (by omega), (HPd.out.1.rb.setRowOther (by omega)).setRow, HPd.out.2.2.1.agree ag, (HPd.out.2.2.2.agree ag).mono (by omega), below_setRow (below_setRow HPd.out.1.bel (by omega) _) (by omega) _⟩
    obtain ⟨WF, hWF⟩ : ∃ W, W = ((Y0.setRow (w.heap.size + 1) #[.int .i64 0, .int .i64 0, .slice none 0 0, .int .i64 0, .int .i64 0, .int .i64 0, .int .i64 0, .slice none 0 0, .slice none 0 0, .slice none 0 0]).setRow (w.heap.size + 1 + 1) cs) := ⟨_, rfl⟩
    rw [← hWF] at HF ⊢
    clear hWF HPd
    go_wp2
    refine bodyPost_ret (results_row2_tmp Try.results11 _ _ (w.heap.size + 1) (w.heap.size + 1 + 1) 39 29 #[.int .i64 0, .int .i64 0, .slice none 0 0, .int .i64 0, .int .i64 0, .int .i64 0, .int .i64 0, .slice none 0 0, .slice none 0 0, .slice none 0 0] cs _ _ rfl rfl HF.out.1 HF.out.2.1 Try.underlying39 rfl infoEnG2 Try.underlying29 rfl (rwSize HC.out.1)) rfl ?_
    have hq := Rw.pop_not HV.out
    exact ⟨_, _, [], FX, by rw [HV.out]; rfl, by rw [hq.1]; exact rdE_zero _, by rw [hq.2]; exact HF.out.2.2.1, Own.nil, HF.out.2.2.2.1, (by simp), HF.out.2.2.2.2⟩
  by_cases h0 : n = 0
  · have hbe : ((n : Int) == 0) = true := by simp; omega
    have HV : Hid (x.pops = false) := by show _ = _; unfold Rw.pops; rw [HN.out, h0]; simp
    go_wp2_with fail
    have HPd : Hid (Pop3 w 29 29 39 #[.slice a n c] WQ.drew ∧ Blk WQ.drew X cs 29 ∧ RdRw WQ.drew (.agg cs) x FX ∧ Own (w.heap.size + 3) WQ.drew FX) := by
      have bd : Below WQ.heap.size WQ WQ.drew := (Below.refl _ _).drew
      exact ⟨HPQ.out.1.below bd, HPQ.out.2.1.below bd, HPQ.out.2.2.1.below bd, HPQ.out.2.2.2.below HPQ.out.2.2.1.lt bd⟩
    obtain ⟨Y0, hY0⟩ : ∃ Y, Y = WQ.drew := ⟨_, rfl⟩
    rw [← hY0] at HPd
    refine wp_region_held (S := fun W => Blk W X cs 29) (by kernel_rfl) ?_
    change wpAnyH _ _ _ _ _ _ _ _ (World.drew _)
    rw [← hY0]
    clear hY0
    refine takeH (o := ?o6) 0 (.agg #[.int .i64 0, .int .i64 0, .slice none 0 0, .int .i64 0, .int .i64 0, .int .i64 0, .int .i64 0, .slice none 0 0, .slice none 0 0, .slice none 0 0]) ?h6 ?r6
    case h6 => simp only [aT, aZ]; rfl
    refine ⟨_, by simp [Act.put]; rfl, by kernel_rfl, by kernel_rfl, by kernel_rfl, fun _ _ _ h => h, (.inl ⟨rfl, fun W _ => by kernel_rfl⟩), HPd.out.2.1, ?_⟩
    refine takeH (o := ?o7) 1 (.agg cs) ?h7 ?r7
    case h7 => simp only [aT, aS, aZ]; rfl
    refine ⟨_, by simp [Act.put]; rfl, by kernel_rfl, by kernel_rfl, by kernel_rfl, fun _ _ _ h => h, (yields_whole 29 X cs 29 _ rfl rfl rfl Try.underlying29 rfl (rwSize HC.out.1) (fun W hW => hW)), HPd.out.2.1, ?_⟩
    refine onlyH (o := ?o8) 2 (by kernel_rfl) ?h8 ?r8
    case h8 => simp only [aT, aS, aZ]; rfl
    intro K hK
    refine op_store 39 (w.heap.size + 1) #[.int .i64 0, .int .i64 0, .slice none 0 0, .int .i64 0, .int .i64 0, .int .i64 0, .int .i64 0, .slice none 0 0, .slice none 0 0, .slice none 0 0] #[.int .i64 0, .int .i64 0, .slice none 0 0, .int .i64 0, .int .i64 0, .int .i64 0, .int .i64 0, .slice none 0 0, .slice none 0 0, .slice none 0 0] 39 rfl rfl rfl rfl HPd.out.1.ra infoEnG2 rfl (by simp [Value.oneCell']) ⟨_, by simp [Act.put]; rfl, hK _ _ ⟨HPd.out.2.1.setRowOther (by have := HC.out.2.2; omega), ?_⟩⟩
    clear hK
    refine onlyH (o := ?o9) 3 (by kernel_rfl) ?h9 ?r9
    case h9 => simp only [aT, aS, aZ]; rfl
    intro K hK
    refine op_store 29 (w.heap.size + 1 + 1) #[.slice none 0 0] cs 29 rfl rfl rfl rfl (HPd.out.1.rb.setRowOther (by omega)) (rwSize HC.out.1) HC.out.1.symm HC.out.2.1 ⟨_, by simp [Act.put]; rfl, hK _ _ ⟨(HPd.out.2.1.setRowOther (by have := HC.out.2.2; omega)).setRowOther (by have := HC.out.2.2; omega), ?_⟩⟩
    clear hK
    refine takeH (o := ?o10) 4 (.bool false) ?h10 ?r10
    case h10 => simp only [aT, aS, aZ]; rfl
    refine ⟨_, by simp [Act.put]; rfl, by kernel_rfl, by kernel_rfl, by kernel_rfl, fun _ _ _ h => h, (.inl ⟨rfl, fun W _ => by kernel_rfl⟩), ((HPd.out.2.1.setRowOther (by have := HC.out.2.2; omega)).setRowOther (by have := HC.out.2.2; omega)), ?_⟩
    refine wpAnyH_done (by kernel_rfl) ?_ _
    have HF : Hid (Blk ((Y0.setRow (w.heap.size + 1) #[.int .i64 0, .int .i64 0, .slice none 0 0, .int .i64 0, .int .i64 0, .int .i64 0, .int .i64 0, .slice none 0 0, .slice none 0 0, .slice none 0 0]).setRow (w.heap.size + 1 + 1) cs) (w.heap.size + 1) #[.int .i64 0, .int .i64 0, .slice none 0 0, .int .i64 0, .int .i64 0, .int .i64 0, .int .i64 0, .slice none 0 0, .slice none 0 0, .slice none 0 0] 39 ∧ Blk ((Y0.setRow (w.heap.size + 1) #[.int .i64 0, .int .i64 0, .slice none 0 0, .int .i64 0, .int .i64 0, .int .i64 0, .int .i64 0, .slice none 0 0, .slice none 0 0, .slice none 0 0]).setRow (w.heap.size + 1 + 1) cs) (w.heap.size + 1 + 1) cs 29 ∧ RdRw ((Y0.setRow (w.heap.size + 1) #[.int .i64 0, .int .i64 0, .slice none 0 0, .int .i64 0, .int .i64 0, .int .i64 0, .int .i64 0, .slice none 0 0, .slice none 0 0, .slice none 0 0]).setRow (w.heap.size + 1 + 1) cs) (.agg cs) x FX ∧ Own w.heap.size ((Y0.setRow (w.heap.size + 1) #[.int .i64 0, .int .i64 0, .slice none 0 0, .int .i64 0, .int .i64 0, .int .i64 0, .int .i64 0, .slice none 0 0, .slice none 0 0, .slice none 0 0]).setRow (w.heap.size + 1 + 1) cs) FX ∧ Below w.heap.size w ((Y0.setRow (w.heap.size + 1) #[.int .i64 0, .int .i64 0, .slice none 0 0, .int .i64 0, .int .i64 0, .int .i64 0, .int .i64 0, .slice none 0 0, .slice none 0 0, .slice none 0 0]).setRow (w.heap.size + 1 + 1) cs)) := by
      have ag : Agree Y0 ((Y0.setRow (w.heap.size + 1) #[.int .i64 0, .int .i64 0, .slice none 0 0, .int .i64 0, .int .i64 0, .int .i64 0, .int .i64 0, .slice none 0 0, .slice none 0 0, .slice none 0 0]).setRow (w.heap.size + 1 + 1) cs) FX := (Agree.row (fun hx => by have := HPd.out.2.2.2.ge _ hx; omega) _).trans (Agree.row (fun hx => by have := HPd.out.2.2.2.ge _ hx; omega) _)
      exact ⟨HPd.out.1.ra.setRow.setRowOther (by omega), (HPd.out.1.rb.setRowOther (by omega)).setRow, HPd.out.2.2.1.agree ag, (HPd.out.2.2.2.agree ag).mono (by omega), below_setRow (below_setRow HPd.out.1.bel (by omega) _) (by omega) _⟩
    obtain ⟨WF, hWF⟩ : ∃ W, W = ((Y0.setRow (w.heap.size + 1) #[.int .i64 0, .int .i64 0, .slice none 0 0, .int .i64 0, .int .i64 0, .int .i64 0, .int .i64 0, .slice none 0 0, .slice none 0 0, .slice none 0 0]).setRow (w.heap.size + 1 + 1) cs) := ⟨_, rfl⟩
    rw [← hWF] at HF ⊢
    clear hWF HPd
    go_wp2
    refine bodyPost_ret (results_row2_tmp Try.results11 _ _ (w.heap.size + 1) (w.heap.size + 1 + 1) 39 29 #[.int .i64 0, .int .i64 0, .slice none 0 0, .int .i64 0, .int .i64 0, .int .i64 0, .int .i64 0, .slice none 0 0, .slice none 0 0, .slice none 0 0] cs _ _ rfl rfl HF.out.1 HF.out.2.1 Try.underlying39 rfl infoEnG2 Try.underlying29 rfl (rwSize HC.out.1)) rfl ?_
    have hq := Rw.pop_not HV.out
    exact ⟨_, _, [], FX, by rw [HV.out]; rfl, by rw [hq.1]; exact rdE_zero _, by rw [hq.2]; exact HF.out.2.2.1, Own.nil, HF.out.2.2.2.1, (by simp), HF.out.2.2.2.2⟩
  have hbe : ((n : Int) == 0) = false := by simp; omega
  have HV : Hid (x.pops = true) := by show _ = _; unfold Rw.pops; rw [← HD.out, HN.out]; simp; omega
  obtain ⟨q, n', k', ev, hL, hcq⟩ := HPQ.out.2.2.1
  injection ev with ev
  subst ev
  obtain ⟨y, ys, hxs⟩ : ∃ y ys, x.list = y :: ys := by
    cases hh : x.list with
    | nil => have := HN.out; rw [hh] at this; simp at this; omega
    | cons y ys => exact ⟨y, ys, rfl⟩
  rw [hxs] at hL
  obtain ⟨b, off, es, F1, F2, rfl, hn', hFX, hbw, hes, hec, hey, hels⟩ := hL.uncons
  have HX : Hid (x.list = y :: ys ∧ FX = b :: (F1 ++ F2) ∧ es.size = 10 ∧ es.all (·.oneCell') = true) := ⟨hxs, hFX, hes, by obtain ⟨cs', e, _, h1⟩ := RdE.cells hey; injection e with e; rw [e]; exact h1⟩
  have hk : n' ≤ k' := hcq.2
  have hlen : n' ≤ 1048576 := by have := HN.out; rw [hxs] at this; simp at this; omega
  have hI1 : (1 : Int) ≤ (n' : Int) := by omega
  obtain ⟨tw, tc, hta⟩ : ∃ tw tc, (k' = 1 ∧ tw = off ∧ tc = 0) ∨ (k' ≠ 1 ∧ tw = off + 10 ∧ tc = k' - 1) := by
    by_cases h1 : k' = 1
    · exact ⟨_, _, .inl ⟨h1, rfl, rfl⟩⟩
    · exact ⟨_, _, .inr ⟨h1, rfl, rfl⟩⟩
  have HTA : Hid ((k' = 1 ∧ tw = off ∧ tc = 0) ∨ (k' ≠ 1 ∧ tw = off + 10 ∧ tc = k' - 1)) := hta
  have HEL : Hid (RdE WQ (.agg es) y F1 ∧ ElsAt enK WQ (some ⟨b, tw, none⟩) (n' - 1) ys F2 ∧ b < WQ.heap.size ∧ (∀ j, j < 10 → WQ.cell? ⟨b, off + j, none⟩ = es[j]?) ∧ n' = ys.length + 1) := by
    refine ⟨hey, ?_, hbw, hec, hn'⟩
    by_cases h1 : n' = 1
    · have hys : ys = [] := List.eq_nil_of_length_eq_zero (by omega)
      subst hys
      rw [RdEls] at hels
      exact .inl ⟨by omega, rfl, hels⟩
    · rcases hta with ⟨e1, _, _⟩ | ⟨_, rfl, _⟩
      · omega
      · exact .inr ⟨by omega, by omega, b, off + 10, rfl, hels⟩
  have HO : Hid (Own (w.heap.size + 3) WQ F1 ∧ Own (w.heap.size + 3) WQ F2 ∧ (∀ z ∈ F1, z ∉ b :: F2) ∧ b ∉ F1 ∧ b ∉ F2 ∧ w.heap.size + 3 ≤ b ∧ ¬ b = X) := by
    have o3 := HPQ.out.2.2.2
    rw [hFX] at o3
    obtain ⟨p1, p2, p3, p4, p5, p6, p7⟩ := o3.three
    exact ⟨p1, p2, p4, p5, p6, p7, fun e => HXX.out (by rw [← e, hFX]; exact List.mem_cons_self)⟩
  have HPP : Hid (Pop3 w 29 29 39 #[.slice a n c] WQ ∧ Blk WQ X #[.slice (some ⟨b, off, none⟩) n' k'] 29) := ⟨HPQ.out.1, HPQ.out.2.1⟩
  clear hL hcq hxs hFX hes hec hey hels hn' hta HPQ hbw
  go_wp2_with fail
  have bd : Below WQ.heap.size WQ WQ.drew := (Below.refl _ _).drew
  have HPd : Hid (Pop3 w 29 29 39 #[.slice a n c] WQ.drew ∧ Blk WQ.drew X #[.slice (some ⟨b, off, none⟩) n' k'] 29) := ⟨HPP.out.1.below bd, HPP.out.2.below bd⟩
  have HE2 : Hid (RdE WQ.drew (.agg es) y F1 ∧ ElsAt enK WQ.drew (some ⟨b, tw, none⟩) (n' - 1) ys F2 ∧ b < WQ.drew.heap.size ∧ (∀ j, j < 10 → WQ.drew.cell? ⟨b, off + j, none⟩ = es[j]?) ∧ n' = ys.length + 1) := by
    refine ⟨HEL.out.1.below bd, HEL.out.2.1.below bd (fun _ _ e _ => by cases e; exact HEL.out.2.2.1), Nat.lt_of_lt_of_le HEL.out.2.2.1 bd.size, fun j hj => (bd.cell (p := ⟨b, off + j, none⟩) HEL.out.2.2.1).trans (HEL.out.2.2.2.1 j hj), HEL.out.2.2.2.2⟩
  have HOd : Hid (Own (w.heap.size + 3) WQ.drew F1 ∧ Own (w.heap.size + 3) WQ.drew F2 ∧ ∀ z ∈ F2, z < WQ.drew.heap.size) := by
    refine ⟨HO.out.1.below HEL.out.1.lt bd, HO.out.2.1.below (fun z hz => ?_) bd, fun z hz => ?_⟩
    · rcases HEL.out.2.1 with ⟨_, _, e⟩ | ⟨_, _, _, _, _, e⟩
      · rw [e] at hz; cases hz
      · exact e.lt z hz
    · refine Nat.lt_of_lt_of_le ?_ bd.size
      rcases HEL.out.2.1 with ⟨_, _, e⟩ | ⟨_, _, _, _, _, e⟩
      · rw [e] at hz; cases hz
      · exact e.lt z hz
  obtain ⟨Y0, hY0⟩ : ∃ Y, Y = WQ.drew := ⟨_, rfl⟩
  rw [← hY0] at HPd HE2 HOd
  clear bd HEL HPP
  have HS : Hid (∀ W, Below Y0.heap.size Y0 W → Blk W X #[.slice (some ⟨b, off, none⟩) n' k'] 29 ∧ ∀ j, j < 10 → W.cell? ⟨b, off + j, none⟩ = es[j]?) := fun W hb => ⟨HPd.out.2.below hb, fun j hj => (hb.cell (p := ⟨b, off + j, none⟩) HE2.out.2.2.1).trans (HE2.out.2.2.2.1 j hj)⟩
  refine wp_region_held (S := fun W => Blk W X #[.slice (some ⟨b, off, none⟩) n' k'] 29 ∧ ∀ j, j < 10 → W.cell? ⟨b, off + j, none⟩ = es[j]?) (by kernel_rfl) ?_
  change wpAnyH _ _ _ _ _ _ _ _ (World.drew _)
  rw [← hY0]
  clear hY0
  refine takeH (o := ?o11) 0 (.pointer (some ⟨X, 0, none⟩)) ?h11 ?r11
  case h11 => simp only [aT, aZ]; rfl
  refine ⟨_, by simp [Act.put]; rfl, by kernel_rfl, by kernel_rfl, by kernel_rfl, fun _ _ _ h => h, (.inl ⟨rfl, fun W _ => by kernel_rfl⟩), (HS.out _ (Below.refl _ _)), ?_⟩
  refine takeH (o := ?o12) 1 (.slice (some ⟨b, off, none⟩) n' k') ?h12 ?r12
  case h12 => simp only [aT, aS, aZ]; rfl
  refine ⟨_, by simp [Act.put]; rfl, by kernel_rfl, by kernel_rfl, by kernel_rfl, fun _ _ _ h => h, (.inl ⟨rfl, fun W hW => by have c := hW.1.cell 0; simp only [aT, aZ] at c; go_simp⟩), (HS.out _ (Below.refl _ _)), ?_⟩
  refine takeH (o := ?o13) 2 (.pointer (some ⟨b, off, none⟩)) ?h13 ?r13
  case h13 => simp only [aT, aS, aZ]; rfl
  refine ⟨_, by simp [Act.put]; rfl, by kernel_rfl, by kernel_rfl, by kernel_rfl, fun _ _ _ h => h, (.inl ⟨rfl, fun W _ => by go_simp; first | done | (intro h; omega) | (rw [if_pos (by omega)]; rfl)⟩), (HS.out _ (Below.refl _ _)), ?_⟩
  refine takeH (o := ?o14) 3 (.agg es) ?h14 ?r14
  case h14 => simp only [aT, aS, aZ]; rfl
  refine ⟨_, by simp [Act.put]; rfl, by kernel_rfl, by kernel_rfl, by kernel_rfl, fun _ _ _ h => h, (yields_at 39 b off 10 es _ rfl rfl rfl Try.underlying39 rfl infoEnG2 HX.out.2.2.1 (fun W hW => hW.2)), (HS.out _ (Below.refl _ _)), ?_⟩
  refine takeH (o := ?o15) 5 (.pointer (some ⟨X, 0, none⟩)) ?h15 ?r15
  case h15 => simp only [aT, aS, aZ]; rfl
  refine ⟨_, by simp [Act.put]; rfl, by kernel_rfl, by kernel_rfl, by kernel_rfl, fun _ _ _ h => h, (.inl ⟨rfl, fun W _ => by kernel_rfl⟩), (HS.out _ (Below.refl _ _)), ?_⟩
  refine takeH (o := ?o16) 6 (.slice (some ⟨b, off, none⟩) n' k') ?h16 ?r16
  case h16 => simp only [aT, aS, aZ]; rfl
  refine ⟨_, by simp [Act.put]; rfl, by kernel_rfl, by kernel_rfl, by kernel_rfl, fun _ _ _ h => h, (.inl ⟨rfl, fun W hW => by have c := hW.1.cell 0; simp only [aT, aZ] at c; go_simp⟩), (HS.out _ (Below.refl _ _)), ?_⟩
  refine takeH (o := ?o17) 7 (.slice (some ⟨b, tw, none⟩) (n' - 1) tc) ?h17 ?r17
  case h17 => simp only [aT, aS, aZ]; rfl
  refine ⟨_, by simp [Act.put]; rfl, by kernel_rfl, by kernel_rfl, by kernel_rfl, fun _ _ _ h => h, (.inl ⟨rfl, fun W _ => by rcases HTA.out with ⟨e1, e2, e3⟩ | ⟨e1, e2, e3⟩ <;> subst e2 e3 <;> go_simp <;> first | done | (intro h; omega) | (rw [if_pos (by omega)]; rfl)⟩), (HS.out _ (Below.refl _ _)), ?_⟩
  refine onlyH (o := ?o18) 4 (by kernel_rfl) ?h18 ?r18
  case h18 => simp only [aT, aS, aZ]; rfl
  intro K hK
  have bl : Below Y0.heap.size Y0 (Y0.alloc (.cells #[] 39)) := (Below.refl _ _).alloc (Nat.le_refl _) _
  refine op_turn (.slice (some ⟨Y0.heap.size, 0, none⟩) 0 0) (Y0.alloc (.cells #[] 39)) rfl (by kernel_rfl) ⟨_, by simp [Act.put]; rfl, hK _ _ ⟨HS.out _ bl, ?_⟩⟩
  obtain ⟨L1, hL1⟩ : ∃ z, z = Y0.heap.size := ⟨_, rfl⟩
  have HY1 : Hid (Below Y0.heap.size Y0 (Y0.alloc (.cells #[] 39)) ∧ ElsAt enK (Y0.alloc (.cells #[] 39)) (some ⟨b, tw, none⟩) (n' - 1) ys F2) := ⟨bl, HE2.out.2.1.below bl (fun _ _ e _ => by cases e; exact HE2.out.2.2.1)⟩
  obtain ⟨Y1, hY1⟩ : ∃ Z, Z = (Y0.alloc (.cells #[] 39)) := ⟨_, rfl⟩
  rw [← hY1] at HY1 ⊢
  rw [← hL1]
  clear hK bl hY1 hL1
  refine onlyH (o := ?o19) 8 (by kernel_rfl) ?h19 ?r19
  case h19 => simp only [aT, aS, aZ]; rfl
  intro K hK
  refine op_growsL (K := enK) _ _ 27 rfl rfl 39 j0 (.agg #[.int .i64 0, .int .i64 0, .slice none 0 0, .int .i64 0, .int .i64 0, .int .i64 0, .int .i64 0, .slice none 0 0, .slice none 0 0, .slice none 0 0]) 144 Try.underlying27 hj hy0 hy1 hy2 rfl (some ⟨L1, 0, none⟩) rfl (some ⟨b, tw, none⟩) (n' - 1) tc ys F2 rfl HY1.out.2 (by unfold maxLen; omega) (by omega) ?_
  intro aq cq GQ Y2 hrq hbq hoq hgq hcq
  have HY2 : Hid (Below Y0.heap.size Y0 Y2 ∧ RdL enK Y2 aq (n' - 1) ys GQ ∧ Own (w.heap.size + 3) Y2 GQ ∧ Capd aq (n' - 1) cq ∧ ∀ z ∈ GQ, z ∈ F2 ∨ Y0.heap.size ≤ z) := by
    have s1 := HY1.out.1.size
    have s0 := HPd.out.1.rb.lt
    exact ⟨HY1.out.1.trans (hbq.mono s1), hrq, hoq _ (HOd.out.2.1.below HOd.out.2.2 HY1.out.1) (by omega), hcq, fun z hz => (hgq z hz).imp id (fun h => by omega)⟩
  refine ⟨_, by simp [Act.put]; rfl, hK _ _ ⟨HS.out _ HY2.out.1, ?_⟩⟩
  clear hK hrq hbq hoq hgq hcq
  refine takeH (o := ?o20) 9 (.agg #[.slice aq (n' - 1) cq]) ?h20 ?r20
  case h20 => simp only [aT, aS, aZ]; rfl
  refine ⟨_, by simp [Act.put]; rfl, by kernel_rfl, by kernel_rfl, by kernel_rfl, fun _ _ _ h => h, (.inl ⟨rfl, fun W _ => by kernel_rfl⟩), (HS.out _ HY2.out.1), ?_⟩
  refine onlyH (o := ?o21) 10 (by kernel_rfl) ?h21 ?r21
  case h21 => simp only [aT, aS, aZ]; rfl
  intro K hK
  have nb1 : w.heap.size + 1 ≠ b := by have := HO.out.2.2.2.2.2.1; omega
  have nb2 : w.heap.size + 1 + 1 ≠ b := by have := HO.out.2.2.2.2.2.1; omega
  have nx1 : w.heap.size + 1 ≠ X := by have := HC.out.2.2; omega
  have nx2 : w.heap.size + 1 + 1 ≠ X := by have := HC.out.2.2; omega
  have st1 : Blk (Y2.setRow (w.heap.size + 1) es) X #[.slice (some ⟨b, off, none⟩) n' k'] 29 ∧ ∀ j, j < 10 → (Y2.setRow (w.heap.size + 1) es).cell? ⟨b, off + j, none⟩ = es[j]? := ⟨(HS.out _ HY2.out.1).1.setRowOther (by omega), fun j hj => (World.cell?_of_block (w := Y2) (a := ⟨b, off + j, none⟩) (setRow_other Y2 _ b _ (by omega))).trans ((HS.out _ HY2.out.1).2 j hj)⟩
  refine op_store 39 (w.heap.size + 1) #[.int .i64 0, .int .i64 0, .slice none 0 0, .int .i64 0, .int .i64 0, .int .i64 0, .int .i64 0, .slice none 0 0, .slice none 0 0, .slice none 0 0] es 39 rfl rfl rfl rfl (HPd.out.1.ra.below HY2.out.1) (by rw [HX.out.2.2.1]; exact infoEnG2) HX.out.2.2.1.symm HX.out.2.2.2 ⟨_, by simp [Act.put]; rfl, hK _ _ ⟨st1, ?_⟩⟩
  clear hK
  refine onlyH (o := ?o22) 11 (by kernel_rfl) ?h22 ?r22
  case h22 => simp only [aT, aS, aZ]; rfl
  intro K hK
  have st2 : Blk ((Y2.setRow (w.heap.size + 1) es).setRow (w.heap.size + 1 + 1) #[.slice aq (n' - 1) cq]) X #[.slice (some ⟨b, off, none⟩) n' k'] 29 ∧ ∀ j, j < 10 → ((Y2.setRow (w.heap.size + 1) es).setRow (w.heap.size + 1 + 1) #[.slice aq (n' - 1) cq]).cell? ⟨b, off + j, none⟩ = es[j]? := ⟨st1.1.setRowOther (by omega), fun j hj => (World.cell?_of_block (w := Y2.setRow (w.heap.size + 1) es) (a := ⟨b, off + j, none⟩) (setRow_other _ _ b _ (by omega))).trans (st1.2 j hj)⟩
  refine op_store 29 (w.heap.size + 1 + 1) #[.slice none 0 0] #[.slice aq (n' - 1) cq] 29 rfl rfl rfl rfl ((HPd.out.1.rb.below HY2.out.1).setRowOther (by omega)) (rwSize rfl) rfl (by simp [Value.oneCell']) ⟨_, by simp [Act.put]; rfl, hK _ _ ⟨st2, ?_⟩⟩
  clear hK
  refine takeH (o := ?o23) 12 (.bool true) ?h23 ?r23
  case h23 => simp only [aT, aS, aZ]; rfl
  refine ⟨_, by simp [Act.put]; rfl, by kernel_rfl, by kernel_rfl, by kernel_rfl, fun _ _ _ h => h, (.inl ⟨rfl, fun W _ => by kernel_rfl⟩), st2, ?_⟩
  refine wpAnyH_done (by kernel_rfl) ?_ _
  have HF : Hid (Blk ((Y2.setRow (w.heap.size + 1) es).setRow (w.heap.size + 1 + 1) #[.slice aq (n' - 1) cq]) (w.heap.size + 1) es 39 ∧ Blk ((Y2.setRow (w.heap.size + 1) es).setRow (w.heap.size + 1 + 1) #[.slice aq (n' - 1) cq]) (w.heap.size + 1 + 1) #[.slice aq (n' - 1) cq] 29 ∧ RdE ((Y2.setRow (w.heap.size + 1) es).setRow (w.heap.size + 1 + 1) #[.slice aq (n' - 1) cq]) (.agg es) y F1 ∧ Own w.heap.size ((Y2.setRow (w.heap.size + 1) es).setRow (w.heap.size + 1 + 1) #[.slice aq (n' - 1) cq]) F1 ∧ RdL enK ((Y2.setRow (w.heap.size + 1) es).setRow (w.heap.size + 1 + 1) #[.slice aq (n' - 1) cq]) aq (n' - 1) ys GQ ∧ Own w.heap.size ((Y2.setRow (w.heap.size + 1) es).setRow (w.heap.size + 1 + 1) #[.slice aq (n' - 1) cq]) GQ ∧ (∀ z ∈ F1, z ∉ GQ) ∧ Below w.heap.size w ((Y2.setRow (w.heap.size + 1) es).setRow (w.heap.size + 1 + 1) #[.slice aq (n' - 1) cq])) := by
    have n1 : ∀ z ∈ F1, w.heap.size + 3 ≤ z := HO.out.1.ge
    have ag1 : Agree Y2 ((Y2.setRow (w.heap.size + 1) es).setRow (w.heap.size + 1 + 1) #[.slice aq (n' - 1) cq]) F1 := (Agree.row (fun hx => by have := n1 _ hx; omega) _).trans (Agree.row (fun hx => by have := n1 _ hx; omega) _)
    have ag2 : Agree Y2 ((Y2.setRow (w.heap.size + 1) es).setRow (w.heap.size + 1 + 1) #[.slice aq (n' - 1) cq]) GQ := (Agree.row (fun hx => by have := HY2.out.2.2.1.ge _ hx; omega) _).trans (Agree.row (fun hx => by have := HY2.out.2.2.1.ge _ hx; omega) _)
    have r1 := HE2.out.1.below HY2.out.1
    have o1 := HOd.out.1.below HE2.out.1.lt HY2.out.1
    refine ⟨((HPd.out.1.ra.below HY2.out.1).setRow).setRowOther (by omega), ((HPd.out.1.rb.below HY2.out.1).setRowOther (by omega)).setRow, r1.agree ag1, (o1.agree ag1).mono (by omega), HY2.out.2.1.agree ag2, (HY2.out.2.2.1.agree ag2).mono (by omega), fun z hz hq => ?_, below_setRow (below_setRow (Below.next HPd.out.1.bel HY2.out.1) (by omega) _) (by omega) _⟩
    rcases HY2.out.2.2.2.2 z hq with h | h
    · exact HO.out.2.2.1 z hz (List.mem_cons_of_mem _ h)
    · have := HE2.out.1.lt z hz; omega
  obtain ⟨WF, hWF⟩ : ∃ W, W = ((Y2.setRow (w.heap.size + 1) es).setRow (w.heap.size + 1 + 1) #[.slice aq (n' - 1) cq]) := ⟨_, rfl⟩
  rw [← hWF] at HF ⊢
  clear hWF st1 st2
  go_wp2
  refine bodyPost_ret (results_row2_tmp Try.results11 _ _ (w.heap.size + 1) (w.heap.size + 1 + 1) 39 29 es #[.slice aq (n' - 1) cq] _ _ rfl rfl HF.out.1 HF.out.2.1 Try.underlying39 rfl (by rw [HX.out.2.2.1]; exact infoEnG2) Try.underlying29 rfl (rwSize rfl)) rfl ?_
  have hq := Rw.pop_yes HV.out HX.out.1
  exact ⟨_, _, F1, GQ, by rw [HV.out]; rfl, by rw [hq.1]; exact HF.out.2.2.1, by rw [hq.2]; exact ⟨aq, n' - 1, cq, rfl, HF.out.2.2.2.2.1, HY2.out.2.2.2.1⟩, HF.out.2.2.2.1, HF.out.2.2.2.2.2.1, HF.out.2.2.2.2.2.2.1, HF.out.2.2.2.2.2.2.2⟩
end Go.Proofs.Ytillnoeailnnfaa
/- The walk through the program's copying of a summary. No statement of the seat is proved here. -/
namespace Go.Proofs.Ytillnoeailnnfaa
open Go.RowKit
/-- In the midst of a copying: k rows are done. -/
structure CpSt (w : World) (A B : Array Value) (s : Sk) (a1 a2 : Option Addr) (n1 n2 : Nat) (F1 F2 : List Nat) (lo k : Nat) (v : Value) (vs : List Value) (G : List Nat) (W : World) : Prop where
  box : Blk W w.heap.size A 37
  res : Blk W (w.heap.size + 1) B 37
  bel : Below w.heap.size w W
  r1 : RdI W a1 n1 s.hist F1
  r2 : RdI W a2 n2 s.regs F2
  own : Own (w.heap.size + 2) W (F1 ++ F2)
  lt : ∀ b ∈ F1 ++ F2, b < lo
  row : W.ownsRow lo 34 1 v k vs
  rd : RdS W ((s.rows.take k).map ints) vs G
  og : Own lo W G
  ap : ∀ b, v.ownBlock = some b → b ∉ G
  big : w.heap.size + 2 ≤ lo
  lw : lo ≤ W.heap.size
section
variable {w W W' : World} {A B : Array Value} {s : Sk} {a1 a2 : Option Addr} {n1 n2 : Nat} {F1 F2 : List Nat} {lo k : Nat} {v : Value} {vs : List Value} {G : List Nat}
theorem CpSt.below (h : CpSt w A B s a1 a2 n1 n2 F1 F2 lo k v vs G W) (b : Below W.heap.size W W') : CpSt w A B s a1 a2 n1 n2 F1 F2 lo k v vs G W' :=
  ⟨h.box.below b, h.res.below b, Below.next h.bel b, h.r1.below b, h.r2.below b, h.own.below (fun x hx => (List.mem_append.1 hx).elim (h.r1.lt x) (h.r2.lt x)) b, h.lt, ownsRow_below h.row b, h.rd.below b, h.og.below h.rd.lt b, h.ap, h.big, Nat.le_trans h.lw b.size⟩
theorem CpSt.step (h : CpSt w A B s a1 a2 n1 n2 F1 F2 lo k v vs G W) {nk cp3 g4 cp4 L : Nat} {a' : Option Addr} {Fk : List Nat} (rk : RdI W a' nk (s.rows.getD k []) Fk) (ok : Own L W Fk) (ltG : ∀ b ∈ G, b < L) (ltv : ∀ b, v.ownBlock = some b → b < L) (hL : lo ≤ L)
    (hown : W'.ownsRow lo 34 1 (.slice (some ⟨g4, 0, none⟩) (k + 1) cp4) (k + 1) (vs ++ [.slice a' nk cp3])) (hgrow : W.grownBy W' v.ownBlock) (hat : v.ownBlock = some g4 ∨ g4 = W.heap.size) (hk : k < s.rows.length) :
    CpSt w A B s a1 a2 n1 n2 F1 F2 lo (k + 1) (.slice (some ⟨g4, 0, none⟩) (k + 1) cp4) (vs ++ [.slice a' nk cp3]) (G ++ Fk) W' := by
  have big := h.big
  have blk : ∀ b, b < W.heap.size → ¬ v.ownBlock = some b → W'.heap[b]? = W.heap[b]? := fun b hb hn => hgrow.block b hb (fun e => hn e.symm)
  have vge : ∀ b, v.ownBlock = some b → lo ≤ b := fun b hb => (h.row.lt b hb).1
  have bx := h.box.agree (blk _ h.box.lt (fun e => by have := vge _ e; omega))
  have rs := h.res.agree (blk _ h.res.lt (fun e => by have := vge _ e; omega))
  have bel : Below w.heap.size w W' := h.bel.grown hgrow h.bel.size (fun b hb => by have := vge b hb; omega)
  have agF : Agree W W' (F1 ++ F2) := fun b hb => blk b ((List.mem_append.1 hb).elim (h.r1.lt b) (h.r2.lt b)) (fun e => by have := vge _ e; have := h.lt b hb; omega)
  have agG : Agree W W' (G ++ Fk) := fun b hb => blk b ((List.mem_append.1 hb).elim (h.rd.lt b) (rk.lt b)) (fun e => (List.mem_append.1 hb).elim (h.ap b e) (fun hf => by have := ok.ge b hf; have := ltv b e; omega))
  refine ⟨bx, rs, bel, h.r1.agree agF.left, h.r2.agree agF.right, h.own.agree agF, h.lt, hown, ?_, ?_, ?_, h.big, ?_⟩
  · rw [take_snoc s.rows [] k hk, List.map_append]
    exact (h.rd.agree agG.left).snoc (rd_ints.2 ⟨_, _, _, rfl, rk.agree agG.right⟩)
  · exact (h.og.agree agG.left).join (ok.agree agG.right) ltG hL
  · intro b hb hx
    have hb' : b = g4 := by simpa [Value.ownBlock] using hb.symm
    subst hb'
    rcases hat with e | e
    · rcases List.mem_append.1 hx with hx | hx
      · exact h.ap _ e hx
      · have := ok.ge _ hx; have := ltv _ e; omega
    · rcases List.mem_append.1 hx with hx | hx
      · have := h.rd.lt _ hx; omega
      · have := rk.lt _ hx; omega
  · have := hgrow.size; have := h.lw; omega
theorem CpSt.rows (h : CpSt w A B s a1 a2 n1 n2 F1 F2 lo k v vs G W) : ∃ a c F, v = .slice a k c ∧ RdII W a k (s.rows.take k) F ∧ Own (w.heap.size + 2) W (F1 ++ (F2 ++ F)) := by
  have big := h.big
  rcases h.row.2 with ⟨e, e'⟩ | ⟨g, cap, cur, e, e2, e3, e4⟩
  · subst e'
    exact ⟨none, 0, [], e, ⟨by simp, .inl ⟨rfl, rfl⟩⟩, by simpa using h.own⟩
  · subst e
    have hl : vs.length = k := by simpa using h.row.1
    have hlen := h.rd.length
    by_cases h0 : k = 0
    · subst h0
      exact ⟨_, cap, [], rfl, ⟨by simp, .inl ⟨rfl, rfl⟩⟩, by simpa using h.own⟩
    · have hm : RdM W ((s.rows.take k).map ints) g 0 G := rdM_of_own 0 h.rd (fun i hi => by rw [Nat.zero_add]; exact h.row.cellAt i (by omega))
      have hg : lo ≤ g := (h.row.lt g rfl).1
      have hgG : g ∉ G := h.ap g rfl
      have og : Own lo W (g :: G) := ⟨List.nodup_cons.2 ⟨hgG, h.og.nodup⟩, fun b hb o => (List.mem_cons.1 hb).elim (fun e => by subst e; exact h.row.frozenAt o) (fun hb => h.og.free b hb o), fun b hb => (List.mem_cons.1 hb).elim (fun e => by omega) (h.og.ge b)⟩
      refine ⟨_, cap, g :: G, rfl, ⟨by rw [List.length_map] at hlen; omega, .inr ⟨g, 0, G, by omega, rfl, rfl, hm⟩⟩, ?_⟩
      rw [← List.append_assoc]
      exact h.own.join og h.lt h.big
end
theorem Sk.shaped_fits {s : Sk} (hs : s.shaped = true) : s.fits := by
  obtain ⟨s1, s2, x, y, s3, s4, s5⟩ := Sk.shaped_parts hs
  refine ⟨by omega, by omega, by rw [s3]; simp, fun z hz => ?_⟩
  rw [s3] at hz
  simp at hz
  rcases hz with rfl | rfl <;> omega
set_option maxRecDepth 200000 in
set_option maxHeartbeats 400000 in
theorem copiedList_all (a : Option Addr) (len cap : Nat) (zs : List Int) (F : List Nat) (w : World) (h : RdI w a len zs F) (hlen : len ≤ 1048576) :
    Calls Try.prog 82 #[.slice a len cap] w fun e w' => NewI w zs e w' := by
  obtain ⟨i0, hi, hz0, hz1, hz2⟩ := info_parts infoInt
  have HR : Hid (RdI w a len zs F) := h
  clear h
  go_enter Try.func82, Try.ntmps82
  go_wp2_with (with_reducible refine stopAppend rfl ?_)
  refine Stop.intro (wpList_step fun K hK => op_growsI _ _ 34 rfl rfl 3 i0 Try.underlying34 hi hz0 hz1 hz2 none rfl a len cap zs F rfl HR.out hlen ?_)
  intro a' c' F' w' r o b _
  have HN : Hid (RdI w' a' len zs F' ∧ Own w.heap.size w' F' ∧ Below w.heap.size w w') := ⟨r, o, b⟩
  refine ⟨_, by simp [Act.put]; rfl, hK _ _ ?_⟩
  clear hK r o b
  go_wp2
  go_ret
  exact ⟨a', len, c', F', rfl, HN.out.1, HN.out.2.1, HN.out.2.2⟩
set_option maxRecDepth 200000 in
set_option maxHeartbeats 8000000 in
theorem copiedSketch_all (v : Value) (s : Sk) (F : List Nat) (w : World) (h : RdSk w v s F) (hf : s.fits) :
    Calls Try.prog 70 #[v] w fun e w' => NewSk w s e w' := by
  obtain ⟨j0, hj, hy0, hy1, hy2⟩ := info_parts infoInts
  obtain ⟨a1, n1, c1, a2, n2, c2, a3, n3, c3, F1, F2, F3, rfl, h1, h2, h3, _⟩ := h
  have hn1 : n1 ≤ 1048576 := by rw [← h1.length]; exact hf.hist
  have hn2 : n2 ≤ 1048576 := by rw [← h2.length]; exact hf.regs
  have hn3 : n3 ≤ 1048576 := by rw [← h3.length]; exact hf.rows
  have HL : Hid (s.rows.length = n3 ∧ ∀ z ∈ s.rows, z.length ≤ 1048576) := ⟨h3.length, fun z hz => hf.row z hz⟩
  have HR : Hid (RdI w a1 n1 s.hist F1 ∧ RdI w a2 n2 s.regs F2 ∧ RdII w a3 n3 s.rows F3) := ⟨h1, h2, h3⟩
  have HT : Hid (_ ∧ _ ∧ _) := two_made w #[.int .i64 s.count, .int .i64 s.sum, .int .i64 s.min, .int .i64 s.max, .slice a1 n1 c1, .slice a2 n2 c2, .slice a3 n3 c3] #[.int .i64 0, .int .i64 0, .int .i64 0, .int .i64 0, .slice none 0 0, .slice none 0 0, .slice none 0 0] 37 37
  clear h1 h2 h3 hf
  go_enter Try.func70, Try.ntmps70
  go_wp2_with fail
  refine (copiedList_all a1 n1 c1 s.hist F1 _ (HR.out.1.below HT.out.2.2) hn1).mono ?_
  rintro e w1 ⟨b1, m1, d1, G1, rfl, r1, o1, B1⟩
  obtain rfl : n1 = m1 := by rw [← r1.length]; exact HR.out.1.length.symm
  have HS1 : Hid (Blk w1 w.heap.size #[.int .i64 s.count, .int .i64 s.sum, .int .i64 s.min, .int .i64 s.max, .slice a1 n1 c1, .slice a2 n2 c2, .slice a3 n3 c3] 37 ∧ Blk w1 (w.heap.size + 1) #[.int .i64 0, .int .i64 0, .int .i64 0, .int .i64 0, .slice none 0 0, .slice none 0 0, .slice none 0 0] 37 ∧ Below w.heap.size w w1) := ⟨HT.out.1.below B1, HT.out.2.1.below B1, Below.next HT.out.2.2 B1⟩
  have ge1 := HT.out.2.1.lt
  have HQ1 : Hid (RdI w1 b1 n1 s.hist G1 ∧ Own (w.heap.size + 2) w1 G1) := ⟨r1, o1.mono ge1⟩
  have c14 := HS1.out.1.cell 4
  have f14 := HS1.out.1.frozen 4
  have c15 := HS1.out.1.cell 5
  simp only [aT, aS, aZ] at c14 c15
  clear r1 o1 B1 HT ge1
  go_wp2_with fail
  obtain ⟨W2, hW2⟩ : ∃ W2, W2 = w1.setCell ⟨w.heap.size, 4, none⟩ (.slice b1 n1 d1) := ⟨_, rfl⟩
  have nn1 : w.heap.size ∉ G1 := fun hx => by have := HQ1.out.2.ge _ hx; omega
  have HS2 : Hid (Blk W2 w.heap.size #[.int .i64 s.count, .int .i64 s.sum, .int .i64 s.min, .int .i64 s.max, .slice b1 n1 d1, .slice a2 n2 c2, .slice a3 n3 c3] 37 ∧ Blk W2 (w.heap.size + 1) #[.int .i64 0, .int .i64 0, .int .i64 0, .int .i64 0, .slice none 0 0, .slice none 0 0, .slice none 0 0] 37 ∧ Below w.heap.size w W2) := by
    rw [hW2]
    exact ⟨HS1.out.1.set 4 _, HS1.out.2.1.setOther (by omega) 4 _, HS1.out.2.2.setCell (by show w.heap.size ≤ w.heap.size; omega) _⟩
  have HQ2 : Hid (RdI W2 b1 n1 s.hist G1 ∧ Own (w.heap.size + 2) W2 G1) := by
    rw [hW2]
    exact ⟨HQ1.out.1.agree (.set nn1 4 _), HQ1.out.2.agree (.set nn1 4 _)⟩
  rw [← hW2]
  clear hW2 nn1 c14 f14 c15 HS1 HQ1
  refine (copiedList_all a2 n2 c2 s.regs F2 _ (HR.out.2.1.below HS2.out.2.2) hn2).mono ?_
  rintro e w3 ⟨b2, m2, d2, G2, rfl, r2, o2, B3⟩
  obtain rfl : n2 = m2 := by rw [← r2.length]; exact HR.out.2.1.length.symm
  have HS3 : Hid (Blk w3 w.heap.size #[.int .i64 s.count, .int .i64 s.sum, .int .i64 s.min, .int .i64 s.max, .slice b1 n1 d1, .slice a2 n2 c2, .slice a3 n3 c3] 37 ∧ Blk w3 (w.heap.size + 1) #[.int .i64 0, .int .i64 0, .int .i64 0, .int .i64 0, .slice none 0 0, .slice none 0 0, .slice none 0 0] 37 ∧ Below w.heap.size w w3) := ⟨HS2.out.1.below B3, HS2.out.2.1.below B3, Below.next HS2.out.2.2 B3⟩
  have HQ3 : Hid (RdI w3 b1 n1 s.hist G1 ∧ RdI w3 b2 n2 s.regs G2 ∧ Own (w.heap.size + 2) w3 (G1 ++ G2)) := ⟨HQ2.out.1.below B3, r2, (HQ2.out.2.below HQ2.out.1.lt B3).join o2 HQ2.out.1.lt (by have := HS2.out.2.1.lt; omega)⟩
  have c15 := HS3.out.1.cell 5
  have f15 := HS3.out.1.frozen 5
  have c16 := HS3.out.1.cell 6
  simp only [aT, aS, aZ] at c15 c16
  clear r2 o2 B3 HS2 HQ2
  go_wp2
  obtain ⟨W4, hW4⟩ : ∃ W4, W4 = w3.setCell ⟨w.heap.size, 5, none⟩ (.slice b2 n2 d2) := ⟨_, rfl⟩
  have nn2 : w.heap.size ∉ G1 ++ G2 := fun hx => by have := HQ3.out.2.2.ge _ hx; omega
  have HC0 : Hid (CpSt w #[.int .i64 s.count, .int .i64 s.sum, .int .i64 s.min, .int .i64 s.max, .slice b1 n1 d1, .slice b2 n2 d2, .slice a3 n3 c3] #[.int .i64 0, .int .i64 0, .int .i64 0, .int .i64 0, .slice none 0 0, .slice none 0 0, .slice none 0 0] s b1 b2 n1 n2 G1 G2 W4.heap.size 0 (.slice none 0 0) [] [] W4) := by
    rw [hW4]
    have ag : Agree w3 (w3.setCell ⟨w.heap.size, 5, none⟩ (.slice b2 n2 d2)) (G1 ++ G2) := .set nn2 5 _
    exact ⟨HS3.out.1.set 5 _, HS3.out.2.1.setOther (by omega) 5 _, HS3.out.2.2.setCell (by show w.heap.size ≤ w.heap.size; omega) _, HQ3.out.1.agree ag.left, HQ3.out.2.1.agree ag.right, HQ3.out.2.2.agree ag, fun b hb => by have := (List.mem_append.1 hb).elim (HQ3.out.1.lt b) (HQ3.out.2.1.lt b); simpa using this, ⟨rfl, .inl ⟨rfl, rfl⟩⟩, by simp [RdS], Own.nil, fun b hb => (by cases hb), by have := HS3.out.2.1.lt; have e : (w3.setCell ⟨w.heap.size, 5, none⟩ (.slice b2 n2 d2)).heap.size = w3.heap.size := (by simp); omega, Nat.le_refl _⟩
  rw [← hW4]
  have HM : Hid (∀ W k, Below w.heap.size w W → k < n3 → ∃ pp qq ak nk ck Yk, a3 = some ⟨pp, qq, none⟩ ∧ W.cell? ⟨pp, qq + k, none⟩ = some (.slice ak nk ck) ∧ RdI W ak nk (s.rows.getD k []) Yk ∧ nk ≤ 1048576) := fun W k hb hk => by
    rcases HR.out.2.2.cells with ⟨h0, _⟩ | ⟨pp, qq, F', _, e, _, hm⟩
    · omega
    obtain ⟨ak, nk, ck, Yk, hck, hrk, _⟩ := RdII.row hm HL.out.1 k hk
    have h4 : nk ≤ 1048576 := by rw [← hrk.length]; exact HL.out.2 _ (mem_getD (d := []) (by rw [HL.out.1]; exact hk))
    exact ⟨pp, qq, ak, nk, ck, Yk, e, (hb.cell (World.block_lt_of_cell? _ _ hck)).trans hck, hrk.below hb, h4⟩
  clear hW4 nn2 c15 f15 c16 HS3 HQ3 HR
  go_loopw [3, 17] (fun q i wr => ∃ (k : Nat) (v : Value) (vs : List Value) (GG : List Nat), k ≤ n3 ∧ i = .int .i64 k ∧ v = q ∧ Hid (CpSt w #[.int .i64 s.count, .int .i64 s.sum, .int .i64 s.min, .int .i64 s.max, .slice b1 n1 d1, .slice b2 n2 d2, .slice a3 n3 c3] #[.int .i64 0, .int .i64 0, .int .i64 0, .int .i64 0, .slice none 0 0, .slice none 0 0, .slice none 0 0] s b1 b2 n1 n2 G1 G2 W4.heap.size k v vs GG wr)) (fun _ i _ => n3 - (intOf i).toNat)
  case atStart => exact ⟨0, _, [], [], by omega, rfl, rfl, HC0⟩
  case round =>
    clear HC0
    obtain ⟨k, v, vs, GG, hk, rfl, rfl, CSS⟩ := hrel
    by_cases hlt : k < n3
    · have hI : (k : Int) < (n3 : Int) := by omega
      obtain ⟨pp, qq, ak0, nk0, ck, Yk, rfl, hck, hrk, hnk⟩ := HM.out wr k CSS.out.bel hlt
      have HQ : Hid (RdI wr ak0 nk0 (s.rows.getD k []) Yk) := hrk
      clear hrk
      go_wp2_with fail
      refine (copiedList_all ak0 nk0 ck (s.rows.getD k []) Yk _ HQ.out hnk).mono ?_
      rintro e w5 ⟨ak, nk, dk, Fk, rfl, rk, ok, Bk⟩
      have CS5 : Hid (CpSt w #[.int .i64 s.count, .int .i64 s.sum, .int .i64 s.min, .int .i64 s.max, .slice b1 n1 d1, .slice b2 n2 d2, .slice (some ⟨pp, qq, none⟩) n3 c3] #[.int .i64 0, .int .i64 0, .int .i64 0, .int .i64 0, .slice none 0 0, .slice none 0 0, .slice none 0 0] s b1 b2 n1 n2 G1 G2 W4.heap.size k v vs GG w5) := CSS.out.below Bk
      have HK : Hid (RdI w5 ak nk (s.rows.getD k []) Fk ∧ Own wr.heap.size w5 Fk ∧ (∀ b ∈ GG, b < wr.heap.size) ∧ (∀ b, v.ownBlock = some b → b < wr.heap.size) ∧ W4.heap.size ≤ wr.heap.size) := ⟨rk, ok, CSS.out.rd.lt, fun b hb => (CSS.out.row.lt b hb).2, CSS.out.lw⟩
      clear rk ok Bk hck CSS HQ
      go_wp2_with (with_reducible refine stopAppend rfl ?_)
      obtain ⟨W6, hW6⟩ : ∃ W, W = w5.alloc (.cells #[.slice ak nk dk] 34) := ⟨_, rfl⟩
      have hbn : Below w5.heap.size w5 W6 := by rw [hW6]; exact (Below.refl _ _).alloc (Nat.le_refl _) _
      have HCN : Hid (∀ (j : Nat) (x : Value), [Value.slice ak nk dk][j]? = some x → W6.cell? ((⟨w5.heap.size, 0, none⟩ : Addr).add j) = some x) := by rw [hW6]; exact cell_new1 _ _ _
      have CS6 : Hid (CpSt w #[.int .i64 s.count, .int .i64 s.sum, .int .i64 s.min, .int .i64 s.max, .slice b1 n1 d1, .slice b2 n2 d2, .slice (some ⟨pp, qq, none⟩) n3 c3] #[.int .i64 0, .int .i64 0, .int .i64 0, .int .i64 0, .slice none 0 0, .slice none 0 0, .slice none 0 0] s b1 b2 n1 n2 G1 G2 W4.heap.size k v vs GG W6) := CS5.out.below hbn
      have HK6 : Hid (RdI W6 ak nk (s.rows.getD k []) Fk ∧ Own wr.heap.size W6 Fk) := ⟨HK.out.1.below hbn, HK.out.2.1.below HK.out.1.lt hbn⟩
      rw [← hW6]
      clear hW6 hbn CS5
      refine Stop.intro (wpList_append_lies _ rfl _ _ 35 rfl W4.heap.size 34 j0 (.slice none 0 0) 1 24 Try.underlying35 hj hy0 hy1 hy2 rfl (by decide) v k vs rfl CS6.out.row ⟨w5.heap.size, 0, none⟩ 1 1 [.slice ak nk dk] rfl rfl HCN.out (by simp [Value.oneCell']) (by omega) (by unfold maxLen; omega) (by omega) CS6.out.lw _ rfl ?_)
      intro g4 cp4 W7 hown hgrow hat hlt7
      have CS7 : Hid (CpSt w #[.int .i64 s.count, .int .i64 s.sum, .int .i64 s.min, .int .i64 s.max, .slice b1 n1 d1, .slice b2 n2 d2, .slice (some ⟨pp, qq, none⟩) n3 c3] #[.int .i64 0, .int .i64 0, .int .i64 0, .int .i64 0, .slice none 0 0, .slice none 0 0, .slice none 0 0] s b1 b2 n1 n2 G1 G2 W4.heap.size (k + 1) (.slice (some ⟨g4, 0, none⟩) (k + 1) cp4) (vs ++ [.slice ak nk dk]) (GG ++ Fk) W7) := CS6.out.step HK6.out.1 HK6.out.2 HK.out.2.2.1 HK.out.2.2.2.1 HK.out.2.2.2.2 hown hgrow hat (by rw [HL.out.1]; exact hlt)
      clear hown hgrow hat hlt7 CS6 HK6 HK HCN
      go_wp2
      go_roundw
      case rel => exact ⟨k + 1, _, _, _, by omega, by go_num, rfl, CS7⟩
      case measure => simp [intOf]; omega
    · obtain rfl : k = n3 := by omega
      obtain ⟨ar, cr, FR, rfl, rr, own⟩ := CSS.out.rows
      rw [List.take_of_length_le (by rw [HL.out.1]; omega)] at rr
      have HO : Hid (RdII wr ar k s.rows FR ∧ Own (w.heap.size + 2) wr (G1 ++ (G2 ++ FR))) := ⟨rr, own⟩
      have c16 := CSS.out.box.cell 6
      have f16 := CSS.out.box.frozen 6
      simp only [aT, aS, aZ] at c16
      clear rr own hlt HM
      go_wp2_with (first | go_skip | (with_reducible refine stopLoad 37 rfl ?_))
      obtain ⟨W8, hW8⟩ : ∃ W, W = wr.setCell ⟨w.heap.size, 6, none⟩ (.slice ar k cr) := ⟨_, rfl⟩
      have nG : w.heap.size ∉ G1 ++ (G2 ++ FR) := fun hx => by have := HO.out.2.ge _ hx; omega
      have H8 : Hid (Blk W8 w.heap.size #[.int .i64 s.count, .int .i64 s.sum, .int .i64 s.min, .int .i64 s.max, .slice b1 n1 d1, .slice b2 n2 d2, .slice ar k cr] 37 ∧ Blk W8 (w.heap.size + 1) #[.int .i64 0, .int .i64 0, .int .i64 0, .int .i64 0, .slice none 0 0, .slice none 0 0, .slice none 0 0] 37 ∧ Below w.heap.size w W8) := by
        rw [hW8]
        exact ⟨CSS.out.box.set 6 _, CSS.out.res.setOther (by omega) 6 _, CSS.out.bel.setCell (by show w.heap.size ≤ w.heap.size; omega) _⟩
      have R8 : Hid (RdI W8 b1 n1 s.hist G1 ∧ RdI W8 b2 n2 s.regs G2 ∧ RdII W8 ar k s.rows FR ∧ Own (w.heap.size + 2) W8 (G1 ++ (G2 ++ FR))) := by
        rw [hW8]
        have ag : Agree wr (wr.setCell ⟨w.heap.size, 6, none⟩ (.slice ar k cr)) (G1 ++ (G2 ++ FR)) := .set nG 6 _
        exact ⟨CSS.out.r1.agree ag.left, CSS.out.r2.agree ag.right.left, HO.out.1.agree ag.right.right, HO.out.2.agree ag⟩
      rw [← hW8]
      clear hW8 nG c16 f16 CSS HO
      refine load_known 37 w.heap.size #[.int .i64 s.count, .int .i64 s.sum, .int .i64 s.min, .int .i64 s.max, .slice b1 n1 d1, .slice b2 n2 d2, .slice ar k cr] 37 _ H8.out.1 rfl rfl rfl Try.underlying37 rfl (by kernel_rfl) ?_
      go_wp2_with (first | go_skip | (with_reducible refine stopStore 37 rfl ?_))
      refine store_known 37 (w.heap.size + 1) _ #[.int .i64 s.count, .int .i64 s.sum, .int .i64 s.min, .int .i64 s.max, .slice b1 n1 d1, .slice b2 n2 d2, .slice ar k cr] 37 H8.out.2.1 rfl rfl rfl rfl (by kernel_rfl) rfl (by kernel_rfl) ?_
      go_wp2
      refine bodyPost_ret (results_cell_row Try.results70 _ _ (w.heap.size + 1) _ _ _ _ rfl H8.out.2.1.setRow Try.underlying37 rfl (by kernel_rfl)) rfl ?_
      have nr : w.heap.size + 1 ∉ G1 ++ (G2 ++ FR) := fun hx => by have := R8.out.2.2.2.ge _ hx; omega
      have ag : Agree W8 (W8.setRow (w.heap.size + 1) #[.int .i64 s.count, .int .i64 s.sum, .int .i64 s.min, .int .i64 s.max, .slice b1 n1 d1, .slice b2 n2 d2, .slice ar k cr]) (G1 ++ (G2 ++ FR)) := fun b hb => setRow_other W8 _ b _ (fun e => nr (e ▸ hb))
      exact ⟨_, G1 ++ (G2 ++ FR), rfl, ⟨b1, n1, d1, b2, n2, d2, ar, k, cr, G1, G2, FR, rfl, R8.out.1.agree ag.left, R8.out.2.1.agree ag.right.left, R8.out.2.2.1.agree ag.right.right, rfl⟩, (R8.out.2.2.2.agree ag).mono (by omega), below_setRow H8.out.2.2 (by omega) _⟩
set_option maxRecDepth 200000 in
theorem copiedSketch_any (v : Value) (s : Sk) (F : List Nat) (w : World) (h : RdSk w v s F) (hs : s.shaped = true) :
    Calls Try.prog 70 #[v] w fun e w' => NewSk w s e w' := copiedSketch_all v s F w h (Sk.shaped_fits hs)
end Go.Proofs.Ytillnoeailnnfaa
/- The program's copiedEntry. No statement of the seat is proved here. -/
namespace Go.Proofs.Ytillnoeailnnfaa
open Go.RowKit
section
variable {P : Program} {ops : Array Oper} {Q : Exit → Act → World → Prop} {a : Act} {w : World} {x y : Operand} {o : Oper} {K : Act → World → Prop}
theorem op_storePart (ty : TypeId) (g off : Nat) (cs ds es : Array Value) (t : TypeId) (hg : Blk w g cs t) (hw : Region.wanted o (yielded ops a.tmps) = true) (ho : o.op = .store ty x y) (hx : a.eval x = .pointer (some ⟨g, off, none⟩)) (hy : a.eval y = .agg ds)
    (hi : (P.info? ty).map (·.size) = some ds.size) (hfit : off + ds.size ≤ cs.size) (h1 : ds.all (·.oneCell') = true) (hes : cutIn cs off ds = es)
    (h : ∃ a', a.put o.dst undef = a' ∧ K a' (w.setRow g es)) : if Region.wanted o (yielded ops a.tmps) = true then Oper.wp P o a w K Q else K (a.put o.dst undef) w := by
  subst hes
  obtain ⟨_, rfl, h⟩ := h
  rw [if_pos hw]
  unfold Oper.wp execOp
  simp only [ho, hx, hy, Instr.storeAt, Instr.sureAddr, Sem.run_bind, Sem.run_pure, Result.andThen_ok, run_storeVar_cut w g off t ty cs ds hg hi hfit h1]
  exact h
theorem op_loadPart (ty : TypeId) (g off n : Nat) (cs ds : Array Value) (t : TypeId) (d : TypeDesc) (hg : Blk w g cs t) (hw : Region.wanted o (yielded ops a.tmps) = true) (ho : o.op = .load ty x) (hx : a.eval x = .pointer (some ⟨g, off, none⟩)) (hu : P.underlying ty = some d) (hd : (match d with | .struct _ | .array _ _ => true | _ => false) = true)
    (hi : (P.info? ty).map (·.size) = some n) (hfit : off + n ≤ cs.size) (hds : cutOf cs off n = ds) (h : ∃ a', a.put o.dst (.agg ds) = a' ∧ K a' w) : if Region.wanted o (yielded ops a.tmps) = true then Oper.wp P o a w K Q else K (a.put o.dst undef) w := by
  have y : YieldsIf P ops (fun W => W = w) o (.agg ds) a := yields_cut ty g off n cs ds t d hw ho hx hu hd hi hfit hds (fun W hW => by rw [hW]; exact hg)
  rcases y with ⟨_, y⟩ | ⟨y, _⟩
  · exact op_value (.agg ds) hw (y w rfl) h
  · rw [hw] at y; cases y
end
theorem infoEnP10 : (Try.prog.info? 39).map (·.size) = some 10 := by kernel_rfl
set_option maxRecDepth 200000 in
set_option maxHeartbeats 4000000 in
theorem copiedEntry_any (v : Value) (x : En) (F0 : List Nat) (w : World) (h : RdE w v x F0) (hf : x.fits) :
    Calls Try.prog 49 #[v] w fun e w' => ∃ v F, e = .returned v ∧ RdE w' v x F ∧ Own w.heap.size w' F ∧ Below w.heap.size w w' := by
  obtain ⟨F1, F2, _, b, l, c, a1, n1, c1, a2, n2, c2, a3, n3, c3, rfl, hp, hr, hcp⟩ := h
  have HP : Hid (RdP w b l x.ids F1 ∧ RdSk w (.agg #[.int .i64 x.sk.count, .int .i64 x.sk.sum, .int .i64 x.sk.min, .int .i64 x.sk.max, .slice a1 n1 c1, .slice a2 n2 c2, .slice a3 n3 c3]) x.sk F2 ∧ l ≤ 2097152 ∧ x.sk.fits) := ⟨hp, hr, by rw [← hp.length]; have := hf.2; omega, hf.1⟩
  have HT : Hid (_ ∧ _ ∧ _) := two_made w #[.int .i64 x.key, .int .i64 x.window, .slice b l c, .int .i64 x.sk.count, .int .i64 x.sk.sum, .int .i64 x.sk.min, .int .i64 x.sk.max, .slice a1 n1 c1, .slice a2 n2 c2, .slice a3 n3 c3] #[.int .i64 0, .int .i64 0, .slice none 0 0, .int .i64 0, .int .i64 0, .int .i64 0, .int .i64 0, .slice none 0 0, .slice none 0 0, .slice none 0 0] 39 39
  clear hp hr hcp hf
  go_enter Try.func49, Try.ntmps49
  go_wp2_with fail
  obtain ⟨W0, hW0⟩ : ∃ W0, W0 = (w.alloc (.cells #[.int .i64 x.key, .int .i64 x.window, .slice b l c, .int .i64 x.sk.count, .int .i64 x.sk.sum, .int .i64 x.sk.min, .int .i64 x.sk.max, .slice a1 n1 c1, .slice a2 n2 c2, .slice a3 n3 c3] 39)).alloc (.cells #[.int .i64 0, .int .i64 0, .slice none 0 0, .int .i64 0, .int .i64 0, .int .i64 0, .int .i64 0, .slice none 0 0, .slice none 0 0, .slice none 0 0] 39) := ⟨_, rfl⟩
  rw [← hW0] at HT ⊢
  clear hW0
  have HS : Hid (Blk W0.drew w.heap.size #[.int .i64 x.key, .int .i64 x.window, .slice b l c, .int .i64 x.sk.count, .int .i64 x.sk.sum, .int .i64 x.sk.min, .int .i64 x.sk.max, .slice a1 n1 c1, .slice a2 n2 c2, .slice a3 n3 c3] 39 ∧ Blk W0.drew (w.heap.size + 1) #[.int .i64 0, .int .i64 0, .slice none 0 0, .int .i64 0, .int .i64 0, .int .i64 0, .int .i64 0, .slice none 0 0, .slice none 0 0, .slice none 0 0] 39 ∧ Below w.heap.size w W0.drew) := ⟨HT.out.1.drew, HT.out.2.1.drew, HT.out.2.2.drew⟩
  obtain ⟨Y0, hY0⟩ : ∃ Y, Y = W0.drew := ⟨_, rfl⟩
  rw [← hY0] at HS
  clear HT
  refine wp_region_held (S := fun _ => True) (by kernel_rfl) ?_
  change wpAnyH _ _ _ _ _ _ _ _ (World.drew _)
  rw [← hY0]
  clear hY0
  refine takeH (o := ?o1) 0 (.pointer (some ⟨w.heap.size, 2, none⟩)) ?h1 ?r1
  case h1 => simp only [aT, aZ]; rfl
  refine ⟨_, by simp [Act.put]; rfl, by kernel_rfl, by kernel_rfl, by kernel_rfl, fun _ _ _ h => h, (.inl ⟨rfl, fun W _ => by kernel_rfl⟩), trivial, ?_⟩
  refine takeH (o := ?o2) 3 (.pointer (some ⟨w.heap.size, 3, none⟩)) ?h2 ?r2
  case h2 => simp only [aT, aS, aZ]; rfl
  refine ⟨_, by simp [Act.put]; rfl, by kernel_rfl, by kernel_rfl, by kernel_rfl, fun _ _ _ h => h, (.inl ⟨rfl, fun W _ => by kernel_rfl⟩), trivial, ?_⟩
  refine twoH (o := ?o3) (o' := ?p3) 1 4 (by kernel_rfl) ?h3 ?g3 ?r3 ?s3
  case h3 => simp only [aT, aS, aZ]; rfl
  case g3 => simp only [aT, aS, aZ]; rfl
  case r3 =>
    intro K hK
    have co := HS.out.1.cell 2
    simp only [aT, aS, aZ] at co
    refine op_value (.slice b l c) rfl (by go_simp) ⟨_, by simp [Act.put]; rfl, hK _ _ ⟨trivial, ?_⟩⟩
    clear hK co
    refine twoH (o := ?o4) (o' := ?p4) 2 4 (by kernel_rfl) ?h4 ?g4 ?r4 ?s4
    case h4 => simp only [aT, aS, aZ]; rfl
    case g4 => simp only [aT, aS, aZ]; rfl
    case r4 =>
      intro K hK
      refine op_call1 69 _ _ Try.f69 (fun v w' => ∃ a len cap F, v = .slice a len cap ∧ RdP w' a len x.ids F ∧ Own Y0.heap.size w' F ∧ Below Y0.heap.size Y0 w' ∧ Capd a len cap) rfl rfl Try.func69 (by kernel_rfl) (by kernel_rfl) ((copiedSpans_any b l c x.ids F1 Y0 (HP.out.1.below HS.out.2.2) HP.out.2.2.1).mono (by rintro e w' ⟨a, len, cap, F, rfl, h1, h2, h3, h4⟩; exact ⟨_, rfl, a, len, cap, F, rfl, h1, h2, h3, h4⟩)) ?_
      rintro _ Y1 ⟨aj, lj, cj, Fj, rfl, rj, oj, bz, hcj⟩
      have HS1 : Hid (Blk Y1 w.heap.size #[.int .i64 x.key, .int .i64 x.window, .slice b l c, .int .i64 x.sk.count, .int .i64 x.sk.sum, .int .i64 x.sk.min, .int .i64 x.sk.max, .slice a1 n1 c1, .slice a2 n2 c2, .slice a3 n3 c3] 39 ∧ Blk Y1 (w.heap.size + 1) #[.int .i64 0, .int .i64 0, .slice none 0 0, .int .i64 0, .int .i64 0, .int .i64 0, .int .i64 0, .slice none 0 0, .slice none 0 0, .slice none 0 0] 39 ∧ Below w.heap.size w Y1) := ⟨HS.out.1.below bz, HS.out.2.1.below bz, Below.next HS.out.2.2 bz⟩
      have HJ : Hid (RdP Y1 aj lj x.ids Fj ∧ Own (w.heap.size + 2) Y1 Fj ∧ Capd aj lj cj) := ⟨rj, oj.mono HS.out.2.1.lt, hcj⟩
      refine ⟨_, by simp [Act.put]; rfl, hK _ _ ⟨trivial, ?_⟩⟩
      clear hK bz rj oj hcj HS
      refine onlyH (o := ?o5) 4 (by kernel_rfl) ?h5 ?r5
      case h5 => simp only [aT, aS, aZ]; rfl
      intro K hK
      refine op_loadPart 37 w.heap.size 3 7 #[.int .i64 x.key, .int .i64 x.window, .slice b l c, .int .i64 x.sk.count, .int .i64 x.sk.sum, .int .i64 x.sk.min, .int .i64 x.sk.max, .slice a1 n1 c1, .slice a2 n2 c2, .slice a3 n3 c3] #[.int .i64 x.sk.count, .int .i64 x.sk.sum, .int .i64 x.sk.min, .int .i64 x.sk.max, .slice a1 n1 c1, .slice a2 n2 c2, .slice a3 n3 c3] 39 _ HS1.out.1 rfl rfl rfl Try.underlying37 rfl infoSkI (by simp) rfl ⟨_, by simp [Act.put]; rfl, hK _ _ ⟨trivial, ?_⟩⟩
      clear hK
      refine takeH (o := ?o6) 6 (.pointer (some ⟨w.heap.size, 2, none⟩)) ?h6 ?r6
      case h6 => simp only [aT, aS, aZ]; rfl
      refine ⟨_, by simp [Act.put]; rfl, by kernel_rfl, by kernel_rfl, by kernel_rfl, fun _ _ _ h => h, (.inl ⟨rfl, fun W _ => by kernel_rfl⟩), trivial, ?_⟩
      refine onlyH (o := ?o7) 5 (by kernel_rfl) ?h7 ?r7
      case h7 => simp only [aT, aS, aZ]; rfl
      intro K hK
      refine op_call1 70 _ _ Try.f70 (fun v w' => ∃ X, RdSk w' v x.sk X ∧ Own Y1.heap.size w' X ∧ Below Y1.heap.size Y1 w') rfl rfl Try.func70 (by kernel_rfl) (by kernel_rfl) ((copiedSketch_all _ x.sk F2 Y1 (HP.out.2.1.below HS1.out.2.2) HP.out.2.2.2).mono (by rintro e w' ⟨v, X, rfl, h1, h2, h3⟩; exact ⟨_, rfl, X, h1, h2, h3⟩)) ?_
      rintro vm Y2 ⟨X, rm, om, bz⟩
      obtain ⟨e1, r1, f1, e2, r2, f2, e3, r3, f3, rfl⟩ := rm.cells7
      have HS2 : Hid (Blk Y2 w.heap.size #[.int .i64 x.key, .int .i64 x.window, .slice b l c, .int .i64 x.sk.count, .int .i64 x.sk.sum, .int .i64 x.sk.min, .int .i64 x.sk.max, .slice a1 n1 c1, .slice a2 n2 c2, .slice a3 n3 c3] 39 ∧ Blk Y2 (w.heap.size + 1) #[.int .i64 0, .int .i64 0, .slice none 0 0, .int .i64 0, .int .i64 0, .int .i64 0, .int .i64 0, .slice none 0 0, .slice none 0 0, .slice none 0 0] 39 ∧ Below w.heap.size w Y2) := ⟨HS1.out.1.below bz, HS1.out.2.1.below bz, Below.next HS1.out.2.2 bz⟩
      have HJ2 : Hid (RdP Y2 aj lj x.ids Fj ∧ Own (w.heap.size + 2) Y2 Fj ∧ RdSk Y2 (.agg #[.int .i64 x.sk.count, .int .i64 x.sk.sum, .int .i64 x.sk.min, .int .i64 x.sk.max, .slice e1 r1 f1, .slice e2 r2 f2, .slice e3 r3 f3]) x.sk X ∧ Own (w.heap.size + 2) Y2 X ∧ (∀ b ∈ Fj, b ∉ X) ∧ Capd aj lj cj) := ⟨HJ.out.1.below bz, HJ.out.2.1.below HJ.out.1.lt bz, rm, om.mono HS1.out.2.1.lt, fun b hb hx => by have := HJ.out.1.lt b hb; have := om.ge b hx; omega, HJ.out.2.2⟩
      refine ⟨_, by simp [Act.put]; rfl, hK _ _ ⟨trivial, ?_⟩⟩
      clear hK bz rm om HS1 HJ
      refine onlyH (o := ?o8) 7 (by kernel_rfl) ?h8 ?r8
      case h8 => simp only [aT, aS, aZ]; rfl
      intro K hK
      have co := HS2.out.1.cell 2
      have fo := HS2.out.1.frozen 2
      simp only [aT, aS, aZ] at co
      have HA : Hid (Blk (Y2.setCell ⟨w.heap.size, 2, none⟩ (.slice aj lj cj)) w.heap.size #[.int .i64 x.key, .int .i64 x.window, .slice aj lj cj, .int .i64 x.sk.count, .int .i64 x.sk.sum, .int .i64 x.sk.min, .int .i64 x.sk.max, .slice a1 n1 c1, .slice a2 n2 c2, .slice a3 n3 c3] 39 ∧ Blk (Y2.setCell ⟨w.heap.size, 2, none⟩ (.slice aj lj cj)) (w.heap.size + 1) #[.int .i64 0, .int .i64 0, .slice none 0 0, .int .i64 0, .int .i64 0, .int .i64 0, .int .i64 0, .slice none 0 0, .slice none 0 0, .slice none 0 0] 39 ∧ Below w.heap.size w (Y2.setCell ⟨w.heap.size, 2, none⟩ (.slice aj lj cj))) := ⟨HS2.out.1.set 2 _, HS2.out.2.1.setOther (by omega) 2 _, HS2.out.2.2.setCell (by show w.heap.size ≤ w.heap.size; omega) _⟩
      have nf : w.heap.size ∉ Fj := fun hx => by have := HJ2.out.2.1.ge _ hx; omega
      have nx : w.heap.size ∉ X := fun hx => by have := HJ2.out.2.2.2.1.ge _ hx; omega
      have HJ3 : Hid (RdP (Y2.setCell ⟨w.heap.size, 2, none⟩ (.slice aj lj cj)) aj lj x.ids Fj ∧ Own (w.heap.size + 2) (Y2.setCell ⟨w.heap.size, 2, none⟩ (.slice aj lj cj)) Fj ∧ RdSk (Y2.setCell ⟨w.heap.size, 2, none⟩ (.slice aj lj cj)) (.agg #[.int .i64 x.sk.count, .int .i64 x.sk.sum, .int .i64 x.sk.min, .int .i64 x.sk.max, .slice e1 r1 f1, .slice e2 r2 f2, .slice e3 r3 f3]) x.sk X ∧ Own (w.heap.size + 2) (Y2.setCell ⟨w.heap.size, 2, none⟩ (.slice aj lj cj)) X ∧ (∀ b ∈ Fj, b ∉ X) ∧ Capd aj lj cj) := ⟨HJ2.out.1.agree (.set nf 2 _), HJ2.out.2.1.agree (.set nf 2 _), HJ2.out.2.2.1.agree (.set nx 2 _), HJ2.out.2.2.2.1.agree (.set nx 2 _), HJ2.out.2.2.2.2⟩
      refine op_skip (Y2.setCell ⟨w.heap.size, 2, none⟩ (.slice aj lj cj)) rfl (by go_simp) ⟨_, by simp [Act.put]; rfl, hK _ _ ⟨trivial, ?_⟩⟩
      obtain ⟨Z7, hZ7⟩ : ∃ Z, Z = (Y2.setCell ⟨w.heap.size, 2, none⟩ (.slice aj lj cj)) := ⟨_, rfl⟩
      rw [← hZ7] at HA HJ3 ⊢
      clear hK co fo HS2 HJ2 hZ7
      refine takeH (o := ?o9) 8 (.pointer (some ⟨w.heap.size, 3, none⟩)) ?h9 ?r9
      case h9 => simp only [aT, aS, aZ]; rfl
      refine ⟨_, by simp [Act.put]; rfl, by kernel_rfl, by kernel_rfl, by kernel_rfl, fun _ _ _ h => h, (.inl ⟨rfl, fun W _ => by kernel_rfl⟩), trivial, ?_⟩
      refine onlyH (o := ?o10) 9 (by kernel_rfl) ?h10 ?r10
      case h10 => simp only [aT, aS, aZ]; rfl
      intro K hK
      refine op_storePart 37 w.heap.size 3 #[.int .i64 x.key, .int .i64 x.window, .slice aj lj cj, .int .i64 x.sk.count, .int .i64 x.sk.sum, .int .i64 x.sk.min, .int .i64 x.sk.max, .slice a1 n1 c1, .slice a2 n2 c2, .slice a3 n3 c3] #[.int .i64 x.sk.count, .int .i64 x.sk.sum, .int .i64 x.sk.min, .int .i64 x.sk.max, .slice e1 r1 f1, .slice e2 r2 f2, .slice e3 r3 f3] #[.int .i64 x.key, .int .i64 x.window, .slice aj lj cj, .int .i64 x.sk.count, .int .i64 x.sk.sum, .int .i64 x.sk.min, .int .i64 x.sk.max, .slice e1 r1 f1, .slice e2 r2 f2, .slice e3 r3 f3] 39 HA.out.1 rfl rfl rfl rfl infoSkI (by exact Nat.le_refl 10) (by simp [Value.oneCell']) rfl ⟨_, by simp [Act.put]; rfl, hK _ _ ⟨trivial, ?_⟩⟩
      clear hK
      refine wpAnyH_done (by kernel_rfl) ?_ _
      obtain ⟨E, hE⟩ : ∃ E : Array Value, E = #[.int .i64 x.key, .int .i64 x.window, .slice aj lj cj, .int .i64 x.sk.count, .int .i64 x.sk.sum, .int .i64 x.sk.min, .int .i64 x.sk.max, .slice e1 r1 f1, .slice e2 r2 f2, .slice e3 r3 f3] := ⟨_, rfl⟩
      rw [← hE]
      have HE : Hid (E = #[.int .i64 x.key, .int .i64 x.window, .slice aj lj cj, .int .i64 x.sk.count, .int .i64 x.sk.sum, .int .i64 x.sk.min, .int .i64 x.sk.max, .slice e1 r1 f1, .slice e2 r2 f2, .slice e3 r3 f3] ∧ E.size = 10 ∧ E.all (·.oneCell') = true) := ⟨hE, by rw [hE]; rfl, by rw [hE]; simp [Value.oneCell']⟩
      have HB : Hid (Blk (Z7.setRow w.heap.size E) w.heap.size E 39 ∧ Blk (Z7.setRow w.heap.size E) (w.heap.size + 1) #[.int .i64 0, .int .i64 0, .slice none 0 0, .int .i64 0, .int .i64 0, .int .i64 0, .int .i64 0, .slice none 0 0, .slice none 0 0, .slice none 0 0] 39 ∧ Below w.heap.size w (Z7.setRow w.heap.size E)) := ⟨HA.out.1.setRow, HA.out.2.1.setRowOther (by omega), below_setRow HA.out.2.2 (by omega) _⟩
      have HJ4 : Hid (RdP (Z7.setRow w.heap.size E) aj lj x.ids Fj ∧ Own (w.heap.size + 2) (Z7.setRow w.heap.size E) Fj ∧ RdSk (Z7.setRow w.heap.size E) (.agg #[.int .i64 x.sk.count, .int .i64 x.sk.sum, .int .i64 x.sk.min, .int .i64 x.sk.max, .slice e1 r1 f1, .slice e2 r2 f2, .slice e3 r3 f3]) x.sk X ∧ Own (w.heap.size + 2) (Z7.setRow w.heap.size E) X ∧ (∀ b ∈ Fj, b ∉ X) ∧ Capd aj lj cj) := ⟨HJ3.out.1.agree (Agree.row nf E), HJ3.out.2.1.agree (Agree.row nf E), HJ3.out.2.2.1.agree (Agree.row nx E), HJ3.out.2.2.2.1.agree (Agree.row nx E), HJ3.out.2.2.2.2⟩
      obtain ⟨w3, hw3⟩ : ∃ W, W = Z7.setRow w.heap.size E := ⟨_, rfl⟩
      rw [← hw3] at HB HJ4 ⊢
      clear hE hw3 HJ3 HA nf nx
      go_wp2_with (first | go_skip | (with_reducible refine stopLoad 39 rfl ?_))
      refine load_known 39 w.heap.size E 39 _ HB.out.1 rfl rfl rfl Try.underlying39 rfl (by rw [HE.out.2.1]; exact infoEnP10) ?_
      go_wp2_with (first | go_skip | (with_reducible refine stopStore 39 rfl ?_))
      refine store_known 39 (w.heap.size + 1) _ E 39 HB.out.2.1 rfl rfl rfl rfl (by rw [HE.out.2.1]; exact infoEnP10) (by rw [HE.out.2.1]; rfl) HE.out.2.2 ?_
      have nf : w.heap.size + 1 ∉ Fj := fun hx => by have := HJ4.out.2.1.ge _ hx; omega
      have nx : w.heap.size + 1 ∉ X := fun hx => by have := HJ4.out.2.2.2.1.ge _ hx; omega
      have HF : Hid (Blk (w3.setRow (w.heap.size + 1) E) (w.heap.size + 1) E 39 ∧ RdP (w3.setRow (w.heap.size + 1) E) aj lj x.ids Fj ∧ Own w.heap.size (w3.setRow (w.heap.size + 1) E) Fj ∧ RdSk (w3.setRow (w.heap.size + 1) E) (.agg #[.int .i64 x.sk.count, .int .i64 x.sk.sum, .int .i64 x.sk.min, .int .i64 x.sk.max, .slice e1 r1 f1, .slice e2 r2 f2, .slice e3 r3 f3]) x.sk X ∧ Own w.heap.size (w3.setRow (w.heap.size + 1) E) X ∧ Below w.heap.size w (w3.setRow (w.heap.size + 1) E)) := ⟨HB.out.2.1.setRow, HJ4.out.1.agree (Agree.row nf E), (HJ4.out.2.1.agree (Agree.row nf E)).mono (by omega), HJ4.out.2.2.1.agree (Agree.row nx E), (HJ4.out.2.2.2.1.agree (Agree.row nx E)).mono (by omega), below_setRow HB.out.2.2 (by omega) _⟩
      go_wp2
      refine bodyPost_ret (results_cell_row Try.results49 _ _ (w.heap.size + 1) _ _ (0, 0) _ rfl HF.out.1 Try.underlying39 rfl (by rw [HE.out.2.1]; exact infoEnP10)) rfl ?_
      exact ⟨_, Fj ++ X, rfl, ⟨Fj, X, rfl, aj, lj, cj, e1, r1, f1, e2, r2, f2, e3, r3, f3, by rw [HE.out.1], HF.out.2.1, HF.out.2.2.2.1, HJ4.out.2.2.2.2.2⟩, HF.out.2.2.1.app HF.out.2.2.2.2.1 HJ4.out.2.2.2.2.1, HF.out.2.2.2.2.2⟩
    case s4 =>
      intro K hK
      refine op_loadPart 37 w.heap.size 3 7 #[.int .i64 x.key, .int .i64 x.window, .slice b l c, .int .i64 x.sk.count, .int .i64 x.sk.sum, .int .i64 x.sk.min, .int .i64 x.sk.max, .slice a1 n1 c1, .slice a2 n2 c2, .slice a3 n3 c3] #[.int .i64 x.sk.count, .int .i64 x.sk.sum, .int .i64 x.sk.min, .int .i64 x.sk.max, .slice a1 n1 c1, .slice a2 n2 c2, .slice a3 n3 c3] 39 _ HS.out.1 rfl rfl rfl Try.underlying37 rfl infoSkI (by simp) rfl ⟨_, by simp [Act.put]; rfl, hK _ _ ⟨trivial, ?_⟩⟩
      clear hK
      refine onlyH (o := ?o11) 2 (by kernel_rfl) ?h11 ?r11
      case h11 => simp only [aT, aS, aZ]; rfl
      intro K hK
      refine op_call1 69 _ _ Try.f69 (fun v w' => ∃ a len cap F, v = .slice a len cap ∧ RdP w' a len x.ids F ∧ Own Y0.heap.size w' F ∧ Below Y0.heap.size Y0 w' ∧ Capd a len cap) rfl rfl Try.func69 (by kernel_rfl) (by kernel_rfl) ((copiedSpans_any b l c x.ids F1 Y0 (HP.out.1.below HS.out.2.2) HP.out.2.2.1).mono (by rintro e w' ⟨a, len, cap, F, rfl, h1, h2, h3, h4⟩; exact ⟨_, rfl, a, len, cap, F, rfl, h1, h2, h3, h4⟩)) ?_
      rintro _ Y3 ⟨aj, lj, cj, Fj, rfl, rj, oj, bz, hcj⟩
      have HS3 : Hid (Blk Y3 w.heap.size #[.int .i64 x.key, .int .i64 x.window, .slice b l c, .int .i64 x.sk.count, .int .i64 x.sk.sum, .int .i64 x.sk.min, .int .i64 x.sk.max, .slice a1 n1 c1, .slice a2 n2 c2, .slice a3 n3 c3] 39 ∧ Blk Y3 (w.heap.size + 1) #[.int .i64 0, .int .i64 0, .slice none 0 0, .int .i64 0, .int .i64 0, .int .i64 0, .int .i64 0, .slice none 0 0, .slice none 0 0, .slice none 0 0] 39 ∧ Below w.heap.size w Y3) := ⟨HS.out.1.below bz, HS.out.2.1.below bz, Below.next HS.out.2.2 bz⟩
      have HJ : Hid (RdP Y3 aj lj x.ids Fj ∧ Own (w.heap.size + 2) Y3 Fj ∧ Capd aj lj cj) := ⟨rj, oj.mono HS.out.2.1.lt, hcj⟩
      refine ⟨_, by simp [Act.put]; rfl, hK _ _ ⟨trivial, ?_⟩⟩
      clear hK bz rj oj hcj HS
      refine takeH (o := ?o12) 6 (.pointer (some ⟨w.heap.size, 2, none⟩)) ?h12 ?r12
      case h12 => simp only [aT, aS, aZ]; rfl
      refine ⟨_, by simp [Act.put]; rfl, by kernel_rfl, by kernel_rfl, by kernel_rfl, fun _ _ _ h => h, (.inl ⟨rfl, fun W _ => by kernel_rfl⟩), trivial, ?_⟩
      refine onlyH (o := ?o13) 5 (by kernel_rfl) ?h13 ?r13
      case h13 => simp only [aT, aS, aZ]; rfl
      intro K hK
      refine op_call1 70 _ _ Try.f70 (fun v w' => ∃ X, RdSk w' v x.sk X ∧ Own Y3.heap.size w' X ∧ Below Y3.heap.size Y3 w') rfl rfl Try.func70 (by kernel_rfl) (by kernel_rfl) ((copiedSketch_all _ x.sk F2 Y3 (HP.out.2.1.below HS3.out.2.2) HP.out.2.2.2).mono (by rintro e w' ⟨v, X, rfl, h1, h2, h3⟩; exact ⟨_, rfl, X, h1, h2, h3⟩)) ?_
      rintro vm Y4 ⟨X, rm, om, bz⟩
      obtain ⟨e1, r1, f1, e2, r2, f2, e3, r3, f3, rfl⟩ := rm.cells7
      have HS4 : Hid (Blk Y4 w.heap.size #[.int .i64 x.key, .int .i64 x.window, .slice b l c, .int .i64 x.sk.count, .int .i64 x.sk.sum, .int .i64 x.sk.min, .int .i64 x.sk.max, .slice a1 n1 c1, .slice a2 n2 c2, .slice a3 n3 c3] 39 ∧ Blk Y4 (w.heap.size + 1) #[.int .i64 0, .int .i64 0, .slice none 0 0, .int .i64 0, .int .i64 0, .int .i64 0, .int .i64 0, .slice none 0 0, .slice none 0 0, .slice none 0 0] 39 ∧ Below w.heap.size w Y4) := ⟨HS3.out.1.below bz, HS3.out.2.1.below bz, Below.next HS3.out.2.2 bz⟩
      have HJ2 : Hid (RdP Y4 aj lj x.ids Fj ∧ Own (w.heap.size + 2) Y4 Fj ∧ RdSk Y4 (.agg #[.int .i64 x.sk.count, .int .i64 x.sk.sum, .int .i64 x.sk.min, .int .i64 x.sk.max, .slice e1 r1 f1, .slice e2 r2 f2, .slice e3 r3 f3]) x.sk X ∧ Own (w.heap.size + 2) Y4 X ∧ (∀ b ∈ Fj, b ∉ X) ∧ Capd aj lj cj) := ⟨HJ.out.1.below bz, HJ.out.2.1.below HJ.out.1.lt bz, rm, om.mono HS3.out.2.1.lt, fun b hb hx => by have := HJ.out.1.lt b hb; have := om.ge b hx; omega, HJ.out.2.2⟩
      refine ⟨_, by simp [Act.put]; rfl, hK _ _ ⟨trivial, ?_⟩⟩
      clear hK bz rm om HS3 HJ
      refine onlyH (o := ?o14) 7 (by kernel_rfl) ?h14 ?r14
      case h14 => simp only [aT, aS, aZ]; rfl
      intro K hK
      have co := HS4.out.1.cell 2
      have fo := HS4.out.1.frozen 2
      simp only [aT, aS, aZ] at co
      have HA : Hid (Blk (Y4.setCell ⟨w.heap.size, 2, none⟩ (.slice aj lj cj)) w.heap.size #[.int .i64 x.key, .int .i64 x.window, .slice aj lj cj, .int .i64 x.sk.count, .int .i64 x.sk.sum, .int .i64 x.sk.min, .int .i64 x.sk.max, .slice a1 n1 c1, .slice a2 n2 c2, .slice a3 n3 c3] 39 ∧ Blk (Y4.setCell ⟨w.heap.size, 2, none⟩ (.slice aj lj cj)) (w.heap.size + 1) #[.int .i64 0, .int .i64 0, .slice none 0 0, .int .i64 0, .int .i64 0, .int .i64 0, .int .i64 0, .slice none 0 0, .slice none 0 0, .slice none 0 0] 39 ∧ Below w.heap.size w (Y4.setCell ⟨w.heap.size, 2, none⟩ (.slice aj lj cj))) := ⟨HS4.out.1.set 2 _, HS4.out.2.1.setOther (by omega) 2 _, HS4.out.2.2.setCell (by show w.heap.size ≤ w.heap.size; omega) _⟩
      have nf : w.heap.size ∉ Fj := fun hx => by have := HJ2.out.2.1.ge _ hx; omega
      have nx : w.heap.size ∉ X := fun hx => by have := HJ2.out.2.2.2.1.ge _ hx; omega
      have HJ3 : Hid (RdP (Y4.setCell ⟨w.heap.size, 2, none⟩ (.slice aj lj cj)) aj lj x.ids Fj ∧ Own (w.heap.size + 2) (Y4.setCell ⟨w.heap.size, 2, none⟩ (.slice aj lj cj)) Fj ∧ RdSk (Y4.setCell ⟨w.heap.size, 2, none⟩ (.slice aj lj cj)) (.agg #[.int .i64 x.sk.count, .int .i64 x.sk.sum, .int .i64 x.sk.min, .int .i64 x.sk.max, .slice e1 r1 f1, .slice e2 r2 f2, .slice e3 r3 f3]) x.sk X ∧ Own (w.heap.size + 2) (Y4.setCell ⟨w.heap.size, 2, none⟩ (.slice aj lj cj)) X ∧ (∀ b ∈ Fj, b ∉ X) ∧ Capd aj lj cj) := ⟨HJ2.out.1.agree (.set nf 2 _), HJ2.out.2.1.agree (.set nf 2 _), HJ2.out.2.2.1.agree (.set nx 2 _), HJ2.out.2.2.2.1.agree (.set nx 2 _), HJ2.out.2.2.2.2⟩
      refine op_skip (Y4.setCell ⟨w.heap.size, 2, none⟩ (.slice aj lj cj)) rfl (by go_simp) ⟨_, by simp [Act.put]; rfl, hK _ _ ⟨trivial, ?_⟩⟩
      obtain ⟨Z7, hZ7⟩ : ∃ Z, Z = (Y4.setCell ⟨w.heap.size, 2, none⟩ (.slice aj lj cj)) := ⟨_, rfl⟩
      rw [← hZ7] at HA HJ3 ⊢
      clear hK co fo HS4 HJ2 hZ7
      refine takeH (o := ?o15) 8 (.pointer (some ⟨w.heap.size, 3, none⟩)) ?h15 ?r15
      case h15 => simp only [aT, aS, aZ]; rfl
      refine ⟨_, by simp [Act.put]; rfl, by kernel_rfl, by kernel_rfl, by kernel_rfl, fun _ _ _ h => h, (.inl ⟨rfl, fun W _ => by kernel_rfl⟩), trivial, ?_⟩
      refine onlyH (o := ?o16) 9 (by kernel_rfl) ?h16 ?r16
      case h16 => simp only [aT, aS, aZ]; rfl
      intro K hK
      refine op_storePart 37 w.heap.size 3 #[.int .i64 x.key, .int .i64 x.window, .slice aj lj cj, .int .i64 x.sk.count, .int .i64 x.sk.sum, .int .i64 x.sk.min, .int .i64 x.sk.max, .slice a1 n1 c1, .slice a2 n2 c2, .slice a3 n3 c3] #[.int .i64 x.sk.count, .int .i64 x.sk.sum, .int .i64 x.sk.min, .int .i64 x.sk.max, .slice e1 r1 f1, .slice e2 r2 f2, .slice e3 r3 f3] #[.int .i64 x.key, .int .i64 x.window, .slice aj lj cj, .int .i64 x.sk.count, .int .i64 x.sk.sum, .int .i64 x.sk.min, .int .i64 x.sk.max, .slice e1 r1 f1, .slice e2 r2 f2, .slice e3 r3 f3] 39 HA.out.1 rfl rfl rfl rfl infoSkI (by exact Nat.le_refl 10) (by simp [Value.oneCell']) rfl ⟨_, by simp [Act.put]; rfl, hK _ _ ⟨trivial, ?_⟩⟩
      clear hK
      refine wpAnyH_done (by kernel_rfl) ?_ _
      obtain ⟨E, hE⟩ : ∃ E : Array Value, E = #[.int .i64 x.key, .int .i64 x.window, .slice aj lj cj, .int .i64 x.sk.count, .int .i64 x.sk.sum, .int .i64 x.sk.min, .int .i64 x.sk.max, .slice e1 r1 f1, .slice e2 r2 f2, .slice e3 r3 f3] := ⟨_, rfl⟩
      rw [← hE]
      have HE : Hid (E = #[.int .i64 x.key, .int .i64 x.window, .slice aj lj cj, .int .i64 x.sk.count, .int .i64 x.sk.sum, .int .i64 x.sk.min, .int .i64 x.sk.max, .slice e1 r1 f1, .slice e2 r2 f2, .slice e3 r3 f3] ∧ E.size = 10 ∧ E.all (·.oneCell') = true) := ⟨hE, by rw [hE]; rfl, by rw [hE]; simp [Value.oneCell']⟩
      have HB : Hid (Blk (Z7.setRow w.heap.size E) w.heap.size E 39 ∧ Blk (Z7.setRow w.heap.size E) (w.heap.size + 1) #[.int .i64 0, .int .i64 0, .slice none 0 0, .int .i64 0, .int .i64 0, .int .i64 0, .int .i64 0, .slice none 0 0, .slice none 0 0, .slice none 0 0] 39 ∧ Below w.heap.size w (Z7.setRow w.heap.size E)) := ⟨HA.out.1.setRow, HA.out.2.1.setRowOther (by omega), below_setRow HA.out.2.2 (by omega) _⟩
      have HJ4 : Hid (RdP (Z7.setRow w.heap.size E) aj lj x.ids Fj ∧ Own (w.heap.size + 2) (Z7.setRow w.heap.size E) Fj ∧ RdSk (Z7.setRow w.heap.size E) (.agg #[.int .i64 x.sk.count, .int .i64 x.sk.sum, .int .i64 x.sk.min, .int .i64 x.sk.max, .slice e1 r1 f1, .slice e2 r2 f2, .slice e3 r3 f3]) x.sk X ∧ Own (w.heap.size + 2) (Z7.setRow w.heap.size E) X ∧ (∀ b ∈ Fj, b ∉ X) ∧ Capd aj lj cj) := ⟨HJ3.out.1.agree (Agree.row nf E), HJ3.out.2.1.agree (Agree.row nf E), HJ3.out.2.2.1.agree (Agree.row nx E), HJ3.out.2.2.2.1.agree (Agree.row nx E), HJ3.out.2.2.2.2⟩
      obtain ⟨w3, hw3⟩ : ∃ W, W = Z7.setRow w.heap.size E := ⟨_, rfl⟩
      rw [← hw3] at HB HJ4 ⊢
      clear hE hw3 HJ3 HA nf nx
      go_wp2_with (first | go_skip | (with_reducible refine stopLoad 39 rfl ?_))
      refine load_known 39 w.heap.size E 39 _ HB.out.1 rfl rfl rfl Try.underlying39 rfl (by rw [HE.out.2.1]; exact infoEnP10) ?_
      go_wp2_with (first | go_skip | (with_reducible refine stopStore 39 rfl ?_))
      refine store_known 39 (w.heap.size + 1) _ E 39 HB.out.2.1 rfl rfl rfl rfl (by rw [HE.out.2.1]; exact infoEnP10) (by rw [HE.out.2.1]; rfl) HE.out.2.2 ?_
      have nf : w.heap.size + 1 ∉ Fj := fun hx => by have := HJ4.out.2.1.ge _ hx; omega
      have nx : w.heap.size + 1 ∉ X := fun hx => by have := HJ4.out.2.2.2.1.ge _ hx; omega
      have HF : Hid (Blk (w3.setRow (w.heap.size + 1) E) (w.heap.size + 1) E 39 ∧ RdP (w3.setRow (w.heap.size + 1) E) aj lj x.ids Fj ∧ Own w.heap.size (w3.setRow (w.heap.size + 1) E) Fj ∧ RdSk (w3.setRow (w.heap.size + 1) E) (.agg #[.int .i64 x.sk.count, .int .i64 x.sk.sum, .int .i64 x.sk.min, .int .i64 x.sk.max, .slice e1 r1 f1, .slice e2 r2 f2, .slice e3 r3 f3]) x.sk X ∧ Own w.heap.size (w3.setRow (w.heap.size + 1) E) X ∧ Below w.heap.size w (w3.setRow (w.heap.size + 1) E)) := ⟨HB.out.2.1.setRow, HJ4.out.1.agree (Agree.row nf E), (HJ4.out.2.1.agree (Agree.row nf E)).mono (by omega), HJ4.out.2.2.1.agree (Agree.row nx E), (HJ4.out.2.2.2.1.agree (Agree.row nx E)).mono (by omega), below_setRow HB.out.2.2 (by omega) _⟩
      go_wp2
      refine bodyPost_ret (results_cell_row Try.results49 _ _ (w.heap.size + 1) _ _ (0, 0) _ rfl HF.out.1 Try.underlying39 rfl (by rw [HE.out.2.1]; exact infoEnP10)) rfl ?_
      exact ⟨_, Fj ++ X, rfl, ⟨Fj, X, rfl, aj, lj, cj, e1, r1, f1, e2, r2, f2, e3, r3, f3, by rw [HE.out.1], HF.out.2.1, HF.out.2.2.2.1, HJ4.out.2.2.2.2.2⟩, HF.out.2.2.1.app HF.out.2.2.2.2.1 HJ4.out.2.2.2.2.1, HF.out.2.2.2.2.2⟩
  case s3 =>
    intro K hK
    refine op_loadPart 37 w.heap.size 3 7 #[.int .i64 x.key, .int .i64 x.window, .slice b l c, .int .i64 x.sk.count, .int .i64 x.sk.sum, .int .i64 x.sk.min, .int .i64 x.sk.max, .slice a1 n1 c1, .slice a2 n2 c2, .slice a3 n3 c3] #[.int .i64 x.sk.count, .int .i64 x.sk.sum, .int .i64 x.sk.min, .int .i64 x.sk.max, .slice a1 n1 c1, .slice a2 n2 c2, .slice a3 n3 c3] 39 _ HS.out.1 rfl rfl rfl Try.underlying37 rfl infoSkI (by simp) rfl ⟨_, by simp [Act.put]; rfl, hK _ _ ⟨trivial, ?_⟩⟩
    clear hK
    refine onlyH (o := ?o17) 1 (by kernel_rfl) ?h17 ?r17
    case h17 => simp only [aT, aS, aZ]; rfl
    intro K hK
    have co := HS.out.1.cell 2
    simp only [aT, aS, aZ] at co
    refine op_value (.slice b l c) rfl (by go_simp) ⟨_, by simp [Act.put]; rfl, hK _ _ ⟨trivial, ?_⟩⟩
    clear hK co
    refine onlyH (o := ?o18) 2 (by kernel_rfl) ?h18 ?r18
    case h18 => simp only [aT, aS, aZ]; rfl
    intro K hK
    refine op_call1 69 _ _ Try.f69 (fun v w' => ∃ a len cap F, v = .slice a len cap ∧ RdP w' a len x.ids F ∧ Own Y0.heap.size w' F ∧ Below Y0.heap.size Y0 w' ∧ Capd a len cap) rfl rfl Try.func69 (by kernel_rfl) (by kernel_rfl) ((copiedSpans_any b l c x.ids F1 Y0 (HP.out.1.below HS.out.2.2) HP.out.2.2.1).mono (by rintro e w' ⟨a, len, cap, F, rfl, h1, h2, h3, h4⟩; exact ⟨_, rfl, a, len, cap, F, rfl, h1, h2, h3, h4⟩)) ?_
    rintro _ Y5 ⟨aj, lj, cj, Fj, rfl, rj, oj, bz, hcj⟩
    have HS5 : Hid (Blk Y5 w.heap.size #[.int .i64 x.key, .int .i64 x.window, .slice b l c, .int .i64 x.sk.count, .int .i64 x.sk.sum, .int .i64 x.sk.min, .int .i64 x.sk.max, .slice a1 n1 c1, .slice a2 n2 c2, .slice a3 n3 c3] 39 ∧ Blk Y5 (w.heap.size + 1) #[.int .i64 0, .int .i64 0, .slice none 0 0, .int .i64 0, .int .i64 0, .int .i64 0, .int .i64 0, .slice none 0 0, .slice none 0 0, .slice none 0 0] 39 ∧ Below w.heap.size w Y5) := ⟨HS.out.1.below bz, HS.out.2.1.below bz, Below.next HS.out.2.2 bz⟩
    have HJ : Hid (RdP Y5 aj lj x.ids Fj ∧ Own (w.heap.size + 2) Y5 Fj ∧ Capd aj lj cj) := ⟨rj, oj.mono HS.out.2.1.lt, hcj⟩
    refine ⟨_, by simp [Act.put]; rfl, hK _ _ ⟨trivial, ?_⟩⟩
    clear hK bz rj oj hcj HS
    refine takeH (o := ?o19) 6 (.pointer (some ⟨w.heap.size, 2, none⟩)) ?h19 ?r19
    case h19 => simp only [aT, aS, aZ]; rfl
    refine ⟨_, by simp [Act.put]; rfl, by kernel_rfl, by kernel_rfl, by kernel_rfl, fun _ _ _ h => h, (.inl ⟨rfl, fun W _ => by kernel_rfl⟩), trivial, ?_⟩
    refine onlyH (o := ?o20) 5 (by kernel_rfl) ?h20 ?r20
    case h20 => simp only [aT, aS, aZ]; rfl
    intro K hK
    refine op_call1 70 _ _ Try.f70 (fun v w' => ∃ X, RdSk w' v x.sk X ∧ Own Y5.heap.size w' X ∧ Below Y5.heap.size Y5 w') rfl rfl Try.func70 (by kernel_rfl) (by kernel_rfl) ((copiedSketch_all _ x.sk F2 Y5 (HP.out.2.1.below HS5.out.2.2) HP.out.2.2.2).mono (by rintro e w' ⟨v, X, rfl, h1, h2, h3⟩; exact ⟨_, rfl, X, h1, h2, h3⟩)) ?_
    rintro vm Y6 ⟨X, rm, om, bz⟩
    obtain ⟨e1, r1, f1, e2, r2, f2, e3, r3, f3, rfl⟩ := rm.cells7
    have HS6 : Hid (Blk Y6 w.heap.size #[.int .i64 x.key, .int .i64 x.window, .slice b l c, .int .i64 x.sk.count, .int .i64 x.sk.sum, .int .i64 x.sk.min, .int .i64 x.sk.max, .slice a1 n1 c1, .slice a2 n2 c2, .slice a3 n3 c3] 39 ∧ Blk Y6 (w.heap.size + 1) #[.int .i64 0, .int .i64 0, .slice none 0 0, .int .i64 0, .int .i64 0, .int .i64 0, .int .i64 0, .slice none 0 0, .slice none 0 0, .slice none 0 0] 39 ∧ Below w.heap.size w Y6) := ⟨HS5.out.1.below bz, HS5.out.2.1.below bz, Below.next HS5.out.2.2 bz⟩
    have HJ2 : Hid (RdP Y6 aj lj x.ids Fj ∧ Own (w.heap.size + 2) Y6 Fj ∧ RdSk Y6 (.agg #[.int .i64 x.sk.count, .int .i64 x.sk.sum, .int .i64 x.sk.min, .int .i64 x.sk.max, .slice e1 r1 f1, .slice e2 r2 f2, .slice e3 r3 f3]) x.sk X ∧ Own (w.heap.size + 2) Y6 X ∧ (∀ b ∈ Fj, b ∉ X) ∧ Capd aj lj cj) := ⟨HJ.out.1.below bz, HJ.out.2.1.below HJ.out.1.lt bz, rm, om.mono HS5.out.2.1.lt, fun b hb hx => by have := HJ.out.1.lt b hb; have := om.ge b hx; omega, HJ.out.2.2⟩
    refine ⟨_, by simp [Act.put]; rfl, hK _ _ ⟨trivial, ?_⟩⟩
    clear hK bz rm om HS5 HJ
    refine onlyH (o := ?o21) 7 (by kernel_rfl) ?h21 ?r21
    case h21 => simp only [aT, aS, aZ]; rfl
    intro K hK
    have co := HS6.out.1.cell 2
    have fo := HS6.out.1.frozen 2
    simp only [aT, aS, aZ] at co
    have HA : Hid (Blk (Y6.setCell ⟨w.heap.size, 2, none⟩ (.slice aj lj cj)) w.heap.size #[.int .i64 x.key, .int .i64 x.window, .slice aj lj cj, .int .i64 x.sk.count, .int .i64 x.sk.sum, .int .i64 x.sk.min, .int .i64 x.sk.max, .slice a1 n1 c1, .slice a2 n2 c2, .slice a3 n3 c3] 39 ∧ Blk (Y6.setCell ⟨w.heap.size, 2, none⟩ (.slice aj lj cj)) (w.heap.size + 1) #[.int .i64 0, .int .i64 0, .slice none 0 0, .int .i64 0, .int .i64 0, .int .i64 0, .int .i64 0, .slice none 0 0, .slice none 0 0, .slice none 0 0] 39 ∧ Below w.heap.size w (Y6.setCell ⟨w.heap.size, 2, none⟩ (.slice aj lj cj))) := ⟨HS6.out.1.set 2 _, HS6.out.2.1.setOther (by omega) 2 _, HS6.out.2.2.setCell (by show w.heap.size ≤ w.heap.size; omega) _⟩
    have nf : w.heap.size ∉ Fj := fun hx => by have := HJ2.out.2.1.ge _ hx; omega
    have nx : w.heap.size ∉ X := fun hx => by have := HJ2.out.2.2.2.1.ge _ hx; omega
    have HJ3 : Hid (RdP (Y6.setCell ⟨w.heap.size, 2, none⟩ (.slice aj lj cj)) aj lj x.ids Fj ∧ Own (w.heap.size + 2) (Y6.setCell ⟨w.heap.size, 2, none⟩ (.slice aj lj cj)) Fj ∧ RdSk (Y6.setCell ⟨w.heap.size, 2, none⟩ (.slice aj lj cj)) (.agg #[.int .i64 x.sk.count, .int .i64 x.sk.sum, .int .i64 x.sk.min, .int .i64 x.sk.max, .slice e1 r1 f1, .slice e2 r2 f2, .slice e3 r3 f3]) x.sk X ∧ Own (w.heap.size + 2) (Y6.setCell ⟨w.heap.size, 2, none⟩ (.slice aj lj cj)) X ∧ (∀ b ∈ Fj, b ∉ X) ∧ Capd aj lj cj) := ⟨HJ2.out.1.agree (.set nf 2 _), HJ2.out.2.1.agree (.set nf 2 _), HJ2.out.2.2.1.agree (.set nx 2 _), HJ2.out.2.2.2.1.agree (.set nx 2 _), HJ2.out.2.2.2.2⟩
    refine op_skip (Y6.setCell ⟨w.heap.size, 2, none⟩ (.slice aj lj cj)) rfl (by go_simp) ⟨_, by simp [Act.put]; rfl, hK _ _ ⟨trivial, ?_⟩⟩
    obtain ⟨Z7, hZ7⟩ : ∃ Z, Z = (Y6.setCell ⟨w.heap.size, 2, none⟩ (.slice aj lj cj)) := ⟨_, rfl⟩
    rw [← hZ7] at HA HJ3 ⊢
    clear hK co fo HS6 HJ2 hZ7
    refine takeH (o := ?o22) 8 (.pointer (some ⟨w.heap.size, 3, none⟩)) ?h22 ?r22
    case h22 => simp only [aT, aS, aZ]; rfl
    refine ⟨_, by simp [Act.put]; rfl, by kernel_rfl, by kernel_rfl, by kernel_rfl, fun _ _ _ h => h, (.inl ⟨rfl, fun W _ => by kernel_rfl⟩), trivial, ?_⟩
    refine onlyH (o := ?o23) 9 (by kernel_rfl) ?h23 ?r23
    case h23 => simp only [aT, aS, aZ]; rfl
    intro K hK
    refine op_storePart 37 w.heap.size 3 #[.int .i64 x.key, .int .i64 x.window, .slice aj lj cj, .int .i64 x.sk.count, .int .i64 x.sk.sum, .int .i64 x.sk.min, .int .i64 x.sk.max, .slice a1 n1 c1, .slice a2 n2 c2, .slice a3 n3 c3] #[.int .i64 x.sk.count, .int .i64 x.sk.sum, .int .i64 x.sk.min, .int .i64 x.sk.max, .slice e1 r1 f1, .slice e2 r2 f2, .slice e3 r3 f3] #[.int .i64 x.key, .int .i64 x.window, .slice aj lj cj, .int .i64 x.sk.count, .int .i64 x.sk.sum, .int .i64 x.sk.min, .int .i64 x.sk.max, .slice e1 r1 f1, .slice e2 r2 f2, .slice e3 r3 f3] 39 HA.out.1 rfl rfl rfl rfl infoSkI (by exact Nat.le_refl 10) (by simp [Value.oneCell']) rfl ⟨_, by simp [Act.put]; rfl, hK _ _ ⟨trivial, ?_⟩⟩
    clear hK
    refine wpAnyH_done (by kernel_rfl) ?_ _
    obtain ⟨E, hE⟩ : ∃ E : Array Value, E = #[.int .i64 x.key, .int .i64 x.window, .slice aj lj cj, .int .i64 x.sk.count, .int .i64 x.sk.sum, .int .i64 x.sk.min, .int .i64 x.sk.max, .slice e1 r1 f1, .slice e2 r2 f2, .slice e3 r3 f3] := ⟨_, rfl⟩
    rw [← hE]
    have HE : Hid (E = #[.int .i64 x.key, .int .i64 x.window, .slice aj lj cj, .int .i64 x.sk.count, .int .i64 x.sk.sum, .int .i64 x.sk.min, .int .i64 x.sk.max, .slice e1 r1 f1, .slice e2 r2 f2, .slice e3 r3 f3] ∧ E.size = 10 ∧ E.all (·.oneCell') = true) := ⟨hE, by rw [hE]; rfl, by rw [hE]; simp [Value.oneCell']⟩
    have HB : Hid (Blk (Z7.setRow w.heap.size E) w.heap.size E 39 ∧ Blk (Z7.setRow w.heap.size E) (w.heap.size + 1) #[.int .i64 0, .int .i64 0, .slice none 0 0, .int .i64 0, .int .i64 0, .int .i64 0, .int .i64 0, .slice none 0 0, .slice none 0 0, .slice none 0 0] 39 ∧ Below w.heap.size w (Z7.setRow w.heap.size E)) := ⟨HA.out.1.setRow, HA.out.2.1.setRowOther (by omega), below_setRow HA.out.2.2 (by omega) _⟩
    have HJ4 : Hid (RdP (Z7.setRow w.heap.size E) aj lj x.ids Fj ∧ Own (w.heap.size + 2) (Z7.setRow w.heap.size E) Fj ∧ RdSk (Z7.setRow w.heap.size E) (.agg #[.int .i64 x.sk.count, .int .i64 x.sk.sum, .int .i64 x.sk.min, .int .i64 x.sk.max, .slice e1 r1 f1, .slice e2 r2 f2, .slice e3 r3 f3]) x.sk X ∧ Own (w.heap.size + 2) (Z7.setRow w.heap.size E) X ∧ (∀ b ∈ Fj, b ∉ X) ∧ Capd aj lj cj) := ⟨HJ3.out.1.agree (Agree.row nf E), HJ3.out.2.1.agree (Agree.row nf E), HJ3.out.2.2.1.agree (Agree.row nx E), HJ3.out.2.2.2.1.agree (Agree.row nx E), HJ3.out.2.2.2.2⟩
    obtain ⟨w3, hw3⟩ : ∃ W, W = Z7.setRow w.heap.size E := ⟨_, rfl⟩
    rw [← hw3] at HB HJ4 ⊢
    clear hE hw3 HJ3 HA nf nx
    go_wp2_with (first | go_skip | (with_reducible refine stopLoad 39 rfl ?_))
    refine load_known 39 w.heap.size E 39 _ HB.out.1 rfl rfl rfl Try.underlying39 rfl (by rw [HE.out.2.1]; exact infoEnP10) ?_
    go_wp2_with (first | go_skip | (with_reducible refine stopStore 39 rfl ?_))
    refine store_known 39 (w.heap.size + 1) _ E 39 HB.out.2.1 rfl rfl rfl rfl (by rw [HE.out.2.1]; exact infoEnP10) (by rw [HE.out.2.1]; rfl) HE.out.2.2 ?_
    have nf : w.heap.size + 1 ∉ Fj := fun hx => by have := HJ4.out.2.1.ge _ hx; omega
    have nx : w.heap.size + 1 ∉ X := fun hx => by have := HJ4.out.2.2.2.1.ge _ hx; omega
    have HF : Hid (Blk (w3.setRow (w.heap.size + 1) E) (w.heap.size + 1) E 39 ∧ RdP (w3.setRow (w.heap.size + 1) E) aj lj x.ids Fj ∧ Own w.heap.size (w3.setRow (w.heap.size + 1) E) Fj ∧ RdSk (w3.setRow (w.heap.size + 1) E) (.agg #[.int .i64 x.sk.count, .int .i64 x.sk.sum, .int .i64 x.sk.min, .int .i64 x.sk.max, .slice e1 r1 f1, .slice e2 r2 f2, .slice e3 r3 f3]) x.sk X ∧ Own w.heap.size (w3.setRow (w.heap.size + 1) E) X ∧ Below w.heap.size w (w3.setRow (w.heap.size + 1) E)) := ⟨HB.out.2.1.setRow, HJ4.out.1.agree (Agree.row nf E), (HJ4.out.2.1.agree (Agree.row nf E)).mono (by omega), HJ4.out.2.2.1.agree (Agree.row nx E), (HJ4.out.2.2.2.1.agree (Agree.row nx E)).mono (by omega), below_setRow HB.out.2.2 (by omega) _⟩
    go_wp2
    refine bodyPost_ret (results_cell_row Try.results49 _ _ (w.heap.size + 1) _ _ (0, 0) _ rfl HF.out.1 Try.underlying39 rfl (by rw [HE.out.2.1]; exact infoEnP10)) rfl ?_
    exact ⟨_, Fj ++ X, rfl, ⟨Fj, X, rfl, aj, lj, cj, e1, r1, f1, e2, r2, f2, e3, r3, f3, by rw [HE.out.1], HF.out.2.1, HF.out.2.2.2.1, HJ4.out.2.2.2.2.2⟩, HF.out.2.2.1.app HF.out.2.2.2.2.1 HJ4.out.2.2.2.2.1, HF.out.2.2.2.2.2⟩
end Go.Proofs.Ytillnoeailnnfaa
/- The program's each of copiedEntry, copiedRow. No statement of the seat is proved here. -/
namespace Go.Proofs.Ytillnoeailnnfaa
open Go.RowKit
theorem infoQI : (Try.prog.info? 55).map (·.size) = some 1 := by kernel_rfl
set_option maxRecDepth 200000 in
set_option maxHeartbeats 8000000 in
theorem each_grow (v : Value) (x : Rw) (F0 : List Nat) (w : World) (h : RdRw w v x F0) (hf : ∀ y ∈ x.list, y.fits) (hlen : x.list.length ≤ 1048576) :
    Calls Try.prog 48 #[v, .func (.func 49) #[] #[]] w fun e w' => NewRwG w x.list e w' := by
  obtain ⟨j0, hj, hy0, hy1, hy2⟩ := info_parts infoEnG
  obtain ⟨a, n, c, rfl, hL, hcp⟩ := h
  have hn1 : n ≤ 1048576 := by rw [← hL.length]; exact hlen
  have HL : Hid (RdL enK w a n x.list F0 ∧ (∀ y ∈ x.list, y.fits) ∧ x.list.length = n) := ⟨hL, hf, hL.length⟩
  clear hL hf hcp hlen
  have HT0 : Hid (_ ∧ _ ∧ _) := two_made w #[.slice a n c] #[.slice none 0 0] 55 55
  go_enter Try.func48, Try.ntmps48
  go_wp2
  go_loopw [5, 11] (fun q i wr => ∃ (k : Nat) (v : Value) (vs : List Value) (GG : List Nat), k ≤ n ∧ i = .int .i64 k ∧ v = q ∧ Hid (CpRw w #[.slice a n c] 55 x.list (w.heap.size + 2) k v vs GG wr)) (fun _ i _ => n - (intOf i).toNat)
  case atStart => exact ⟨0, .slice none 0 0, [], [], by omega, rfl, rfl, ⟨HT0.out.1, HT0.out.2.1, HT0.out.2.2, GrowL.start (by simp), Nat.le_refl _⟩⟩
  case round =>
    clear HT0
    obtain ⟨k, v, vs, GG, hk, rfl, rfl, CSS⟩ := hrel
    by_cases hlt : k < n
    · have hI : (k : Int) < (n : Int) := by omega
      obtain ⟨b, off, y, cs, Fi, rfl, hbw, hy, hcs, hcc, hr⟩ := ens_at HL.out.1 hlt
      have HY : Hid (x.list[k]? = some y ∧ y.fits ∧ cs.size = 10 ∧ RdE w (.agg cs) y Fi ∧ cs.all (·.oneCell') = true) := ⟨hy, HL.out.2.1 y (List.mem_of_getElem? hy), hcs, hr, by
        obtain ⟨cs', e, _, h1⟩ := RdE.cells hr
        injection e with e
        rw [e]
        exact h1⟩
      have HC : Hid (∀ j, j < 10 → wr.cell? ⟨b, off + k * 10 + j, none⟩ = cs[j]?) := fun j hj => by
        have q : wr.cell? ⟨b, off + k * 10 + j, none⟩ = w.cell? ⟨b, off + k * 10 + j, none⟩ := CSS.out.bel.cell (p := ⟨b, off + k * 10 + j, none⟩) hbw
        exact q.trans (hcc j hj)
      clear hbw hcs hcc hr hy
      go_wp2_with (first | go_skip | (with_reducible refine stopLoad 39 rfl ?_))
      refine load_at 39 b (off + k * 10) 10 cs _ HC.out HY.out.2.2.1 rfl rfl rfl Try.underlying39 rfl infoEnG2 ?_
      go_wp2_with (first | go_skip | (with_reducible refine stopStore 39 rfl ?_))
      refine store_fresh 39 wr.heap.size rfl #[.int .i64 0, .int .i64 0, .slice none 0 0, .int .i64 0, .int .i64 0, .int .i64 0, .int .i64 0, .slice none 0 0, .slice none 0 0, .slice none 0 0] cs 39 rfl rfl rfl rfl (by rw [HY.out.2.2.1]; exact infoEnG2) (by rw [HY.out.2.2.1]; rfl) HY.out.2.2.2.2 ?_
      intro w2 hg2 hb2
      have CS2 : Hid (CpRw w #[.slice (some ⟨b, off, none⟩) n c] 55 x.list (w.heap.size + 2) k v vs GG w2 ∧ Blk w2 wr.heap.size cs 39) := ⟨CSS.out.below hb2, hg2⟩
      obtain ⟨X, hX⟩ : ∃ X, X = wr.heap.size := ⟨_, rfl⟩
      rw [← hX] at CS2 ⊢
      clear hg2 hb2 CSS HC hX
      go_wp2_with (first | go_skip | (with_reducible refine stopLoad 39 rfl ?_))
      refine load_known 39 X cs 39 _ CS2.out.2 rfl rfl rfl Try.underlying39 rfl (by rw [HY.out.2.2.1]; exact infoEnG2) ?_
      go_wp2_with fail
      refine (copiedEntry_any _ y Fi _ (HY.out.2.2.2.1.below CS2.out.1.bel) HY.out.2.1).mono ?_
      rintro e w3 ⟨v3, F3, rfl, r3, o3, hb3⟩
      have r3' := r3
      obtain ⟨H1, H2, _, b0, l0, c0, b1, m1, d1, b2, m2, d2, b3, m3, d3, rfl, _⟩ := r3
      have CS3 : Hid (CpRw w #[.slice (some ⟨b, off, none⟩) n c] 55 x.list (w.heap.size + 2) k v vs GG w3) := CS2.out.1.below hb3
      have HK : Hid (RdE w3 (.agg #[.int .i64 y.key, .int .i64 y.window, .slice b0 l0 c0, .int .i64 y.sk.count, .int .i64 y.sk.sum, .int .i64 y.sk.min, .int .i64 y.sk.max, .slice b1 m1 d1, .slice b2 m2 d2, .slice b3 m3 d3]) y F3 ∧ Own w2.heap.size w3 F3 ∧ (∀ b ∈ GG, b < w2.heap.size) ∧ (∀ b, v.ownBlock = some b → b < w2.heap.size) ∧ w.heap.size + 2 ≤ w2.heap.size) := ⟨r3', o3, CS2.out.1.grow.lts⟩
      clear r3' o3 hb3 CS2
      go_wp2_with (with_reducible refine stopAppend rfl ?_)
      obtain ⟨W6, hW6⟩ : ∃ W, W = w3.alloc (.cells #[.int .i64 y.key, .int .i64 y.window, .slice b0 l0 c0, .int .i64 y.sk.count, .int .i64 y.sk.sum, .int .i64 y.sk.min, .int .i64 y.sk.max, .slice b1 m1 d1, .slice b2 m2 d2, .slice b3 m3 d3] 39) := ⟨_, rfl⟩
      have hbn : Below w3.heap.size w3 W6 := by rw [hW6]; exact (Below.refl _ _).alloc (Nat.le_refl _) _
      have HCN : Hid (∀ (j : Nat) (u : Value), [.int .i64 y.key, .int .i64 y.window, .slice b0 l0 c0, .int .i64 y.sk.count, .int .i64 y.sk.sum, .int .i64 y.sk.min, .int .i64 y.sk.max, .slice b1 m1 d1, .slice b2 m2 d2, .slice b3 m3 d3][j]? = some u → W6.cell? ((⟨w3.heap.size, 0, none⟩ : Addr).add j) = some u) := by rw [hW6]; exact news_lit w3 #[.int .i64 y.key, .int .i64 y.window, .slice b0 l0 c0, .int .i64 y.sk.count, .int .i64 y.sk.sum, .int .i64 y.sk.min, .int .i64 y.sk.max, .slice b1 m1 d1, .slice b2 m2 d2, .slice b3 m3 d3] 39
      have CS6 : Hid (CpRw w #[.slice (some ⟨b, off, none⟩) n c] 55 x.list (w.heap.size + 2) k v vs GG W6) := CS3.out.below hbn
      have HK6 : Hid (RdE W6 (.agg #[.int .i64 y.key, .int .i64 y.window, .slice b0 l0 c0, .int .i64 y.sk.count, .int .i64 y.sk.sum, .int .i64 y.sk.min, .int .i64 y.sk.max, .slice b1 m1 d1, .slice b2 m2 d2, .slice b3 m3 d3]) y F3 ∧ Own w2.heap.size W6 F3) := ⟨HK.out.1.below hbn, HK.out.2.1.below HK.out.1.lt hbn⟩
      rw [← hW6]
      clear hW6 hbn CS3
      refine Stop.intro (wpList_append_lies _ rfl _ _ 27 rfl (w.heap.size + 2) 39 j0 (.agg #[.int .i64 0, .int .i64 0, .slice none 0 0, .int .i64 0, .int .i64 0, .int .i64 0, .int .i64 0, .slice none 0 0, .slice none 0 0, .slice none 0 0]) 10 144 Try.underlying27 hj hy0 hy1 hy2 rfl (by decide) v k vs rfl CS6.out.grow.row ⟨w3.heap.size, 0, none⟩ 1 1 [.int .i64 y.key, .int .i64 y.window, .slice b0 l0 c0, .int .i64 y.sk.count, .int .i64 y.sk.sum, .int .i64 y.sk.min, .int .i64 y.sk.max, .slice b1 m1 d1, .slice b2 m2 d2, .slice b3 m3 d3] rfl rfl HCN.out (by simp [Value.oneCell']) (by omega) (by unfold maxLen; omega) (by omega) CS6.out.grow.lw _ rfl ?_)
      intro g4 cp4 W7 hown hgrow hat hlt7
      have CS7 : Hid (CpRw w #[.slice (some ⟨b, off, none⟩) n c] 55 x.list (w.heap.size + 2) (k + 1) (.slice (some ⟨g4, 0, none⟩) (k + 1) cp4) (vs ++ [.int .i64 y.key, .int .i64 y.window, .slice b0 l0 c0, .int .i64 y.sk.count, .int .i64 y.sk.sum, .int .i64 y.sk.min, .int .i64 y.sk.max, .slice b1 m1 d1, .slice b2 m2 d2, .slice b3 m3 d3]) (GG ++ F3) W7) := CS6.out.step hgrow (CS6.out.grow.step HY.out.1 HK6.out.1 rfl HK6.out.2 HK.out.2.2.1 HK.out.2.2.2.1 HK.out.2.2.2.2 hown hgrow hat)
      clear hown hgrow hat hlt7 CS6 HK6 HK HCN
      go_wp2
      go_roundw
      case rel => exact ⟨k + 1, _, _, _, by omega, by go_num, rfl, CS7⟩
      case measure => simp [intOf]; omega
    · obtain rfl : k = n := by omega
      obtain ⟨q1, d1, F1, rfl, rL, oL, hcp⟩ := CSS.out.grow.done HL.out.2.2
      have HE : Hid (Blk wr (w.heap.size + 1) #[.slice none 0 0] 55 ∧ RdL enK wr q1 k x.list F1 ∧ Own (w.heap.size + 2) wr F1 ∧ Capd q1 k d1 ∧ Below w.heap.size w wr ∧ GrowL enK 39 x.list (w.heap.size + 2) k (.slice q1 k d1) vs GG wr) := ⟨CSS.out.res, rL, oL, hcp, CSS.out.bel, CSS.out.grow⟩
      clear rL oL hcp CSS
      have hI : ¬ (k : Int) < (k : Int) := by omega
      go_wp2_with (first | go_skip | (with_reducible refine stopStore 55 rfl ?_))
      refine store_known 55 (w.heap.size + 1) _ #[.slice q1 k d1] 55 HE.out.1 rfl rfl rfl rfl infoQI rfl (by simp [Value.oneCell']) ?_
      go_wp2
      refine bodyPost_ret (results_cell_row Try.results48 _ _ (w.heap.size + 1) _ _ (0, 0) _ rfl HE.out.1.setRow Try.underlying55 rfl infoQI) rfl ?_
      have nr : w.heap.size + 1 ∉ F1 := fun hx => by have := HE.out.2.2.1.ge _ hx; omega
      have hk' := HL.out.2.2
      subst hk'
      exact ⟨q1, d1, F1, w.heap.size + 2, vs, GG, rfl, HE.out.2.1.agree (Agree.row nr _), HE.out.2.2.2.1, (HE.out.2.2.1.agree (Agree.row nr _)).mono (by omega), below_setRow HE.out.2.2.2.2.1 (by omega) _, HE.out.2.2.2.2.2.setRow (by omega), by omega⟩
set_option maxRecDepth 200000 in
set_option maxHeartbeats 2000000 in
theorem copiedRow_grow (v : Value) (x : Rw) (F0 : List Nat) (w : World) (h : RdRw w v x F0) (hf : ∀ y ∈ x.list, y.fits) (hlen : x.list.length ≤ 1048576) :
    Calls Try.prog 30 #[v] w fun e w' => NewRwG w x.list e w' := by
  have HH : Hid (RdRw w v x F0 ∧ (∀ y ∈ x.list, y.fits) ∧ x.list.length ≤ 1048576) := ⟨h, hf, hlen⟩
  obtain ⟨a, n, c, rfl, hL, hcp⟩ := h
  have HT0 : Hid (_ ∧ _ ∧ _) := two_made w #[.slice a n c] #[.slice none 0 0] 29 29
  clear hL hf hcp hlen
  go_enter Try.func30, Try.ntmps30
  go_wp2_with (first | go_skip | (with_reducible refine stopLoad 29 rfl ?_))
  refine load_any 29 w.heap.size #[.slice a n c] 29 _ HT0.out.1 rfl rfl rfl Try.underlying29 rfl (rwSize rfl) ?_
  go_wp2_with fail
  refine (each_grow _ x F0 _ (HH.out.1.below HT0.out.2.2) HH.out.2.1 HH.out.2.2).mono ?_
  rintro e w2 ⟨q1, d1, F1, lo, vs, GG, rfl, r1, cp1, o1, hb, g1, hlo⟩
  have HZ : Hid (w.heap.size + 2 ≤ lo) := by have := HT0.out.2.1.lt; show _ ≤ _; omega
  have HE : Hid (Blk w2 (w.heap.size + 1) #[.slice none 0 0] 29 ∧ RdL enK w2 q1 x.list.length x.list F1 ∧ Own (w.heap.size + 2) w2 F1 ∧ Capd q1 x.list.length d1 ∧ Below w.heap.size w w2 ∧ GrowL enK 39 x.list lo x.list.length (.slice q1 x.list.length d1) vs GG w2) := ⟨HT0.out.2.1.below hb, r1, o1.mono HT0.out.2.1.lt, cp1, Below.next HT0.out.2.2 hb, g1⟩
  clear r1 cp1 o1 hb g1 hlo HH HT0
  go_wp2_with (first | go_skip | (with_reducible refine stopStore 29 rfl ?_))
  refine store_known 29 (w.heap.size + 1) _ #[.slice q1 x.list.length d1] 29 HE.out.1 rfl rfl rfl rfl infoRwI rfl (by simp [Value.oneCell']) ?_
  go_wp2
  refine bodyPost_ret (results_cell_row Try.results30 _ _ (w.heap.size + 1) _ _ (0, 0) _ rfl HE.out.1.setRow Try.underlying29 rfl infoRwI) rfl ?_
  have nr : w.heap.size + 1 ∉ F1 := fun hx => by have := HE.out.2.2.1.ge _ hx; omega
  exact ⟨q1, d1, F1, lo, vs, GG, rfl, HE.out.2.1.agree (Agree.row nr _), HE.out.2.2.2.1, (HE.out.2.2.1.agree (Agree.row nr _)).mono (by omega), below_setRow HE.out.2.2.2.2.1 (by omega) _, HE.out.2.2.2.2.2.setRow (by have := HZ.out; omega), by have := HZ.out; omega⟩
end Go.Proofs.Ytillnoeailnnfaa
