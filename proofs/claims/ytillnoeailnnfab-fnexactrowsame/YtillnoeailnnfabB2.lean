/- Several texts of mine, laid together. No statement of the seat is proved here. -/
import Derived.Test.YtillnoeailnnfabItModel
import Derived.Test.YtillnoeailnnfabSkMergeF
import Derived.Test.YtillnoeailnnfabSpJoin2
import Derived.Test.YtillnoeailnnfabSpAlg
import Derived.Test.YtillnoeailnnfabRwData
import Derived.Test.YtillnoeailnnfabRwHelp
import Derived.Test.YtillnoeailnnfabLstOps
import Derived.Test.YtillnoeailnnfabB1
import Derived.Test.YtillnoeailnnfabItHelp2
import Derived.Test.YtillnoeailnnfabLstCopy
import Derived.Test.YtillnoeailnnfabSpHelp
import Derived.Test.YtillnoeailnnfabSkLaw
import Derived.Test.YtillnoeailnnfabItOpen
import Derived.Test.YtillnoeailnnfabSpOpen
import Derived.Deep.Slices
import Derived.Test.YtillnoeailnnfabEnData
import Derived.Test.YtillnoeailnnfabItLaw
import Derived.Test.YtillnoeailnnfabSkMarks
import Derived.Laws.IdiomCopy
import Derived.Test.YtillnoeailnnfabEnsHelp
/- The walks through the model's adding up of two entries. No statement of the seat is proved here. -/
namespace Go.Proofs.Ytillnoeailnnfab
open Go.RowKit
theorem En.ok_ids {x : En} (h : x.ok = true) : x.ids.ok = true ∧ 0 < x.ids.length := by
  unfold En.ok at h
  simp only [Bool.and_eq_true, decide_eq_true_eq] at h
  exact ⟨h.1.2, h.1.1.2⟩
theorem En.ok_sum {x : En} (h : x.ok = true) : x.sk.ok = true := by
  unfold En.ok at h
  simp only [Bool.and_eq_true] at h
  exact h.2
def En.add (x y : En) : En := ⟨x.key, x.window, joinTo x.ids y.ids y.ids.length, x.sk.merge y.sk⟩
theorem three_madeE (w : World) (A B Z : Array Value) (t : TypeId) : Blk (((w.alloc (.cells A t)).alloc (.cells B t)).alloc (.cells Z t)) w.heap.size A t ∧ Blk (((w.alloc (.cells A t)).alloc (.cells B t)).alloc (.cells Z t)) (w.heap.size + 1) B t ∧ Blk (((w.alloc (.cells A t)).alloc (.cells B t)).alloc (.cells Z t)) (w.heap.size + 1 + 1) Z t ∧ Below w.heap.size w (((w.alloc (.cells A t)).alloc (.cells B t)).alloc (.cells Z t)) := by
  have T := Three.made w A t B Z t
  exact ⟨T.box, T.res, T.loc, T.bel⟩
end Go.Proofs.Ytillnoeailnnfab
/- How many numbers a set has. No statement of the seat is proved here. -/
namespace Go.Proofs.Ytillnoeailnnfab
open Go.RowKit
/-- How many of the first N numbers f picks. -/
def cnt (f : Int → Bool) : Nat → Int
  | 0 => 0
  | k + 1 => cnt f k + if f k then 1 else 0
theorem cnt_nonneg (f : Int → Bool) : ∀ N, 0 ≤ cnt f N
  | 0 => Int.le_refl _
  | k + 1 => by have := cnt_nonneg f k; rw [cnt]; split <;> omega
theorem cnt_or (f g : Int → Bool) : ∀ N, cnt (fun n => f n || g n) N + cnt (fun n => f n && g n) N = cnt f N + cnt g N
  | 0 => rfl
  | k + 1 => by
    have := cnt_or f g k
    simp only [cnt]
    by_cases hf : f k = true <;> by_cases hg : g k = true <;> simp [hf, hg] <;> omega
theorem cnt_zero {f : Int → Bool} : ∀ {N : Nat}, cnt f N = 0 ↔ ∀ k : Nat, k < N → f k = false
  | 0 => ⟨fun _ k hk => by omega, fun _ => rfl⟩
  | N + 1 => by
    have h0 := cnt_nonneg f N
    have ih := cnt_zero (f := f) (N := N)
    rw [cnt]
    constructor
    · intro h k hk
      cases hf : f N with
      | true => rw [hf] at h; simp at h; omega
      | false =>
        rw [hf] at h
        by_cases c : k = N
        · subst c; exact hf
        · exact ih.1 (by simpa using h) k (by omega)
    · intro h
      rw [ih.2 (fun k hk => h k (by omega)), h N (by omega)]
      rfl
theorem cnt_congr {f g : Int → Bool} : ∀ {N : Nat}, (∀ k : Nat, k < N → f k = g k) → cnt f N = cnt g N
  | 0, _ => rfl
  | N + 1, h => by rw [cnt, cnt, cnt_congr (fun k hk => h k (by omega)), h N (by omega)]
theorem cnt_span (lo hi : Int) (h0 : 0 ≤ lo) (h1 : lo ≤ hi + 1) : ∀ N : Nat, hi < N ∨ (N : Int) ≤ hi + 1 → cnt (fun n => decide (lo ≤ n ∧ n ≤ hi)) N = max 0 (min (N : Int) (hi + 1) - lo)
  | 0, _ => by simp only [cnt]; omega
  | N + 1, h => by
    have ih := cnt_span lo hi h0 h1 N (by omega)
    rw [cnt, ih]
    by_cases c : lo ≤ (N : Int) ∧ (N : Int) ≤ hi
    · rw [decT c, if_pos rfl]; omega
    · rw [decF c, if_neg (by simp)]; omega
theorem sum_cnt : ∀ {ps : Sp} {l : Int}, okFrom l ps → 0 ≤ l → ∀ N : Nat, 9999 < N → Sp.sum ps = cnt (Sp.has ps) N
  | [], _, _, _, N, _ => by
    rw [cnt_zero.2 (fun k _ => has_nil k)]; rfl
  | p :: ps, l, h, h0, N, hN => by
    obtain ⟨⟨a1, a2, a3⟩, a4⟩ := h
    have ih := sum_cnt a4 (by omega) N hN
    have e := cnt_or (fun n => decide (p.1 ≤ n ∧ n ≤ p.2)) (Sp.has ps) N
    have z : cnt (fun n => decide (p.1 ≤ n ∧ n ≤ p.2) && Sp.has ps n) N = 0 := cnt_zero.2 (fun k _ => by
      cases hb : Sp.has ps k with
      | false => simp
      | true =>
        have := inS_ge a4 hb
        rw [decF (by omega)]
        rfl)
    have c := cnt_span p.1 p.2 (by omega) (by omega) N (by omega)
    have s : Sp.sum (p :: ps) = (p.2 - p.1 + 1) + Sp.sum ps := by simp [Sp.sum]
    have e2 : cnt (Sp.has (p :: ps)) N = cnt (fun n => decide (p.1 ≤ n ∧ n ≤ p.2) || Sp.has ps n) N := rfl
    rw [s, e2, ih]
    omega
theorem size_cnt {ps : Sp} (h : ps.ok = true) : ps.size = cnt ps.has 10000 := by
  rw [Sp.size_ok h]
  exact sum_cnt (ok_iff.1 h) (Int.le_refl _) 10000 (by omega)
theorem join_right {a b : Sp} (ha : a.ok = true) (hb : b.ok = true) : (a.join b).ok = true ∧ ∀ n, (a.join b).has n = (a.has n || b.has n) := by
  rw [Sp.join_yes ha hb]
  obtain ⟨j1, j2⟩ := join_ok (ok_iff.1 ha) (ok_iff.1 hb)
  refine ⟨ok_iff.2 j1, fun n => ?_⟩
  have := j2 n
  unfold InS at this
  rw [Bool.eq_iff_iff, this, Bool.or_eq_true]
theorem join_comm {a b : Sp} (ha : a.ok = true) (hb : b.ok = true) : a.join b = b.join a := by
  obtain ⟨i1, i2⟩ := join_right ha hb
  obtain ⟨j1, j2⟩ := join_right hb ha
  exact sp_ext (ok_iff.1 i1) (ok_iff.1 j1) (fun n => by unfold InS; rw [i2, j2, Bool.or_comm])
theorem noMeet_iff {a b : Sp} (ha : okFrom 0 a) (hb : okFrom 0 b) : noMeet a b = true ↔ ∀ n, (a.has n && b.has n) = false := by
  unfold noMeet
  simp only [List.all_eq_true]
  constructor
  · intro h n
    rw [Bool.and_eq_false_iff]
    cases h1 : a.has n with
    | false => exact .inl rfl
    | true =>
      right
      cases h2 : b.has n with
      | false => rfl
      | true =>
        exfalso
        unfold Sp.has at h1 h2
        rw [List.any_eq_true] at h1 h2
        obtain ⟨p, hp, e1⟩ := h1
        obtain ⟨q, hq, e2⟩ := h2
        have e1 := of_decide_eq_true e1
        have e2 := of_decide_eq_true e2
        have := h p hp q hq
        unfold meet at this
        rw [decT (by omega)] at this
        cases this
  · intro h p hp q hq
    have h1 := okFrom_mem ha p hp
    have h2 := okFrom_mem hb q hq
    cases hm : meet p q with
    | false => rfl
    | true =>
      unfold meet at hm
      have hm := of_decide_eq_true hm
      have e1 : a.has (max p.1 q.1) = true := by unfold Sp.has; rw [List.any_eq_true]; exact ⟨p, hp, decT (by omega)⟩
      have e2 : b.has (max p.1 q.1) = true := by unfold Sp.has; rw [List.any_eq_true]; exact ⟨q, hq, decT (by omega)⟩
      have := h (max p.1 q.1)
      rw [e1, e2] at this
      cases this
theorem join_size {a b : Sp} (ha : a.ok = true) (hb : b.ok = true) : (a.join b).size ≤ a.size + b.size ∧ (a.apart b = true ↔ (a.join b).size = a.size + b.size) := by
  obtain ⟨j1, j2⟩ := join_right ha hb
  rw [size_cnt j1, size_cnt ha, size_cnt hb, cnt_congr (g := fun n => a.has n || b.has n) (fun k _ => j2 k)]
  have e := cnt_or a.has b.has 10000
  have z := cnt_nonneg (fun n => a.has n && b.has n) 10000
  refine ⟨by omega, ?_⟩
  rw [apart_eq, ha, hb]
  simp only [Bool.and_self, Bool.true_and]
  rw [noMeet_iff (ok_iff.1 ha) (ok_iff.1 hb)]
  constructor
  · intro h
    have : cnt (fun n => a.has n && b.has n) 10000 = 0 := cnt_zero.2 (fun k _ => h k)
    omega
  · intro h n
    have hz : cnt (fun n => a.has n && b.has n) 10000 = 0 := by omega
    by_cases c : 0 ≤ n ∧ n ≤ 9999
    · have := cnt_zero.1 hz n.toNat (by omega)
      rw [show ((n.toNat : Nat) : Int) = n by omega] at this
      exact this
    · rw [Bool.and_eq_false_iff]
      left
      cases h1 : a.has n with
      | false => rfl
      | true =>
        exfalso
        have x1 := inS_ge (ok_iff.1 ha) h1
        have x2 := inS_le (ok_iff.1 ha) h1
        exact c ⟨x1, x2⟩
theorem add_right {a : Sp} {n : Int} (h : (a.add n).2 = true) : (a.add n).1.has n = true ∧ (a.add n).1.size = a.size + 1 ∧ a.has n = false := by
  by_cases c : a.ok = true ∧ (0 ≤ n ∧ n ≤ 9999) ∧ a.has n = false
  · obtain ⟨c1, c2, c3⟩ := c
    rw [Sp.add_yes c1 c2 c3]
    obtain ⟨j1, j2⟩ := put_ok (x := (n, n)) (ok_iff.1 c1) c2.1 (Int.le_refl _) c2.2
    refine ⟨(j2 n).2 (.inr ⟨Int.le_refl _, Int.le_refl _⟩), ?_, c3⟩
    rw [size_cnt (ok_iff.2 j1), size_cnt c1]
    have e := cnt_or a.has (fun m => decide (n ≤ m ∧ m ≤ n)) 10000
    have z : cnt (fun m => a.has m && decide (n ≤ m ∧ m ≤ n)) 10000 = 0 := cnt_zero.2 (fun k _ => by
      by_cases e : (k : Int) = n
      · rw [e, c3]; rfl
      · rw [decF (by omega), Bool.and_false])
    have s := cnt_span n n c2.1 (by omega) 10000 (by omega)
    have g : cnt (put a (n, n) false).has 10000 = cnt (fun m => a.has m || decide (n ≤ m ∧ m ≤ n)) 10000 := cnt_congr (fun k _ => by
      have := j2 (k : Int)
      unfold InS at this
      rw [Bool.eq_iff_iff, this, Bool.or_eq_true, decide_eq_true_eq])
    rw [g]
    omega
  · rw [Sp.add_not c] at h
    cases h
end Go.Proofs.Ytillnoeailnnfab
/- Rows that are right, and the numbers in them: the mathematics. No statement of the seat is proved here. -/
namespace Go.Proofs.Ytillnoeailnnfab
open Go.RowKit
/-- The first k entries are each right, and apart from those ahead of them. -/
def fineTo (xs : List En) : Nat → Bool
  | 0 => true
  | k + 1 => fineTo xs k && (match xs[k]? with
    | some x => x.ok && (xs.take k).all fun y => x.ids.apart y.ids
    | none => true)
def Rw.ok (x : Rw) : Bool := decide (x.list.length ≤ 24) && fineTo x.list x.list.length
/-- The numbers of the first k entries, joined. -/
def idsTo (xs : List En) (k : Nat) : Sp := (xs.take k).foldl (fun o e => o.join e.ids) []
def Rw.ids (x : Rw) : Sp := if x.ok then idsTo x.list x.list.length else []
theorem fineTo_succ {xs : List En} {k : Nat} {x : En} (h : xs[k]? = some x) : fineTo xs (k + 1) = (fineTo xs k && (x.ok && (xs.take k).all fun y => x.ids.apart y.ids)) := by
  rw [fineTo, h]
theorem fineTo_mono {xs : List En} {i : Nat} : ∀ {n : Nat}, i ≤ n → fineTo xs n = true → fineTo xs i = true
  | 0, h, k => by obtain rfl : i = 0 := by omega
                  exact k
  | n + 1, h, k => by
    by_cases e : i = n + 1
    · rw [e]; exact k
    · refine fineTo_mono (n := n) (by omega) ?_
      rw [fineTo, Bool.and_eq_true] at k
      exact k.1
theorem fineTo_not {xs : List En} {i n : Nat} (hi : i ≤ n) (h : fineTo xs i = false) : fineTo xs n = false := by
  cases e : fineTo xs n
  · rfl
  · rw [fineTo_mono hi e] at h; cases h
theorem Rw.ok_not {x : Rw} {i : Nat} (hi : i ≤ x.list.length) (h : fineTo x.list i = false) : x.ok = false := by
  unfold Rw.ok; rw [fineTo_not hi h, Bool.and_false]
theorem Rw.ok_long {x : Rw} (h : 24 < x.list.length) : x.ok = false := by
  unfold Rw.ok; rw [decide_eq_false (by omega), Bool.false_and]
theorem Rw.ok_yes {x : Rw} (h : x.list.length ≤ 24) (k : fineTo x.list x.list.length = true) : x.ok = true := by
  unfold Rw.ok; rw [decide_eq_true h, k]; rfl
theorem Rw.ok_parts {x : Rw} (h : x.ok = true) : x.list.length ≤ 24 ∧ fineTo x.list x.list.length = true := by
  unfold Rw.ok at h; simp only [Bool.and_eq_true, decide_eq_true_eq] at h; exact h
theorem fineTo_at {xs : List En} {i n : Nat} {x : En} (h : fineTo xs n = true) (hi : i < n) (hx : xs[i]? = some x) : x.ok = true ∧ (xs.take i).all (fun y => x.ids.apart y.ids) = true := by
  have := fineTo_mono (i := i + 1) (by omega) h
  rw [fineTo_succ hx] at this
  simp only [Bool.and_eq_true] at this
  exact this.2
theorem idsTo_zero (xs : List En) : idsTo xs 0 = [] := by simp [idsTo]
theorem idsTo_succ {xs : List En} {k : Nat} {x : En} (h : xs[k]? = some x) : idsTo xs (k + 1) = (idsTo xs k).join x.ids := by
  unfold idsTo
  rw [List.take_add_one, h]
  simp [List.foldl_append]
theorem take_snoc_en {xs : List En} {k : Nat} {x : En} (h : xs[k]? = some x) : xs.take (k + 1) = xs.take k ++ [x] := by
  rw [List.take_add_one, h]; rfl
theorem idsTo_ok {xs : List En} : ∀ {k : Nat}, k ≤ xs.length → fineTo xs k = true → (idsTo xs k).ok = true ∧ (∀ n, (idsTo xs k).has n = (xs.take k).any fun y => y.ids.has n) ∧ ((idsTo xs k).length : Int) ≤ ensSize (xs.take k)
  | 0, _, _ => by
    rw [idsTo_zero]
    exact ⟨rfl, fun n => by simp [Sp.has], by simp [ensSize, sumOfL]⟩
  | k + 1, hk, h => by
    have hx : xs[k]? = some (xs[k]'(by omega)) := List.getElem?_eq_getElem _
    generalize xs[k]'(by omega) = x at hx
    obtain ⟨i1, i2, i3⟩ := idsTo_ok (k := k) (by omega) (fineTo_mono (by omega) h)
    have hox := (fineTo_at h (by omega) hx).1
    have hix := (En.ok_ids hox).1
    obtain ⟨j1, j2⟩ := join_right i1 hix
    rw [idsTo_succ hx, take_snoc_en hx]
    refine ⟨j1, fun n => ?_, ?_⟩
    · rw [j2, i2, List.any_append]; simp
    · rw [Sp.join_yes i1 hix]
      have := joinTo_length (ps := idsTo xs k) (qs := x.ids) x.ids.length (Nat.le_refl _)
      have e : ensSize (xs.take k ++ [x]) = ensSize (xs.take k) + x.wt := by unfold ensSize; rw [sumOfL_split]; simp [sumOfL]
      rw [e]
      have h0 := sumLen_nonneg x.sk.rows
      unfold En.wt Sk.size
      omega
theorem apart_iff {a b : Sp} (ha : a.ok = true) (hb : b.ok = true) : a.apart b = true ↔ ∀ n, (a.has n && b.has n) = false := by
  rw [apart_eq, ha, hb, Bool.true_and, Bool.true_and]
  exact noMeet_iff (ok_iff.1 ha) (ok_iff.1 hb)
theorem idsTo_apart {xs : List En} {k : Nat} {x : En} (hk : k ≤ xs.length) (h : fineTo xs k = true) (hx : x.ok = true) : (idsTo xs k).apart x.ids = (xs.take k).all fun y => x.ids.apart y.ids := by
  obtain ⟨i1, i2, _⟩ := idsTo_ok hk h
  have hix := (En.ok_ids hx).1
  have hall : ∀ y ∈ xs.take k, y.ids.ok = true := fun y hy => by
    obtain ⟨i, hi, e⟩ := List.mem_iff_getElem.1 hy
    have hi2 : i < k := by rw [List.length_take] at hi; omega
    have hy2 : xs[i]? = some y := by
      rw [List.getElem_take] at e
      rw [← e]; exact List.getElem?_eq_getElem _
    exact (En.ok_ids (fineTo_at h hi2 hy2).1).1
  rw [Bool.eq_iff_iff, apart_iff i1 hix, List.all_eq_true]
  constructor
  · intro q y hy
    rw [apart_iff hix (hall y hy)]
    intro n
    cases e1 : x.ids.has n
    · rfl
    · cases e2 : y.ids.has n
      · rfl
      · have h3 : (xs.take k).any (fun y => y.ids.has n) = true := List.any_eq_true.2 ⟨y, hy, e2⟩
        have h4 := q n
        rw [i2, h3, e1] at h4
        cases h4
  · intro q n
    rw [i2]
    cases e1 : (xs.take k).any (fun y => y.ids.has n)
    · rfl
    · obtain ⟨y, hy, e2⟩ := List.any_eq_true.1 e1
      have := (apart_iff hix (hall y hy)).1 (q y hy) n
      rw [e2, Bool.and_true] at this
      rw [this]; rfl
theorem ensSize_take (xs : List En) (k : Nat) : ensSize (xs.take k) ≤ ensSize xs := sumOfL_le_take En.wt_nonneg xs k
theorem idsTo_len {x : Rw} (hf : x.fits) {k : Nat} (hk : k ≤ x.list.length) (h : fineTo x.list k = true) : (idsTo x.list k).length ≤ 1048576 := by
  have h1 := (idsTo_ok hk h).2.2
  have h2 := ensSize_take x.list k
  unfold Rw.fits Rw.size at hf
  omega
end Go.Proofs.Ytillnoeailnnfab
/- One of a row's entries. No statement of the seat is proved here. -/
namespace Go.Proofs.Ytillnoeailnnfab
open Go.RowKit
/-- One of a list's entries: its cells, wherever nothing below was touched. -/
theorem ens_in {w : World} {a : Option Addr} {len : Nat} {xs : List En} {F : List Nat} (h : RdL enK w a len xs F) {k : Nat} (hk : k < len) : ∃ b off x p l g cs Fi G, a = some ⟨b, off, none⟩ ∧ b < w.heap.size ∧ xs[k]? = some x ∧ cs.size = 10 ∧ (∀ W, Below w.heap.size w W → ∀ j, j < 10 → W.cell? ⟨b, off + k * 10 + j, none⟩ = cs[j]?) ∧ RdE w (.agg cs) x Fi ∧ cs[0]? = some (.int .i64 x.key) ∧ cs[1]? = some (.int .i64 x.window) ∧ cs[2]? = some (.slice p l g) ∧ RdP w p l x.ids G ∧ Capd p l g := by
  obtain ⟨b, off, x, cs, Fi, ha, hb, hx, hs, hc, hr⟩ := ens_at h hk
  have hr0 := hr
  obtain ⟨F1, F2, hF, p, l, g, a1, n1, c1, a2, n2, c2, a3, n3, c3, ev, hp, _, hcp⟩ := hr
  injection ev with ev
  subst ev
  exact ⟨b, off, x, p, l, g, _, Fi, F1, ha, hb, hx, hs, fun W hB j hj => by rw [← hc j hj]; exact hB.cell (p := ⟨b, off + k * 10 + j, none⟩) hb, hr0, rfl, rfl, rfl, hp, hcp⟩
theorem wide_at {xs : List En} (h : ∀ y ∈ xs, y.wide) {k : Nat} {x : En} (hx : xs[k]? = some x) : x.wide := h x (List.mem_of_getElem? hx)
end Go.Proofs.Ytillnoeailnnfab
/- A new row whose list can grow. No statement of the seat is proved here. -/
namespace Go.Proofs.Ytillnoeailnnfab
open Go.RowKit
theorem infoEnG : (Try.prog.info? 42).map (fun i => (i.zero, i.size, i.bytes)) = some (some (.agg #[.int .i64 0, .int .i64 0, .slice none 0 0, .int .i64 0, .int .i64 0, .int .i64 0, .int .i64 0, .slice none 0 0, .slice none 0 0, .slice none 0 0]), 10, 144) := by kernel_rfl
theorem infoEnG2 : (Try.prog.info? 42).map (·.size) = some 10 := by kernel_rfl
/-- A new row, its list with the room behind it. -/
def NewRwG (w : World) (xs : List En) (e : Ending) (w' : World) : Prop := ∃ (q : Option Addr) (k : Nat) (F : List Nat) (lo : Nat) (vs : List Value) (GG : List Nat),
  e = .returned (.agg #[.slice q xs.length k]) ∧ RdL enK w' q xs.length xs F ∧ Capd q xs.length k ∧ Own w.heap.size w' F ∧ Below w.heap.size w w' ∧ GrowL enK 42 xs lo xs.length (.slice q xs.length k) vs GG w' ∧ w.heap.size ≤ lo
theorem NewRwG.plain {w : World} {x : Rw} {e : Ending} {w' : World} (h : NewRwG w x.list e w') : NewRw w x e w' := by
  obtain ⟨q, k, F, lo, vs, GG, rfl, r, c, o, b, _⟩ := h
  exact ⟨_, F, rfl, ⟨q, _, k, rfl, r, c⟩, o, b⟩
/-- A row's copy in the making, behind k entries: the list in a variable of its own. -/
structure CopyR (w : World) (A : Array Value) (tA tC : TypeId) (xs : List En) (lo k : Nat) (v : Value) (vs : List Value) (G : List Nat) (W : World) : Prop where
  three : Three w A tA #[.slice none 0 0] #[v] tC W
  grow : GrowL enK 42 xs lo k v vs G W
  big : w.heap.size + 3 ≤ lo
theorem CopyR.below {w W W' : World} {A : Array Value} {tA tC : TypeId} {xs : List En} {lo k : Nat} {v : Value} {vs : List Value} {G : List Nat} (h : CopyR w A tA tC xs lo k v vs G W) (b : Below W.heap.size W W') : CopyR w A tA tC xs lo k v vs G W' :=
  ⟨h.three.below b, h.grow.below b, h.big⟩
theorem CopyR.step {w W W' : World} {A : Array Value} {tA tC : TypeId} {xs : List En} {lo k : Nat} {v v' : Value} {vs vs' : List Value} {G G' : List Nat} (h : CopyR w A tA tC xs lo k v vs G W) (hgrow : W.grownBy W' v.ownBlock) (hg : GrowL enK 42 xs lo (k + 1) v' vs' G' W') :
    CopyR w A tA tC xs lo (k + 1) v' vs' G' (W'.setCell ⟨w.heap.size + 1 + 1, 0, none⟩ v') ∧ Blk W' w.heap.size A tA ∧ Below w.heap.size w W' ∧ Blk W' (w.heap.size + 1 + 1) #[v] tC := by
  have big := h.big
  have ot : ∀ b, b < lo → W'.heap[b]? = W.heap[b]? := fun b hb => h.grow.other hgrow hb
  have bx := h.three.box.agree (ot _ (by omega))
  have rs := h.three.res.agree (ot _ (by omega))
  have lc := h.three.loc.agree (ot _ (by omega))
  have bel : Below w.heap.size w W' := h.three.bel.grown hgrow h.three.bel.size (fun b hb => by have := (h.grow.row.lt b hb).1; omega)
  have T : Three w A tA #[.slice none 0 0] #[v] tC W' := ⟨bx, rs, lc, bel⟩
  exact ⟨⟨T.set 0 v', hg.set (by omega), h.big⟩, bx, bel, lc⟩
/-- The same, the list in a temporary. -/
structure CpRw (w : World) (A : Array Value) (tA : TypeId) (xs : List En) (lo k : Nat) (v : Value) (vs : List Value) (G : List Nat) (W : World) : Prop where
  box : Blk W w.heap.size A tA
  res : Blk W (w.heap.size + 1) #[.slice none 0 0] tA
  bel : Below w.heap.size w W
  grow : GrowL enK 42 xs lo k v vs G W
  big : w.heap.size + 2 ≤ lo
theorem CpRw.below {w W W' : World} {A : Array Value} {tA : TypeId} {xs : List En} {lo k : Nat} {v : Value} {vs : List Value} {G : List Nat} (h : CpRw w A tA xs lo k v vs G W) (b : Below W.heap.size W W') : CpRw w A tA xs lo k v vs G W' :=
  ⟨h.box.below b, h.res.below b, Below.next h.bel b, h.grow.below b, h.big⟩
theorem CpRw.step {w W W' : World} {A : Array Value} {tA : TypeId} {xs : List En} {lo k : Nat} {v v' : Value} {vs vs' : List Value} {G G' : List Nat} (h : CpRw w A tA xs lo k v vs G W) (hgrow : W.grownBy W' v.ownBlock) (hg : GrowL enK 42 xs lo (k + 1) v' vs' G' W') : CpRw w A tA xs lo (k + 1) v' vs' G' W' := by
  have big := h.big
  have ot : ∀ b, b < lo → W'.heap[b]? = W.heap[b]? := fun b hb => h.grow.other hgrow hb
  exact ⟨h.box.agree (ot _ (by omega)), h.res.agree (ot _ (by omega)), h.bel.grown hgrow h.bel.size (fun b hb => by have := (h.grow.row.lt b hb).1; omega), hg, big⟩
end Go.Proofs.Ytillnoeailnnfab
/- The program's RowSame. No statement of the seat is proved here. -/
namespace Go.Proofs.Ytillnoeailnnfab
open Go.RowKit
set_option maxRecDepth 200000 in
theorem sameImplE_any (v u : Value) (x y : En) (F G : List Nat) (w : World) (h : RdE w v x F) (k : RdE w u y G) (hw : x.wide) (kw : y.wide) :
    Calls Try.prog 13 #[v, u] w fun e w' => e = .returned (.bool (decide (x = y))) ∧ Below w.heap.size w w' := by
  obtain ⟨F1, F2, rfl, h⟩ := h
  obtain ⟨G1, G2, rfl, k⟩ := k
  exact entrySameImpl_any v u x y F1 F2 G1 G2 w h k hw.1 kw.1 (by have := hw.2; omega) (by have := kw.2; omega)
set_option maxRecDepth 200000 in
set_option maxHeartbeats 4000000 in
theorem eqFuncE_any (a b : Option Addr) (la lb ca cb : Nat) (xs ys : List En) (F G : List Nat) (w : World) (ha : RdL enK w a la xs F) (hb : RdL enK w b lb ys G) (hla : la ≤ 140737488355328) (hlb : lb ≤ 140737488355328) (hw : ∀ x ∈ xs, x.wide) (kw : ∀ y ∈ ys, y.wide) :
    Calls Try.prog 12 #[.slice a la ca, .slice b lb cb, .func (.func 13) #[] #[]] w fun e w' => e = .returned (.bool (decide (xs = ys))) ∧ Below w.heap.size w w' := by
  have HX : Hid (RdL enK w a la xs F ∧ ∀ x ∈ xs, x.wide) := ⟨ha, hw⟩
  have HY : Hid (RdL enK w b lb ys G ∧ ∀ y ∈ ys, y.wide) := ⟨hb, kw⟩
  clear ha hb hw kw
  by_cases hl : la = lb
  rotate_left
  · have hbne : ((la : Int) != (lb : Int)) = true := by simp; omega
    have HV : Hid (decide (xs = ys) = false) := by
      show _ = _
      rw [decide_eq_false_iff_not]; intro e; exact hl (by rw [← HX.out.1.length, ← HY.out.1.length, e])
    go_enter Try.func12, Try.ntmps12
    go_wp2
    go_ret
    exact ⟨ret_bool HV.out.symm, Below.refl _ _⟩
  subst hl
  have hbne : ((la : Int) != (la : Int)) = false := by simp
  go_enter Try.func12, Try.ntmps12
  go_wp2
  go_loopw [17] (fun i wr => ∃ k : Nat, k ≤ la ∧ i = .int .i64 k ∧ Hid (xs.take k = ys.take k ∧ Below w.heap.size w wr)) (fun i _ => la - (intOf i).toNat)
  case atStart => exact ⟨0, by omega, rfl, by simp, Below.refl _ _⟩
  case round =>
    obtain ⟨k, hk, rfl, HT⟩ := hrel
    by_cases hlt : k < la
    · have hI : (k : Int) < (la : Int) := by omega
      obtain ⟨b1, o1, x, cs, Fi, rfl, hbw1, hx, hs1, hcc1, hr1⟩ := ens_at HX.out.1 hlt
      obtain ⟨b2, o2, y, ds, Gi, rfl, hbw2, hy, hs2, hcc2, hr2⟩ := ens_at HY.out.1 hlt
      have HP : Hid (xs[k]? = some x ∧ ys[k]? = some y ∧ x.wide ∧ y.wide ∧ cs.size = 10 ∧ ds.size = 10) := ⟨hx, hy, HX.out.2 x (List.mem_of_getElem? hx), HY.out.2 y (List.mem_of_getElem? hy), hs1, hs2⟩
      have HCW : Hid (∀ W, Below w.heap.size w W → ((∀ j, j < 10 → W.cell? ⟨b1, o1 + k * 10 + j, none⟩ = cs[j]?) ∧ ∀ j, j < 10 → W.cell? ⟨b2, o2 + k * 10 + j, none⟩ = ds[j]?) ∧ RdE W (.agg cs) x Fi ∧ RdE W (.agg ds) y Gi) := fun W hB => ⟨⟨fun j hj => by rw [← hcc1 j hj]; exact hB.cell (p := ⟨b1, o1 + k * 10 + j, none⟩) hbw1, fun j hj => by rw [← hcc2 j hj]; exact hB.cell (p := ⟨b2, o2 + k * 10 + j, none⟩) hbw2⟩, hr1.below hB, hr2.below hB⟩
      have HON : Hid (cs.all (·.oneCell') = true ∧ ds.all (·.oneCell') = true) := ⟨by obtain ⟨_, e, _, h1⟩ := RdE.cells hr1; injection e with e; rw [e]; exact h1, by obtain ⟨_, e, _, h1⟩ := RdE.cells hr2; injection e with e; rw [e]; exact h1⟩
      clear hx hy hs1 hs2 hcc1 hcc2 hr1 hr2
      go_wp2_with (first | go_skip | (with_reducible refine stopLoad 42 rfl ?_))
      refine load_at 42 b1 (o1 + k * 10) 10 cs _ (HCW.out _ HT.out.2).1.1 HP.out.2.2.2.2.1 rfl rfl rfl Try.underlying42 rfl infoEnG2 ?_
      go_wp2_with (first | go_skip | (with_reducible refine stopStore 42 rfl ?_))
      refine store_fresh 42 wr.heap.size rfl #[.int .i64 0, .int .i64 0, .slice none 0 0, .int .i64 0, .int .i64 0, .int .i64 0, .int .i64 0, .slice none 0 0, .slice none 0 0, .slice none 0 0] cs 42 rfl rfl rfl rfl (by rw [HP.out.2.2.2.2.1]; exact infoEnG2) (by rw [HP.out.2.2.2.2.1]; rfl) HON.out.1 ?_
      intro w1 hg1 hb1
      have H1 : Hid (Below w.heap.size w w1 ∧ Blk w1 wr.heap.size cs 42) := ⟨Below.next HT.out.2 hb1, hg1⟩
      obtain ⟨X, hX⟩ : ∃ X, X = wr.heap.size := ⟨_, rfl⟩
      rw [← hX] at H1 ⊢
      clear hg1 hb1 hX
      go_wp2_with (first | go_skip | (with_reducible refine stopLoad 42 rfl ?_))
      refine load_at 42 b2 (o2 + k * 10) 10 ds _ (HCW.out _ H1.out.1).1.2 HP.out.2.2.2.2.2 rfl rfl rfl Try.underlying42 rfl infoEnG2 ?_
      go_wp2_with (first | go_skip | (with_reducible refine stopStore 42 rfl ?_))
      refine store_fresh 42 w1.heap.size rfl #[.int .i64 0, .int .i64 0, .slice none 0 0, .int .i64 0, .int .i64 0, .int .i64 0, .int .i64 0, .slice none 0 0, .slice none 0 0, .slice none 0 0] ds 42 rfl rfl rfl rfl (by rw [HP.out.2.2.2.2.2]; exact infoEnG2) (by rw [HP.out.2.2.2.2.2]; rfl) HON.out.2 ?_
      intro w2 hg2 hb2
      have H2 : Hid (Below w.heap.size w w2 ∧ Blk w2 X cs 42 ∧ Blk w2 w1.heap.size ds 42) := ⟨Below.next H1.out.1 hb2, H1.out.2.below hb2, hg2⟩
      obtain ⟨Y, hY⟩ : ∃ X, X = w1.heap.size := ⟨_, rfl⟩
      rw [← hY] at H2 ⊢
      clear hg2 hb2 hY H1
      go_wp2_with (first | go_skip | (with_reducible refine stopLoad 42 rfl ?_))
      refine load_known 42 X cs 42 _ H2.out.2.1 rfl rfl rfl Try.underlying42 rfl (by rw [HP.out.2.2.2.2.1]; exact infoEnG2) ?_
      go_wp2_with (first | go_skip | (with_reducible refine stopLoad 42 rfl ?_))
      refine load_known 42 Y ds 42 _ H2.out.2.2 rfl rfl rfl Try.underlying42 rfl (by rw [HP.out.2.2.2.2.2]; exact infoEnG2) ?_
      go_wp2_with fail
      refine (sameImplE_any _ _ x y Fi Gi _ (HCW.out _ H2.out.1).2.1 (HCW.out _ H2.out.1).2.2 HP.out.2.2.1 HP.out.2.2.2.1).mono ?_
      rintro e w3 ⟨rfl, hb3⟩
      have HB3 : Hid (Below w.heap.size w w3) := Below.next H2.out.1 hb3
      obtain ⟨d, hd⟩ : ∃ d, d = decide (x = y) := ⟨_, rfl⟩
      rw [← hd]
      have HD : Hid (d = decide (x = y)) := hd
      clear hd hb3 H2
      cases d
      · have HV : Hid (decide (xs = ys) = false) := ens_ne_at HP.out.1 HP.out.2.1 (of_decide_eq_false HD.out.symm)
        go_wp2
        go_ret
        exact ⟨ret_bool HV.out.symm, HB3.out⟩
      · have HE : Hid (xs.take (k + 1) = ys.take (k + 1)) := ens_eq_step HP.out.1 HP.out.2.1 HT.out.1 (of_decide_eq_true HD.out.symm)
        go_wp2
        go_roundw
        case rel => exact ⟨k + 1, by omega, by go_num, HE.out, HB3.out⟩
        case measure => simp [intOf]; omega
    · obtain rfl : k = la := by omega
      have HV : Hid (decide (xs = ys) = true) := by
        have := HT.out.1
        rw [List.take_of_length_le (by rw [HX.out.1.length]; omega), List.take_of_length_le (by rw [HY.out.1.length]; omega)] at this
        exact dec_true this
      have hI : ¬ (k : Int) < (k : Int) := by omega
      go_wp2
      go_ret
      exact ⟨ret_bool HV.out.symm, HT.out.2⟩
set_option maxRecDepth 200000 in
set_option maxHeartbeats 1000000 in
theorem rowSameImpl_any (v u : Value) (x y : Rw) (F G : List Nat) (w : World) (h : RdRw w v x F) (k : RdRw w u y G) (hw : x.wide) (kw : y.wide) :
    Calls Try.prog 7 #[v, u] w fun e w' => e = .returned (.bool (decide (x = y))) ∧ Below w.heap.size w w' := by
  obtain ⟨a, n, c, rfl, hL, _⟩ := h
  obtain ⟨b, m, d, rfl, kL, _⟩ := k
  have HX : Hid (RdL enK w a n x.list F ∧ RdL enK w b m y.list G ∧ n ≤ 140737488355328 ∧ m ≤ 140737488355328 ∧ (∀ z ∈ x.list, z.wide) ∧ ∀ z ∈ y.list, z.wide) := ⟨hL, kL, by rw [← hL.length]; exact Nat.le_trans hw.2 (by omega), by rw [← kL.length]; exact Nat.le_trans kw.2 (by omega), hw.1, kw.1⟩
  have HT : Hid (Two w #[.slice a n c] #[.slice b m d] 29 ((w.alloc (.cells #[.slice a n c] 29)).alloc (.cells #[.slice b m d] 29))) := Two.made w _ _ _
  clear hL kL hw kw
  go_enter Try.func7, Try.ntmps7
  go_wp2_with fail
  refine (eqFuncE_any a b n m c d x.list y.list F G _ (HX.out.1.below HT.out.bel) (HX.out.2.1.below HT.out.bel) HX.out.2.2.1 HX.out.2.2.2.1 HX.out.2.2.2.2.1 HX.out.2.2.2.2.2).mono ?_
  rintro e w2 ⟨rfl, hb2⟩
  have HT2 : Hid (Below w.heap.size w w2) := Below.next HT.out.bel hb2
  have HE : Hid (decide (x.list = y.list) = decide (x = y)) := decide_eq_decide.2 ⟨Rw.eq_of, fun e => by rw [e]⟩
  obtain ⟨g, hg⟩ : ∃ d, d = decide (x.list = y.list) := ⟨_, rfl⟩
  rw [← hg]
  have HG : Hid (g = decide (x = y)) := hg.trans HE.out
  clear hb2 HT hg
  go_wp2
  go_ret
  exact ⟨ret_bool HG.out, HT2.out⟩
end Go.Proofs.Ytillnoeailnnfab
/- Frames, as plain data. No statement of the seat is proved here. -/
namespace Go.Proofs.Ytillnoeailnnfab
open Go.RowKit
structure Fr where
  kind : Int
  agent : Int
  epoch : Int
  granted : Int
  taken : Sp
  item : It
  deriving DecidableEq
/-- A frame's value that can be read; F: its set's block, G: its item's. -/
def RdFr (w : World) (v : Value) (e : Fr) (F G : List Nat) : Prop :=
  ∃ b l c a1 n1 c1 a2 n2 c2 a3 n3 c3, v = .agg #[.int .i64 e.kind, .int .i64 e.agent, .int .i64 e.epoch, .int .i64 e.granted, .slice b l c, .int .i64 e.item.seq, .int .i64 e.item.cls, .int .i64 e.item.key, .int .i64 e.item.window, .int .i64 e.item.sk.count, .int .i64 e.item.sk.sum, .int .i64 e.item.sk.min, .int .i64 e.item.sk.max, .slice a1 n1 c1, .slice a2 n2 c2, .slice a3 n3 c3] ∧
    RdP w b l e.taken F ∧ RdIt w (.agg #[.int .i64 e.item.seq, .int .i64 e.item.cls, .int .i64 e.item.key, .int .i64 e.item.window, .int .i64 e.item.sk.count, .int .i64 e.item.sk.sum, .int .i64 e.item.sk.min, .int .i64 e.item.sk.max, .slice a1 n1 c1, .slice a2 n2 c2, .slice a3 n3 c3]) e.item G ∧ Capd b l c
theorem RdFr.agree {w w' : World} {v : Value} {e : Fr} {F G : List Nat} (h : RdFr w v e F G) (ha : Agree w w' F) (hg : Agree w w' G) : RdFr w' v e F G := by
  obtain ⟨b, l, c, a1, n1, c1, a2, n2, c2, a3, n3, c3, hv, hp, hr, hcp⟩ := h
  exact ⟨b, l, c, a1, n1, c1, a2, n2, c2, a3, n3, c3, hv, hp.agree ha, hr.agree hg, hcp⟩
theorem RdFr.lt1 {w : World} {v : Value} {e : Fr} {F G : List Nat} (h : RdFr w v e F G) : ∀ b ∈ F, b < w.heap.size := by
  obtain ⟨b, l, c, a1, n1, c1, a2, n2, c2, a3, n3, c3, hv, hp, hr, _⟩ := h
  exact hp.lt
theorem RdFr.lt2 {w : World} {v : Value} {e : Fr} {F G : List Nat} (h : RdFr w v e F G) : ∀ b ∈ G, b < w.heap.size := by
  obtain ⟨b, l, c, a1, n1, c1, a2, n2, c2, a3, n3, c3, hv, hp, hr, _⟩ := h
  exact hr.lt
theorem RdFr.below {w w' : World} {v : Value} {e : Fr} {F G : List Nat} (h : RdFr w v e F G) (hb : Below w.heap.size w w') : RdFr w' v e F G := h.agree (.below hb h.lt1) (.below hb h.lt2)
def NewFr (w : World) (x : Fr) (e : Ending) (w' : World) : Prop := ∃ v F G, e = .returned v ∧ RdFr w' v x F G ∧ Own w.heap.size w' F ∧ Own w.heap.size w' G ∧ (∀ b ∈ F, b ∉ G) ∧ Below w.heap.size w w'
def NewFr2 (w : World) (x : Fr) (d : Bool) (e : Ending) (w' : World) : Prop := ∃ v F G, e = .returned (.tuple #[v, .bool d]) ∧ RdFr w' v x F G ∧ Own w.heap.size w' F ∧ Own w.heap.size w' G ∧ (∀ b ∈ F, b ∉ G) ∧ Below w.heap.size w w'
theorem Fr.eq_of {x y : Fr} (h1 : x.kind = y.kind) (h2 : x.agent = y.agent) (h3 : x.epoch = y.epoch) (h4 : x.granted = y.granted) (h5 : x.taken = y.taken) (h6 : x.item = y.item) : x = y := by
  cases x; cases y; simp_all
theorem RdIt.cells11 {w : World} {v : Value} {x : It} {F : List Nat} (h : RdIt w v x F) : ∃ a1 n1 c1 a2 n2 c2 a3 n3 c3, v = .agg #[.int .i64 x.seq, .int .i64 x.cls, .int .i64 x.key, .int .i64 x.window, .int .i64 x.sk.count, .int .i64 x.sk.sum, .int .i64 x.sk.min, .int .i64 x.sk.max, .slice a1 n1 c1, .slice a2 n2 c2, .slice a3 n3 c3] := by
  obtain ⟨a1, n1, c1, a2, n2, c2, a3, n3, c3, rfl, _⟩ := h
  exact ⟨a1, n1, c1, a2, n2, c2, a3, n3, c3, rfl⟩
theorem one11 (p q r s p' q' r' s' : Int) (a1 : Option Addr) (n1 c1 : Nat) (a2 : Option Addr) (n2 c2 : Nat) (a3 : Option Addr) (n3 c3 : Nat) : (#[Value.int .i64 p, .int .i64 q, .int .i64 r, .int .i64 s, .int .i64 p', .int .i64 q', .int .i64 r', .int .i64 s', .slice a1 n1 c1, .slice a2 n2 c2, .slice a3 n3 c3]).all (·.oneCell') = true := by
  simp [Value.oneCell']
end Go.Proofs.Ytillnoeailnnfab
/- Agents, as plain data. No statement of the seat is proved here. -/
namespace Go.Proofs.Ytillnoeailnnfab
open Go.RowKit
/-- An item as an element of a slice. -/
def itK : ElK It where
  n := 11
  R := RdIt
  agree := fun h ha => RdIt.agree h ha
  lt := fun h => RdIt.lt h
  cells := fun h => by
    obtain ⟨a1, n1, c1, a2, n2, c2, a3, n3, c3, rfl⟩ := RdIt.cells11 h
    exact ⟨_, rfl, rfl, by simp [Value.oneCell']⟩
  pos := by decide
structure Ag where
  id : Int
  epoch : Int
  live : Bool
  granted : Int
  sealed : List It
  taken : Sp
  next : Int
  deriving DecidableEq
/-- An agent's value that can be read; F: its items' blocks, G: its set's. -/
def RdAg (w : World) (v : Value) (x : Ag) (F G : List Nat) : Prop :=
  ∃ a1 n1 c1 a2 n2 c2, v = .agg #[.int .i64 x.id, .int .i64 x.epoch, .bool x.live, .int .i64 x.granted, .slice a1 n1 c1, .slice a2 n2 c2, .int .i64 x.next] ∧
    RdL itK w a1 n1 x.sealed F ∧ RdP w a2 n2 x.taken G ∧ Capd a1 n1 c1 ∧ Capd a2 n2 c2
theorem RdAg.agree {w w' : World} {v : Value} {x : Ag} {F G : List Nat} (h : RdAg w v x F G) (ha : Agree w w' F) (hg : Agree w w' G) : RdAg w' v x F G := by
  obtain ⟨a1, n1, c1, a2, n2, c2, hv, h1, h2, k1, k2⟩ := h
  exact ⟨a1, n1, c1, a2, n2, c2, hv, h1.agree ha, h2.agree hg, k1, k2⟩
theorem RdAg.lt1 {w : World} {v : Value} {x : Ag} {F G : List Nat} (h : RdAg w v x F G) : ∀ b ∈ F, b < w.heap.size := by
  obtain ⟨a1, n1, c1, a2, n2, c2, hv, h1, h2, _⟩ := h
  exact h1.lt
theorem RdAg.lt2 {w : World} {v : Value} {x : Ag} {F G : List Nat} (h : RdAg w v x F G) : ∀ b ∈ G, b < w.heap.size := by
  obtain ⟨a1, n1, c1, a2, n2, c2, hv, h1, h2, _⟩ := h
  exact h2.lt
theorem RdAg.below {w w' : World} {v : Value} {x : Ag} {F G : List Nat} (h : RdAg w v x F G) (hb : Below w.heap.size w w') : RdAg w' v x F G := h.agree (.below hb h.lt1) (.below hb h.lt2)
theorem RdAg.cells {w : World} {v : Value} {x : Ag} {F G : List Nat} (h : RdAg w v x F G) : ∃ cs : Array Value, v = .agg cs ∧ cs.size = 7 ∧ cs.all (·.oneCell') = true := by
  obtain ⟨a1, n1, c1, a2, n2, c2, rfl, _⟩ := h
  exact ⟨_, rfl, rfl, by simp [Value.oneCell']⟩
def NewAg (w : World) (x : Ag) (e : Ending) (w' : World) : Prop := ∃ v F G, e = .returned v ∧ RdAg w' v x F G ∧ Own w.heap.size w' F ∧ Own w.heap.size w' G ∧ (∀ b ∈ F, b ∉ G) ∧ Below w.heap.size w w'
theorem Ag.eq_of {x y : Ag} (h1 : x.id = y.id) (h2 : x.epoch = y.epoch) (h3 : x.live = y.live) (h4 : x.granted = y.granted) (h5 : x.sealed = y.sealed) (h6 : x.taken = y.taken) (h7 : x.next = y.next) : x = y := by
  cases x; cases y; simp_all
theorem It.size_nonneg (x : It) : 0 ≤ x.sk.size := by unfold Sk.size; have := sumLen_nonneg x.sk.rows; omega
/-- What a list of items weighs. -/
def itsSize (xs : List It) : Int := sumOfL (fun x => x.sk.size) xs
theorem itsSize_nonneg (xs : List It) : 0 ≤ itsSize xs := sumOfL_nonneg It.size_nonneg xs
theorem itsSize_mem {xs : List It} {x : It} (h : x ∈ xs) : x.sk.size ≤ itsSize xs := sumOfL_mem It.size_nonneg xs x h
end Go.Proofs.Ytillnoeailnnfab
/- The walks through the helpers of the laws over slices of items. No statement of the seat is proved here. -/
namespace Go.Proofs.Ytillnoeailnnfab
open Go.RowKit
theorem its_at {w : World} {a : Option Addr} {len : Nat} {xs : List It} {F : List Nat} (h : RdL itK w a len xs F) {k : Nat} (hk : k < len) : ∃ b off x cs Fi, a = some ⟨b, off, none⟩ ∧ b < w.heap.size ∧ xs[k]? = some x ∧ cs.size = 11 ∧ (∀ j, j < 11 → w.cell? ⟨b, off + k * 11 + j, none⟩ = cs[j]?) ∧ RdIt w (.agg cs) x Fi := by
  obtain ⟨b, off, ha, hb, cs, Fi, h1, h2, h3, _⟩ := h.get k hk
  have hx : xs[k]? = some (xs[k]'(by rw [h.length]; exact hk)) := List.getElem?_eq_getElem _
  exact ⟨b, off, _, cs, Fi, ha, h.lt b hb, hx, h1, h2, h3 _ hx⟩
theorem its_eq_step {xs ys : List It} {k : Nat} {x y : It} (hx : xs[k]? = some x) (hy : ys[k]? = some y) (h : xs.take k = ys.take k) (e : x = y) : xs.take (k + 1) = ys.take (k + 1) := by
  rw [take_snoc_at hx, take_snoc_at hy, h, e]
theorem its_ne_at {xs ys : List It} {k : Nat} {x y : It} (hx : xs[k]? = some x) (hy : ys[k]? = some y) (e : ¬ x = y) : decide (xs = ys) = false := by
  rw [decide_eq_false_iff_not]
  intro h
  rw [h, hy] at hx
  cases hx
  exact e rfl
end Go.Proofs.Ytillnoeailnnfab
/- The walks through the helpers of the laws over agents. No statement of the seat is proved here. -/
namespace Go.Proofs.Ytillnoeailnnfab
open Go.RowKit
/-- What an agent weighs. -/
def Ag.size (x : Ag) : Int := (x.sealed.length : Int) + itsSize x.sealed + x.taken.length
end Go.Proofs.Ytillnoeailnnfab
/- Agents that came in; slices of items and of spans, as cells. No statement of the seat is proved here. -/
namespace Go.Proofs.Ytillnoeailnnfab
open Go.RowKit Go.WideShapes Go.ChangeShapes Go.ChangeAt Go.Deep
section
variable {α : Type} {K : ElK α} {w : World}
/-- Elements one behind the other, each with its reading. -/
theorem rdEls_open (Good : α → Prop) : ∀ (n : Nat) (b off : Nat) (C : Nat → Array Value), (∀ r, r < n → (C r).size = K.n ∧ (∀ j, j < K.n → w.cell? ⟨b, off + r * K.n + j, none⟩ = (C r)[j]?) ∧ ∃ x F, K.R w (.agg (C r)) x F ∧ Good x) → ∃ xs F, xs.length = n ∧ RdEls K w b xs off F ∧ ∀ x ∈ xs, Good x
  | 0, b, off, C, _ => ⟨[], [], rfl, rfl, by simp⟩
  | n + 1, b, off, C, h => by
    obtain ⟨xs, F2, h1, h2, h3⟩ := rdEls_open Good n b (off + K.n) (fun r => C (r + 1)) (fun r hr => by
      obtain ⟨k1, k2, k3⟩ := h (r + 1) (by omega)
      refine ⟨k1, fun j hj => ?_, k3⟩
      rw [show off + K.n + r * K.n + j = off + (r + 1) * K.n + j by rw [Nat.succ_mul]; omega]
      exact k2 j hj)
    obtain ⟨k1, k2, x, F1, k3, k4⟩ := h 0 (by omega)
    refine ⟨x :: xs, F1 ++ F2, by simp [h1], ⟨C 0, F1, F2, k1, fun j hj => ?_, k3, h2, rfl⟩, ?_⟩
    · have := k2 j hj
      rw [Nat.zero_mul, Nat.add_zero] at this
      exact this
    · intro y hy
      rcases List.mem_cons.1 hy with rfl | hy
      · exact k4
      · exact h3 y hy
end
set_option maxRecDepth 100000 in
set_option maxHeartbeats 1000000 in
theorem open_sps {H : Type} {enc : TypeId × Value → H} {W : World} {v : Value} {fuel : Nat} {z : DataW H × List MemPlace} (g : DataW.trod enc Try.prog W 0 (fun _ => true) true fuel 45 [v] = some z) :
    ∃ a len cap ps F, v = .slice a len cap ∧ RdP W a len ps F ∧ len ≤ 9223372036854775807 ∧ Capd a len cap := by
  have c3 : Try.prog.cellsOf 3 = 1 := by kernel_rfl
  have c2 : Try.prog.cellsOf 70 = 2 := by kernel_rfl
  rcases open_slice_pairs Try.underlying45 Try.underlying70 c2 rfl rfl c3 c3 g with ⟨q, _⟩ | ⟨x, len, cap, m, n, V0, V1, D0, D1, P0, P1, q, _, hl, hm, hmm, _, hx⟩
  · simp at q
    subst q
    exact ⟨none, 0, 0, [], [], rfl, RdP.nil, by omega, fun _ => rfl, Nat.le_refl _⟩
  · simp at q
    subst q
    have hm2 : m = cap := by rw [hmm]; simp
    subst hm2
    have hb : len ≤ 9223372036854775807 := by unfold maxLen at hm; omega
    have ints : ∀ i, i < m → ∃ y z : Int, V0 i = .int .i64 y ∧ V1 i = .int .i64 z ∧ (Lit.int .i64 y).wf = true ∧ (Lit.int .i64 z).wf = true := fun i hi => by
      obtain ⟨_, _, h3, h4⟩ := hx i hi
      obtain ⟨y, q0, _, w0⟩ := DataW.trod_int Try.underlying3 h3
      obtain ⟨z, q1, _, w1⟩ := DataW.trod_int Try.underlying3 h4
      simp at q0 q1
      exact ⟨y, z, q0, q1, w0, w1⟩
    have hN : ∀ i, i < m → V0 i = .int .i64 (intOf (V0 i)) ∧ V1 i = .int .i64 (intOf (V1 i)) ∧ Fit64 (intOf (V0 i)) ∧ Fit64 (intOf (V1 i)) := fun i hi => by
      obtain ⟨y, z, e0, e1, w0, w1⟩ := ints i hi
      rw [e0, e1]
      exact ⟨rfl, rfl, int_wf w0, int_wf w1⟩
    by_cases h0 : len = 0
    · subst h0
      exact ⟨_, 0, _, [], [], rfl, RdP.nil, by omega, fun e => (by cases e), hl⟩
    · obtain ⟨b, off, rfl⟩ := sp_addr (hx 0 (by omega)).1
      refine ⟨_, len, m, (List.range len).map fun i => (intOf (V0 i), intOf (V1 i)), [b], rfl, rdP_mk _ (by simp) (by omega) (fun i hi => ?_), hb, fun e => (by cases e), hl⟩
      · rw [flat_range len _ _ i hi]
        have h1 := (hx i (by omega)).1
        have h2 := (hx i (by omega)).2.1
        rw [sp_add] at h1 h2
        rw [(hN i (by omega)).1] at h1
        rw [(hN i (by omega)).2.1] at h2
        exact ⟨h1, by rw [show off + i * 2 + 1 = off + (i * 2 + 1) by omega]; exact h2⟩
end Go.Proofs.Ytillnoeailnnfab
/- Slices of entries that came in, as cells. No statement of the seat is proved here. -/
namespace Go.Proofs.Ytillnoeailnnfab
open Go.RowKit Go.WideShapes Go.ChangeShapes Go.ChangeAt Go.Deep
set_option maxRecDepth 100000 in
set_option maxHeartbeats 1000000 in
theorem open_en10g {H : Type} {enc : TypeId × Value → H} {W : World} {e0 e1 e2 e3 e4 e5 e6 e7 e8 e9 : Value} {d : DataW H} {p : List MemPlace} (h : DataW.Trod enc Try.prog W 0 (fun _ => true) true 48 (.agg ⟨[e0, e1, e2, e3, e4, e5, e6, e7, e8, e9]⟩) d p) :
    ∃ x F, RdE W (.agg ⟨[e0, e1, e2, e3, e4, e5, e6, e7, e8, e9]⟩) x F ∧ x.vast := by
  have c3 : Try.prog.cellsOf 3 = 1 := by kernel_rfl
  have c4 : Try.prog.cellsOf 45 = 1 := by kernel_rfl
  have c7 : Try.prog.cellsOf 46 = 7 := by kernel_rfl
  obtain ⟨fuel, hf⟩ := h
  obtain ⟨xs, n, _, _, _, hlen, hx⟩ := DataW.trod_struct Try.underlying48 hf
  match xs, hlen with
  | [y0, y1, y2, y3], _ =>
    have g0 := hx 0 _ rfl
    have g1 := hx 1 _ rfl
    have g2 := hx 2 _ rfl
    have g3 := hx 3 _ rfl
    simp [Value.cells, c3, c4, c7] at g0 g1 g2 g3
    clear hx
    obtain ⟨i0, q0, _, _⟩ := DataW.trod_int Try.underlying3 g0
    obtain ⟨i1, q1, _, _⟩ := DataW.trod_int Try.underlying3 g1
    simp at q0 q1
    subst q0 q1
    obtain ⟨s, G, hr, hv7⟩ := open_sk7 (e0 := e3) (e1 := e4) (e2 := e5) (e3 := e6) (e4 := e7) (e5 := e8) (e6 := e9) ⟨_, g3⟩
    obtain ⟨a1, n1, c1, a2, n2, c2', a3, n3, c3', ev⟩ := hr.cells7
    simp only [Value.agg.injEq] at ev
    cases ev
    obtain ⟨b, l, c, ps, F, rfl, hp, hb, hcp⟩ := open_sps g2
    exact ⟨⟨i0, i1, ps, s⟩, F ++ G, ⟨F, G, rfl, b, l, c, a1, n1, c1, a2, n2, c2', a3, n3, c3', rfl, hp, hr, hcp⟩, hv7, by rw [hp.length]; exact hb⟩
set_option maxRecDepth 100000 in
set_option maxHeartbeats 1000000 in
theorem open_ens {H : Type} {enc : TypeId × Value → H} {W : World} {v : Value} {fuel : Nat} {z : DataW H × List MemPlace} (g : DataW.trod enc Try.prog W 0 (fun _ => true) true fuel 22 [v] = some z) :
    ∃ a len cap xs F, v = .slice a len cap ∧ RdL enK W a len xs F ∧ len ≤ 9223372036854775807 ∧ Capd a len cap ∧ ∀ x ∈ xs, x.vast := by
  have c10 : Try.prog.cellsOf 48 = 10 := by kernel_rfl
  rcases open_slice Try.underlying22 g with ⟨q, _⟩ | ⟨x, len, cap, m, n, D, Pl, q, _, hl, hm, hmm, _, hx⟩
  · simp at q
    subst q
    exact ⟨none, 0, 0, [], [], rfl, RdL.nil, by omega, ⟨fun _ => rfl, Nat.le_refl _⟩, by simp⟩
  · simp at q
    subst q
    have hm2 : m = cap := by rw [hmm]; simp
    subst hm2
    have hb : len ≤ 9223372036854775807 := by unfold maxLen at hm; omega
    rw [c10] at hx
    by_cases h0 : len = 0
    · subst h0
      exact ⟨_, 0, _, [], [], rfl, RdL.zero, by omega, ⟨(fun e => by cases e), hl⟩, by simp⟩
    have each : ∀ i, i < m → ∃ c : Array Value, c.size = 10 ∧ (∀ j, j < 10 → W.cell? (x.add (i * 10 + j)) = c[j]?) ∧ ∃ y F, RdE W (.agg c) y F ∧ y.vast := fun i hi => by
      obtain ⟨cs', h1, h2⟩ := hx i hi
      obtain ⟨_, hlen, hcell⟩ := World.cells?_some h1
      refine ⟨⟨cs'⟩, hlen, fun j hj => ?_, ?_⟩
      · have := hcell j hj
        rw [add_add] at this
        rw [this]
        simp
      · match cs', hlen with
        | [e0, e1, e2, e3, e4, e5, e6, e7, e8, e9], _ => exact open_en10g (d := D i) (p := Pl i) ⟨n, by simpa [Value.cells] using h2⟩
    obtain ⟨C, hC⟩ := choose_lt each
    have a0 : ∃ b off, x = ⟨b, off, none⟩ := by
      obtain ⟨k1, k2, _⟩ := hC 0 (by omega)
      have c := k2 0 (by omega)
      rw [Array.getElem?_eq_getElem (by rw [k1]; omega)] at c
      obtain ⟨b, off, spot⟩ := x
      have hspot : spot = none := by simpa [Addr.add] using World.cell?_spot c
      subst hspot
      exact ⟨b, off, rfl⟩
    obtain ⟨b, off, rfl⟩ := a0
    obtain ⟨xs, F, k1, k2, k3⟩ := rdEls_open (K := enK) (w := W) (fun y => y.vast) len b off C (fun r hr => by
      obtain ⟨h1, h2, h3⟩ := hC r (by omega)
      refine ⟨h1, fun j hj => ?_, h3⟩
      have := h2 j hj
      rw [sp_add] at this
      rw [Nat.add_assoc]
      exact this)
    exact ⟨_, len, m, xs, b :: F, rfl, ⟨k1, .inr ⟨b, off, F, by omega, rfl, rfl, k2⟩⟩, hb, ⟨(fun e => by cases e), hl⟩, k3⟩
end Go.Proofs.Ytillnoeailnnfab
/- Entries and items that are marked; an entry in a variable of the law's own. No statement of the seat is proved here. -/
namespace Go.Proofs.Ytillnoeailnnfab
open Go.RowKit
/-- The pairs that a marked set bears. -/
def markP (k : Int) (n : Nat) : Sp := (List.range n).map fun i : Nat => (k + 2 * (i : Int), k + 2 * (i : Int) + 1)
theorem flat_markP (k : Int) (n : Nat) : flat (markP k n) = marksI k (2 * n) := by
  induction n with
  | zero => rfl
  | succ n ih =>
    have e : markP k (n + 1) = markP k n ++ [(k + 2 * (n : Int), k + 2 * (n : Int) + 1)] := by unfold markP; rw [List.range_succ, List.map_append]; rfl
    rw [e, flat_append, ih, show 2 * (n + 1) = 2 * n + 1 + 1 by omega, marksI, marksI, List.append_assoc]
    have e1 : k + ((2 * n : Nat) : Int) = k + 2 * (n : Int) := by omega
    have e2 : k + ((2 * n + 1 : Nat) : Int) = k + 2 * (n : Int) + 1 := by omega
    rw [e1, e2]
    rfl
theorem markP_length (k : Int) (n : Nat) : (markP k n).length = n := by unfold markP; simp
def En.many (x : En) : Int := 2 * x.ids.length + x.sk.many
def En.marked (k : Int) (x : En) : En := ⟨x.key, x.window, markP k x.ids.length, x.sk.marked (k + 2 * x.ids.length)⟩
structure MarkedE (B : Nat) (w : World) (v : Value) (k : Int) (x : En) (F : List Nat) (w' : World) : Prop where
  rd : RdE w' v (x.marked k) F
  own : Own B w' F
  only : Only F w w'
theorem Sk.many_nonneg (s : Sk) : 0 ≤ s.many := by
  have := sumLen_nonneg s.rows
  unfold Sk.many
  omega
theorem Sk.size_nonneg (s : Sk) : 0 ≤ s.size := by
  have h0 := sumLen_nonneg s.rows
  unfold Sk.size
  omega
theorem En.fits_sz {x : En} (h : x.ids.length + x.sk.size ≤ 1048576) : x.fits := by
  have := Sk.size_nonneg x.sk
  exact ⟨Sk.fits_of (by omega), by omega⟩
theorem En.many_fits {x : En} (h : x.ids.length + x.sk.size ≤ 1048576) : 0 ≤ x.many ∧ x.many ≤ 4194304 := by
  have h1 := Sk.many_nonneg x.sk
  have h2 : x.sk.many ≤ x.sk.size := by
    have h0 := sumLen_nonneg x.sk.rows
    unfold Sk.size Sk.many
    omega
  unfold En.many
  omega
/-- An entry in a variable of the call's own: its struct lies in block g, its lists in memory between lo and hi. -/
structure VarE (W : World) (lo hi g : Nat) (cs : Array Value) (s : En) (F : List Nat) : Prop where
  blk : Blk W g cs 42
  rd : RdE W (.agg cs) s F
  sz : cs.size = 10
  own : Own lo W F
  lt : ∀ b ∈ F, b < hi
  ge : lo ≤ g
  glt : g < hi
  apart : g ∉ F
theorem VarE.below {W W' : World} {lo hi g : Nat} {cs : Array Value} {s : En} {F : List Nat} (h : VarE W lo hi g cs s F) (b : Below W.heap.size W W') : VarE W' lo hi g cs s F :=
  ⟨h.blk.below b, h.rd.below b, h.sz, h.own.below h.rd.lt b, h.lt, h.ge, h.glt, h.apart⟩
theorem VarE.fresh {w0 w1 W : World} {cs : Array Value} {s : En} {F : List Nat} (r : RdE w1 (.agg cs) s F) (o : Own w0.heap.size w1 F) (b : Below w0.heap.size w0 w1) (sz : cs.size = 10) (k : Blk W w1.heap.size cs 42) (b2 : Below w1.heap.size w1 W) : VarE W w0.heap.size W.heap.size w1.heap.size cs s F :=
  ⟨k, r.below b2, sz, o.below r.lt b2, fun x hx => by have := r.lt x hx; have := b2.size; omega, b.size, k.lt, fun hx => by have := r.lt _ hx; omega⟩
theorem VarE.only {W W' : World} {lo hi g lo' hi' g' : Nat} {cs ds : Array Value} {s t : En} {F G : List Nat} (h : VarE W lo hi g cs s F) (k : VarE W lo' hi' g' ds t G) (o : Only G W W') (hd : hi ≤ lo' ∨ hi' ≤ lo) : VarE W' lo hi g cs s F := by
  have d : ∀ b ∈ F, b ∉ G := fun b hb hg => by have := h.lt b hb; have := h.own.ge b hb; have := k.lt b hg; have := k.own.ge b hg; omega
  have e : g ∉ G := fun hg => by have := h.ge; have := h.glt; have := k.lt g hg; have := k.own.ge g hg; omega
  exact ⟨h.blk.agree (o.block g h.blk.lt e), h.rd.agree (o.agree h.rd.lt d), h.sz, h.own.agree (o.agree h.rd.lt d), h.lt, h.ge, h.glt, h.apart⟩
theorem VarE.only' {W W' : World} {lo hi g lo' hi' : Nat} {cs : Array Value} {s : En} {F G : List Nat} (h : VarE W lo hi g cs s F) (o : Only G W W') (kl : ∀ b ∈ G, b < hi') (kg : ∀ b ∈ G, lo' ≤ b) (hd : hi ≤ lo' ∨ hi' ≤ lo) : VarE W' lo hi g cs s F := by
  have d : ∀ b ∈ F, b ∉ G := fun b hb hg => by have := h.lt b hb; have := h.own.ge b hb; have := kl b hg; have := kg b hg; omega
  have e : g ∉ G := fun hg => by have := h.ge; have := h.glt; have := kl g hg; have := kg g hg; omega
  exact ⟨h.blk.agree (o.block g h.blk.lt e), h.rd.agree (o.agree h.rd.lt d), h.sz, h.own.agree (o.agree h.rd.lt d), h.lt, h.ge, h.glt, h.apart⟩
theorem VarE.keep {W W' : World} {lo' hi' g' : Nat} {ds : Array Value} {t : En} {G : List Nat} {b : Nat} {cs : Array Value} {ty : TypeId} (k : VarE W lo' hi' g' ds t G) (o : Only G W W') (h : Blk W b cs ty) (hb : b < lo') : Blk W' b cs ty :=
  h.agree (o.block b h.lt (fun hg => by have := k.own.ge b hg; omega))
theorem VarE.bel {w W W' : World} {lo' hi' g' : Nat} {ds : Array Value} {t : En} {G : List Nat} (k : VarE W lo' hi' g' ds t G) (o : Only G W W') (h : Below w.heap.size w W) (hb : w.heap.size ≤ lo') : Below w.heap.size w W' :=
  o.below h h.size (fun b hg => by have := k.own.ge b hg; omega)
theorem varE_stored {W : World} {lo g : Nat} {old rr : Array Value} {s : En} {X : List Nat} (k : Blk W g old 42) (r : RdE W (.agg rr) s X) (sz : rr.size = 10) (o : Own lo W X) (lt : ∀ b ∈ X, b < W.heap.size) (ge : lo ≤ g) (ap : g ∉ X) : VarE (W.setRow g rr) lo (W.setRow g rr).heap.size g rr s X := by
  have ag : Agree W (W.setRow g rr) X := fun b hb => setRow_other W _ b _ (fun e => ap (e ▸ hb))
  have hs : (W.setRow g rr).heap.size = W.heap.size := by simp
  exact ⟨k.setRow, r.agree ag, sz, o.agree ag, by rw [hs]; exact lt, ge, by rw [hs]; exact k.lt, ap⟩
theorem VarE.mark {W W' : World} {lo hi g : Nat} {cs : Array Value} {s : En} {F : List Nat} {k : Int} (h : VarE W lo hi g cs s F) (m : MarkedE lo W (.agg cs) k s F W') : VarE W' lo hi g cs (s.marked k) F :=
  ⟨h.blk.agree (m.only.block g h.blk.lt h.apart), m.rd, h.sz, m.own, h.lt, h.ge, h.glt, h.apart⟩
/-- The boxes of two arguments lie there. -/
def EnBoxes (g : Nat) (cs ds : Array Value) (W : World) : Prop := Blk W g cs 48 ∧ Blk W (g + 1) ds 48
theorem EnBoxes.below {g : Nat} {cs ds : Array Value} {W W' : World} (h : EnBoxes g cs ds W) (b : Below W.heap.size W W') : EnBoxes g cs ds W' := ⟨h.1.below b, h.2.below b⟩
theorem EnBoxes.setRow {g k : Nat} {cs ds es : Array Value} {W : World} (h : EnBoxes g cs ds W) (hk : g + 1 < k) : EnBoxes g cs ds (W.setRow k es) := ⟨h.1.setRowOther (by omega), h.2.setRowOther (by omega)⟩
end Go.Proofs.Ytillnoeailnnfab
/- Items of a list, marked in place, and held against their marks. No statement of the seat is proved here. -/
namespace Go.Proofs.Ytillnoeailnnfab
open Go.RowKit
section
variable {α : Type} {K : ElK α} {w w' : World}
theorem RdEls.agreeC : ∀ {xs : List α} {b off : Nat} {F : List Nat}, RdEls K w b xs off F → (∀ o, off ≤ o → w'.cell? ⟨b, o, none⟩ = w.cell? ⟨b, o, none⟩) → Agree w w' F → RdEls K w' b xs off F
  | [], b, off, F, h, _, _ => h
  | x :: xs, b, off, F, h, hc, ha => by
    obtain ⟨cs, F1, F2, h1, h2, h3, h4, rfl⟩ := h
    exact ⟨cs, F1, F2, h1, fun j hj => (hc _ (by omega)).trans (h2 j hj), K.agree h3 ha.left, RdEls.agreeC h4 (fun o ho => hc o (by omega)) ha.right, rfl⟩
/-- One element of a list, and what is left when it is turned in place. -/
theorem RdEls.part : ∀ {xs : List α} {b off : Nat} {F : List Nat}, RdEls K w b xs off F → ∀ (i : Nat) (hi : i < xs.length), ∃ (F1 : List Nat) (cs : Array Value) (Fi F2 : List Nat), F = F1 ++ (Fi ++ F2) ∧ cs.size = K.n ∧ (∀ j, j < K.n → w.cell? ⟨b, off + i * K.n + j, none⟩ = cs[j]?) ∧ K.R w (.agg cs) xs[i] Fi ∧
    ∀ {w' : World} {ds : Array Value} {y : α}, ds.size = K.n → (∀ j, j < K.n → w'.cell? ⟨b, off + i * K.n + j, none⟩ = ds[j]?) → K.R w' (.agg ds) y Fi → (∀ o, (o < off + i * K.n ∨ off + (i + 1) * K.n ≤ o) → w'.cell? ⟨b, o, none⟩ = w.cell? ⟨b, o, none⟩) → Agree w w' (F1 ++ F2) → RdEls K w' b (xs.set i y) off F
  | [], b, off, F, h, i, hi => by simp at hi
  | x :: xs, b, off, F, h, i, hi => by
    obtain ⟨cs, F1, F2, h1, h2, h3, h4, rfl⟩ := h
    cases i with
    | zero =>
      refine ⟨[], cs, F1, F2, rfl, h1, fun j hj => by rw [Nat.zero_mul, Nat.add_zero]; exact h2 j hj, h3, fun {w' ds y} k1 k2 k3 k4 k5 => ?_⟩
      refine ⟨ds, F1, F2, k1, fun j hj => ?_, k3, h4.agreeC (fun o ho => k4 o (.inr (by rw [Nat.zero_add, Nat.one_mul]; exact ho))) k5, rfl⟩
      have := k2 j hj
      rw [Nat.zero_mul, Nat.add_zero] at this
      exact this
    | succ i =>
      obtain ⟨G1, ds, Gi, G2, e, k1, k2, k3, k4⟩ := RdEls.part h4 i (by simpa using hi)
      have ea : ∀ m, off + (m + 1) * K.n = off + K.n + m * K.n := fun m => by rw [Nat.succ_mul]; omega
      refine ⟨F1 ++ G1, ds, Gi, G2, by rw [e, List.append_assoc], k1, fun j hj => ?_, k3, fun {w' es y} q1 q2 q3 q4 q5 => ?_⟩
      · rw [ea]; exact k2 j hj
      · have q5' : Agree w w' F1 := fun b hb => q5 b (by simp [hb])
        have q6' : Agree w w' (G1 ++ G2) := fun b hb => q5 b (by rcases List.mem_append.1 hb with hb | hb <;> simp [hb])
        refine ⟨cs, F1, F2, h1, fun j hj => (q4 _ (.inl ?_)).trans (h2 j hj), K.agree h3 q5', ?_, rfl⟩
        · rw [ea]; have := Nat.zero_le (i * K.n); omega
        · refine k4 q1 (fun j hj => ?_) q3 (fun o ho => q4 o ?_) q6'
          · have := q2 j hj; rw [ea] at this; exact this
          · rw [ea, ea]
            exact ho
end
/-- An item that is marked whole. -/
def It.markS (k : Int) (y : It) : It := ⟨k, k + 1, k + 2, k + 3, ⟨k + 4, k + 5, k + 6, k + 7, marksI (k + 8) y.sk.hist.length, marksI (k + 8 + y.sk.hist.length) y.sk.regs.length, marksII (k + 8 + y.sk.hist.length + y.sk.regs.length) y.sk.rows⟩⟩
def It.manyS (y : It) : Int := 8 + y.sk.many
def itsMany : List It → Int
  | [] => 0
  | y :: xs => y.manyS + itsMany xs
def itsMark (k : Int) : List It → List It
  | [] => []
  | y :: xs => y.markS k :: itsMark (k + y.manyS) xs
theorem itsMark_length : ∀ (k : Int) (xs : List It), (itsMark k xs).length = xs.length
  | k, [] => rfl
  | k, y :: xs => by simp only [itsMark, List.length_cons, itsMark_length]
theorem It.manyS_nonneg (y : It) : 0 ≤ y.manyS := by have := Sk.many_nonneg y.sk; unfold It.manyS; omega
theorem itsMany_nonneg : ∀ xs : List It, 0 ≤ itsMany xs
  | [] => by simp [itsMany]
  | y :: xs => by have := It.manyS_nonneg y; have := itsMany_nonneg xs; simp only [itsMany]; omega
theorem itsMany_append : ∀ xs ys : List It, itsMany (xs ++ ys) = itsMany xs + itsMany ys
  | [], ys => by simp [itsMany]
  | y :: xs, ys => by simp only [List.cons_append, itsMany, itsMany_append xs ys]; omega
theorem itsMark_append : ∀ (k : Int) (xs ys : List It), itsMark k (xs ++ ys) = itsMark k xs ++ itsMark (k + itsMany xs) ys
  | k, [], ys => by simp [itsMark, itsMany]
  | k, y :: xs, ys => by
    simp only [List.cons_append, itsMark, itsMany, itsMark_append (k + y.manyS) xs ys]
    rw [Int.add_assoc]
theorem itsMany_snoc {xs : List It} {i : Nat} {y : It} (h : xs[i]? = some y) : itsMany (xs.take (i + 1)) = itsMany (xs.take i) + y.manyS := by
  rw [take_snoc_at h, itsMany_append]; simp [itsMany]
theorem itsMark_set {k : Int} {xs : List It} {i : Nat} {y : It} (h : xs[i]? = some y) : (itsMark k (xs.take i) ++ xs.drop i).set i (y.markS (k + itsMany (xs.take i))) = itsMark k (xs.take (i + 1)) ++ xs.drop (i + 1) := by
  have hi : i < xs.length := (List.getElem?_eq_some_iff.1 h).1
  have hl : (itsMark k (xs.take i)).length = i := by rw [itsMark_length, List.length_take]; omega
  have hd : xs.drop i = y :: xs.drop (i + 1) := by
    rw [List.drop_eq_getElem_cons hi]
    have := (List.getElem?_eq_some_iff.1 h).2
    rw [this]
  have e : itsMark k (xs.take i ++ [y]) = itsMark k (xs.take i) ++ [y.markS (k + itsMany (xs.take i))] := by rw [itsMark_append]; simp [itsMark]
  rw [hd, take_snoc_at h, e, List.append_assoc]
  rw [List.set_append]
  simp [hl]
theorem itsMark_at {k : Int} {xs : List It} {i : Nat} {y : It} (h : xs[i]? = some y) : (itsMark k xs)[i]? = some (y.markS (k + itsMany (xs.take i))) := by
  have hi : i < xs.length := (List.getElem?_eq_some_iff.1 h).1
  have hl : (itsMark k (xs.take i)).length = i := by rw [itsMark_length, List.length_take]; omega
  have hd : xs = xs.take i ++ (y :: xs.drop (i + 1)) := by
    have e := List.take_append_drop i xs
    rw [List.drop_eq_getElem_cons hi, (List.getElem?_eq_some_iff.1 h).2] at e
    exact e.symm
  conv => lhs; rw [hd, itsMark_append, itsMark]
  rw [List.getElem?_append_right (by omega), hl]
  simp
theorem itsMany_le {xs : List It} (i : Nat) : itsMany (xs.take i) ≤ itsMany xs := by
  have := itsMany_append (xs.take i) (xs.drop i)
  rw [List.take_append_drop] at this
  have := itsMany_nonneg (xs.drop i)
  omega
structure MarkedL (B : Nat) (w : World) (a : Option Addr) (len : Nat) (k : Int) (xs : List It) (F : List Nat) (w' : World) : Prop where
  rd : RdL itK w' a len (itsMark k xs) F
  own : Own B w' F
  only : Only F w w'
structure MarkingL (B : Nat) (w : World) (b off len : Nat) (k : Int) (xs : List It) (i : Nat) (F : List Nat) (w' : World) : Prop where
  rd : RdEls itK w' b (itsMark k (xs.take i) ++ xs.drop i) off F
  own : Own B w' (b :: F)
  only : Only (b :: F) w w'
def vals8 (z : Int) : List Value := [.int .i64 z, .int .i64 (z + 1), .int .i64 (z + 1 + 1), .int .i64 (z + 1 + 1 + 1), .int .i64 (z + 1 + 1 + 1 + 1), .int .i64 (z + 1 + 1 + 1 + 1 + 1), .int .i64 (z + 1 + 1 + 1 + 1 + 1 + 1), .int .i64 (z + 1 + 1 + 1 + 1 + 1 + 1 + 1)]
theorem setCells_heap (b : Nat) : ∀ (vs : List Value) (o : Nat) (w : World) (x : Nat), x ≠ b → (w.setCells b o vs).heap[x]? = w.heap[x]?
  | [], _, _, _, _ => rfl
  | v :: r, o, w, x, h => by rw [World.setCells, setCells_heap b r (o + 1) _ x h, Below.heap_setCell w ⟨b, o, none⟩ v x h]
theorem setCells_own (b B : Nat) {F : List Nat} : ∀ (vs : List Value) (o : Nat) (w : World), Own B w F → Own B (w.setCells b o vs) F
  | [], _, _, h => h
  | v :: r, o, _, h => setCells_own b B r (o + 1) _ (h.set b o v)
theorem setCells_only (b : Nat) {F : List Nat} (hb : b ∈ F) : ∀ (vs : List Value) (o : Nat) (w w0 : World), Only F w0 w → Only F w0 (w.setCells b o vs)
  | [], _, _, _, h => h
  | v :: r, o, _, w0, h => setCells_only b hb r (o + 1) _ w0 (h.set hb o v)
/-- Eight cells of a row, numbered. -/
structure Set8 (w : World) (b A : Nat) (z : Int) (W : World) : Prop where
  inn : ∀ j, j < 8 → W.cell? ⟨b, A + j, none⟩ = some (.int .i64 (z + j))
  out : ∀ o, (o < A ∨ A + 8 ≤ o) → W.cell? ⟨b, o, none⟩ = w.cell? ⟨b, o, none⟩
  oth : ∀ x, x ≠ b → W.heap[x]? = w.heap[x]?
  own : ∀ (B : Nat) (F : List Nat), Own B w F → Own B W F
  only : ∀ (F : List Nat) (w0 : World), b ∈ F → Only F w0 w → Only F w0 W
  lt : b < W.heap.size
theorem Set8.agr {w W : World} {b A : Nat} {z : Int} (h : Set8 w b A z W) {G : List Nat} (hb : b ∉ G) : Agree w W G := fun x hx => h.oth x (fun e => hb (e ▸ hx))
theorem Set8.made (w : World) (b A : Nat) (z : Int) (hc : ∀ j, j < 8 → (w.cell? ⟨b, A + j, none⟩).isSome = true) : Set8 w b A z (w.setCells b A (vals8 z)) := by
  have i := World.cell?_setCells_in b (vals8 z) A w (fun j hj => hc j hj)
  have inn : ∀ j, j < 8 → (w.setCells b A (vals8 z)).cell? ⟨b, A + j, none⟩ = some (.int .i64 (z + j)) := fun j hj => by
    rw [i j hj]
    match j, hj with
    | 0, _ => show some (Value.int .i64 z) = _; simp
    | 1, _ => rfl
    | 2, _ => show some (Value.int .i64 (z + 1 + 1)) = _; congr 2; omega
    | 3, _ => show some (Value.int .i64 (z + 1 + 1 + 1)) = _; congr 2; omega
    | 4, _ => show some (Value.int .i64 (z + 1 + 1 + 1 + 1)) = _; congr 2; omega
    | 5, _ => show some (Value.int .i64 (z + 1 + 1 + 1 + 1 + 1)) = _; congr 2; omega
    | 6, _ => show some (Value.int .i64 (z + 1 + 1 + 1 + 1 + 1 + 1)) = _; congr 2; omega
    | 7, _ => show some (Value.int .i64 (z + 1 + 1 + 1 + 1 + 1 + 1 + 1)) = _; congr 2; omega
  exact ⟨inn, fun o ho => World.cell?_setCells_out b (vals8 z) A w _ (fun _ _ => ho), fun x hx => setCells_heap b _ _ _ x hx, fun B F h => setCells_own b B _ _ _ h, fun F w0 hb h => setCells_only b hb _ _ _ w0 h, World.block_lt_of_cell? _ _ (inn 0 (by omega))⟩
theorem MarkingL.step {B : Nat} {w wr W8 w9 w10 w11 : World} {b off len : Nat} {k z : Int} {xs : List It} {i : Nat} {F' F1 F2 G1 G2 G3 : List Nat} {y : It} {a1 a2 a3 : Option Addr} {n1 n2 n3 c1 c2 c3 : Nat} (h : MarkingL B w b off len k xs i F' wr) (hy : xs[i]? = some y)
    (hF : F' = F1 ++ ((G1 ++ (G2 ++ G3)) ++ F2))
    (hb : ∀ {w' : World} {ds : Array Value} {y : It}, ds.size = 11 → (∀ j, j < 11 → w'.cell? ⟨b, off + i * 11 + j, none⟩ = ds[j]?) → RdIt w' (.agg ds) y (G1 ++ (G2 ++ G3)) → (∀ o, (o < off + i * 11 ∨ off + (i + 1) * 11 ≤ o) → w'.cell? ⟨b, o, none⟩ = wr.cell? ⟨b, o, none⟩) → Agree wr w' (F1 ++ F2) → RdEls itK w' b ((itsMark k (xs.take i) ++ xs.drop i).set i y) off F')
    (s : Set8 wr b (off + i * 11) z W8) (e8 : wr.cell? ⟨b, off + i * 11 + 8, none⟩ = some (.slice a1 n1 c1)) (e9 : wr.cell? ⟨b, off + i * 11 + 9, none⟩ = some (.slice a2 n2 c2)) (e10 : wr.cell? ⟨b, off + i * 11 + 10, none⟩ = some (.slice a3 n3 c3))
    (p1 : b ∉ G1) (p2 : b ∉ G2) (p3 : b ∉ G3) (d12 : ∀ x ∈ G1, x ∉ G2) (d13 : ∀ x ∈ G1, x ∉ G3) (d23 : ∀ x ∈ G2, x ∉ G3) 
    (m1 : MarkedI B W8 a1 n1 (z + 8) G1 w9) (m2 : MarkedI B w9 a2 n2 (z + 8 + n1) G2 w10) (m3 : MarkedII B w10 a3 n3 (z + 8 + n1 + n2) y.sk.rows G3 w11) (h1 : y.sk.hist.length = n1) (h2 : y.sk.regs.length = n2) (hz : z = k + itsMany (xs.take i)) : MarkingL B w b off len k xs (i + 1) F' w11 := by
  have s9 := m1.only.size
  have s10 := m2.only.size
  have q9 : ∀ x, x < W8.heap.size → x ∉ G1 → x ∉ G2 → x ∉ G3 → w11.heap[x]? = W8.heap[x]? := fun x hx g1 g2 g3 => ((m3.only.block x (by omega) g3).trans (m2.only.block x (by omega) g2)).trans (m1.only.block x hx g1)
  have qb := q9 b s.lt p1 p2 p3
  have cb : ∀ o, w11.cell? ⟨b, o, none⟩ = W8.cell? ⟨b, o, none⟩ := fun o => World.cell?_of_block (w := W8) (a := ⟨b, o, none⟩) qb
  have o := h.own
  have ob : b ∉ F' := (List.nodup_cons.1 o.nodup).1
  have nd := (List.nodup_cons.1 o.nodup).2
  have lF : ∀ x ∈ F', x < wr.heap.size := h.rd.lt
  have sW : wr.heap.size ≤ W8.heap.size := (s.only [b] wr (by simp) (Only.refl _ _)).size
  have r1 : RdI w11 a1 n1 (marksI (z + 8) n1) G1 := (m1.rd.agree (m2.only.agree m1.rd.lt d12)).agree (m3.only.agree (fun x hx => by have := m1.rd.lt x hx; omega) d13)
  have r2 : RdI w11 a2 n2 (marksI (z + 8 + n1) n2) G2 := m2.rd.agree (m3.only.agree m2.rd.lt d23)
  have rit : RdIt w11 (.agg #[.int .i64 z, .int .i64 (z + 1), .int .i64 (z + 2), .int .i64 (z + 3), .int .i64 (z + 4), .int .i64 (z + 5), .int .i64 (z + 6), .int .i64 (z + 7), .slice a1 n1 c1, .slice a2 n2 c2, .slice a3 n3 c3]) (y.markS z) (G1 ++ (G2 ++ G3)) := by
    refine ⟨a1, n1, c1, a2, n2, c2, a3, n3, c3, rfl, a1, n1, c1, a2, n2, c2, a3, n3, c3, G1, G2, G3, rfl, ?_, ?_, ?_, rfl⟩
    · show RdI w11 a1 n1 (marksI (z + 8) y.sk.hist.length) G1
      rw [h1]; exact r1
    · show RdI w11 a2 n2 (marksI (z + 8 + y.sk.hist.length) y.sk.regs.length) G2
      rw [h1, h2]; exact r2
    · show RdII w11 a3 n3 (marksII (z + 8 + y.sk.hist.length + y.sk.regs.length) y.sk.rows) G3
      rw [h1, h2]; exact m3.rd
  have hin : ∀ x ∈ F1 ++ F2, x ∈ F' ∧ x ∉ G1 ∧ x ∉ G2 ∧ x ∉ G3 := fun x hx => by
    rw [hF] at nd ⊢
    rw [List.nodup_append] at nd
    obtain ⟨_, nd2, dj⟩ := nd
    rw [List.nodup_append] at nd2
    obtain ⟨_, _, dj2⟩ := nd2
    rcases List.mem_append.1 hx with hx | hx
    · exact ⟨by simp [hx], fun q => dj x hx x (by simp [q]) rfl, fun q => dj x hx x (by simp [q]) rfl, fun q => dj x hx x (by simp [q]) rfl⟩
    · exact ⟨by simp [hx], fun q => dj2 x (by simp [q]) x hx rfl, fun q => dj2 x (by simp [q]) x hx rfl, fun q => dj2 x (by simp [q]) x hx rfl⟩
  have ag : Agree wr w11 (F1 ++ F2) := fun x hx => by
    obtain ⟨g0, g1, g2, g3⟩ := hin x hx
    have := lF x g0
    exact (q9 x (by omega) g1 g2 g3).trans (s.oth x (fun e => ob (e ▸ g0)))
  refine ⟨?_, ⟨o.nodup, fun x hx q => ?_, o.ge⟩, ?_⟩
  · rw [← itsMark_set hy, ← hz]
    refine hb rfl (fun j hj => ?_) rit (fun o ho => (cb o).trans (s.out o (by omega))) ag
    rw [cb]
    match j, hj with
    | 0, _ => have := s.inn 0 (by omega); simpa using this
    | 1, _ => exact s.inn 1 (by omega)
    | 2, _ => exact s.inn 2 (by omega)
    | 3, _ => exact s.inn 3 (by omega)
    | 4, _ => exact s.inn 4 (by omega)
    | 5, _ => exact s.inn 5 (by omega)
    | 6, _ => exact s.inn 6 (by omega)
    | 7, _ => exact s.inn 7 (by omega)
    | 8, _ => exact (s.out _ (by omega)).trans e8
    | 9, _ => exact (s.out _ (by omega)).trans e9
    | 10, _ => exact (s.out _ (by omega)).trans e10
  · have ow := s.own _ _ o
    rcases List.mem_cons.1 hx with rfl | hx
    · exact (World.frozen?_of_block (w := W8) (a := ⟨x, q, none⟩) qb).trans (ow.free x (by simp) q)
    · by_cases g1 : x ∈ G1
      · have a1' : w11.heap[x]? = w9.heap[x]? := (m3.only.block x (by have := m1.rd.lt x g1; omega) (d13 x g1)).trans (m2.only.block x (m1.rd.lt x g1) (d12 x g1))
        exact (World.frozen?_of_block (w := w9) (a := ⟨x, q, none⟩) a1').trans (m1.own.free x g1 q)
      · by_cases g2 : x ∈ G2
        · exact (World.frozen?_of_block (w := w10) (a := ⟨x, q, none⟩) (m3.only.block x (m2.rd.lt x g2) (d23 x g2))).trans (m2.own.free x g2 q)
        · by_cases g3 : x ∈ G3
          · exact m3.own.free x g3 q
          · exact (World.frozen?_of_block (w := W8) (a := ⟨x, q, none⟩) (q9 x (by have := lF x hx; omega) g1 g2 g3)).trans (ow.free x (by simp [hx]) q)
  · have t0 := s.only (b :: F') w (by simp) h.only
    have t1 := t0.trans (m1.only.mono (fun x hx => by rw [hF]; simp [hx]))
    have t2 := t1.trans (m2.only.mono (fun x hx => by rw [hF]; simp [hx]))
    exact t2.trans (m3.only.mono (fun x hx => by rw [hF]; simp [hx]))
end Go.Proofs.Ytillnoeailnnfab
/- Entries of a list, marked in place, and held against their marks. No statement of the seat is proved here. -/
namespace Go.Proofs.Ytillnoeailnnfab
open Go.RowKit
/-- An entry that is marked whole. -/
def En.markS (k : Int) (y : En) : En := ⟨k, k + 1, markP (k + 2) y.ids.length, ⟨k + 2 + 2 * y.ids.length, k + 2 + 2 * y.ids.length + 1, k + 2 + 2 * y.ids.length + 2, k + 2 + 2 * y.ids.length + 3, marksI (k + 2 + 2 * y.ids.length + 4) y.sk.hist.length, marksI (k + 2 + 2 * y.ids.length + 4 + y.sk.hist.length) y.sk.regs.length, marksII (k + 2 + 2 * y.ids.length + 4 + y.sk.hist.length + y.sk.regs.length) y.sk.rows⟩⟩
def En.manyS (y : En) : Int := 6 + 2 * y.ids.length + y.sk.many
def ensMany : List En → Int
  | [] => 0
  | y :: xs => y.manyS + ensMany xs
def ensMark (k : Int) : List En → List En
  | [] => []
  | y :: xs => y.markS k :: ensMark (k + y.manyS) xs
theorem ensMark_length : ∀ (k : Int) (xs : List En), (ensMark k xs).length = xs.length
  | k, [] => rfl
  | k, y :: xs => by simp only [ensMark, List.length_cons, ensMark_length]
theorem En.manyS_nonneg (y : En) : 0 ≤ y.manyS := by have := Sk.many_nonneg y.sk; unfold En.manyS; omega
theorem ensMany_nonneg : ∀ xs : List En, 0 ≤ ensMany xs
  | [] => by simp [ensMany]
  | y :: xs => by have := En.manyS_nonneg y; have := ensMany_nonneg xs; simp only [ensMany]; omega
theorem ensMany_append : ∀ xs ys : List En, ensMany (xs ++ ys) = ensMany xs + ensMany ys
  | [], ys => by simp [ensMany]
  | y :: xs, ys => by simp only [List.cons_append, ensMany, ensMany_append xs ys]; omega
theorem ensMark_append : ∀ (k : Int) (xs ys : List En), ensMark k (xs ++ ys) = ensMark k xs ++ ensMark (k + ensMany xs) ys
  | k, [], ys => by simp [ensMark, ensMany]
  | k, y :: xs, ys => by
    simp only [List.cons_append, ensMark, ensMany, ensMark_append (k + y.manyS) xs ys]
    rw [Int.add_assoc]
theorem ensMany_snoc {xs : List En} {i : Nat} {y : En} (h : xs[i]? = some y) : ensMany (xs.take (i + 1)) = ensMany (xs.take i) + y.manyS := by
  rw [take_snoc_at h, ensMany_append]; simp [ensMany]
theorem ensMark_set {k : Int} {xs : List En} {i : Nat} {y : En} (h : xs[i]? = some y) : (ensMark k (xs.take i) ++ xs.drop i).set i (y.markS (k + ensMany (xs.take i))) = ensMark k (xs.take (i + 1)) ++ xs.drop (i + 1) := by
  have hi : i < xs.length := (List.getElem?_eq_some_iff.1 h).1
  have hl : (ensMark k (xs.take i)).length = i := by rw [ensMark_length, List.length_take]; omega
  have hd : xs.drop i = y :: xs.drop (i + 1) := by
    rw [List.drop_eq_getElem_cons hi]
    have := (List.getElem?_eq_some_iff.1 h).2
    rw [this]
  have e : ensMark k (xs.take i ++ [y]) = ensMark k (xs.take i) ++ [y.markS (k + ensMany (xs.take i))] := by rw [ensMark_append]; simp [ensMark]
  rw [hd, take_snoc_at h, e, List.append_assoc]
  rw [List.set_append]
  simp [hl]
theorem ensMark_at {k : Int} {xs : List En} {i : Nat} {y : En} (h : xs[i]? = some y) : (ensMark k xs)[i]? = some (y.markS (k + ensMany (xs.take i))) := by
  have hi : i < xs.length := (List.getElem?_eq_some_iff.1 h).1
  have hl : (ensMark k (xs.take i)).length = i := by rw [ensMark_length, List.length_take]; omega
  have hd : xs = xs.take i ++ (y :: xs.drop (i + 1)) := by
    have e := List.take_append_drop i xs
    rw [List.drop_eq_getElem_cons hi, (List.getElem?_eq_some_iff.1 h).2] at e
    exact e.symm
  conv => lhs; rw [hd, ensMark_append, ensMark]
  rw [List.getElem?_append_right (by omega), hl]
  simp
theorem ensMany_le {xs : List En} (i : Nat) : ensMany (xs.take i) ≤ ensMany xs := by
  have := ensMany_append (xs.take i) (xs.drop i)
  rw [List.take_append_drop] at this
  have := ensMany_nonneg (xs.drop i)
  omega
structure MarkedEs (B : Nat) (w : World) (a : Option Addr) (len : Nat) (k : Int) (xs : List En) (F : List Nat) (w' : World) : Prop where
  rd : RdL enK w' a len (ensMark k xs) F
  own : Own B w' F
  only : Only F w w'
structure MarkingE (B : Nat) (w : World) (b off len : Nat) (k : Int) (xs : List En) (i : Nat) (F : List Nat) (w' : World) : Prop where
  rd : RdEls enK w' b (ensMark k (xs.take i) ++ xs.drop i) off F
  own : Own B w' (b :: F)
  only : Only (b :: F) w w'
theorem MarkingE.step {B : Nat} {w wr W : World} {b off len : Nat} {k z : Int} {xs : List En} {i : Nat} {F' F1 Fi F2 : List Nat} {y : En} {ds : Array Value} (h : MarkingE B w b off len k xs i F' wr) (hy : xs[i]? = some y)
    (hF : F' = F1 ++ (Fi ++ F2))
    (hb : ∀ {w' : World} {ds : Array Value} {y : En}, ds.size = 10 → (∀ j, j < 10 → w'.cell? ⟨b, off + i * 10 + j, none⟩ = ds[j]?) → RdE w' (.agg ds) y Fi → (∀ o, (o < off + i * 10 ∨ off + (i + 1) * 10 ≤ o) → w'.cell? ⟨b, o, none⟩ = wr.cell? ⟨b, o, none⟩) → Agree wr w' (F1 ++ F2) → RdEls enK w' b ((ensMark k (xs.take i) ++ xs.drop i).set i y) off F')
    (hz : z = k + ensMany (xs.take i)) (hds : ds.size = 10) (hin : ∀ j, j < 10 → W.cell? ⟨b, off + i * 10 + j, none⟩ = ds[j]?) (hR : RdE W (.agg ds) (y.markS z) Fi) (hout : ∀ o, (o < off + i * 10 ∨ off + (i + 1) * 10 ≤ o) → W.cell? ⟨b, o, none⟩ = wr.cell? ⟨b, o, none⟩)
    (honly : Only (b :: Fi) wr W) (hfr : ∀ q, W.frozen? ⟨b, q, none⟩ = false) (hown : Own B W Fi) : MarkingE B w b off len k xs (i + 1) F' W := by
  have o := h.own
  have ob : b ∉ F' := (List.nodup_cons.1 o.nodup).1
  have nd := (List.nodup_cons.1 o.nodup).2
  have lF : ∀ x ∈ F', x < wr.heap.size := h.rd.lt
  have hnot : ∀ x ∈ F1 ++ F2, x ∈ F' ∧ x ∉ (b :: Fi) := fun x hx => by
    rw [hF] at nd ob ⊢
    rw [List.nodup_append] at nd
    obtain ⟨_, nd2, dj⟩ := nd
    rw [List.nodup_append] at nd2
    obtain ⟨_, _, dj2⟩ := nd2
    rcases List.mem_append.1 hx with hx | hx
    · refine ⟨by simp [hx], fun q => ?_⟩
      rcases List.mem_cons.1 q with rfl | q
      · exact ob (by simp [hx])
      · exact dj x hx x (by simp [q]) rfl
    · refine ⟨by simp [hx], fun q => ?_⟩
      rcases List.mem_cons.1 q with rfl | q
      · exact ob (by simp [hx])
      · exact dj2 x q x hx rfl
  have ag : Agree wr W (F1 ++ F2) := fun x hx => honly.block x (lF x (hnot x hx).1) (hnot x hx).2
  refine ⟨?_, ⟨o.nodup, fun x hx q => ?_, o.ge⟩, ?_⟩
  · rw [← ensMark_set hy, ← hz]
    exact hb hds hin hR hout ag
  · rcases List.mem_cons.1 hx with rfl | hx
    · exact hfr q
    · by_cases g : x ∈ Fi
      · exact hown.free x g q
      · have hx12 : x ∈ F1 ++ F2 := by
          rw [hF] at hx
          simp only [List.mem_append] at hx ⊢
          rcases hx with hx | hx | hx
          · exact .inl hx
          · exact absurd hx g
          · exact .inr hx
        exact (World.frozen?_of_block (w := wr) (a := ⟨x, q, none⟩) (ag x hx12)).trans (o.free x (by simp [hx]) q)
  · refine h.only.trans (honly.mono (fun x hx => ?_))
    rcases List.mem_cons.1 hx with rfl | hx
    · simp
    · rw [hF]; simp [hx]
/-- Some cells of a row, numbered. -/
structure SetN (n : Nat) (w : World) (b A : Nat) (z : Int) (W : World) : Prop where
  inn : ∀ j, j < n → W.cell? ⟨b, A + j, none⟩ = some (.int .i64 (z + j))
  out : ∀ o, (o < A ∨ A + n ≤ o) → W.cell? ⟨b, o, none⟩ = w.cell? ⟨b, o, none⟩
  oth : ∀ x, x ≠ b → W.heap[x]? = w.heap[x]?
  own : ∀ (B : Nat) (F : List Nat), Own B w F → Own B W F
  only : ∀ (F : List Nat) (w0 : World), b ∈ F → Only F w0 w → Only F w0 W
  lt : b < W.heap.size
theorem SetN.agr {n : Nat} {w W : World} {b A : Nat} {z : Int} (h : SetN n w b A z W) {G : List Nat} (hb : b ∉ G) : Agree w W G := fun x hx => h.oth x (fun e => hb (e ▸ hx))
def vals2 (z : Int) : List Value := [.int .i64 z, .int .i64 (z + 1)]
def vals4 (z : Int) : List Value := [.int .i64 z, .int .i64 (z + 1), .int .i64 (z + 1 + 1), .int .i64 (z + 1 + 1 + 1)]
theorem SetN.made2 (w : World) (b A : Nat) (z : Int) (hc : ∀ j, j < 2 → (w.cell? ⟨b, A + j, none⟩).isSome = true) : SetN 2 w b A z (w.setCells b A (vals2 z)) := by
  have i := World.cell?_setCells_in b (vals2 z) A w (fun j hj => hc j hj)
  have inn : ∀ j, j < 2 → (w.setCells b A (vals2 z)).cell? ⟨b, A + j, none⟩ = some (.int .i64 (z + j)) := fun j hj => by
    rw [i j hj]
    match j, hj with
    | 0, _ => show some (Value.int .i64 z) = _; simp
    | 1, _ => rfl
  exact ⟨inn, fun o ho => World.cell?_setCells_out b (vals2 z) A w _ (fun _ _ => ho), fun x hx => setCells_heap b _ _ _ x hx, fun B F h => setCells_own b B _ _ _ h, fun F w0 hb h => setCells_only b hb _ _ _ w0 h, World.block_lt_of_cell? _ _ (inn 0 (by omega))⟩
theorem SetN.made4 (w : World) (b A : Nat) (z : Int) (hc : ∀ j, j < 4 → (w.cell? ⟨b, A + j, none⟩).isSome = true) : SetN 4 w b A z (w.setCells b A (vals4 z)) := by
  have i := World.cell?_setCells_in b (vals4 z) A w (fun j hj => hc j hj)
  have inn : ∀ j, j < 4 → (w.setCells b A (vals4 z)).cell? ⟨b, A + j, none⟩ = some (.int .i64 (z + j)) := fun j hj => by
    rw [i j hj]
    match j, hj with
    | 0, _ => show some (Value.int .i64 z) = _; simp
    | 1, _ => rfl
    | 2, _ => show some (Value.int .i64 (z + 1 + 1)) = _; congr 2; omega
    | 3, _ => show some (Value.int .i64 (z + 1 + 1 + 1)) = _; congr 2; omega
  exact ⟨inn, fun o ho => World.cell?_setCells_out b (vals4 z) A w _ (fun _ _ => ho), fun x hx => setCells_heap b _ _ _ x hx, fun B F h => setCells_own b B _ _ _ h, fun F w0 hb h => setCells_only b hb _ _ _ w0 h, World.block_lt_of_cell? _ _ (inn 0 (by omega))⟩
end Go.Proofs.Ytillnoeailnnfab
/- Rows that came in, that are marked; a row in a variable of the law's own. No statement of the seat is proved here. -/
namespace Go.Proofs.Ytillnoeailnnfab
open Go.RowKit Go.WideShapes Go.ChangeShapes Go.ChangeAt Go.Deep
def Rw.many (x : Rw) : Int := ensMany x.list
def Rw.marked (k : Int) (x : Rw) : Rw := ⟨ensMark k x.list⟩
theorem Rw.many_nonneg (x : Rw) : 0 ≤ x.many := ensMany_nonneg _
theorem ensMany_size : ∀ xs : List En, ensMany xs ≤ 6 * xs.length + 2 * ensSize xs
  | [] => by simp [ensMany, ensSize, sumOfL]
  | y :: xs => by
    have h := ensMany_size xs
    have h0 := sumLen_nonneg y.sk.rows
    have h1 : y.sk.many ≤ y.sk.size := by unfold Sk.size Sk.many; omega
    have h2 := Sk.many_nonneg y.sk
    unfold ensSize at h ⊢
    simp only [ensMany, sumOfL, List.length_cons, En.manyS, En.wt]
    unfold En.wt at h
    omega
theorem Rw.fits.many {x : Rw} (h : x.fits) : x.many ≤ 8388608 := by
  have h1 := ensMany_size x.list
  have h2 := ensSize_nonneg x.list
  unfold Rw.fits Rw.size at h
  unfold Rw.many
  omega
structure MarkedRw (B : Nat) (w : World) (v : Value) (k : Int) (x : Rw) (F : List Nat) (w' : World) : Prop where
  rd : RdRw w' v (x.marked k) F
  own : Own B w' F
  only : Only F w w'
set_option maxRecDepth 100000 in
set_option maxHeartbeats 1000000 in
theorem open_Rw {H : Type} {enc : TypeId × Value → H} {W : World} {base : Nat} {v : Value} {d : DataW H} {p : List MemPlace} (hv : Value.okWide Try.prog W .any base 24 v) (h : DataW.Trod enc Try.prog W 0 (fun _ => true) true 24 v d p) :
    ∃ x F, RdRw W v x F ∧ x.vast := by
  obtain ⟨cs, rfl, hsz⟩ := okWide_struct Try.underlying24 hv
  have hC : Try.prog.cellsOf 24 = 1 := by kernel_rfl
  have c4 : Try.prog.cellsOf 22 = 1 := by kernel_rfl
  rw [hC] at hsz
  obtain ⟨l⟩ := cs
  match l, hsz with
  | [e0], _ =>
    obtain ⟨fuel, hf⟩ := h
    obtain ⟨xs, n, _, _, _, hlen, hx⟩ := DataW.trod_struct Try.underlying24 hf
    match xs, hlen with
    | [y0], _ =>
      have g0 := hx 0 _ rfl
      simp [Value.cells, c4] at g0
      clear hx
      obtain ⟨a, len, cap, xs, F, rfl, hp, hb, hcp, hv⟩ := open_ens g0
      exact ⟨⟨xs⟩, F, ⟨a, len, cap, rfl, hp, hcp⟩, hv, by show xs.length ≤ _; rw [hp.length]; exact hb⟩
structure VarRw (W : World) (lo hi g : Nat) (cs : Array Value) (s : Rw) (F : List Nat) : Prop where
  blk : Blk W g cs 29
  rd : RdRw W (.agg cs) s F
  sz : cs.size = 1
  own : Own lo W F
  lt : ∀ b ∈ F, b < hi
  ge : lo ≤ g
  glt : g < hi
  apart : g ∉ F
theorem VarRw.below {W W' : World} {lo hi g : Nat} {cs : Array Value} {s : Rw} {F : List Nat} (h : VarRw W lo hi g cs s F) (b : Below W.heap.size W W') : VarRw W' lo hi g cs s F :=
  ⟨h.blk.below b, h.rd.below b, h.sz, h.own.below h.rd.lt b, h.lt, h.ge, h.glt, h.apart⟩
theorem VarRw.fresh {w0 w1 W : World} {cs : Array Value} {s : Rw} {F : List Nat} (r : RdRw w1 (.agg cs) s F) (o : Own w0.heap.size w1 F) (b : Below w0.heap.size w0 w1) (sz : cs.size = 1) (k : Blk W w1.heap.size cs 29) (b2 : Below w1.heap.size w1 W) : VarRw W w0.heap.size W.heap.size w1.heap.size cs s F :=
  ⟨k, r.below b2, sz, o.below r.lt b2, fun x hx => by have := r.lt x hx; have := b2.size; omega, b.size, k.lt, fun hx => by have := r.lt _ hx; omega⟩
theorem VarRw.only {W W' : World} {lo hi g lo' hi' g' : Nat} {cs ds : Array Value} {s t : Rw} {F G : List Nat} (h : VarRw W lo hi g cs s F) (k : VarRw W lo' hi' g' ds t G) (o : Only G W W') (hd : hi ≤ lo' ∨ hi' ≤ lo) : VarRw W' lo hi g cs s F := by
  have d : ∀ b ∈ F, b ∉ G := fun b hb hg => by have := h.lt b hb; have := h.own.ge b hb; have := k.lt b hg; have := k.own.ge b hg; omega
  have e : g ∉ G := fun hg => by have := h.ge; have := h.glt; have := k.lt g hg; have := k.own.ge g hg; omega
  exact ⟨h.blk.agree (o.block g h.blk.lt e), h.rd.agree (o.agree h.rd.lt d), h.sz, h.own.agree (o.agree h.rd.lt d), h.lt, h.ge, h.glt, h.apart⟩
theorem VarRw.only' {W W' : World} {lo hi g lo' hi' : Nat} {cs : Array Value} {s : Rw} {F G : List Nat} (h : VarRw W lo hi g cs s F) (o : Only G W W') (kl : ∀ b ∈ G, b < hi') (kg : ∀ b ∈ G, lo' ≤ b) (hd : hi ≤ lo' ∨ hi' ≤ lo) : VarRw W' lo hi g cs s F := by
  have d : ∀ b ∈ F, b ∉ G := fun b hb hg => by have := h.lt b hb; have := h.own.ge b hb; have := kl b hg; have := kg b hg; omega
  have e : g ∉ G := fun hg => by have := h.ge; have := h.glt; have := kl g hg; have := kg g hg; omega
  exact ⟨h.blk.agree (o.block g h.blk.lt e), h.rd.agree (o.agree h.rd.lt d), h.sz, h.own.agree (o.agree h.rd.lt d), h.lt, h.ge, h.glt, h.apart⟩
theorem VarRw.keep {W W' : World} {lo' hi' g' : Nat} {ds : Array Value} {t : Rw} {G : List Nat} {b : Nat} {cs : Array Value} {ty : TypeId} (k : VarRw W lo' hi' g' ds t G) (o : Only G W W') (h : Blk W b cs ty) (hb : b < lo') : Blk W' b cs ty :=
  h.agree (o.block b h.lt (fun hg => by have := k.own.ge b hg; omega))
theorem VarRw.bel {w W W' : World} {lo' hi' g' : Nat} {ds : Array Value} {t : Rw} {G : List Nat} (k : VarRw W lo' hi' g' ds t G) (o : Only G W W') (h : Below w.heap.size w W) (hb : w.heap.size ≤ lo') : Below w.heap.size w W' :=
  o.below h h.size (fun b hg => by have := k.own.ge b hg; omega)
theorem varRw_stored {W : World} {lo g : Nat} {old rr : Array Value} {s : Rw} {X : List Nat} (k : Blk W g old 29) (r : RdRw W (.agg rr) s X) (sz : rr.size = 1) (o : Own lo W X) (lt : ∀ b ∈ X, b < W.heap.size) (ge : lo ≤ g) (ap : g ∉ X) : VarRw (W.setRow g rr) lo (W.setRow g rr).heap.size g rr s X := by
  have ag : Agree W (W.setRow g rr) X := fun b hb => setRow_other W _ b _ (fun e => ap (e ▸ hb))
  have hs : (W.setRow g rr).heap.size = W.heap.size := by simp
  exact ⟨k.setRow, r.agree ag, sz, o.agree ag, by rw [hs]; exact lt, ge, by rw [hs]; exact k.lt, ap⟩
theorem VarRw.mark {W W' : World} {lo hi g : Nat} {cs : Array Value} {s : Rw} {F : List Nat} {k : Int} (h : VarRw W lo hi g cs s F) (m : MarkedRw lo W (.agg cs) k s F W') : VarRw W' lo hi g cs (s.marked k) F :=
  ⟨h.blk.agree (m.only.block g h.blk.lt h.apart), m.rd, h.sz, m.own, h.lt, h.ge, h.glt, h.apart⟩
end Go.Proofs.Ytillnoeailnnfab
/- The boxes of two rows. No statement of the seat is proved here. -/
namespace Go.Proofs.Ytillnoeailnnfab
open Go.RowKit
def RwBoxes (g : Nat) (cs ds : Array Value) (W : World) : Prop := Blk W g cs 24 ∧ Blk W (g + 1) ds 24
theorem RwBoxes.below {g : Nat} {cs ds : Array Value} {W W' : World} (h : RwBoxes g cs ds W) (b : Below W.heap.size W W') : RwBoxes g cs ds W' := ⟨h.1.below b, h.2.below b⟩
theorem RwBoxes.setRow {g k : Nat} {cs ds es : Array Value} {W : World} (h : RwBoxes g cs ds W) (hk : g + 1 < k) : RwBoxes g cs ds (W.setRow k es) := ⟨h.1.setRowOther (by omega), h.2.setRowOther (by omega)⟩
def RwTwo (g : Nat) (cs : Array Value) (k : Nat) (ds : Array Value) (W : World) : Prop := Blk W g cs 24 ∧ Blk W k ds 29
end Go.Proofs.Ytillnoeailnnfab
