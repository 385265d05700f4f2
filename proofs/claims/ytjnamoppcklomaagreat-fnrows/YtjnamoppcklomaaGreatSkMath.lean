/- A summary's numbers in one row, as plain data. No statement of the seat is proved here. -/
import Derived.Test.YtjnamoppcklomaaGreatTallyA
import Derived.Laws.CopyOwn
namespace Go.Proofs.YtjnamoppcklomaaGreat
open Go.RowKit
def tc (xs : List Int) : Array Value := (xs.map (Value.int .i64)).toArray
theorem tc_size (xs : List Int) : (tc xs).size = xs.length := by simp [tc]
theorem tc_one (xs : List Int) : (tc xs).all (·.oneCell') = true := by
 rw [Array.all_eq_true_iff_forall_mem]
 intro v hv
 simp only [tc, List.mem_toArray, List.mem_map] at hv
 obtain ⟨x, _, rfl⟩ := hv
 rfl
theorem tc_at (xs : List Int) (i : Nat) : (tc xs)[i]? = xs[i]?.map (Value.int .i64) := by simp [tc]
def Sk.tl (s : Sk) : List Int := [s.count, s.sum, s.min, s.max] ++ (s.hist ++ (s.regs ++ (s.rows.getD 0 [] ++ s.rows.getD 1 [])))
theorem len4 {α : Type} {l : List α} (h : l.length = 4) : ∃ a b c d, l = [a, b, c, d] := by
 match l, h with
 | [a, b, c, d], _ => exact ⟨a, b, c, d, rfl⟩
theorem len8 {α : Type} {l : List α} (h : l.length = 8) : ∃ a b c d e f g i, l = [a, b, c, d, e, f, g, i] := by
 match l, h with
 | [a, b, c, d, e, f, g, i], _ => exact ⟨a, b, c, d, e, f, g, i, rfl⟩
theorem tl_splices {α : Type} (a b c d z : α) (H R P Q : List α) (hH : H.length = 8) (hR : R.length = 8) (hP : P.length = 4) (hQ : Q.length = 4) :
 splice (splice (splice (splice ([a, b, c, d] ++ List.replicate 24 z) 4 H) 12 R) 20 P) 24 Q = [a, b, c, d] ++ (H ++ (R ++ (P ++ Q))) := by
 obtain ⟨h0, h1, h2, h3, h4, h5, h6, h7, rfl⟩ := len8 hH
 obtain ⟨r0, r1, r2, r3, r4, r5, r6, r7, rfl⟩ := len8 hR
 obtain ⟨p0, p1, p2, p3, rfl⟩ := len4 hP
 obtain ⟨q0, q1, q2, q3, rfl⟩ := len4 hQ
 rfl
theorem Sk.shaped_parts {s : Sk} (h : s.shaped = true) : s.hist.length = 8 ∧ s.regs.length = 8 ∧ ∃ x y, s.rows = [x, y] ∧ x.length = 4 ∧ y.length = 4 := by
 unfold Sk.shaped at h
 simp only [Bool.and_eq_true, decide_eq_true_eq] at h
 obtain ⟨⟨⟨h1, h2⟩, h3⟩, h4⟩ := h
 refine ⟨h2, h3, ?_⟩
 obtain ⟨x, y, e⟩ : ∃ x y, s.rows = [x, y] := by
  match s.rows, h4 with
  | [x, y], _ => exact ⟨x, y, rfl⟩
 rw [e] at h1
 simp at h1
 exact ⟨x, y, e, h1.1, h1.2⟩
theorem tl_map (s : Sk) (h1 : s.hist.length = 8) (h2 : s.regs.length = 8) (h3 : (s.rows.getD 0 []).length = 4) (h4 : (s.rows.getD 1 []).length = 4) :
 splice (splice (splice (splice (([s.count, s.sum, s.min, s.max] ++ List.replicate 24 0).map (Value.int .i64)) 4 (s.hist.map (Value.int .i64))) 12 (s.regs.map (Value.int .i64))) 20 ((s.rows.getD 0 []).map (Value.int .i64))) 24 ((s.rows.getD 1 []).map (Value.int .i64)) = s.tl.map (Value.int .i64) := by
 have := tl_splices (Value.int .i64 s.count) (Value.int .i64 s.sum) (Value.int .i64 s.min) (Value.int .i64 s.max) (Value.int .i64 0) (s.hist.map (Value.int .i64)) (s.regs.map (Value.int .i64)) ((s.rows.getD 0 []).map (Value.int .i64)) ((s.rows.getD 1 []).map (Value.int .i64)) (by rw [List.length_map]; exact h1) (by rw [List.length_map]; exact h2) (by rw [List.length_map]; exact h3) (by rw [List.length_map]; exact h4)
 refine Eq.trans ?_ (this.trans ?_)
 ·
  rfl
 ·
  simp [Sk.tl]
theorem Sk.tl_length {s : Sk} (h : s.shaped = true) : s.tl.length = 28 := by
 obtain ⟨h1, h2, x, y, e, h3, h4⟩ := Sk.shaped_parts h
 simp [Sk.tl, h1, h2, e, h3, h4]
theorem split28 {xs : List Int} (h : xs.length = 28) : xs = [xs.getD 0 0, xs.getD 1 0, xs.getD 2 0, xs.getD 3 0] ++ ((xs.drop 4).take 8 ++ ((xs.drop 12).take 8 ++ (xs.drop 20).take 8)) := by
 have e4 : (xs.drop 20).take 8 = xs.drop 20 := List.take_of_length_le (by simp; omega)
 have e3 : (xs.drop 12).take 8 ++ xs.drop 20 = xs.drop 12 := by
  have := List.take_append_drop 8 (xs.drop 12)
  rw [List.drop_drop] at this; exact this
 have e2 : (xs.drop 4).take 8 ++ xs.drop 12 = xs.drop 4 := by
  have := List.take_append_drop 8 (xs.drop 4)
  rw [List.drop_drop] at this; exact this
 rw [e4, e3, e2]
 have e1 : xs.take 4 = [xs.getD 0 0, xs.getD 1 0, xs.getD 2 0, xs.getD 3 0] := by
  obtain ⟨a, b, c, d, e⟩ := len4 (l := xs.take 4) (by simp; omega)
  have g : ∀ i, i < 4 → xs.getD i 0 = (xs.take 4).getD i 0 := fun i hi => by simp [hi]
  rw [g 0 (by omega), g 1 (by omega), g 2 (by omega), g 3 (by omega), e]
  rfl
 rw [← e1, List.take_append_drop]
theorem eq28 {xs ys : List Int} (hx : xs.length = 28) (hy : ys.length = 28) (h0 : xs.getD 0 0 = ys.getD 0 0) (h1 : xs.getD 1 0 = ys.getD 1 0) (h2 : xs.getD 2 0 = ys.getD 2 0) (h3 : xs.getD 3 0 = ys.getD 3 0)
 (h4 : (xs.drop 4).take 8 = (ys.drop 4).take 8) (h5 : (xs.drop 12).take 8 = (ys.drop 12).take 8) (h6 : (xs.drop 20).take 8 = (ys.drop 20).take 8) : xs = ys := by
 rw [split28 hx, split28 hy, h0, h1, h2, h3, h4, h5, h6]
theorem tc_get {xs : List Int} {i : Nat} (h : i < xs.length) : (tc xs)[i]? = some (.int .i64 (xs.getD i 0)) := by
 rw [tc_at, List.getElem?_eq_getElem h]; simp [List.getElem?_eq_getElem h]
end Go.Proofs.YtjnamoppcklomaaGreat
