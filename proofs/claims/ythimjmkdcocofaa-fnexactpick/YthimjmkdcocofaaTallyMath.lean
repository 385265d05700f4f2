/- What the program's row of numbers comes to: right just where the summary is; the sum is the merged summary. No statement of the seat is proved here. -/
import Derived.Test.YthimjmkdcocofaaTallyE
namespace Go.Proofs.Ythimjmkdcocofaa
open Go.RowKit
/-- A summary whose lists are as long as told, written out. -/
theorem Sk.written {s : Sk} (h : s.shaped = true) : ∃ h0 h1 h2 h3 h4 h5 h6 h7 r0 r1 r2 r3 r4 r5 r6 r7 p0 p1 p2 p3 q0 q1 q2 q3, s = ⟨s.count, s.sum, s.min, s.max, [h0, h1, h2, h3, h4, h5, h6, h7], [r0, r1, r2, r3, r4, r5, r6, r7], [[p0, p1, p2, p3], [q0, q1, q2, q3]]⟩ := by
  obtain ⟨e1, e2, x, y, e3, e4, e5⟩ := Sk.shaped_parts h
  obtain ⟨h0, h1, h2, h3, h4, h5, h6, h7, eh⟩ := len8 e1
  obtain ⟨r0, r1, r2, r3, r4, r5, r6, r7, er⟩ := len8 e2
  obtain ⟨p0, p1, p2, p3, rfl⟩ := len4 e4
  obtain ⟨q0, q1, q2, q3, rfl⟩ := len4 e5
  refine ⟨h0, h1, h2, h3, h4, h5, h6, h7, r0, r1, r2, r3, r4, r5, r6, r7, p0, p1, p2, p3, q0, q1, q2, q3, ?_⟩
  cases s
  simp_all
theorem okL_shape {l : List Int} {n : Nat} {m : Int} {z : Bool} (h : okL l n m z = true) : l.length = n := by
  unfold okL at h; simp at h; exact h.1
theorem Sk.ok_shaped {s : Sk} (h : s.ok = true) : s.shaped = true := by
  unfold Sk.ok okHead okLists at h
  simp only [Bool.and_eq_true, decide_eq_true_eq] at h
  obtain ⟨⟨⟨_, hr⟩, _⟩, ⟨⟨⟨l1, l2⟩, l3⟩, l4⟩⟩ := h
  have e1 := okL_shape l1; have e2 := okL_shape l2; have e3 := okL_shape l3; have e4 := okL_shape l4
  obtain ⟨x, y, e⟩ : ∃ x y, s.rows = [x, y] := by
    match s.rows, hr with
    | [x, y], _ => exact ⟨x, y, rfl⟩
  unfold Sk.shaped
  rw [e] at e3 e4 ⊢
  simp at e3 e4
  simp [e1, e2, e3, e4]
end Go.Proofs.Ythimjmkdcocofaa
