/- The walks through the model's l7Zero and FrameOk. No statement of the seat is proved here. -/
import Derived.Test.YtgkbhhlkaifnoabDoorFrData
import Derived.Test.YtgkbhhlkaifnoabDoorItModel
import Derived.Test.YtgkbhhlkaifnoabDoorPart
namespace Go.Proofs.YtgkbhhlkaifnoabDoor
open Go.RowKit
def It.zero : It := ⟨0, 0, 0, 0, Sk.zero⟩
/-- All of a set lies from 1 to m. -/
def Sp.under (ps : Sp) (m : Int) : Bool := (List.range ps.length).all fun k => decide (1 ≤ (ps.at k).1 ∧ (ps.at k).2 ≤ m)
theorem Sp.under_not {ps : Sp} {m : Int} {k : Nat} (hk : k < ps.length) (h : ¬ (1 ≤ (ps.at k).1 ∧ (ps.at k).2 ≤ m)) : ps.under m = false := by
  rw [Bool.eq_false_iff]
  intro e
  unfold Sp.under at e
  rw [List.all_eq_true] at e
  exact h (of_decide_eq_true (e k (List.mem_range.mpr hk)))
theorem Sp.under_all {ps : Sp} {m : Int} (h : ∀ k, k < ps.length → 1 ≤ (ps.at k).1 ∧ (ps.at k).2 ≤ m) : ps.under m = true := by
  unfold Sp.under
  rw [List.all_eq_true]
  exact fun k hk => decide_eq_true (h k (List.mem_range.mp hk))
def Sp.taken (ps : Sp) : Bool := (List.range ps.length).all fun k => decide (1 ≤ (ps.at k).1 ∧ (ps.at k).2 ≤ 60)
def Fr.ok (x : Fr) : Bool := decide (0 ≤ x.kind ∧ x.kind ≤ 3) && decide (0 ≤ x.agent ∧ x.agent ≤ 2) && decide (0 ≤ x.epoch ∧ x.epoch ≤ 1000) && decide (0 ≤ x.granted ∧ x.granted ≤ 60) && x.taken.ok && x.taken.taken && (if x.kind = 1 then x.item.ok else decide (x.item = It.zero))
theorem It.zero_iff {x : It} : x = It.zero ↔ x.seq = 0 ∧ x.cls = 0 ∧ x.key = 0 ∧ x.window = 0 ∧ x.sk.count = 0 ∧ x.sk.sum = 0 ∧ x.sk.min = 0 ∧ x.sk.max = 0 ∧ x.sk.hist.length = 0 ∧ x.sk.regs.length = 0 ∧ x.sk.rows.length = 0 := by
  constructor
  · rintro rfl
    exact ⟨rfl, rfl, rfl, rfl, rfl, rfl, rfl, rfl, rfl, rfl, rfl⟩
  · rcases x with ⟨p, q, r, s, ⟨c, u, m, n, h, g, o⟩⟩
    rintro ⟨h1, h2, h3, h4, h5, h6, h7, h8, h9, h10, h11⟩
    simp only at h1 h2 h3 h4 h5 h6 h7 h8 h9 h10 h11
    subst h1 h2 h3 h4 h5 h6 h7 h8
    rw [List.length_eq_zero_iff] at h9 h10 h11
    subst h9 h10 h11
    rfl
theorem RdSk.lens {w : World} {p q r s : Int} {a1 a2 a3 : Option Addr} {n1 n2 n3 c1 c2 c3 : Nat} {x : Sk} {F : List Nat} (h : RdSk w (.agg #[.int .i64 p, .int .i64 q, .int .i64 r, .int .i64 s, .slice a1 n1 c1, .slice a2 n2 c2, .slice a3 n3 c3]) x F) : x.hist.length = n1 ∧ x.regs.length = n2 ∧ x.rows.length = n3 := by
  obtain ⟨_, _, _, _, _, _, _, _, _, _, _, _, hv, h1, h2, h3, _⟩ := h
  simp only [Value.agg.injEq] at hv
  cases hv
  exact ⟨h1.length, h2.length, h3.length⟩
theorem Sp.taken_not {ps : Sp} {k : Nat} (hk : k < ps.length) (h : ¬ (1 ≤ (ps.at k).1 ∧ (ps.at k).2 ≤ 60)) : ps.taken = false := by
  rw [Bool.eq_false_iff]
  intro e
  unfold Sp.taken at e
  rw [List.all_eq_true] at e
  exact h (of_decide_eq_true (e k (List.mem_range.mpr hk)))
theorem Sp.taken_all {ps : Sp} (h : ∀ k, k < ps.length → 1 ≤ (ps.at k).1 ∧ (ps.at k).2 ≤ 60) : ps.taken = true := by
  unfold Sp.taken
  rw [List.all_eq_true]
  exact fun k hk => decide_eq_true (h k (List.mem_range.mp hk))
end Go.Proofs.YtgkbhhlkaifnoabDoor
