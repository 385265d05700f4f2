/- The walks through the program's cutting of a set, and its going through two sets. No statement of the seat is proved here. -/
import Derived.Test.YtgkbhhlkaifnoabSpLay2
namespace Go.Proofs.Ytgkbhhlkaifnoab
open Go.RowKit
theorem flat_take : ∀ (ps : Sp) (k : Nat), flat (ps.take k) = (flat ps).take (2 * k)
  | [], k => by simp [flat]
  | p :: ps, 0 => by simp [flat]
  | p :: ps, k + 1 => by rw [List.take_succ_cons, flat, flat, flat_take ps k, show 2 * (k + 1) = 2 * k + 1 + 1 by omega, List.take_succ_cons, List.take_succ_cons]
theorem flat_drop : ∀ (ps : Sp) (k : Nat), flat (ps.drop k) = (flat ps).drop (2 * k)
  | [], k => by simp [flat]
  | p :: ps, 0 => by simp [flat]
  | p :: ps, k + 1 => by rw [List.drop_succ_cons, flat, flat_drop ps k, show 2 * (k + 1) = 2 * k + 1 + 1 by omega, List.drop_succ_cons, List.drop_succ_cons]
theorem RdP.take {w : World} {a : Option Addr} {len : Nat} {ps : Sp} {F : List Nat} (h : RdP w a len ps F) {k : Nat} (hk : k ≤ len) : ∃ G, RdP w a k (ps.take k) G ∧ ∀ b ∈ G, b ∈ F := by
  have hl := h.length
  by_cases h0 : k = 0
  · subst h0
    exact ⟨[], by simpa using (RdP.nil (w := w) (a := a)), by simp⟩
  · rcases h.rd.cells with ⟨e, _⟩ | ⟨b, off, hp, e, eF, hc⟩
    · omega
    · refine ⟨F, ⟨by simp; omega, ?_, .inr ⟨b, off, by omega, e, eF, fun i hi => ?_⟩⟩, fun b hb => hb⟩
      · rw [flat_length]; simp; omega
      · rw [hc i (by omega), flat_take]
        simp [List.getD_eq_getElem?_getD, hi]
theorem RdP.drop {w : World} {b off len : Nat} {ps : Sp} {F : List Nat} (h : RdP w (some ⟨b, off, none⟩) len ps F) {k : Nat} (hk : k < len) : RdP w (some ⟨b, off + k * 2, none⟩) (len - k) (ps.drop k) F := by
  have hl := h.length
  rcases h.rd.cells with ⟨e, _⟩ | ⟨b', off', hp, e, eF, hc⟩
  · omega
  · obtain ⟨rfl, rfl⟩ : b = b' ∧ off = off' := by simpa using e
    refine ⟨by simp; omega, ?_, .inr ⟨b, off + k * 2, by omega, rfl, eF, fun i hi => ?_⟩⟩
    · rw [flat_length]; simp; omega
    · rw [show off + k * 2 + i = off + (2 * k + i) by omega, hc (2 * k + i) (by omega), flat_drop]
      simp [List.getD_eq_getElem?_getD]
theorem cutN_at {ps : Sp} {k : Nat} {n : Int} (hk : k < ps.length) (h : (ps.at k).1 ≤ n) : cutN (ps.drop k) n = cutN (ps.drop (k + 1)) n + 1 := by rw [drop_at hk, cutN, if_pos h]
theorem cutN_stop {ps : Sp} {k : Nat} {n : Int} (hk : k < ps.length) (h : ¬ (ps.at k).1 ≤ n) : cutN (ps.drop k) n = 0 := by rw [drop_at hk, cutN, if_neg h]
/-- What a cut tells: the part ahead, the part behind, both out of what was there. -/
def CutTo (w : World) (ps : Sp) (F : List Nat) (k : Nat) (e : Ending) (w' : World) : Prop :=
  ∃ a1 l1 c1 a2 l2 c2 F1 F2, e = .returned (.tuple #[.slice a1 l1 c1, .slice a2 l2 c2]) ∧ RdP w a1 l1 (ps.take k) F1 ∧ RdP w a2 l2 (ps.drop k) F2 ∧ (∀ b ∈ F1, b ∈ F) ∧ (∀ b ∈ F2, b ∈ F) ∧ l2 ≤ c2 ∧ QuietTo w w'
end Go.Proofs.Ytgkbhhlkaifnoab
