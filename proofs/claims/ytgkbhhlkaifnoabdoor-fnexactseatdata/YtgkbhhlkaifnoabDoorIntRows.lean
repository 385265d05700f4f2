/- The walks through the helpers of the laws over slices of slices of numbers. No statement of the seat is proved here. -/
import Derived.Test.YtgkbhhlkaifnoabDoorIntLists
import Derived.Deep.RegionWith
namespace Go.Proofs.YtgkbhhlkaifnoabDoor
open Go.RowKit

theorem take_snoc {α : Type} (l : List α) (d : α) (k : Nat) (h : k < l.length) : l.take (k + 1) = l.take k ++ [l.getD k d] := by
  rw [List.take_add_one, List.getElem?_eq_getElem h, List.getD_eq_getElem?_getD, List.getElem?_eq_getElem h]; rfl
theorem set_next {α : Type} (vs : List α) (z v : α) (k len : Nat) (hk : vs.length = k) (hl : k < len) : (vs ++ List.replicate (len - k) z).set k v = (vs ++ [v]) ++ List.replicate (len - (k + 1)) z := by
  rw [List.set_append_right k _ (by omega), hk, Nat.sub_self, show len - k = (len - (k + 1)) + 1 by omega]
  simp [List.replicate_succ]
theorem Agree.set {w : World} {F : List Nat} {g : Nat} (h : g ∉ F) (j : Nat) (v : Value) : Agree w (w.setCell ⟨g, j, none⟩ v) F := fun b hb => Below.heap_setCell w ⟨g, j, none⟩ v b (fun e => h (by have e2 : b = g := e; rw [← e2]; exact hb))

def NewII (w : World) (zss : List (List Int)) (e : Ending) (w' : World) : Prop :=
  ∃ a len cap F, e = .returned (.slice a len cap) ∧ RdII w' a len zss F ∧ Own w.heap.size w' F ∧ Below w.heap.size w w'
theorem eqII_step {xs ys : List (List Int)} {k : Nat} (hl : xs.length = ys.length) (hk : k < xs.length) (h : xs.take k = ys.take k) (he : xs.getD k [] = ys.getD k []) : xs.take (k + 1) = ys.take (k + 1) := by
  rw [take_snoc xs [] k hk, take_snoc ys [] k (by omega), h, he]
theorem neII_of_at {xs ys : List (List Int)} {k : Nat} (he : ¬ xs.getD k [] = ys.getD k []) : decide (xs = ys) = false := by
  rw [decide_eq_false_iff_not]; intro e; subst e; exact he rfl
theorem eqII_end {xs ys : List (List Int)} {k : Nat} (hx : xs.length = k) (hy : ys.length = k) (h : xs.take k = ys.take k) : decide (xs = ys) = true := by
  rw [decide_eq_true_iff]
  rw [List.take_of_length_le (Nat.le_of_eq hx), List.take_of_length_le (Nat.le_of_eq hy)] at h
  exact h
theorem RdI.heap {w w' : World} {a : Option Addr} {len : Nat} {zs : List Int} {F : List Nat} (h : RdI w a len zs F) (e : w'.heap = w.heap) : RdI w' a len zs F := h.agree (fun b _ => by rw [e])
theorem mem_getD {α : Type} {l : List α} {d : α} {k : Nat} (h : k < l.length) : l.getD k d ∈ l := by
  rw [List.getD_eq_getElem?_getD, List.getElem?_eq_getElem h]; exact List.getElem_mem _
/-- What rows weigh: one each, and their numbers. -/
def sumLen (l : List (List Int)) : Int := (l.map (fun z => (z.length : Int))).sum
theorem sumLen_snoc (l : List (List Int)) (k : Nat) (h : k < l.length) : sumLen (l.take (k + 1)) = sumLen (l.take k) + ((l.getD k []).length : Int) := by
  unfold sumLen
  rw [take_snoc l [] k h]; simp
theorem sumLen_nonneg (l : List (List Int)) : 0 ≤ sumLen l := by
  unfold sumLen
  induction l with
  | nil => simp
  | cons a l ih => simp; omega
theorem sumLen_le (l : List (List Int)) (k : Nat) : sumLen (l.take k) ≤ sumLen l := by
  have e : sumLen l = sumLen (l.take k) + sumLen (l.drop k) := by
    unfold sumLen
    rw [← List.sum_append, ← List.map_append, List.take_append_drop]
  have := sumLen_nonneg (l.drop k)
  omega
theorem sumLen_mem (l : List (List Int)) (z : List Int) (h : z ∈ l) : (z.length : Int) ≤ sumLen l := by
  unfold sumLen
  induction l with
  | nil => simp at h
  | cons a l ih =>
    have h0 : (0 : Int) ≤ sumLen l := sumLen_nonneg l
    unfold sumLen at h0
    rcases List.mem_cons.1 h with rfl | h
    · simp; omega
    · have := ih h; simp; omega
end Go.Proofs.YtgkbhhlkaifnoabDoor
