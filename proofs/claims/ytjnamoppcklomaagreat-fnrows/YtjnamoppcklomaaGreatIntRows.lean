/- The walks through the helpers of the laws over slices of slices of numbers. No statement of the seat is proved here. -/
import Derived.Test.YtjnamoppcklomaaGreatIntLists
import Derived.Deep.RegionWith
namespace Go.Proofs.YtjnamoppcklomaaGreat
open Go.RowKit
theorem take_snoc {α : Type} (l : List α) (d : α) (k : Nat) (h : k < l.length) : l.take (k + 1) = l.take k ++ [l.getD k d] := by
 rw [List.take_add_one, List.getElem?_eq_getElem h, List.getD_eq_getElem?_getD, List.getElem?_eq_getElem h]; rfl
theorem Agree.set {w : World} {F : List Nat} {g : Nat} (h : g ∉ F) (j : Nat) (v : Value) : Agree w (w.setCell ⟨g, j, none⟩ v) F := fun b hb => Below.heap_setCell w ⟨g, j, none⟩ v b (fun e => h (by have e2 : b = g := e; rw [← e2]; exact hb))
theorem infoInts : (Tryz.prog.info? 28).map (fun i => (i.zero, i.size, i.bytes)) = some (some (.slice none 0 0), 1, 24) := by kernel_rfl
theorem eqII_step {xs ys : List (List Int)} {k : Nat} (hl : xs.length = ys.length) (hk : k < xs.length) (h : xs.take k = ys.take k) (he : xs.getD k [] = ys.getD k []) : xs.take (k + 1) = ys.take (k + 1) := by
 rw [take_snoc xs [] k hk, take_snoc ys [] k (by omega), h, he]
theorem neII_of_at {xs ys : List (List Int)} {k : Nat} (he : ¬ xs.getD k [] = ys.getD k []) : decide (xs = ys) = false := by
 rw [decide_eq_false_iff_not]; intro e; subst e; exact he rfl
theorem eqII_end {xs ys : List (List Int)} {k : Nat} (hx : xs.length = k) (hy : ys.length = k) (h : xs.take k = ys.take k) : decide (xs = ys) = true := by
 rw [decide_eq_true_iff]
 rw [List.take_of_length_le (Nat.le_of_eq hx), List.take_of_length_le (Nat.le_of_eq hy)] at h
 exact h
theorem mem_getD {α : Type} {l : List α} {d : α} {k : Nat} (h : k < l.length) : l.getD k d ∈ l := by
 rw [List.getD_eq_getElem?_getD, List.getElem?_eq_getElem h]; exact List.getElem_mem _
def sumLen (l : List (List Int)) : Int := (l.map (fun z => (z.length : Int))).sum
theorem sumLen_nonneg (l : List (List Int)) : 0 ≤ sumLen l := by
 unfold sumLen
 induction l with
 | nil => simp
 | cons a l ih => simp; omega
theorem sumLen_mem (l : List (List Int)) (z : List Int) (h : z ∈ l) : (z.length : Int) ≤ sumLen l := by
 unfold sumLen
 induction l with
 | nil => simp at h
 | cons a l ih =>
  have h0 : (0 : Int) ≤ sumLen l := sumLen_nonneg l
  unfold sumLen at h0
  rcases List.mem_cons.1 h with rfl | h
  ·
   simp; omega
  ·
   have := ih h; simp; omega
end Go.Proofs.YtjnamoppcklomaaGreat
