/- The walks through the helpers of the laws over slices of numbers, and over slices of such: copying, comparing, weighing. No statement of the seat is proved here. -/
import Derived.Test.YtgkbhhlkaifnoaaGreatDoorOwn
namespace Go.Proofs.YtgkbhhlkaifnoaaGreatDoor
open Go.RowKit

/-- What a copy holds behind k rounds. -/
def halfI (zs : List Int) (k len : Nat) : List Int := zs.take k ++ List.replicate (len - k) 0
theorem halfI_zero (zs : List Int) (len : Nat) : halfI zs 0 len = List.replicate len 0 := by simp [halfI]
theorem halfI_end (zs : List Int) (len : Nat) (h : zs.length = len) : halfI zs len len = zs := by
  simp [halfI, List.take_of_length_le (Nat.le_of_eq h)]
theorem halfI_step (zs : List Int) (k len : Nat) (h : zs.length = len) (hk : k < len) : ((halfI zs k len).map (Value.int .i64)).set k (.int .i64 (zs[k]?.getD 0)) = (halfI zs (k + 1) len).map (Value.int .i64) := by
  have e : (halfI zs k len).set k (zs[k]?.getD 0) = halfI zs (k + 1) len := by
    unfold halfI
    have hkl : (zs.take k).length = k := by simp; omega
    rw [List.set_append_right k _ (by omega), hkl, Nat.sub_self, take_succ' zs k (by omega)]
    have e : List.replicate (len - k) (0 : Int) = 0 :: List.replicate (len - (k + 1)) 0 := by
      rw [show len - k = (len - (k + 1)) + 1 by omega]; rfl
    rw [e]
    simp
  rw [← e, List.map_set]

theorem infoInt : (Tryz.prog.info? 3).map (fun i => (i.zero, i.size, i.bytes)) = some (some (.int .i64 0), 1, 8) := by kernel_rfl
def NewI (w : World) (zs : List Int) (e : Ending) (w' : World) : Prop :=
  ∃ a len cap F, e = .returned (.slice a len cap) ∧ RdI w' a len zs F ∧ Own w.heap.size w' F ∧ Below w.heap.size w w'

theorem eqI_step {xs ys : List Int} {k : Nat} (hl : xs.length = ys.length) (hk : k < xs.length) (h : xs.take k = ys.take k) (he : xs[k]?.getD 0 = ys[k]?.getD 0) : xs.take (k + 1) = ys.take (k + 1) := by
  rw [take_succ' xs k hk, take_succ' ys k (by omega), h, he]
theorem neI_of_at {xs ys : List Int} {k : Nat} (he : ¬ xs[k]?.getD 0 = ys[k]?.getD 0) : decide (xs = ys) = false := by
  rw [decide_eq_false_iff_not]; intro e; subst e; exact he rfl
theorem eqI_end {xs ys : List Int} {k : Nat} (hx : xs.length = k) (hy : ys.length = k) (h : xs.take k = ys.take k) : decide (xs = ys) = true := by
  rw [decide_eq_true_iff]
  rw [List.take_of_length_le (Nat.le_of_eq hx), List.take_of_length_le (Nat.le_of_eq hy)] at h
  exact h
end Go.Proofs.YtgkbhhlkaifnoaaGreatDoor
