/- Entries and items that are marked; an entry in a variable of the law's own. No statement of the seat is proved here. -/
import Derived.Test.YtjndcfamfminkarItLaw
import Derived.Test.YtjndcfamfminkarSkLaw
namespace Go.Proofs.Ytjndcfamfminkar
open Go.RowKit
/-- The pairs that a marked set bears. -/
def markP (k : Int) (n : Nat) : Sp := (List.range n).map fun i : Nat => (k + 2 * (i : Int), k + 2 * (i : Int) + 1)
theorem flat_markP (k : Int) (n : Nat) : flat (markP k n) = marksI k (2 * n) := by
  induction n with
  | zero => rfl
  | succ n ih =>
    have e : markP k (n + 1) = markP k n ++ [(k + 2 * (n : Int), k + 2 * (n : Int) + 1)] := by unfold markP; rw [List.range_succ, List.map_append]; rfl
    rw [e, flat_append, ih, show 2 * (n + 1) = 2 * n + 1 + 1 by omega, marksI, marksI, List.append_assoc]
    have e1 : k + ((2 * n : Nat) : Int) = k + 2 * (n : Int) := by omega
    have e2 : k + ((2 * n + 1 : Nat) : Int) = k + 2 * (n : Int) + 1 := by omega
    rw [e1, e2]
    rfl
theorem markP_length (k : Int) (n : Nat) : (markP k n).length = n := by unfold markP; simp
def En.many (x : En) : Int := 2 * x.ids.length + x.sk.many
def En.marked (k : Int) (x : En) : En := ⟨x.key, x.window, markP k x.ids.length, x.sk.marked (k + 2 * x.ids.length)⟩
theorem Sk.many_nonneg (s : Sk) : 0 ≤ s.many := by
  have := sumLen_nonneg s.rows
  unfold Sk.many
  omega
theorem Sk.size_nonneg (s : Sk) : 0 ≤ s.size := by
  have h0 := sumLen_nonneg s.rows
  unfold Sk.size
  omega
theorem En.fits_sz {x : En} (h : x.ids.length + x.sk.size ≤ 1048576) : x.fits := by
  have := Sk.size_nonneg x.sk
  exact ⟨Sk.fits_of (by omega), by omega⟩
theorem En.many_fits {x : En} (h : x.ids.length + x.sk.size ≤ 1048576) : 0 ≤ x.many ∧ x.many ≤ 4194304 := by
  have h1 := Sk.many_nonneg x.sk
  have h2 : x.sk.many ≤ x.sk.size := by
    have h0 := sumLen_nonneg x.sk.rows
    unfold Sk.size Sk.many
    omega
  unfold En.many
  omega
end Go.Proofs.Ytjndcfamfminkar
