/- Entries as elements of slices, as plain data. No statement of the seat is proved here. -/
import Derived.Test.YtjnamoppcklomaaGreatLstCopy
import Derived.Test.YtjnamoppcklomaaGreatItLaw
namespace Go.Proofs.YtjnamoppcklomaaGreat
open Go.RowKit
/-- An entry as an element of a slice. -/
def enK : ElK En where
  n := 10
  R := RdE
  agree := fun h ha => RdE.agree h ha
  lt := fun h => RdE.lt h
  cells := fun h => RdE.cells h
  pos := by decide
/-- What an entry weighs. -/
def En.wt (x : En) : Int := (x.ids.length : Int) + x.sk.size
theorem En.wt_nonneg (x : En) : 0 ≤ x.wt := by unfold En.wt Sk.size; have := sumLen_nonneg x.sk.rows; omega
/-- What a list of entries weighs. -/
def ensSize (xs : List En) : Int := sumOfL (fun x => x.wt) xs
theorem ensSize_nonneg (xs : List En) : 0 ≤ ensSize xs := sumOfL_nonneg En.wt_nonneg xs
theorem ensSize_mem {xs : List En} {x : En} (h : x ∈ xs) : x.wt ≤ ensSize xs := sumOfL_mem En.wt_nonneg xs x h
theorem En.fits_wt {x : En} (h : x.wt ≤ 1048576) : x.fits := by
  have h0 := sumLen_nonneg x.sk.rows
  have h1 : 0 ≤ x.sk.size := by unfold Sk.size; omega
  unfold En.wt at h
  exact ⟨Sk.fits_of (by omega), by omega⟩
set_option maxRecDepth 200000 in
theorem szEn_vast (v : Value) (x : En) (F : List Nat) (left : Int) (w : World) (h : RdE w v x F) (hw : x.vast) (hl0 : 0 ≤ left) (hl1 : left ≤ 1048576) :
    Calls Tryz.prog 91 #[v, .int .i64 left] w fun e w' => (∃ r, e = .returned (.int .i64 r) ∧ r ≤ left ∧ (0 ≤ r → r = left - x.wt) ∧ (r < 0 → left < x.wt)) ∧ Below w.heap.size w w' := by
  refine (szE_vast v x F left w h hw hl0 hl1).mono ?_
  rintro e w' ⟨⟨r, rfl, a, b, c⟩, hb⟩
  refine ⟨⟨r, rfl, a, fun q => ?_, fun q => ?_⟩, hb⟩
  · have := (b q).1; unfold En.wt; omega
  · have := c q; unfold En.wt; omega
end Go.Proofs.YtjnamoppcklomaaGreat
