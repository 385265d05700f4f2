/- The walk through the model's EntryOf. No statement of the seat is proved here. -/
import Derived.Test.YtgkbhhlkaifnoaaGreatDoorItModel
import Derived.Test.YtgkbhhlkaifnoaaGreatDoorSkShape
import Derived.Test.YtgkbhhlkaifnoaaGreatDoorSkCopy
namespace Go.Proofs.YtgkbhhlkaifnoaaGreatDoor
open Go.RowKit
def It.entryOk (a : Int) (x : It) : Bool := x.ok && decide (0 ≤ idOf a x.seq)
def It.entry (a : Int) (x : It) : En := if x.entryOk a = true then ⟨x.key, x.window, [(idOf a x.seq, idOf a x.seq)], x.sk⟩ else En.zero
theorem It.entry_not {a : Int} {x : It} (h : x.entryOk a = false) : x.entry a = En.zero := by unfold It.entry; rw [h]; rfl
theorem It.entry_yes {a : Int} {x : It} (h : x.entryOk a = true) : x.entry a = ⟨x.key, x.window, [(idOf a x.seq, idOf a x.seq)], x.sk⟩ := by unfold It.entry; rw [if_pos h]
theorem It.ok_sk {x : It} (h : x.ok = true) : x.sk.ok = true := by
  unfold It.ok at h
  simp only [Bool.and_eq_true] at h
  exact h.2
theorem ok_full {s : Sk} (h : s.ok = true) : s.full := by
  unfold Sk.ok at h
  simp only [Bool.and_eq_true] at h
  obtain ⟨⟨h1, _⟩, h3⟩ := h
  unfold okHead at h1
  unfold okLists at h3
  simp only [Bool.and_eq_true, decide_eq_true_eq] at h1 h3
  have e0 := okL_len h3.1.1.1
  have e1 := okL_len h3.1.1.2
  have e2 := okL_len h3.1.2
  have e3 := okL_len h3.2
  have er : s.rows.length = 2 := h1.2
  refine ⟨by omega, by omega, by omega, fun z hz => ?_⟩
  obtain ⟨r0, r1, hs⟩ : ∃ r0 r1, s.rows = [r0, r1] := by
    match hs : s.rows, er with
    | [r0, r1], _ => exact ⟨r0, r1, rfl⟩
  rw [hs] at hz e2 e3
  simp at hz e2 e3
  rcases hz with rfl | rfl <;> omega
theorem rdP_single {W : World} {g : Nat} {n : Int} {t : TypeId} (h : Blk W g #[.int .i64 n, .int .i64 n] t) : RdP W (some ⟨g, 0, none⟩) 1 [(n, n)] [g] :=
  ⟨rfl, rdI_tcv (xs := flat [(n, n)]) (by simpa [tcv, flat] using h) (by simp [flat]) (by omega)⟩
theorem infoItA : (Tryz.prog.info? 33).map (·.size) = some 11 := by kernel_rfl
end Go.Proofs.YtgkbhhlkaifnoaaGreatDoor
