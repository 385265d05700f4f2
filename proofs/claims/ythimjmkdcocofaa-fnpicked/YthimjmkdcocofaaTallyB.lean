/- A summary's numbers in one row (the program's own kind): how they are laid out of it. No statement of the seat is proved here. -/
import Derived.Test.YthimjmkdcocofaaTallyA
import Derived.Test.YthimjmkdcocofaaSkMath
import Derived.Test.YthimjmkdcocofaaWhole
namespace Go.Proofs.Ythimjmkdcocofaa
open Go.RowKit
/-- Two blocks of their own, one behind the other. -/
theorem two_made (w : World) (A B : Array Value) (tA tB : TypeId) : Blk ((w.alloc (.cells A tA)).alloc (.cells B tB)) w.heap.size A tA ∧ Blk ((w.alloc (.cells A tA)).alloc (.cells B tB)) (w.heap.size + 1) B tB ∧ Below w.heap.size w ((w.alloc (.cells A tA)).alloc (.cells B tB)) :=
  ⟨(Blk.made _ _ _).alloc _, Blk.made_eq (by simp), Below.allocW _ (Below.allocW _ (Below.refl _ _) (Nat.le_refl _)) (Nat.le_refl _)⟩
theorem RdI.src {w W : World} {a : Option Addr} {n : Nat} {zs : List Int} {F : List Nat} (h : RdI w a n zs F) (hb : Below w.heap.size w W) (hp : 0 < n) : ∃ ad, a = some ad ∧ ∀ j v, (zs.map (Value.int .i64))[j]? = some v → W.cell? (ad.add j) = some v := by
  have h' := h.below hb
  rcases h'.cells with ⟨h0, _⟩ | ⟨b, off, _, rfl, _, hc⟩
  · omega
  · refine ⟨_, rfl, fun j v hv => ?_⟩
    rw [List.getElem?_map] at hv
    obtain ⟨z, hz, rfl⟩ := Option.map_eq_some_iff.1 hv
    have hj : j < zs.length := (List.getElem?_eq_some_iff.1 hz).1
    have := hc j (by rw [← h'.length]; exact hj)
    have e : (⟨b, off, none⟩ : Addr).add j = ⟨b, off + j, none⟩ := by unfold Addr.add; split <;> simp_all
    rw [e, this]
    simp [hz]
theorem ints_one (zs : List Int) : ∀ v ∈ zs.map (Value.int .i64), v.oneCell' = true := by
  intro v hv
  obtain ⟨x, _, rfl⟩ := List.mem_map.1 hv
  rfl
end Go.Proofs.Ythimjmkdcocofaa
