/- The walks through the model's SetAdd and SetJoin. No statement of the seat is proved here. -/
import Derived.Test.YthimjmkdcocofaaSpPut
import Derived.Laws.AppendOwnNone
namespace Go.Proofs.Ythimjmkdcocofaa
open Go.RowKit
/-- A set and a word. -/
def NewP2 (w : World) (ps : Sp) (d : Bool) (e : Ending) (w' : World) : Prop :=
  ∃ a len cap F, e = .returned (.tuple #[.slice a len cap, .bool d]) ∧ RdP w' a len ps F ∧ Own w.heap.size w' F ∧ Below w.heap.size w w' ∧ Capd a len cap
theorem NewP.from {w w1 w' : World} {ps : Sp} {e : Ending} (hb : Below w.heap.size w w1) (h : NewP w1 ps e w') : NewP w ps e w' := by
  obtain ⟨a, len, cap, F, h1, h2, h3, h4, h5⟩ := h
  exact ⟨a, len, cap, F, h1, h2, h3.mono hb.size, Below.next hb h4, h5⟩
theorem cells_flat {w : World} {b off len : Nat} {ps : Sp} {F : List Nat} (h : RdP w (some ⟨b, off, none⟩) len ps F) (hp : 0 < len) : ∀ j v, ((flat ps).map (Value.int .i64))[j]? = some v → w.cell? ((⟨b, off, none⟩ : Addr).add j) = some v := by
  intro j v hj
  rcases h.rd.cells with ⟨h0, _⟩ | ⟨b', off', _, he, _, hc⟩
  · omega
  · obtain ⟨rfl, rfl⟩ : b = b' ∧ off = off' := by simpa using he
    have hjl : j < (flat ps).length := by
      have := (List.getElem?_eq_some_iff.1 hj).1
      simpa using this
    rw [flat_length, h.length] at hjl
    rw [sp_add, hc j hjl]
    rw [List.getElem?_map] at hj
    rw [List.getD_eq_getElem?_getD]
    have hjl' : j < (flat ps).length := by rw [flat_length, h.length]; exact hjl
    rw [List.getElem?_eq_getElem hjl'] at hj ⊢
    simpa using hj
def Sp.add (ps : Sp) (n : Int) : Sp × Bool := if ps.ok = true ∧ (0 ≤ n ∧ n ≤ 9999) ∧ ps.has n = false then (put ps (n, n) false, true) else (ps, false)
theorem Sp.add_not {ps : Sp} {n : Int} (h : ¬ (ps.ok = true ∧ (0 ≤ n ∧ n ≤ 9999) ∧ ps.has n = false)) : ps.add n = (ps, false) := by unfold Sp.add; rw [if_neg h]
theorem Sp.add_yes {ps : Sp} {n : Int} (h1 : ps.ok = true) (h2 : 0 ≤ n ∧ n ≤ 9999) (h3 : ps.has n = false) : ps.add n = (put ps (n, n) false, true) := by unfold Sp.add; rw [if_pos ⟨h1, h2, h3⟩]
theorem ok_inb {ps : Sp} (h : ps.ok = true) : ∀ k, k < ps.length → InB (ps.at k) := fun k hk => by
  have := (Sp.okAt_parts (Sp.ok_at h k hk)).1
  unfold InB
  omega
end Go.Proofs.Ythimjmkdcocofaa
