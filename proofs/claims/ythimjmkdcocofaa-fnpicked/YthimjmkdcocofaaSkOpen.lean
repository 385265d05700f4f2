/- A summary that comes in as an argument: what it holds. No statement of the seat is proved here. -/
import Derived.Test.YthimjmkdcocofaaSkSize
import Derived.ProofKit
import Derived.OpenShut
import Derived.ChangeSlices
import Derived.WideShapes
import Derived.Deep.Matrix
namespace Go.Proofs.Ythimjmkdcocofaa
open Go.RowKit Go.WideShapes Go.ChangeShapes Go.ChangeAt Go.Deep
theorem addr_plain {w : World} {x : Addr} {v : Value} (h : w.cell? (x.add 0) = some v) : ∃ b off, x = ⟨b, off, none⟩ := by
  obtain ⟨b, off, spot⟩ := x
  have hspot : spot = none := by simpa [Addr.add] using World.cell?_spot h
  subst hspot
  exact ⟨b, off, rfl⟩
theorem add_none (b off i : Nat) : (⟨b, off, none⟩ : Addr).add i = ⟨b, off + i, none⟩ := by unfold Addr.add; split <;> simp_all
theorem rdI_open {w : World} {a : Option Addr} {len cap : Nat} {zs : List Int} (hz : zs.length = cap) (hl : len ≤ cap) (hc : ∀ x, a = some x → ∀ i, i < cap → w.cell? (x.add i) = some (.int .i64 (zs.getD i 0))) (hn : a = none → cap = 0) : ∃ F, RdI w a len (zs.take len) F := by
  by_cases h0 : len = 0
  · subst h0
    exact ⟨[], by simp, .inl ⟨rfl, rfl⟩⟩
  · cases a with
    | none => have := hn rfl; omega
    | some x =>
      have hc := hc x rfl
      obtain ⟨b, off, rfl⟩ := addr_plain (hc 0 (by omega))
      refine ⟨[b], by simp; omega, .inr ⟨b, off, by omega, rfl, rfl, fun i hi => ?_⟩⟩
      have := hc i (by omega)
      rw [add_none] at this
      rw [this]
      simp [hi]
theorem rdM_open {w : World} {b : Nat} : ∀ (n off : Nat) (V : Nat → Value) (zs : Nat → List Int), (∀ r, r < n → w.cell? ⟨b, off + r, none⟩ = some (V r) ∧ ∃ F, Rd w (ints (zs r)) (V r) F) → ∃ F, RdM w (((List.range n).map zs).map ints) b off F
  | 0, off, V, zs, _ => ⟨[], by simp [RdM]⟩
  | n + 1, off, V, zs, h => by
    obtain ⟨F2, h2⟩ := rdM_open (w := w) (b := b) n (off + 1) (fun r => V (r + 1)) (fun r => zs (r + 1)) (fun r hr => by
      have := h (r + 1) (by omega)
      rw [show off + 1 + r = off + (r + 1) by omega]; exact this)
    obtain ⟨hc, F1, h1⟩ := h 0 (by omega)
    refine ⟨F1 ++ F2, ?_⟩
    rw [List.range_succ_eq_map, List.map_cons, List.map_cons, RdM]
    refine ⟨V 0, F1, F2, hc, h1, ?_, rfl⟩
    simpa [Function.comp_def] using h2
end Go.Proofs.Ythimjmkdcocofaa
