/- A slice of spans that comes in as an argument: what it holds. No statement of the seat is proved here. -/
import Derived.Test.YtillnoeailnnfabSpHelp
import Derived.ProofKit
import Derived.OpenShut
import Derived.ChangeSlices
import Derived.WideShapes
import Derived.Deep.SlicePairs
namespace Go.Proofs.Ytillnoeailnnfab
open Go.RowKit Go.WideShapes Go.ChangeShapes Go.ChangeAt Go.Deep
theorem sp_addr {w : World} {x : Addr} {v : Value} (h : w.cell? (x.add (0 * 2)) = some v) : ∃ b off, x = ⟨b, off, none⟩ := by
  obtain ⟨b, off, spot⟩ := x
  have hspot : spot = none := by simpa [Addr.add] using World.cell?_spot h
  subst hspot
  exact ⟨b, off, rfl⟩
theorem sp_add (b off i : Nat) : (⟨b, off, none⟩ : Addr).add i = ⟨b, off + i, none⟩ := by unfold Addr.add; split <;> simp_all
/-- Each number fits 64 bits. -/
def Fit64 (x : Int) : Prop := -9223372036854775808 ≤ x ∧ x ≤ 9223372036854775807
def Sp.fit (ps : Sp) : Prop := ∀ p ∈ ps, Fit64 p.1 ∧ Fit64 p.2
theorem flat_range (n : Nat) (f g : Nat → Int) : ∀ i, i < n → ((List.range n).map fun i => (f i, g i))[i]?.getD (0, 0) = (f i, g i) := fun i hi => by simp [hi]
theorem rdP_mk {W : World} {b off len : Nat} (ps : Sp) (hl : ps.length = len) (hp : 0 < len) (h : ∀ i, i < len → W.cell? ⟨b, off + i * 2, none⟩ = some (.int .i64 (ps[i]?.getD (0, 0)).1) ∧ W.cell? ⟨b, off + i * 2 + 1, none⟩ = some (.int .i64 (ps[i]?.getD (0, 0)).2)) : RdP W (some ⟨b, off, none⟩) len ps [b] := by
  refine ⟨hl, by rw [flat_length, hl], .inr ⟨b, off, by omega, rfl, rfl, fun j hj => ?_⟩⟩
  rw [List.getD_eq_getElem?_getD]
  have hj2 : j = 2 * (j / 2) ∨ j = 2 * (j / 2) + 1 := by omega
  rcases hj2 with e | e
  · rw [e, flat_lo, show off + 2 * (j / 2) = off + j / 2 * 2 by omega]
    exact (h (j / 2) (by omega)).1
  · rw [e, flat_hi, show off + (2 * (j / 2) + 1) = off + j / 2 * 2 + 1 by omega]
    exact (h (j / 2) (by omega)).2
set_option maxRecDepth 100000 in
set_option maxHeartbeats 1000000 in
theorem open_spans {H : Type} {enc : TypeId × Value → H} {W : World} {base : Nat} {v : Value} {d : DataW H} {p : List MemPlace} (hv : Value.okWide Try.prog W .any base 45 v) (h : DataW.Trod enc Try.prog W 0 (fun _ => true) true 45 v d p) :
    ∃ a len cap ps F, v = .slice a len cap ∧ RdP W a len ps F ∧ len ≤ 9223372036854775807 ∧ Sp.fit ps := by
  obtain ⟨a0, len0, cap0, rfl⟩ := okWide_slice Try.underlying45 hv
  have c3 : Try.prog.cellsOf 3 = 1 := by kernel_rfl
  have c2 : Try.prog.cellsOf 70 = 2 := by kernel_rfl
  obtain ⟨fuel, hf⟩ := h
  rcases open_slice_pairs Try.underlying45 Try.underlying70 c2 rfl rfl c3 c3 hf with ⟨q, _⟩ | ⟨x, len, cap, m, n, V0, V1, D0, D1, P0, P1, q, _, hl, hm, hmm, _, hx⟩
  · simp [Value.cells] at q
    obtain ⟨rfl, rfl, rfl⟩ := q
    exact ⟨none, 0, 0, [], [], rfl, RdP.nil, by omega, by simp [Sp.fit]⟩
  · simp [Value.cells] at q
    obtain ⟨rfl, rfl, rfl⟩ := q
    have hm2 : m = cap0 := by rw [hmm]; simp
    subst hm2
    have hb : len0 ≤ 9223372036854775807 := by unfold maxLen at hm; omega
    have ints : ∀ i, i < m → ∃ y z : Int, V0 i = .int .i64 y ∧ V1 i = .int .i64 z ∧ (Lit.int .i64 y).wf = true ∧ (Lit.int .i64 z).wf = true := fun i hi => by
      obtain ⟨_, _, h3, h4⟩ := hx i hi
      obtain ⟨y, q0, _, w0⟩ := DataW.trod_int Try.underlying3 h3
      obtain ⟨z, q1, _, w1⟩ := DataW.trod_int Try.underlying3 h4
      simp at q0 q1
      exact ⟨y, z, q0, q1, w0, w1⟩
    have hN : ∀ i, i < m → V0 i = .int .i64 (intOf (V0 i)) ∧ V1 i = .int .i64 (intOf (V1 i)) ∧ Fit64 (intOf (V0 i)) ∧ Fit64 (intOf (V1 i)) := fun i hi => by
      obtain ⟨y, z, e0, e1, w0, w1⟩ := ints i hi
      rw [e0, e1]
      exact ⟨rfl, rfl, int_wf w0, int_wf w1⟩
    by_cases h0 : len0 = 0
    · subst h0
      exact ⟨_, 0, _, [], [], rfl, RdP.nil, by omega, by simp [Sp.fit]⟩
    · obtain ⟨b, off, rfl⟩ := sp_addr (hx 0 (by omega)).1
      refine ⟨_, len0, m, (List.range len0).map fun i => (intOf (V0 i), intOf (V1 i)), [b], rfl, rdP_mk _ (by simp) (by omega) (fun i hi => ?_), hb, fun p hp => ?_⟩
      · rw [flat_range len0 _ _ i hi]
        have h1 := (hx i (by omega)).1
        have h2 := (hx i (by omega)).2.1
        rw [sp_add] at h1 h2
        rw [(hN i (by omega)).1] at h1
        rw [(hN i (by omega)).2.1] at h2
        exact ⟨h1, by rw [show off + i * 2 + 1 = off + (i * 2 + 1) by omega]; exact h2⟩
      · obtain ⟨i, hi, rfl⟩ := List.mem_map.1 hp
        have hi' : i < m := by have := List.mem_range.1 hi; omega
        exact ⟨(hN i hi').2.2.1, (hN i hi').2.2.2⟩
theorem sp_laidOut : laidOutB Try.prog = true := by kernel_rfl
end Go.Proofs.Ytillnoeailnnfab
