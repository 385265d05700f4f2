/- A summary that comes in as an argument: what it holds. No statement of the seat is proved here. -/
import Derived.Test.YtjnamoppcklomaaGreatSkSize
import Derived.ProofKit
import Derived.OpenShut
import Derived.ChangeSlices
import Derived.WideShapes
import Derived.Deep.Matrix
namespace Go.Proofs.YtjnamoppcklomaaGreat
open Go.RowKit Go.WideShapes Go.ChangeShapes Go.ChangeAt Go.Deep
theorem addr_plain {w : World} {x : Addr} {v : Value} (h : w.cell? (x.add 0) = some v) : ∃ b off, x = ⟨b, off, none⟩ := by
  obtain ⟨b, off, spot⟩ := x
  have hspot : spot = none := by simpa [Addr.add] using World.cell?_spot h
  subst hspot
  exact ⟨b, off, rfl⟩
theorem add_none (b off i : Nat) : (⟨b, off, none⟩ : Addr).add i = ⟨b, off + i, none⟩ := by unfold Addr.add; split <;> simp_all
theorem rdI_open {w : World} {a : Option Addr} {len cap : Nat} {zs : List Int} (hz : zs.length = cap) (hl : len ≤ cap) (hc : ∀ x, a = some x → ∀ i, i < cap → w.cell? (x.add i) = some (.int .i64 (zs.getD i 0))) (hn : a = none → cap = 0) : ∃ F, RdI w a len (zs.take len) F := by
  by_cases h0 : len = 0
  · subst h0
    exact ⟨[], by simp, .inl ⟨rfl, rfl⟩⟩
  · cases a with
    | none => have := hn rfl; omega
    | some x =>
      have hc := hc x rfl
      obtain ⟨b, off, rfl⟩ := addr_plain (hc 0 (by omega))
      refine ⟨[b], by simp; omega, .inr ⟨b, off, by omega, rfl, rfl, fun i hi => ?_⟩⟩
      have := hc i (by omega)
      rw [add_none] at this
      rw [this]
      simp [hi]
theorem rdM_open {w : World} {b : Nat} : ∀ (n off : Nat) (V : Nat → Value) (zs : Nat → List Int), (∀ r, r < n → w.cell? ⟨b, off + r, none⟩ = some (V r) ∧ ∃ F, Rd w (ints (zs r)) (V r) F) → ∃ F, RdM w (((List.range n).map zs).map ints) b off F
  | 0, off, V, zs, _ => ⟨[], by simp [RdM]⟩
  | n + 1, off, V, zs, h => by
    obtain ⟨F2, h2⟩ := rdM_open (w := w) (b := b) n (off + 1) (fun r => V (r + 1)) (fun r => zs (r + 1)) (fun r hr => by
      have := h (r + 1) (by omega)
      rw [show off + 1 + r = off + (r + 1) by omega]; exact this)
    obtain ⟨hc, F1, h1⟩ := h 0 (by omega)
    refine ⟨F1 ++ F2, ?_⟩
    rw [List.range_succ_eq_map, List.map_cons, List.map_cons, RdM]
    refine ⟨V 0, F1, F2, hc, h1, ?_, rfl⟩
    simpa [Function.comp_def] using h2
set_option maxRecDepth 100000 in
set_option maxHeartbeats 1000000 in
theorem open_sk7 {H : Type} {enc : TypeId × Value → H} {W : World} {e0 e1 e2 e3 e4 e5 e6 : Value} {d : DataW H} {p : List MemPlace} (h : DataW.Trod enc Tryz.prog W 0 (fun _ => true) true 125 (.agg ⟨[e0, e1, e2, e3, e4, e5, e6]⟩) d p) :
    ∃ s F, RdSk W (.agg ⟨[e0, e1, e2, e3, e4, e5, e6]⟩) s F ∧ s.vast := by
  have c3 : Tryz.prog.cellsOf 3 = 1 := by kernel_rfl
  have c4 : Tryz.prog.cellsOf 28 = 1 := by kernel_rfl
  have c5 : Tryz.prog.cellsOf 29 = 1 := by kernel_rfl
  obtain ⟨fuel, hf⟩ := h
  obtain ⟨xs, n, _, _, _, hlen, hx⟩ := DataW.trod_struct Tryz.underlying125 hf
  match xs, hlen with
  | [y0, y1, y2, y3, y4, y5, y6], _ =>
    have g0 := hx 0 _ rfl
    have g1 := hx 1 _ rfl
    have g2 := hx 2 _ rfl
    have g3 := hx 3 _ rfl
    have g4 := hx 4 _ rfl
    have g5 := hx 5 _ rfl
    have g6 := hx 6 _ rfl
    simp [Value.cells, c3, c4, c5] at g0 g1 g2 g3 g4 g5 g6
    obtain ⟨i0, q0, _, _⟩ := DataW.trod_int Tryz.underlying3 g0
    obtain ⟨i1, q1, _, _⟩ := DataW.trod_int Tryz.underlying3 g1
    obtain ⟨i2, q2, _, _⟩ := DataW.trod_int Tryz.underlying3 g2
    obtain ⟨i3, q3, _, _⟩ := DataW.trod_int Tryz.underlying3 g3
    simp at q0 q1 q2 q3
    subst q0 q1 q2 q3
    obtain ⟨a1, n1, k1, z1, F1, rfl, r1, b1⟩ : ∃ a n k zs F, e4 = .slice a n k ∧ RdI W a n zs F ∧ n ≤ 9223372036854775807 := by
      rcases open_ints Tryz.underlying28 Tryz.underlying3 c3 g4 with ⟨q, _⟩ | ⟨x, l, c, zs, q, _, hl, hm, hz, _, hcell, _⟩
      · simp at q; subst q
        exact ⟨none, 0, 0, [], [], rfl, ⟨rfl, .inl ⟨rfl, rfl⟩⟩, by omega⟩
      · simp at q; subst q
        have hz' : zs.length = c := by simpa using hz
        obtain ⟨F, hF⟩ := rdI_open (w := W) (a := some x) hz' hl (fun x' e i hi => by cases e; exact hcell i (by omega)) (fun e => by cases e)
        exact ⟨_, _, _, _, F, rfl, hF, by unfold maxLen at hm; omega⟩
    obtain ⟨a2, n2, k2, z2, F2, rfl, r2, b2⟩ : ∃ a n k zs F, e5 = .slice a n k ∧ RdI W a n zs F ∧ n ≤ 9223372036854775807 := by
      rcases open_ints Tryz.underlying28 Tryz.underlying3 c3 g5 with ⟨q, _⟩ | ⟨x, l, c, zs, q, _, hl, hm, hz, _, hcell, _⟩
      · simp at q; subst q
        exact ⟨none, 0, 0, [], [], rfl, ⟨rfl, .inl ⟨rfl, rfl⟩⟩, by omega⟩
      · simp at q; subst q
        have hz' : zs.length = c := by simpa using hz
        obtain ⟨F, hF⟩ := rdI_open (w := W) (a := some x) hz' hl (fun x' e i hi => by cases e; exact hcell i (by omega)) (fun e => by cases e)
        exact ⟨_, _, _, _, F, rfl, hF, by unfold maxLen at hm; omega⟩
    obtain ⟨a3, n3, k3, z3, F3, rfl, r3, b3, b4⟩ : ∃ a n k zss F, e6 = .slice a n k ∧ RdII W a n zss F ∧ n ≤ 9223372036854775807 ∧ ∀ z ∈ zss, z.length ≤ 9223372036854775807 := by
      rcases open_int_rows Tryz.underlying29 Tryz.underlying28 Tryz.underlying3 c4 c3 g6 with ⟨q, _⟩ | ⟨a, len, cap, AA, L, C, Z, q, _, hl, hm, _, hrow⟩
      · simp at q; subst q
        exact ⟨none, 0, 0, [], [], rfl, ⟨rfl, .inl ⟨rfl, rfl⟩⟩, by omega, by simp⟩
      · simp at q; subst q
        have hrd : ∀ r, r < cap → ∃ F, RdI W (AA r) (L r) ((Z r).take (L r)) F := fun r hr => by
          obtain ⟨_, h2, _, h4, _, h6, h7⟩ := hrow r hr
          exact rdI_open h4 h2 (fun x' e i hi => (h7 x' e).2 i hi) h6
        have hmem : ∀ z ∈ (List.range len).map (fun r => (Z r).take (L r)), z.length ≤ 9223372036854775807 := by
          intro z hz
          obtain ⟨r, hr, rfl⟩ := List.mem_map.1 hz
          have hr' : r < cap := by have := List.mem_range.1 hr; omega
          obtain ⟨_, h2, h3, h4, _⟩ := hrow r hr'
          unfold maxLen at h3
          simp; omega
        by_cases h0 : len = 0
        · subst h0
          exact ⟨_, _, _, [], [], rfl, ⟨rfl, .inl ⟨rfl, rfl⟩⟩, by omega, by simp⟩
        · obtain ⟨b, off, rfl⟩ := addr_plain (hrow 0 (by omega)).1
          obtain ⟨F, hF⟩ := rdM_open (w := W) (b := b) len off (fun r => .slice (AA r) (L r) (C r)) (fun r => (Z r).take (L r)) (fun r hr => by
            have h1 := (hrow r (by omega)).1
            rw [add_none] at h1
            obtain ⟨F, hF⟩ := hrd r (by omega)
            exact ⟨h1, F, rd_ints.2 ⟨_, _, _, rfl, hF⟩⟩)
          exact ⟨_, _, _, _, b :: F, rfl, ⟨by simp, .inr ⟨b, off, F, by omega, rfl, rfl, hF⟩⟩, by unfold maxLen at hm; omega, hmem⟩
    exact ⟨⟨i0, i1, i2, i3, z1, z2, z3⟩, F1 ++ (F2 ++ F3), ⟨a1, n1, k1, a2, n2, k2, a3, n3, k3, F1, F2, F3, rfl, r1, r2, r3, rfl⟩, ⟨by rw [r1.length]; exact b1, by rw [r2.length]; exact b2, by rw [r3.length]; exact b3, b4⟩⟩
end Go.Proofs.YtjnamoppcklomaaGreat
