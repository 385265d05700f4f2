/- Items and entries that came in. No statement of the seat is proved here. -/
import Derived.Test.YtillnoeailnnfaaGreatItHelp2
namespace Go.Proofs.YtillnoeailnnfaaGreat
open Go.RowKit Go.WideShapes Go.ChangeShapes Go.ChangeAt Go.Deep
set_option maxRecDepth 100000 in
set_option maxHeartbeats 1000000 in
theorem open_entry {H : Type} {enc : TypeId × Value → H} {W : World} {base : Nat} {v : Value} {d : DataW H} {p : List MemPlace} (hv : Value.okWide Tryz.prog W .any base 52 v) (h : DataW.Trod enc Tryz.prog W 0 (fun _ => true) true 52 v d p) :
    ∃ x F G, RdEn W v x F G ∧ x.sk.vast ∧ x.ids.length ≤ 9223372036854775807 := by
  obtain ⟨cs, rfl, hsz⟩ := okWide_struct Tryz.underlying52 hv
  have hC : Tryz.prog.cellsOf 52 = 10 := by kernel_rfl
  have c3 : Tryz.prog.cellsOf 3 = 1 := by kernel_rfl
  have c4 : Tryz.prog.cellsOf 49 = 1 := by kernel_rfl
  have c7 : Tryz.prog.cellsOf 50 = 7 := by kernel_rfl
  rw [hC] at hsz
  obtain ⟨l⟩ := cs
  match l, hsz with
  | [e0, e1, e2, e3, e4, e5, e6, e7, e8, e9], _ =>
    obtain ⟨fuel, hf⟩ := h
    obtain ⟨xs, n, _, _, _, hlen, hx⟩ := DataW.trod_struct Tryz.underlying52 hf
    match xs, hlen with
    | [y0, y1, y2, y3], _ =>
      have g0 := hx 0 _ rfl
      have g1 := hx 1 _ rfl
      have g2 := hx 2 _ rfl
      have g3 := hx 3 _ rfl
      simp [Value.cells, c3, c4, c7] at g0 g1 g2 g3
      clear hx
      obtain ⟨i0, q0, _, _⟩ := DataW.trod_int Tryz.underlying3 g0
      obtain ⟨i1, q1, _, _⟩ := DataW.trod_int Tryz.underlying3 g1
      simp at q0 q1
      subst q0 q1
      obtain ⟨s, G, hr, hv7⟩ := open_sk7 (e0 := e3) (e1 := e4) (e2 := e5) (e3 := e6) (e4 := e7) (e5 := e8) (e6 := e9) ⟨_, g3⟩
      obtain ⟨a1, n1, c1, a2, n2, c2', a3, n3, c3', ev⟩ := hr.cells7
      simp only [Value.agg.injEq] at ev
      cases ev
      have c2 : Tryz.prog.cellsOf 137 = 2 := by kernel_rfl
      obtain ⟨b, l, c, ps, F, rfl, hp, hb, hcp⟩ : ∃ a len cap ps F, e2 = .slice a len cap ∧ RdP W a len ps F ∧ len ≤ 9223372036854775807 ∧ Capd a len cap := by
        rcases open_slice_pairs Tryz.underlying49 Tryz.underlying137 c2 rfl rfl c3 c3 g2 with ⟨q, _⟩ | ⟨x, len, cap, m, n, V0, V1, D0, D1, P0, P1, q, _, hl, hm, hmm, _, hx⟩
        · simp at q
          subst q
          exact ⟨none, 0, 0, [], [], rfl, RdP.nil, by omega, fun _ => rfl, Nat.le_refl _⟩
        · simp at q
          subst q
          have hm2 : m = cap := by rw [hmm]; simp
          subst hm2
          have hb : len ≤ 9223372036854775807 := by unfold maxLen at hm; omega
          have ints : ∀ i, i < m → ∃ y z : Int, V0 i = .int .i64 y ∧ V1 i = .int .i64 z ∧ (Lit.int .i64 y).wf = true ∧ (Lit.int .i64 z).wf = true := fun i hi => by
            obtain ⟨_, _, h3, h4⟩ := hx i hi
            obtain ⟨y, q0, _, w0⟩ := DataW.trod_int Tryz.underlying3 h3
            obtain ⟨z, q1, _, w1⟩ := DataW.trod_int Tryz.underlying3 h4
            simp at q0 q1
            exact ⟨y, z, q0, q1, w0, w1⟩
          have hN : ∀ i, i < m → V0 i = .int .i64 (intOf (V0 i)) ∧ V1 i = .int .i64 (intOf (V1 i)) ∧ Fit64 (intOf (V0 i)) ∧ Fit64 (intOf (V1 i)) := fun i hi => by
            obtain ⟨y, z, e0, e1, w0, w1⟩ := ints i hi
            rw [e0, e1]
            exact ⟨rfl, rfl, int_wf w0, int_wf w1⟩
          by_cases h0 : len = 0
          · subst h0
            exact ⟨_, 0, _, [], [], rfl, RdP.nil, by omega, fun e => (by cases e), hl⟩
          · obtain ⟨b, off, rfl⟩ := sp_addr (hx 0 (by omega)).1
            refine ⟨_, len, m, (List.range len).map fun i => (intOf (V0 i), intOf (V1 i)), [b], rfl, rdP_mk _ (by simp) (by omega) (fun i hi => ?_), hb, fun e => (by cases e), hl⟩
            · rw [flat_range len _ _ i hi]
              have h1 := (hx i (by omega)).1
              have h2 := (hx i (by omega)).2.1
              rw [sp_add] at h1 h2
              rw [(hN i (by omega)).1] at h1
              rw [(hN i (by omega)).2.1] at h2
              exact ⟨h1, by rw [show off + i * 2 + 1 = off + (i * 2 + 1) by omega]; exact h2⟩
      exact ⟨⟨i0, i1, ps, s⟩, F, G, ⟨b, l, c, a1, n1, c1, a2, n2, c2', a3, n3, c3', rfl, hp, hr, hcp⟩, hv7, by rw [hp.length]; exact hb⟩
end Go.Proofs.YtillnoeailnnfaaGreat
