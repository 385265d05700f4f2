/- Agents that came in; slices of items and of spans, as cells. No statement of the seat is proved here. -/
import Derived.Test.YtjndcfamfminkarItOpen
import Derived.Test.YtjndcfamfminkarSpOpen
import Derived.Test.YtjndcfamfminkarAgHelp
import Derived.Deep.Slices
namespace Go.Proofs.Ytjndcfamfminkar
open Go.RowKit Go.WideShapes Go.ChangeShapes Go.ChangeAt Go.Deep
section
variable {α : Type} {K : ElK α} {w : World}
/-- Elements one behind the other, each with its reading. -/
theorem rdEls_open (Good : α → Prop) : ∀ (n : Nat) (b off : Nat) (C : Nat → Array Value), (∀ r, r < n → (C r).size = K.n ∧ (∀ j, j < K.n → w.cell? ⟨b, off + r * K.n + j, none⟩ = (C r)[j]?) ∧ ∃ x F, K.R w (.agg (C r)) x F ∧ Good x) → ∃ xs F, xs.length = n ∧ RdEls K w b xs off F ∧ ∀ x ∈ xs, Good x
  | 0, b, off, C, _ => ⟨[], [], rfl, rfl, by simp⟩
  | n + 1, b, off, C, h => by
    obtain ⟨xs, F2, h1, h2, h3⟩ := rdEls_open Good n b (off + K.n) (fun r => C (r + 1)) (fun r hr => by
      obtain ⟨k1, k2, k3⟩ := h (r + 1) (by omega)
      refine ⟨k1, fun j hj => ?_, k3⟩
      rw [show off + K.n + r * K.n + j = off + (r + 1) * K.n + j by rw [Nat.succ_mul]; omega]
      exact k2 j hj)
    obtain ⟨k1, k2, x, F1, k3, k4⟩ := h 0 (by omega)
    refine ⟨x :: xs, F1 ++ F2, by simp [h1], ⟨C 0, F1, F2, k1, fun j hj => ?_, k3, h2, rfl⟩, ?_⟩
    · have := k2 j hj
      rw [Nat.zero_mul, Nat.add_zero] at this
      exact this
    · intro y hy
      rcases List.mem_cons.1 hy with rfl | hy
      · exact k4
      · exact h3 y hy
end
set_option maxRecDepth 100000 in
set_option maxHeartbeats 1000000 in
theorem open_it11g {H : Type} {enc : TypeId × Value → H} {W : World} {e0 e1 e2 e3 e4 e5 e6 e7 e8 e9 e10 : Value} {d : DataW H} {p : List MemPlace} (h : DataW.Trod enc Try.prog W 0 (fun _ => true) true 62 (.agg ⟨[e0, e1, e2, e3, e4, e5, e6, e7, e8, e9, e10]⟩) d p) :
    ∃ x F, RdIt W (.agg ⟨[e0, e1, e2, e3, e4, e5, e6, e7, e8, e9, e10]⟩) x F ∧ x.sk.vast := by
  have c3 : Try.prog.cellsOf 3 = 1 := by kernel_rfl
  have c7 : Try.prog.cellsOf 38 = 7 := by kernel_rfl
  obtain ⟨fuel, hf⟩ := h
  obtain ⟨xs, n, _, _, _, hlen, hx⟩ := DataW.trod_struct Try.underlying62 hf
  match xs, hlen with
  | [y0, y1, y2, y3, y4], _ =>
    have g0 := hx 0 _ rfl
    have g1 := hx 1 _ rfl
    have g2 := hx 2 _ rfl
    have g3 := hx 3 _ rfl
    have g4 := hx 4 _ rfl
    simp [Value.cells, c3, c7] at g0 g1 g2 g3 g4
    obtain ⟨i0, q0, _, _⟩ := DataW.trod_int Try.underlying3 g0
    obtain ⟨i1, q1, _, _⟩ := DataW.trod_int Try.underlying3 g1
    obtain ⟨i2, q2, _, _⟩ := DataW.trod_int Try.underlying3 g2
    obtain ⟨i3, q3, _, _⟩ := DataW.trod_int Try.underlying3 g3
    simp at q0 q1 q2 q3
    subst q0 q1 q2 q3
    obtain ⟨s, F, hr, hv7⟩ := open_sk7 (e0 := e4) (e1 := e5) (e2 := e6) (e3 := e7) (e4 := e8) (e5 := e9) (e6 := e10) ⟨_, g4⟩
    obtain ⟨a1, n1, c1, a2, n2, c2, a3, n3, c3', ev⟩ := hr.cells7
    simp only [Value.agg.injEq] at ev
    cases ev
    exact ⟨⟨i0, i1, i2, i3, s⟩, F, ⟨a1, n1, c1, a2, n2, c2, a3, n3, c3', rfl, hr⟩, hv7⟩
set_option maxRecDepth 100000 in
set_option maxHeartbeats 1000000 in
theorem open_its {H : Type} {enc : TypeId × Value → H} {W : World} {v : Value} {fuel : Nat} {z : DataW H × List MemPlace} (g : DataW.trod enc Try.prog W 0 (fun _ => true) true fuel 31 [v] = some z) :
    ∃ a len cap xs F, v = .slice a len cap ∧ RdL itK W a len xs F ∧ len ≤ 9223372036854775807 ∧ Capd a len cap ∧ ∀ x ∈ xs, x.sk.vast := by
  have c11 : Try.prog.cellsOf 62 = 11 := by kernel_rfl
  rcases open_slice Try.underlying31 g with ⟨q, _⟩ | ⟨x, len, cap, m, n, D, Pl, q, _, hl, hm, hmm, _, hx⟩
  · simp at q
    subst q
    exact ⟨none, 0, 0, [], [], rfl, RdL.nil, by omega, ⟨fun _ => rfl, Nat.le_refl _⟩, by simp⟩
  · simp at q
    subst q
    have hm2 : m = cap := by rw [hmm]; simp
    subst hm2
    have hb : len ≤ 9223372036854775807 := by unfold maxLen at hm; omega
    rw [c11] at hx
    by_cases h0 : len = 0
    · subst h0
      exact ⟨_, 0, _, [], [], rfl, RdL.zero, by omega, ⟨(fun e => by cases e), hl⟩, by simp⟩
    have each : ∀ i, i < m → ∃ c : Array Value, c.size = 11 ∧ (∀ j, j < 11 → W.cell? (x.add (i * 11 + j)) = c[j]?) ∧ ∃ y F, RdIt W (.agg c) y F ∧ y.sk.vast := fun i hi => by
      obtain ⟨cs', h1, h2⟩ := hx i hi
      obtain ⟨_, hlen, hcell⟩ := World.cells?_some h1
      refine ⟨⟨cs'⟩, hlen, fun j hj => ?_, ?_⟩
      · have := hcell j hj
        rw [add_add] at this
        rw [this]
        simp
      · match cs', hlen with
        | [e0, e1, e2, e3, e4, e5, e6, e7, e8, e9, e10], _ => exact open_it11g (d := D i) (p := Pl i) ⟨n, by simpa [Value.cells] using h2⟩
    obtain ⟨C, hC⟩ := choose_lt each
    have a0 : ∃ b off, x = ⟨b, off, none⟩ := by
      obtain ⟨k1, k2, _⟩ := hC 0 (by omega)
      have c := k2 0 (by omega)
      rw [Array.getElem?_eq_getElem (by rw [k1]; omega)] at c
      obtain ⟨b, off, spot⟩ := x
      have hspot : spot = none := by simpa [Addr.add] using World.cell?_spot c
      subst hspot
      exact ⟨b, off, rfl⟩
    obtain ⟨b, off, rfl⟩ := a0
    obtain ⟨xs, F, k1, k2, k3⟩ := rdEls_open (K := itK) (w := W) (fun y => y.sk.vast) len b off C (fun r hr => by
      obtain ⟨h1, h2, h3⟩ := hC r (by omega)
      refine ⟨h1, fun j hj => ?_, h3⟩
      have := h2 j hj
      rw [sp_add] at this
      rw [Nat.add_assoc]
      exact this)
    exact ⟨_, len, m, xs, b :: F, rfl, ⟨k1, .inr ⟨b, off, F, by omega, rfl, rfl, k2⟩⟩, hb, ⟨(fun e => by cases e), hl⟩, k3⟩
set_option maxRecDepth 100000 in
set_option maxHeartbeats 1000000 in
theorem open_sps {H : Type} {enc : TypeId × Value → H} {W : World} {v : Value} {fuel : Nat} {z : DataW H × List MemPlace} (g : DataW.trod enc Try.prog W 0 (fun _ => true) true fuel 32 [v] = some z) :
    ∃ a len cap ps F, v = .slice a len cap ∧ RdP W a len ps F ∧ len ≤ 9223372036854775807 ∧ Capd a len cap := by
  have c3 : Try.prog.cellsOf 3 = 1 := by kernel_rfl
  have c2 : Try.prog.cellsOf 110 = 2 := by kernel_rfl
  rcases open_slice_pairs Try.underlying32 Try.underlying110 c2 rfl rfl c3 c3 g with ⟨q, _⟩ | ⟨x, len, cap, m, n, V0, V1, D0, D1, P0, P1, q, _, hl, hm, hmm, _, hx⟩
  · simp at q
    subst q
    exact ⟨none, 0, 0, [], [], rfl, RdP.nil, by omega, fun _ => rfl, Nat.le_refl _⟩
  · simp at q
    subst q
    have hm2 : m = cap := by rw [hmm]; simp
    subst hm2
    have hb : len ≤ 9223372036854775807 := by unfold maxLen at hm; omega
    have ints : ∀ i, i < m → ∃ y z : Int, V0 i = .int .i64 y ∧ V1 i = .int .i64 z ∧ (Lit.int .i64 y).wf = true ∧ (Lit.int .i64 z).wf = true := fun i hi => by
      obtain ⟨_, _, h3, h4⟩ := hx i hi
      obtain ⟨y, q0, _, w0⟩ := DataW.trod_int Try.underlying3 h3
      obtain ⟨z, q1, _, w1⟩ := DataW.trod_int Try.underlying3 h4
      simp at q0 q1
      exact ⟨y, z, q0, q1, w0, w1⟩
    have hN : ∀ i, i < m → V0 i = .int .i64 (intOf (V0 i)) ∧ V1 i = .int .i64 (intOf (V1 i)) ∧ Fit64 (intOf (V0 i)) ∧ Fit64 (intOf (V1 i)) := fun i hi => by
      obtain ⟨y, z, e0, e1, w0, w1⟩ := ints i hi
      rw [e0, e1]
      exact ⟨rfl, rfl, int_wf w0, int_wf w1⟩
    by_cases h0 : len = 0
    · subst h0
      exact ⟨_, 0, _, [], [], rfl, RdP.nil, by omega, fun e => (by cases e), hl⟩
    · obtain ⟨b, off, rfl⟩ := sp_addr (hx 0 (by omega)).1
      refine ⟨_, len, m, (List.range len).map fun i => (intOf (V0 i), intOf (V1 i)), [b], rfl, rdP_mk _ (by simp) (by omega) (fun i hi => ?_), hb, fun e => (by cases e), hl⟩
      · rw [flat_range len _ _ i hi]
        have h1 := (hx i (by omega)).1
        have h2 := (hx i (by omega)).2.1
        rw [sp_add] at h1 h2
        rw [(hN i (by omega)).1] at h1
        rw [(hN i (by omega)).2.1] at h2
        exact ⟨h1, by rw [show off + i * 2 + 1 = off + (i * 2 + 1) by omega]; exact h2⟩
set_option maxRecDepth 100000 in
set_option maxHeartbeats 1000000 in
theorem open_ag7 {H : Type} {enc : TypeId × Value → H} {W : World} {e0 e1 e2 e3 e4 e5 e6 : Value} {d : DataW H} {p : List MemPlace} (h : DataW.Trod enc Try.prog W 0 (fun _ => true) true 34 (.agg ⟨[e0, e1, e2, e3, e4, e5, e6]⟩) d p) :
    ∃ x F G, RdAg W (.agg ⟨[e0, e1, e2, e3, e4, e5, e6]⟩) x F G ∧ (∀ y ∈ x.sealed, y.sk.vast) ∧ x.sealed.length ≤ 9223372036854775807 ∧ x.taken.length ≤ 9223372036854775807 := by
  have c3 : Try.prog.cellsOf 3 = 1 := by kernel_rfl
  have cb : Try.prog.cellsOf 4 = 1 := by kernel_rfl
  have ci : Try.prog.cellsOf 31 = 1 := by kernel_rfl
  have cs : Try.prog.cellsOf 32 = 1 := by kernel_rfl
  obtain ⟨fuel, hf⟩ := h
  obtain ⟨xs, n, _, _, _, hlen, hx⟩ := DataW.trod_struct Try.underlying34 hf
  match xs, hlen with
  | [y0, y1, y2, y3, y4, y5, y6], _ =>
    have g0 := hx 0 _ rfl
    have g1 := hx 1 _ rfl
    have g2 := hx 2 _ rfl
    have g3 := hx 3 _ rfl
    have g4 := hx 4 _ rfl
    have g5 := hx 5 _ rfl
    have g6 := hx 6 _ rfl
    simp [Value.cells, c3, cb, ci, cs] at g0 g1 g2 g3 g4 g5 g6
    clear hx
    obtain ⟨i0, q0, _, _⟩ := DataW.trod_int Try.underlying3 g0
    obtain ⟨i1, q1, _, _⟩ := DataW.trod_int Try.underlying3 g1
    obtain ⟨b2, q2, _⟩ := DataW.trod_bool Try.underlying4 g2
    obtain ⟨i3, q3, _, _⟩ := DataW.trod_int Try.underlying3 g3
    obtain ⟨i6, q6, _, _⟩ := DataW.trod_int Try.underlying3 g6
    simp at q0 q1 q2 q3 q6
    subst q0 q1 q2 q3 q6
    obtain ⟨a1, n1, c1, zs, F, rfl, hL, hb1, hc1, hv⟩ := open_its g4
    obtain ⟨a2, n2, c2, ps, G, rfl, hP, hb2, hc2⟩ := open_sps g5
    exact ⟨⟨i0, i1, b2, i3, zs, ps, i6⟩, F, G, ⟨a1, n1, c1, a2, n2, c2, rfl, hL, hP, hc1, hc2⟩, hv, by rw [hL.length]; exact hb1, by rw [hP.length]; exact hb2⟩
set_option maxRecDepth 100000 in
theorem open_agent {H : Type} {enc : TypeId × Value → H} {W : World} {base : Nat} {v : Value} {d : DataW H} {p : List MemPlace} (hv : Value.okWide Try.prog W .any base 34 v) (h : DataW.Trod enc Try.prog W 0 (fun _ => true) true 34 v d p) :
    ∃ x F G, RdAg W v x F G ∧ (∀ y ∈ x.sealed, y.sk.vast) ∧ x.sealed.length ≤ 9223372036854775807 ∧ x.taken.length ≤ 9223372036854775807 := by
  obtain ⟨cs, rfl, hsz⟩ := okWide_struct Try.underlying34 hv
  have hC : Try.prog.cellsOf 34 = 7 := by kernel_rfl
  rw [hC] at hsz
  obtain ⟨l⟩ := cs
  match l, hsz with
  | [e0, e1, e2, e3, e4, e5, e6], _ => exact open_ag7 h
end Go.Proofs.Ytjndcfamfminkar
