/- Items and entries that came in. No statement of the seat is proved here. -/
import Derived.Test.YtjndcfamfminkaqItHelp2
namespace Go.Proofs.Ytjndcfamfminkaq
open Go.RowKit Go.WideShapes Go.ChangeShapes Go.ChangeAt Go.Deep
set_option maxRecDepth 100000 in
set_option maxHeartbeats 1000000 in
theorem open_item {H : Type} {enc : TypeId × Value → H} {W : World} {base : Nat} {v : Value} {d : DataW H} {p : List MemPlace} (hv : Value.okWide Try.prog W .any base 42 v) (h : DataW.Trod enc Try.prog W 0 (fun _ => true) true 42 v d p) :
    ∃ x F, RdIt W v x F ∧ x.sk.vast := by
  obtain ⟨cs, rfl, hsz⟩ := okWide_struct Try.underlying42 hv
  have hC : Try.prog.cellsOf 42 = 11 := by kernel_rfl
  have c3 : Try.prog.cellsOf 3 = 1 := by kernel_rfl
  have c7 : Try.prog.cellsOf 25 = 7 := by kernel_rfl
  rw [hC] at hsz
  obtain ⟨l⟩ := cs
  match l, hsz with
  | [e0, e1, e2, e3, e4, e5, e6, e7, e8, e9, e10], _ =>
    obtain ⟨fuel, hf⟩ := h
    obtain ⟨xs, n, _, _, _, hlen, hx⟩ := DataW.trod_struct Try.underlying42 hf
    match xs, hlen with
    | [y0, y1, y2, y3, y4], _ =>
      have g0 := hx 0 _ rfl
      have g1 := hx 1 _ rfl
      have g2 := hx 2 _ rfl
      have g3 := hx 3 _ rfl
      have g4 := hx 4 _ rfl
      simp [Value.cells, c3, c7] at g0 g1 g2 g3 g4
      obtain ⟨i0, q0, _, _⟩ := DataW.trod_int Try.underlying3 g0
      obtain ⟨i1, q1, _, _⟩ := DataW.trod_int Try.underlying3 g1
      obtain ⟨i2, q2, _, _⟩ := DataW.trod_int Try.underlying3 g2
      obtain ⟨i3, q3, _, _⟩ := DataW.trod_int Try.underlying3 g3
      simp at q0 q1 q2 q3
      subst q0 q1 q2 q3
      obtain ⟨s, F, hr, hv7⟩ := open_sk7 (e0 := e4) (e1 := e5) (e2 := e6) (e3 := e7) (e4 := e8) (e5 := e9) (e6 := e10) ⟨_, g4⟩
      obtain ⟨a1, n1, c1, a2, n2, c2, a3, n3, c3', ev⟩ := hr.cells7
      simp only [Value.agg.injEq] at ev
      cases ev
      exact ⟨⟨i0, i1, i2, i3, s⟩, F, ⟨a1, n1, c1, a2, n2, c2, a3, n3, c3', rfl, hr⟩, hv7⟩
end Go.Proofs.Ytjndcfamfminkaq
