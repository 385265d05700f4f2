/- The walk through the model's Merge. No statement of the seat is proved here. -/
import Derived.Test.YtlapdamopclojaaSkMergeF
import Derived.Test.YtlapdamopclojaaWhole
import Derived.Laws.ResultCell
namespace Go.Proofs.Ytlapdamopclojaa
open Go.RowKit

def Sk.zero : Sk := ⟨0, 0, 0, 0, [], [], []⟩
def Sk.mergeR (s t : Sk) : Sk := if s.ok && t.ok then s.merge t else Sk.zero
/-- What a merging answers. -/
def NewSk2 (w : World) (s : Sk) (d : Bool) (e : Ending) (w' : World) : Prop :=
  ∃ v F, e = .returned (.tuple #[v, .bool d]) ∧ RdSk w' v s F ∧ Own w.heap.size w' F ∧ Below w.heap.size w w'
set_option maxHeartbeats 2000000 in
theorem mergeSpec_any (v u : Value) (s t : Sk) (F G : List Nat) (w : World) (h : RdSk w v s F) (k : RdSk w u t G) (hw : s.wide) (kw : t.wide) :
    Calls Try.prog 28 #[v, u] w fun e w' => NewSk2 w (s.mergeR t) (s.ok && t.ok) e w' := by
  have HH : Hid (RdSk w v s F ∧ RdSk w u t G ∧ s.wide ∧ t.wide) := ⟨h, k, hw, kw⟩
  obtain ⟨a1, n1, c1, a2, n2, c2, a3, n3, c3, F1, F2, F3, rfl, h1, h2, h3, _⟩ := h
  obtain ⟨b1, m1, d1, b2, m2, d2, b3, m3, d3, G1, G2, G3, rfl, g1, g2, g3, _⟩ := k
  clear h1 h2 h3 g1 g2 g3 hw kw
  have T := Three.made w #[.int .i64 s.count, .int .i64 s.sum, .int .i64 s.min, .int .i64 s.max, .slice a1 n1 c1, .slice a2 n2 c2, .slice a3 n3 c3] 41 #[.int .i64 t.count, .int .i64 t.sum, .int .i64 t.min, .int .i64 t.max, .slice b1 m1 d1, .slice b2 m2 d2, .slice b3 m3 d3] #[.int .i64 0, .int .i64 0, .int .i64 0, .int .i64 0, .slice none 0 0, .slice none 0 0, .slice none 0 0] 41
  have HT : Hid (Three w _ _ _ _ _ _) := T
  clear T
  go_enter Try.func28, Try.ntmps28
  go_wp2_with fail
  refine (okSpec_any _ s F _ (HH.out.1.below HT.out.bel) HH.out.2.2.1).mono ?_
  rintro e w1 ⟨rfl, hb1⟩
  have T1 := HT.out.below hb1
  have HT1 : Hid (Three w _ _ _ _ _ w1) := T1
  cases es : s.ok
  · have HZ : Hid (s.mergeR t = Sk.zero ∧ (s.ok && t.ok) = false) := ⟨by unfold Sk.mergeR; rw [es]; rfl, by rw [es]; rfl⟩
    have HTX := HT1
    have l0 := T1.loc.cell 0
    have lf0 := T1.loc.frozen 0
    have l1 := T1.loc.cell 1
    have lf1 := T1.loc.frozen 1
    have l2 := T1.loc.cell 2
    have lf2 := T1.loc.frozen 2
    have l3 := T1.loc.cell 3
    have lf3 := T1.loc.frozen 3
    have l4 := T1.loc.cell 4
    have lf4 := T1.loc.frozen 4
    have l5 := T1.loc.cell 5
    have lf5 := T1.loc.frozen 5
    have l6 := T1.loc.cell 6
    have lf6 := T1.loc.frozen 6
    simp only [List.getElem?_toArray, List.getElem?_cons_succ, List.getElem?_cons_zero] at l0 l1 l2 l3 l4 l5 l6
    clear T1 hb1 es
    go_wp2
    have T4 := (((((((HTX.out.set 0 (.int .i64 0)).set 1 (.int .i64 0)).set 2 (.int .i64 0)).set 3 (.int .i64 0)).set 4 (.slice none 0 0)).set 5 (.slice none 0 0)).set 6 (.slice none 0 0))
    refine bodyPost_ret (results_row_tmp Try.results28 _ _ (w.heap.size + 1 + 1) _ _ _ _ rfl T4.loc Try.underlying41 rfl (by kernel_rfl)) rfl ?_
    rw [HZ.out.1, HZ.out.2]
    exact ⟨_, [], rfl, ⟨none, 0, 0, none, 0, 0, none, 0, 0, [], [], [], rfl, ⟨rfl, .inl ⟨rfl, rfl⟩⟩, ⟨rfl, .inl ⟨rfl, rfl⟩⟩, ⟨rfl, .inl ⟨rfl, rfl⟩⟩, rfl⟩, Own.nil, T4.bel⟩
  have ES : Hid (s.ok = true) := es
  have r0 := T1.res.cell 0
  have r1 := T1.res.cell 1
  have r2 := T1.res.cell 2
  have r3 := T1.res.cell 3
  have r4 := T1.res.cell 4
  have r5 := T1.res.cell 5
  have r6 := T1.res.cell 6
  simp only [List.getElem?_toArray, List.getElem?_cons_succ, List.getElem?_cons_zero] at r0 r1 r2 r3 r4 r5 r6
  clear T1 hb1 es
  go_wp2_with fail
  refine (okSpec_any _ t G _ (HH.out.2.1.below HT1.out.bel) HH.out.2.2.2).mono ?_
  rintro e w2 ⟨rfl, hb2⟩
  have T2 := HT1.out.below hb2
  have HT2 : Hid (Three w _ _ _ _ _ w2) := T2
  clear r0 r1 r2 r3 r4 r5 r6
  cases et : t.ok
  · have HZ : Hid (s.mergeR t = Sk.zero ∧ (s.ok && t.ok) = false) := ⟨by unfold Sk.mergeR; rw [et]; simp, by rw [et]; simp⟩
    have HTX := HT2
    have l0 := T2.loc.cell 0
    have lf0 := T2.loc.frozen 0
    have l1 := T2.loc.cell 1
    have lf1 := T2.loc.frozen 1
    have l2 := T2.loc.cell 2
    have lf2 := T2.loc.frozen 2
    have l3 := T2.loc.cell 3
    have lf3 := T2.loc.frozen 3
    have l4 := T2.loc.cell 4
    have lf4 := T2.loc.frozen 4
    have l5 := T2.loc.cell 5
    have lf5 := T2.loc.frozen 5
    have l6 := T2.loc.cell 6
    have lf6 := T2.loc.frozen 6
    simp only [List.getElem?_toArray, List.getElem?_cons_succ, List.getElem?_cons_zero] at l0 l1 l2 l3 l4 l5 l6
    clear T2 hb2 et
    go_wp2
    have T4 := (((((((HTX.out.set 0 (.int .i64 0)).set 1 (.int .i64 0)).set 2 (.int .i64 0)).set 3 (.int .i64 0)).set 4 (.slice none 0 0)).set 5 (.slice none 0 0)).set 6 (.slice none 0 0))
    refine bodyPost_ret (results_row_tmp Try.results28 _ _ (w.heap.size + 1 + 1) _ _ _ _ rfl T4.loc Try.underlying41 rfl (by kernel_rfl)) rfl ?_
    rw [HZ.out.1, HZ.out.2]
    exact ⟨_, [], rfl, ⟨none, 0, 0, none, 0, 0, none, 0, 0, [], [], [], rfl, ⟨rfl, .inl ⟨rfl, rfl⟩⟩, ⟨rfl, .inl ⟨rfl, rfl⟩⟩, ⟨rfl, .inl ⟨rfl, rfl⟩⟩, rfl⟩, Own.nil, T4.bel⟩
  have ET : Hid (t.ok = true) := et
  have x0 := T2.box.cell 0
  have x1 := T2.box.cell 1
  have x2 := T2.box.cell 2
  have x3 := T2.box.cell 3
  have x4 := T2.box.cell 4
  have x5 := T2.box.cell 5
  have x6 := T2.box.cell 6
  simp only [List.getElem?_toArray, List.getElem?_cons_succ, List.getElem?_cons_zero] at x0 x1 x2 x3 x4 x5 x6
  have r0 := T2.res.cell 0
  have r1 := T2.res.cell 1
  have r2 := T2.res.cell 2
  have r3 := T2.res.cell 3
  have r4 := T2.res.cell 4
  have r5 := T2.res.cell 5
  have r6 := T2.res.cell 6
  simp only [List.getElem?_toArray, List.getElem?_cons_succ, List.getElem?_cons_zero] at r0 r1 r2 r3 r4 r5 r6
  clear T2 hb2 et
  go_wp2_with fail
  refine (l3Merge_any _ _ s t F G _ (HH.out.1.below HT2.out.bel) (HH.out.2.1.below HT2.out.bel) ES.out ET.out).mono ?_
  rintro e w3 ⟨v3, F3', rfl, r3', o3', hb3⟩
  have T3 := HT2.out.below hb3
  obtain ⟨y1, p1, q1, y2, p2, q2, y3, p3, q3, Y1, Y2, Y3, rfl, k1, k2, k3, rfl⟩ := r3'
  have HR : Hid (RdI w3 y1 p1 (s.merge t).hist Y1 ∧ RdI w3 y2 p2 (s.merge t).regs Y2 ∧ RdII w3 y3 p3 (s.merge t).rows Y3 ∧ Own w2.heap.size w3 (Y1 ++ (Y2 ++ Y3)) ∧ Three w _ _ _ _ _ w3) := ⟨k1, k2, k3, o3', T3⟩
  have l0 := T3.loc.cell 0
  have lf0 := T3.loc.frozen 0
  have l1 := T3.loc.cell 1
  have lf1 := T3.loc.frozen 1
  have l2 := T3.loc.cell 2
  have lf2 := T3.loc.frozen 2
  have l3 := T3.loc.cell 3
  have lf3 := T3.loc.frozen 3
  have l4 := T3.loc.cell 4
  have lf4 := T3.loc.frozen 4
  have l5 := T3.loc.cell 5
  have lf5 := T3.loc.frozen 5
  have l6 := T3.loc.cell 6
  have lf6 := T3.loc.frozen 6
  simp only [List.getElem?_toArray, List.getElem?_cons_succ, List.getElem?_cons_zero] at l0 l1 l2 l3 l4 l5 l6
  clear k1 k2 k3 o3' T3 hb3 x0 x1 x2 x3 x4 x5 x6 r0 r1 r2 r3 r4 r5 r6
  go_wp2
  have T4 := (((((((HR.out.2.2.2.2.set 0 (.int .i64 (s.merge t).count)).set 1 (.int .i64 (s.merge t).sum)).set 2 (.int .i64 (s.merge t).min)).set 3 (.int .i64 (s.merge t).max)).set 4 (.slice y1 p1 q1)).set 5 (.slice y2 p2 q2)).set 6 (.slice y3 p3 q3))
  have nl : w.heap.size + 1 + 1 ∉ Y1 ++ (Y2 ++ Y3) := fun hx => by have := HR.out.2.2.2.1.ge _ hx; have := HT2.out.size; omega
  have ag := ((((((((Agree.refl w3 (Y1 ++ (Y2 ++ Y3))).thenSet nl 0 (.int .i64 (s.merge t).count)).thenSet nl 1 (.int .i64 (s.merge t).sum)).thenSet nl 2 (.int .i64 (s.merge t).min)).thenSet nl 3 (.int .i64 (s.merge t).max)).thenSet nl 4 (.slice y1 p1 q1)).thenSet nl 5 (.slice y2 p2 q2)).thenSet nl 6 (.slice y3 p3 q3))
  refine bodyPost_ret (results_row_tmp Try.results28 _ _ (w.heap.size + 1 + 1) _ _ _ _ rfl T4.loc Try.underlying41 rfl (by kernel_rfl)) rfl ?_
  have eM : s.mergeR t = s.merge t := by unfold Sk.mergeR; rw [ES.out, ET.out]; rfl
  have eB : (s.ok && t.ok) = true := by rw [ES.out, ET.out]; rfl
  rw [eM, eB]
  exact ⟨_, Y1 ++ (Y2 ++ Y3), rfl, ⟨y1, p1, q1, y2, p2, q2, y3, p3, q3, Y1, Y2, Y3, rfl, HR.out.1.agree ag.left, HR.out.2.1.agree ag.right.left, HR.out.2.2.1.agree ag.right.right, rfl⟩, (HR.out.2.2.2.1.agree ag).mono (by have := HT2.out.bel.size; omega), T4.bel⟩
end Go.Proofs.Ytlapdamopclojaa
