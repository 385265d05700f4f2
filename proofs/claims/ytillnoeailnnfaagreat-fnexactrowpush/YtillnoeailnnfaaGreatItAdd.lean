/- The walks through the model's adding up of two entries. No statement of the seat is proved here. -/
import Derived.Test.YtillnoeailnnfaaGreatItModel
import Derived.Test.YtillnoeailnnfaaGreatSkMergeF
import Derived.Test.YtillnoeailnnfaaGreatSpJoin2
namespace Go.Proofs.YtillnoeailnnfaaGreat
open Go.RowKit
theorem En.ok_ids {x : En} (h : x.ok = true) : x.ids.ok = true ∧ 0 < x.ids.length := by
  unfold En.ok at h
  simp only [Bool.and_eq_true, decide_eq_true_eq] at h
  exact ⟨h.1.2, h.1.1.2⟩
theorem En.ok_sum {x : En} (h : x.ok = true) : x.sk.ok = true := by
  unfold En.ok at h
  simp only [Bool.and_eq_true] at h
  exact h.2
def En.add (x y : En) : En := ⟨x.key, x.window, joinTo x.ids y.ids y.ids.length, x.sk.merge y.sk⟩
theorem three_madeE (w : World) (A B Z : Array Value) (t : TypeId) : Blk (((w.alloc (.cells A t)).alloc (.cells B t)).alloc (.cells Z t)) w.heap.size A t ∧ Blk (((w.alloc (.cells A t)).alloc (.cells B t)).alloc (.cells Z t)) (w.heap.size + 1) B t ∧ Blk (((w.alloc (.cells A t)).alloc (.cells B t)).alloc (.cells Z t)) (w.heap.size + 1 + 1) Z t ∧ Below w.heap.size w (((w.alloc (.cells A t)).alloc (.cells B t)).alloc (.cells Z t)) := by
  have T := Three.made w A t B Z t
  exact ⟨T.box, T.res, T.loc, T.bel⟩
set_option maxRecDepth 100000 in
set_option maxHeartbeats 8000000 in
theorem l6Add_any (v u : Value) (x y : En) (F F' G G' : List Nat) (w : World) (h : RdEn w v x F F') (k : RdEn w u y G G') (hx : x.ok = true) (hy : y.ok = true) (hlen : x.ids.length + y.ids.length ≤ 2097152) :
    Calls Tryz.prog 40 #[v, u] w fun e w' => NewEn w (x.add y) e w' := by
  obtain ⟨p, l, g, a1, n1, c1, a2, n2, c2, a3, n3, c3, rfl, px, rx, _⟩ := h
  obtain ⟨q, k, j, b1, m1, d1, b2, m2, d2, b3, m3, d3, rfl, py, ry, _⟩ := k
  have HP : Hid (RdP w p l x.ids F ∧ RdP w q k y.ids G ∧ l + k ≤ 2097152 ∧ (p = none → g = 0)) := ⟨px, py, by rw [← px.length, ← py.length]; exact hlen, fun e => by
    rcases px.cells with ⟨h0, _⟩ | ⟨b, off, _, e2, _⟩
    · have := (En.ok_ids hx).2; have := px.length; omega
    · rw [e] at e2; cases e2⟩
  have HR : Hid (RdSk w (.agg #[.int .i64 x.sk.count, .int .i64 x.sk.sum, .int .i64 x.sk.min, .int .i64 x.sk.max, .slice a1 n1 c1, .slice a2 n2 c2, .slice a3 n3 c3]) x.sk F' ∧ RdSk w (.agg #[.int .i64 y.sk.count, .int .i64 y.sk.sum, .int .i64 y.sk.min, .int .i64 y.sk.max, .slice b1 m1 d1, .slice b2 m2 d2, .slice b3 m3 d3]) y.sk G') := ⟨rx, ry⟩
  have HO : Hid (x.ok = true ∧ y.ok = true) := ⟨hx, hy⟩
  clear px py rx ry hx hy hlen
  go_enter Tryz.func40, Tryz.ntmps40
  go_wp2
  have TM := three_madeE w #[.int .i64 x.key, .int .i64 x.window, .slice p l g, .int .i64 x.sk.count, .int .i64 x.sk.sum, .int .i64 x.sk.min, .int .i64 x.sk.max, .slice a1 n1 c1, .slice a2 n2 c2, .slice a3 n3 c3] #[.int .i64 y.key, .int .i64 y.window, .slice q k j, .int .i64 y.sk.count, .int .i64 y.sk.sum, .int .i64 y.sk.min, .int .i64 y.sk.max, .slice b1 m1 d1, .slice b2 m2 d2, .slice b3 m3 d3] #[.int .i64 0, .int .i64 0, .slice none 0 0, .int .i64 0, .int .i64 0, .int .i64 0, .int .i64 0, .slice none 0 0, .slice none 0 0, .slice none 0 0] 33
  obtain ⟨w0, hw0⟩ : ∃ W, W = ((w.alloc (.cells #[.int .i64 x.key, .int .i64 x.window, .slice p l g, .int .i64 x.sk.count, .int .i64 x.sk.sum, .int .i64 x.sk.min, .int .i64 x.sk.max, .slice a1 n1 c1, .slice a2 n2 c2, .slice a3 n3 c3] 33)).alloc (.cells #[.int .i64 y.key, .int .i64 y.window, .slice q k j, .int .i64 y.sk.count, .int .i64 y.sk.sum, .int .i64 y.sk.min, .int .i64 y.sk.max, .slice b1 m1 d1, .slice b2 m2 d2, .slice b3 m3 d3] 33)).alloc (.cells #[.int .i64 0, .int .i64 0, .slice none 0 0, .int .i64 0, .int .i64 0, .int .i64 0, .int .i64 0, .slice none 0 0, .slice none 0 0, .slice none 0 0] 33) := ⟨_, rfl⟩
  rw [← hw0] at TM ⊢
  have HS : Hid (Blk w0.drew w.heap.size #[.int .i64 x.key, .int .i64 x.window, .slice p l g, .int .i64 x.sk.count, .int .i64 x.sk.sum, .int .i64 x.sk.min, .int .i64 x.sk.max, .slice a1 n1 c1, .slice a2 n2 c2, .slice a3 n3 c3] 33 ∧ Blk w0.drew (w.heap.size + 1) #[.int .i64 y.key, .int .i64 y.window, .slice q k j, .int .i64 y.sk.count, .int .i64 y.sk.sum, .int .i64 y.sk.min, .int .i64 y.sk.max, .slice b1 m1 d1, .slice b2 m2 d2, .slice b3 m3 d3] 33) := ⟨TM.1.drew, TM.2.1.drew⟩
  have HZ : Hid (Blk w0.drew (w.heap.size + 1 + 1) #[.int .i64 0, .int .i64 0, .slice none 0 0, .int .i64 0, .int .i64 0, .int .i64 0, .int .i64 0, .slice none 0 0, .slice none 0 0, .slice none 0 0] 33 ∧ Below w.heap.size w w0.drew) := ⟨TM.2.2.1.drew, TM.2.2.2.drew⟩
  have hsz : w.heap.size + 2 < w0.drew.heap.size := by have := HZ.out.1.lt; omega
  clear TM hw0
  refine wp_region_held (S := (fun W => Blk W w.heap.size #[.int .i64 x.key, .int .i64 x.window, .slice p l g, .int .i64 x.sk.count, .int .i64 x.sk.sum, .int .i64 x.sk.min, .int .i64 x.sk.max, .slice a1 n1 c1, .slice a2 n2 c2, .slice a3 n3 c3] 33 ∧ Blk W (w.heap.size + 1) #[.int .i64 y.key, .int .i64 y.window, .slice q k j, .int .i64 y.sk.count, .int .i64 y.sk.sum, .int .i64 y.sk.min, .int .i64 y.sk.max, .slice b1 m1 d1, .slice b2 m2 d2, .slice b3 m3 d3] 33)) (by kernel_rfl) ?_
  change wpAnyH _ _ _ _ _ _ _ _ (World.drew _)
  refine takeH (o := ?o1) 0 (.pointer (some ⟨w.heap.size, 0, none⟩)) ?h1 ?r1
  case h1 => simp only [aT, aZ]; rfl
  refine ⟨_, by simp [Act.put]; rfl, by kernel_rfl, by kernel_rfl, by kernel_rfl, fun _ _ _ h => h, (.inl ⟨rfl, fun W _ => by go_simp⟩), HS.out, ?_⟩
  refine takeH (o := ?o2) 1 (.int .i64 x.key) ?h2 ?r2
  case h2 => simp only [aT, aS, aZ]; rfl
  refine ⟨_, by simp [Act.put]; rfl, by kernel_rfl, by kernel_rfl, by kernel_rfl, fun _ _ _ h => h, (.inl ⟨rfl, fun W hW => by have c := hW.1.cell 0; simp only [aT, aZ] at c; go_simp⟩), HS.out, ?_⟩
  refine takeH (o := ?o3) 2 (.pointer (some ⟨w.heap.size, 1, none⟩)) ?h3 ?r3
  case h3 => simp only [aT, aS, aZ]; rfl
  refine ⟨_, by simp [Act.put]; rfl, by kernel_rfl, by kernel_rfl, by kernel_rfl, fun _ _ _ h => h, (.inl ⟨rfl, fun W _ => by go_simp⟩), HS.out, ?_⟩
  refine takeH (o := ?o4) 3 (.int .i64 x.window) ?h4 ?r4
  case h4 => simp only [aT, aS, aZ]; rfl
  refine ⟨_, by simp [Act.put]; rfl, by kernel_rfl, by kernel_rfl, by kernel_rfl, fun _ _ _ h => h, (.inl ⟨rfl, fun W hW => by have c := hW.1.cell 1; simp only [aT, aS, aZ] at c; go_simp⟩), HS.out, ?_⟩
  refine takeH (o := ?o5) 4 (.pointer (some ⟨w.heap.size, 2, none⟩)) ?h5 ?r5
  case h5 => simp only [aT, aS, aZ]; rfl
  refine ⟨_, by simp [Act.put]; rfl, by kernel_rfl, by kernel_rfl, by kernel_rfl, fun _ _ _ h => h, (.inl ⟨rfl, fun W _ => by go_simp⟩), HS.out, ?_⟩
  refine takeH (o := ?o6) 5 (.slice p l g) ?h6 ?r6
  case h6 => simp only [aT, aS, aZ]; rfl
  refine ⟨_, by simp [Act.put]; rfl, by kernel_rfl, by kernel_rfl, by kernel_rfl, fun _ _ _ h => h, (.inl ⟨rfl, fun W hW => by have c := hW.1.cell 2; simp only [aT, aS, aZ] at c; go_simp⟩), HS.out, ?_⟩
  refine takeH (o := ?o7) 6 (.pointer (some ⟨w.heap.size + 1, 2, none⟩)) ?h7 ?r7
  case h7 => simp only [aT, aS, aZ]; rfl
  refine ⟨_, by simp [Act.put]; rfl, by kernel_rfl, by kernel_rfl, by kernel_rfl, fun _ _ _ h => h, (.inl ⟨rfl, fun W _ => by go_simp⟩), HS.out, ?_⟩
  refine takeH (o := ?o8) 7 (.slice q k j) ?h8 ?r8
  case h8 => simp only [aT, aS, aZ]; rfl
  refine ⟨_, by simp [Act.put]; rfl, by kernel_rfl, by kernel_rfl, by kernel_rfl, fun _ _ _ h => h, (.inl ⟨rfl, fun W hW => by have c := hW.2.cell 2; simp only [aT, aS, aZ] at c; go_simp⟩), HS.out, ?_⟩
  refine takeH (o := ?o9) 9 (.pointer (some ⟨w.heap.size, 3, none⟩)) ?h9 ?r9
  case h9 => simp only [aT, aS, aZ]; rfl
  refine ⟨_, by simp [Act.put]; rfl, by kernel_rfl, by kernel_rfl, by kernel_rfl, fun _ _ _ h => h, (.inl ⟨rfl, fun W _ => by go_simp⟩), HS.out, ?_⟩
  refine takeH (o := ?o10) 10 (.agg #[.int .i64 x.sk.count, .int .i64 x.sk.sum, .int .i64 x.sk.min, .int .i64 x.sk.max, .slice a1 n1 c1, .slice a2 n2 c2, .slice a3 n3 c3]) ?h10 ?r10
  case h10 => simp only [aT, aS, aZ]; rfl
  refine ⟨_, by simp [Act.put]; rfl, by kernel_rfl, by kernel_rfl, by kernel_rfl, fun _ _ _ h => h, (yields_cut 31 w.heap.size 3 7 _ #[.int .i64 x.sk.count, .int .i64 x.sk.sum, .int .i64 x.sk.min, .int .i64 x.sk.max, .slice a1 n1 c1, .slice a2 n2 c2, .slice a3 n3 c3] 33 _ rfl rfl rfl Tryz.underlying31 rfl (by kernel_rfl) (by simp) rfl (fun W hW => hW.1)), HS.out, ?_⟩
  refine takeH (o := ?o11) 11 (.pointer (some ⟨w.heap.size + 1, 3, none⟩)) ?h11 ?r11
  case h11 => simp only [aT, aS, aZ]; rfl
  refine ⟨_, by simp [Act.put]; rfl, by kernel_rfl, by kernel_rfl, by kernel_rfl, fun _ _ _ h => h, (.inl ⟨rfl, fun W _ => by go_simp⟩), HS.out, ?_⟩
  refine takeH (o := ?o12) 12 (.agg #[.int .i64 y.sk.count, .int .i64 y.sk.sum, .int .i64 y.sk.min, .int .i64 y.sk.max, .slice b1 m1 d1, .slice b2 m2 d2, .slice b3 m3 d3]) ?h12 ?r12
  case h12 => simp only [aT, aS, aZ]; rfl
  refine ⟨_, by simp [Act.put]; rfl, by kernel_rfl, by kernel_rfl, by kernel_rfl, fun _ _ _ h => h, (yields_cut 31 (w.heap.size + 1) 3 7 _ #[.int .i64 y.sk.count, .int .i64 y.sk.sum, .int .i64 y.sk.min, .int .i64 y.sk.max, .slice b1 m1 d1, .slice b2 m2 d2, .slice b3 m3 d3] 33 _ rfl rfl rfl Tryz.underlying31 rfl (by kernel_rfl) (by simp) rfl (fun W hW => hW.2)), HS.out, ?_⟩
  refine onlyH (o := ?o13) 8 (by kernel_rfl) ?h13 ?r13
  case h13 => simp only [aT, aS, aZ]; rfl
  intro K hK
  refine op_call2' 85 _ _ _ Tryz.f85 (fun v w' => ∃ a len cap F, v = .slice a len cap ∧ RdP w' a len (joinTo x.ids y.ids y.ids.length) F ∧ Own w0.drew.heap.size w' F ∧ Below w0.drew.heap.size w0.drew w' ∧ Capd a len cap) rfl rfl Tryz.func85 (by kernel_rfl) (by kernel_rfl) ((l5Join_any p q l k g j x.ids y.ids F G w0.drew (HP.out.1.below HZ.out.2) (HP.out.2.1.below HZ.out.2) HP.out.2.2.1 HP.out.2.2.2 (inb_iff.1 (ok_inb (En.ok_ids HO.out.1).1)) (inb_iff.1 (ok_inb (En.ok_ids HO.out.2).1))).mono (by rintro e w' ⟨a, len, cap, F, rfl, h1, h2, h3, h4⟩; exact ⟨_, rfl, a, len, cap, F, rfl, h1, h2, h3, h4⟩)) ?_
  rintro _ w1 ⟨aj, lj, cj, Fj, rfl, rj, oj, bz, hcj⟩
  have HCJ : Hid (Capd aj lj cj) := hcj
  clear hcj
  refine ⟨_, by simp [Act.put]; rfl, hK _ _ ⟨⟨HS.out.1.below bz, HS.out.2.below bz⟩, ?_⟩⟩
  have HJ : Hid (RdP w1 aj lj (joinTo x.ids y.ids y.ids.length) Fj ∧ Own (w.heap.size + 3) w1 Fj) := ⟨rj, oj.mono (by omega)⟩
  have HS1 : Hid (Blk w1 w.heap.size #[.int .i64 x.key, .int .i64 x.window, .slice p l g, .int .i64 x.sk.count, .int .i64 x.sk.sum, .int .i64 x.sk.min, .int .i64 x.sk.max, .slice a1 n1 c1, .slice a2 n2 c2, .slice a3 n3 c3] 33 ∧ Blk w1 (w.heap.size + 1) #[.int .i64 y.key, .int .i64 y.window, .slice q k j, .int .i64 y.sk.count, .int .i64 y.sk.sum, .int .i64 y.sk.min, .int .i64 y.sk.max, .slice b1 m1 d1, .slice b2 m2 d2, .slice b3 m3 d3] 33) := ⟨HS.out.1.below bz, HS.out.2.below bz⟩
  have HZ1 : Hid (Blk w1 (w.heap.size + 1 + 1) #[.int .i64 0, .int .i64 0, .slice none 0 0, .int .i64 0, .int .i64 0, .int .i64 0, .int .i64 0, .slice none 0 0, .slice none 0 0, .slice none 0 0] 33 ∧ Below w.heap.size w w1) := ⟨HZ.out.1.below bz, Below.next HZ.out.2 bz⟩
  clear hK bz rj oj HS HZ
  refine onlyH (o := ?o14) 13 (by kernel_rfl) ?h14 ?r14
  case h14 => simp only [aT, aS, aZ]; rfl
  intro K hK
  refine op_call2' 86 _ _ _ Tryz.f86 (fun v w' => ∃ X, RdSk w' v (x.sk.merge y.sk) X ∧ Own w1.heap.size w' X ∧ Below w1.heap.size w1 w') rfl rfl Tryz.func86 (by kernel_rfl) (by kernel_rfl) ((l3Merge_any _ _ x.sk y.sk F' G' w1 (HR.out.1.below HZ1.out.2) (HR.out.2.below HZ1.out.2) (En.ok_sum HO.out.1) (En.ok_sum HO.out.2)).mono (by rintro e w' ⟨v, X, rfl, h1, h2, h3⟩; exact ⟨_, rfl, X, h1, h2, h3⟩)) ?_
  rintro vm w2 ⟨X, rm, om, bz⟩
  obtain ⟨e1, r1, f1, e2, r2, f2, e3, r3, f3, rfl⟩ := rm.cells7
  refine ⟨_, by simp [Act.put]; rfl, hK _ _ ⟨⟨HS1.out.1.below bz, HS1.out.2.below bz⟩, ?_⟩⟩
  obtain ⟨M, hM⟩ : ∃ M, M = x.sk.merge y.sk := ⟨_, rfl⟩
  rw [← hM] at rm ⊢
  have HM : Hid (M = x.sk.merge y.sk) := hM
  have HS2 : Hid (Blk w2 w.heap.size #[.int .i64 x.key, .int .i64 x.window, .slice p l g, .int .i64 x.sk.count, .int .i64 x.sk.sum, .int .i64 x.sk.min, .int .i64 x.sk.max, .slice a1 n1 c1, .slice a2 n2 c2, .slice a3 n3 c3] 33 ∧ Blk w2 (w.heap.size + 1) #[.int .i64 y.key, .int .i64 y.window, .slice q k j, .int .i64 y.sk.count, .int .i64 y.sk.sum, .int .i64 y.sk.min, .int .i64 y.sk.max, .slice b1 m1 d1, .slice b2 m2 d2, .slice b3 m3 d3] 33) := ⟨HS1.out.1.below bz, HS1.out.2.below bz⟩
  have HZ2 : Hid (Blk w2 (w.heap.size + 1 + 1) #[.int .i64 0, .int .i64 0, .slice none 0 0, .int .i64 0, .int .i64 0, .int .i64 0, .int .i64 0, .slice none 0 0, .slice none 0 0, .slice none 0 0] 33 ∧ Below w.heap.size w w2) := ⟨HZ1.out.1.below bz, Below.next HZ1.out.2 bz⟩
  have HJ2 : Hid (RdP w2 aj lj (joinTo x.ids y.ids y.ids.length) Fj ∧ Own (w.heap.size + 3) w2 Fj ∧ RdSk w2 (.agg #[.int .i64 M.count, .int .i64 M.sum, .int .i64 M.min, .int .i64 M.max, .slice e1 r1 f1, .slice e2 r2 f2, .slice e3 r3 f3]) M X ∧ Own (w.heap.size + 3) w2 X ∧ ∀ b ∈ Fj, b ∉ X) := ⟨HJ.out.1.below bz, HJ.out.2.below HJ.out.1.lt bz, rm, om.mono (by have := HZ1.out.1.lt; omega), fun b hb hx => by have := HJ.out.1.lt b hb; have := om.ge b hx; omega⟩
  clear hK bz rm om HS1 HZ1 HJ hM
  refine takeH (o := ?o15) 14 (.agg #[.int .i64 x.key, .int .i64 x.window, .slice aj lj cj, .int .i64 M.count, .int .i64 M.sum, .int .i64 M.min, .int .i64 M.max, .slice e1 r1 f1, .slice e2 r2 f2, .slice e3 r3 f3]) ?h15 ?r15
  case h15 => simp only [aT, aS, aZ]; rfl
  refine ⟨_, by simp [Act.put]; rfl, by kernel_rfl, by kernel_rfl, by kernel_rfl, fun _ _ _ h => h, (.inl ⟨rfl, fun W _ => by go_simp⟩), HS2.out, ?_⟩
  refine onlyH (o := ?o16) 15 (by kernel_rfl) ?h16 ?r16
  case h16 => simp only [aT, aS, aZ]; rfl
  intro K hK
  refine op_store 33 (w.heap.size + 1 + 1) #[.int .i64 0, .int .i64 0, .slice none 0 0, .int .i64 0, .int .i64 0, .int .i64 0, .int .i64 0, .slice none 0 0, .slice none 0 0, .slice none 0 0] #[.int .i64 x.key, .int .i64 x.window, .slice aj lj cj, .int .i64 M.count, .int .i64 M.sum, .int .i64 M.min, .int .i64 M.max, .slice e1 r1 f1, .slice e2 r2 f2, .slice e3 r3 f3] 33 rfl rfl rfl rfl HZ2.out.1 infoEnA rfl (by simp [Value.oneCell']) ⟨_, by simp [Act.put]; rfl, hK _ _ ⟨⟨HS2.out.1.setRowOther (by omega), HS2.out.2.setRowOther (by omega)⟩, ?_⟩⟩
  clear hK
  refine wpAnyH_done (by kernel_rfl) ?_ _
  have nf : w.heap.size + 1 + 1 ∉ Fj := fun hx => by have := HJ2.out.2.1.ge _ hx; omega
  have nx : w.heap.size + 1 + 1 ∉ X := fun hx => by have := HJ2.out.2.2.2.1.ge _ hx; omega
  obtain ⟨E, hE⟩ : ∃ E : Array Value, E = #[.int .i64 x.key, .int .i64 x.window, .slice aj lj cj, .int .i64 M.count, .int .i64 M.sum, .int .i64 M.min, .int .i64 M.max, .slice e1 r1 f1, .slice e2 r2 f2, .slice e3 r3 f3] := ⟨_, rfl⟩
  rw [← hE]
  obtain ⟨w3, hw3⟩ : ∃ W, W = w2.setRow (w.heap.size + 1 + 1) E := ⟨_, rfl⟩
  have HF : Hid (Blk w3 (w.heap.size + 1 + 1) E 33 ∧ RdP w3 aj lj (joinTo x.ids y.ids y.ids.length) Fj ∧ Own w.heap.size w3 Fj ∧ RdSk w3 (.agg #[.int .i64 M.count, .int .i64 M.sum, .int .i64 M.min, .int .i64 M.max, .slice e1 r1 f1, .slice e2 r2 f2, .slice e3 r3 f3]) M X ∧ Own w.heap.size w3 X ∧ (∀ b ∈ Fj, b ∉ X) ∧ Below w.heap.size w w3) := by
    rw [hw3]
    exact ⟨HZ2.out.1.setRow, HJ2.out.1.agree (Agree.row nf E), (HJ2.out.2.1.agree (Agree.row nf E)).mono (by omega), HJ2.out.2.2.1.agree (Agree.row nx E), (HJ2.out.2.2.2.1.agree (Agree.row nx E)).mono (by omega), HJ2.out.2.2.2.2, below_setRow HZ2.out.2 (by omega) _⟩
  have HE : Hid (E = #[.int .i64 x.key, .int .i64 x.window, .slice aj lj cj, .int .i64 M.count, .int .i64 M.sum, .int .i64 M.min, .int .i64 M.max, .slice e1 r1 f1, .slice e2 r2 f2, .slice e3 r3 f3] ∧ E.size = 10) := ⟨hE, by rw [hE]; rfl⟩
  rw [← hw3]
  clear hE hw3 HJ2 HZ2 HS2 nf nx
  go_wp2
  refine bodyPost_ret (results_cell_row Tryz.results40 _ _ (w.heap.size + 1 + 1) _ _ (0, 0) _ rfl HF.out.1 Tryz.underlying33 rfl (by rw [HE.out.2]; exact infoEnA)) rfl ?_
  have hM := HM.out
  subst hM
  exact ⟨_, Fj, X, rfl, ⟨aj, lj, cj, e1, r1, f1, e2, r2, f2, e3, r3, f3, by rw [HE.out.1]; rfl, HF.out.2.1, HF.out.2.2.2.1, HCJ.out⟩, HF.out.2.2.1, HF.out.2.2.2.2.1, HF.out.2.2.2.2.2.1, HF.out.2.2.2.2.2.2⟩
end Go.Proofs.YtillnoeailnnfaaGreat
