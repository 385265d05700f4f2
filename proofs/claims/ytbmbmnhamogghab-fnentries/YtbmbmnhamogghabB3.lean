/- Several texts of mine, laid together. No statement of the seat is proved here. -/
import Derived.Test.YtbmbmnhamogghabItModel
import Derived.Test.YtbmbmnhamogghabSkMergeF
import Derived.Test.YtbmbmnhamogghabB1
import Derived.Test.YtbmbmnhamogghabWhole
import Derived.Laws.ResultCell
import Derived.Test.YtbmbmnhamogghabSkShape
import Derived.Deep.DeepCutAuto
import Derived.Test.YtbmbmnhamogghabB2
/- The walks through the model's adding up of two entries. No statement of the seat is proved here. -/
namespace Go.Proofs.Ytbmbmnhamogghab
open Go.RowKit
theorem En.ok_ids {x : En} (h : x.ok = true) : x.ids.ok = true ∧ 0 < x.ids.length := by
  unfold En.ok at h
  simp only [Bool.and_eq_true, decide_eq_true_eq] at h
  exact ⟨h.1.2, h.1.1.2⟩
theorem En.ok_sum {x : En} (h : x.ok = true) : x.sk.ok = true := by
  unfold En.ok at h
  simp only [Bool.and_eq_true] at h
  exact h.2
def En.add (x y : En) : En := ⟨x.key, x.window, joinTo x.ids y.ids y.ids.length, x.sk.merge y.sk⟩
theorem three_madeE (w : World) (A B Z : Array Value) (t : TypeId) : Blk (((w.alloc (.cells A t)).alloc (.cells B t)).alloc (.cells Z t)) w.heap.size A t ∧ Blk (((w.alloc (.cells A t)).alloc (.cells B t)).alloc (.cells Z t)) (w.heap.size + 1) B t ∧ Blk (((w.alloc (.cells A t)).alloc (.cells B t)).alloc (.cells Z t)) (w.heap.size + 1 + 1) Z t ∧ Below w.heap.size w (((w.alloc (.cells A t)).alloc (.cells B t)).alloc (.cells Z t)) := by
  have T := Three.made w A t B Z t
  exact ⟨T.box, T.res, T.loc, T.bel⟩
set_option maxRecDepth 100000 in
set_option maxHeartbeats 8000000 in
theorem l6Add_any (v u : Value) (x y : En) (F F' G G' : List Nat) (w : World) (h : RdEn w v x F F') (k : RdEn w u y G G') (hx : x.ok = true) (hy : y.ok = true) (hlen : x.ids.length + y.ids.length ≤ 2097152) :
    Calls Try.prog 30 #[v, u] w fun e w' => NewEn w (x.add y) e w' := by
  obtain ⟨p, l, g, a1, n1, c1, a2, n2, c2, a3, n3, c3, rfl, px, rx, _⟩ := h
  obtain ⟨q, k, j, b1, m1, d1, b2, m2, d2, b3, m3, d3, rfl, py, ry, _⟩ := k
  have HP : Hid (RdP w p l x.ids F ∧ RdP w q k y.ids G ∧ l + k ≤ 2097152 ∧ (p = none → g = 0)) := ⟨px, py, by rw [← px.length, ← py.length]; exact hlen, fun e => by
    rcases px.cells with ⟨h0, _⟩ | ⟨b, off, _, e2, _⟩
    · have := (En.ok_ids hx).2; have := px.length; omega
    · rw [e] at e2; cases e2⟩
  have HR : Hid (RdSk w (.agg #[.int .i64 x.sk.count, .int .i64 x.sk.sum, .int .i64 x.sk.min, .int .i64 x.sk.max, .slice a1 n1 c1, .slice a2 n2 c2, .slice a3 n3 c3]) x.sk F' ∧ RdSk w (.agg #[.int .i64 y.sk.count, .int .i64 y.sk.sum, .int .i64 y.sk.min, .int .i64 y.sk.max, .slice b1 m1 d1, .slice b2 m2 d2, .slice b3 m3 d3]) y.sk G') := ⟨rx, ry⟩
  have HO : Hid (x.ok = true ∧ y.ok = true) := ⟨hx, hy⟩
  clear px py rx ry hx hy hlen
  go_enter Try.func30, Try.ntmps30
  go_wp2
  have TM := three_madeE w #[.int .i64 x.key, .int .i64 x.window, .slice p l g, .int .i64 x.sk.count, .int .i64 x.sk.sum, .int .i64 x.sk.min, .int .i64 x.sk.max, .slice a1 n1 c1, .slice a2 n2 c2, .slice a3 n3 c3] #[.int .i64 y.key, .int .i64 y.window, .slice q k j, .int .i64 y.sk.count, .int .i64 y.sk.sum, .int .i64 y.sk.min, .int .i64 y.sk.max, .slice b1 m1 d1, .slice b2 m2 d2, .slice b3 m3 d3] #[.int .i64 0, .int .i64 0, .slice none 0 0, .int .i64 0, .int .i64 0, .int .i64 0, .int .i64 0, .slice none 0 0, .slice none 0 0, .slice none 0 0] 30
  obtain ⟨w0, hw0⟩ : ∃ W, W = ((w.alloc (.cells #[.int .i64 x.key, .int .i64 x.window, .slice p l g, .int .i64 x.sk.count, .int .i64 x.sk.sum, .int .i64 x.sk.min, .int .i64 x.sk.max, .slice a1 n1 c1, .slice a2 n2 c2, .slice a3 n3 c3] 30)).alloc (.cells #[.int .i64 y.key, .int .i64 y.window, .slice q k j, .int .i64 y.sk.count, .int .i64 y.sk.sum, .int .i64 y.sk.min, .int .i64 y.sk.max, .slice b1 m1 d1, .slice b2 m2 d2, .slice b3 m3 d3] 30)).alloc (.cells #[.int .i64 0, .int .i64 0, .slice none 0 0, .int .i64 0, .int .i64 0, .int .i64 0, .int .i64 0, .slice none 0 0, .slice none 0 0, .slice none 0 0] 30) := ⟨_, rfl⟩
  rw [← hw0] at TM ⊢
  have HS : Hid (Blk w0.drew w.heap.size #[.int .i64 x.key, .int .i64 x.window, .slice p l g, .int .i64 x.sk.count, .int .i64 x.sk.sum, .int .i64 x.sk.min, .int .i64 x.sk.max, .slice a1 n1 c1, .slice a2 n2 c2, .slice a3 n3 c3] 30 ∧ Blk w0.drew (w.heap.size + 1) #[.int .i64 y.key, .int .i64 y.window, .slice q k j, .int .i64 y.sk.count, .int .i64 y.sk.sum, .int .i64 y.sk.min, .int .i64 y.sk.max, .slice b1 m1 d1, .slice b2 m2 d2, .slice b3 m3 d3] 30) := ⟨TM.1.drew, TM.2.1.drew⟩
  have HZ : Hid (Blk w0.drew (w.heap.size + 1 + 1) #[.int .i64 0, .int .i64 0, .slice none 0 0, .int .i64 0, .int .i64 0, .int .i64 0, .int .i64 0, .slice none 0 0, .slice none 0 0, .slice none 0 0] 30 ∧ Below w.heap.size w w0.drew) := ⟨TM.2.2.1.drew, TM.2.2.2.drew⟩
  have hsz : w.heap.size + 2 < w0.drew.heap.size := by have := HZ.out.1.lt; omega
  clear TM hw0
  refine wp_region_held (S := (fun W => Blk W w.heap.size #[.int .i64 x.key, .int .i64 x.window, .slice p l g, .int .i64 x.sk.count, .int .i64 x.sk.sum, .int .i64 x.sk.min, .int .i64 x.sk.max, .slice a1 n1 c1, .slice a2 n2 c2, .slice a3 n3 c3] 30 ∧ Blk W (w.heap.size + 1) #[.int .i64 y.key, .int .i64 y.window, .slice q k j, .int .i64 y.sk.count, .int .i64 y.sk.sum, .int .i64 y.sk.min, .int .i64 y.sk.max, .slice b1 m1 d1, .slice b2 m2 d2, .slice b3 m3 d3] 30)) (by kernel_rfl) ?_
  change wpAnyH _ _ _ _ _ _ _ _ (World.drew _)
  refine takeH (o := ?o1) 0 (.pointer (some ⟨w.heap.size, 0, none⟩)) ?h1 ?r1
  case h1 => simp only [List.getElem?_toArray, List.getElem?_cons_zero]; rfl
  refine ⟨_, by simp [Act.put]; rfl, by kernel_rfl, by kernel_rfl, by kernel_rfl, fun _ _ _ h => h, (.inl ⟨rfl, fun W _ => by go_simp⟩), HS.out, ?_⟩
  refine takeH (o := ?o2) 1 (.int .i64 x.key) ?h2 ?r2
  case h2 => simp only [List.getElem?_toArray, List.getElem?_cons_succ, List.getElem?_cons_zero]; rfl
  refine ⟨_, by simp [Act.put]; rfl, by kernel_rfl, by kernel_rfl, by kernel_rfl, fun _ _ _ h => h, (.inl ⟨rfl, fun W hW => by have c := hW.1.cell 0; simp only [List.getElem?_toArray, List.getElem?_cons_zero] at c; go_simp⟩), HS.out, ?_⟩
  refine takeH (o := ?o3) 2 (.pointer (some ⟨w.heap.size, 1, none⟩)) ?h3 ?r3
  case h3 => simp only [List.getElem?_toArray, List.getElem?_cons_succ, List.getElem?_cons_zero]; rfl
  refine ⟨_, by simp [Act.put]; rfl, by kernel_rfl, by kernel_rfl, by kernel_rfl, fun _ _ _ h => h, (.inl ⟨rfl, fun W _ => by go_simp⟩), HS.out, ?_⟩
  refine takeH (o := ?o4) 3 (.int .i64 x.window) ?h4 ?r4
  case h4 => simp only [List.getElem?_toArray, List.getElem?_cons_succ, List.getElem?_cons_zero]; rfl
  refine ⟨_, by simp [Act.put]; rfl, by kernel_rfl, by kernel_rfl, by kernel_rfl, fun _ _ _ h => h, (.inl ⟨rfl, fun W hW => by have c := hW.1.cell 1; simp only [List.getElem?_toArray, List.getElem?_cons_succ, List.getElem?_cons_zero] at c; go_simp⟩), HS.out, ?_⟩
  refine takeH (o := ?o5) 4 (.pointer (some ⟨w.heap.size, 2, none⟩)) ?h5 ?r5
  case h5 => simp only [List.getElem?_toArray, List.getElem?_cons_succ, List.getElem?_cons_zero]; rfl
  refine ⟨_, by simp [Act.put]; rfl, by kernel_rfl, by kernel_rfl, by kernel_rfl, fun _ _ _ h => h, (.inl ⟨rfl, fun W _ => by go_simp⟩), HS.out, ?_⟩
  refine takeH (o := ?o6) 5 (.slice p l g) ?h6 ?r6
  case h6 => simp only [List.getElem?_toArray, List.getElem?_cons_succ, List.getElem?_cons_zero]; rfl
  refine ⟨_, by simp [Act.put]; rfl, by kernel_rfl, by kernel_rfl, by kernel_rfl, fun _ _ _ h => h, (.inl ⟨rfl, fun W hW => by have c := hW.1.cell 2; simp only [List.getElem?_toArray, List.getElem?_cons_succ, List.getElem?_cons_zero] at c; go_simp⟩), HS.out, ?_⟩
  refine takeH (o := ?o7) 6 (.pointer (some ⟨w.heap.size + 1, 2, none⟩)) ?h7 ?r7
  case h7 => simp only [List.getElem?_toArray, List.getElem?_cons_succ, List.getElem?_cons_zero]; rfl
  refine ⟨_, by simp [Act.put]; rfl, by kernel_rfl, by kernel_rfl, by kernel_rfl, fun _ _ _ h => h, (.inl ⟨rfl, fun W _ => by go_simp⟩), HS.out, ?_⟩
  refine takeH (o := ?o8) 7 (.slice q k j) ?h8 ?r8
  case h8 => simp only [List.getElem?_toArray, List.getElem?_cons_succ, List.getElem?_cons_zero]; rfl
  refine ⟨_, by simp [Act.put]; rfl, by kernel_rfl, by kernel_rfl, by kernel_rfl, fun _ _ _ h => h, (.inl ⟨rfl, fun W hW => by have c := hW.2.cell 2; simp only [List.getElem?_toArray, List.getElem?_cons_succ, List.getElem?_cons_zero] at c; go_simp⟩), HS.out, ?_⟩
  refine takeH (o := ?o9) 9 (.pointer (some ⟨w.heap.size, 3, none⟩)) ?h9 ?r9
  case h9 => simp only [List.getElem?_toArray, List.getElem?_cons_succ, List.getElem?_cons_zero]; rfl
  refine ⟨_, by simp [Act.put]; rfl, by kernel_rfl, by kernel_rfl, by kernel_rfl, fun _ _ _ h => h, (.inl ⟨rfl, fun W _ => by go_simp⟩), HS.out, ?_⟩
  refine takeH (o := ?o10) 10 (.agg #[.int .i64 x.sk.count, .int .i64 x.sk.sum, .int .i64 x.sk.min, .int .i64 x.sk.max, .slice a1 n1 c1, .slice a2 n2 c2, .slice a3 n3 c3]) ?h10 ?r10
  case h10 => simp only [List.getElem?_toArray, List.getElem?_cons_succ, List.getElem?_cons_zero]; rfl
  refine ⟨_, by simp [Act.put]; rfl, by kernel_rfl, by kernel_rfl, by kernel_rfl, fun _ _ _ h => h, (yields_cut 28 w.heap.size 3 7 _ #[.int .i64 x.sk.count, .int .i64 x.sk.sum, .int .i64 x.sk.min, .int .i64 x.sk.max, .slice a1 n1 c1, .slice a2 n2 c2, .slice a3 n3 c3] 30 _ rfl rfl rfl Try.underlying28 rfl (by kernel_rfl) (by simp) rfl (fun W hW => hW.1)), HS.out, ?_⟩
  refine takeH (o := ?o11) 11 (.pointer (some ⟨w.heap.size + 1, 3, none⟩)) ?h11 ?r11
  case h11 => simp only [List.getElem?_toArray, List.getElem?_cons_succ, List.getElem?_cons_zero]; rfl
  refine ⟨_, by simp [Act.put]; rfl, by kernel_rfl, by kernel_rfl, by kernel_rfl, fun _ _ _ h => h, (.inl ⟨rfl, fun W _ => by go_simp⟩), HS.out, ?_⟩
  refine takeH (o := ?o12) 12 (.agg #[.int .i64 y.sk.count, .int .i64 y.sk.sum, .int .i64 y.sk.min, .int .i64 y.sk.max, .slice b1 m1 d1, .slice b2 m2 d2, .slice b3 m3 d3]) ?h12 ?r12
  case h12 => simp only [List.getElem?_toArray, List.getElem?_cons_succ, List.getElem?_cons_zero]; rfl
  refine ⟨_, by simp [Act.put]; rfl, by kernel_rfl, by kernel_rfl, by kernel_rfl, fun _ _ _ h => h, (yields_cut 28 (w.heap.size + 1) 3 7 _ #[.int .i64 y.sk.count, .int .i64 y.sk.sum, .int .i64 y.sk.min, .int .i64 y.sk.max, .slice b1 m1 d1, .slice b2 m2 d2, .slice b3 m3 d3] 30 _ rfl rfl rfl Try.underlying28 rfl (by kernel_rfl) (by simp) rfl (fun W hW => hW.2)), HS.out, ?_⟩
  refine onlyH (o := ?o13) 8 (by kernel_rfl) ?h13 ?r13
  case h13 => simp only [List.getElem?_toArray, List.getElem?_cons_succ, List.getElem?_cons_zero]; rfl
  intro K hK
  refine op_call2' 65 _ _ _ Try.f65 (fun v w' => ∃ a len cap F, v = .slice a len cap ∧ RdP w' a len (joinTo x.ids y.ids y.ids.length) F ∧ Own w0.drew.heap.size w' F ∧ Below w0.drew.heap.size w0.drew w' ∧ Capd a len cap) rfl rfl Try.func65 (by kernel_rfl) (by kernel_rfl) ((l5Join_any p q l k g j x.ids y.ids F G w0.drew (HP.out.1.below HZ.out.2) (HP.out.2.1.below HZ.out.2) HP.out.2.2.1 HP.out.2.2.2 (inb_iff.1 (ok_inb (En.ok_ids HO.out.1).1)) (inb_iff.1 (ok_inb (En.ok_ids HO.out.2).1))).mono (by rintro e w' ⟨a, len, cap, F, rfl, h1, h2, h3, h4⟩; exact ⟨_, rfl, a, len, cap, F, rfl, h1, h2, h3, h4⟩)) ?_
  rintro _ w1 ⟨aj, lj, cj, Fj, rfl, rj, oj, bz, hcj⟩
  have HCJ : Hid (Capd aj lj cj) := hcj
  clear hcj
  refine ⟨_, by simp [Act.put]; rfl, hK _ _ ⟨⟨HS.out.1.below bz, HS.out.2.below bz⟩, ?_⟩⟩
  have HJ : Hid (RdP w1 aj lj (joinTo x.ids y.ids y.ids.length) Fj ∧ Own (w.heap.size + 3) w1 Fj) := ⟨rj, oj.mono (by omega)⟩
  have HS1 : Hid (Blk w1 w.heap.size #[.int .i64 x.key, .int .i64 x.window, .slice p l g, .int .i64 x.sk.count, .int .i64 x.sk.sum, .int .i64 x.sk.min, .int .i64 x.sk.max, .slice a1 n1 c1, .slice a2 n2 c2, .slice a3 n3 c3] 30 ∧ Blk w1 (w.heap.size + 1) #[.int .i64 y.key, .int .i64 y.window, .slice q k j, .int .i64 y.sk.count, .int .i64 y.sk.sum, .int .i64 y.sk.min, .int .i64 y.sk.max, .slice b1 m1 d1, .slice b2 m2 d2, .slice b3 m3 d3] 30) := ⟨HS.out.1.below bz, HS.out.2.below bz⟩
  have HZ1 : Hid (Blk w1 (w.heap.size + 1 + 1) #[.int .i64 0, .int .i64 0, .slice none 0 0, .int .i64 0, .int .i64 0, .int .i64 0, .int .i64 0, .slice none 0 0, .slice none 0 0, .slice none 0 0] 30 ∧ Below w.heap.size w w1) := ⟨HZ.out.1.below bz, Below.next HZ.out.2 bz⟩
  clear hK bz rj oj HS HZ
  refine onlyH (o := ?o14) 13 (by kernel_rfl) ?h14 ?r14
  case h14 => simp only [List.getElem?_toArray, List.getElem?_cons_succ, List.getElem?_cons_zero]; rfl
  intro K hK
  refine op_call2' 66 _ _ _ Try.f66 (fun v w' => ∃ X, RdSk w' v (x.sk.merge y.sk) X ∧ Own w1.heap.size w' X ∧ Below w1.heap.size w1 w') rfl rfl Try.func66 (by kernel_rfl) (by kernel_rfl) ((l3Merge_any _ _ x.sk y.sk F' G' w1 (HR.out.1.below HZ1.out.2) (HR.out.2.below HZ1.out.2) (En.ok_sum HO.out.1) (En.ok_sum HO.out.2)).mono (by rintro e w' ⟨v, X, rfl, h1, h2, h3⟩; exact ⟨_, rfl, X, h1, h2, h3⟩)) ?_
  rintro vm w2 ⟨X, rm, om, bz⟩
  obtain ⟨e1, r1, f1, e2, r2, f2, e3, r3, f3, rfl⟩ := rm.cells7
  refine ⟨_, by simp [Act.put]; rfl, hK _ _ ⟨⟨HS1.out.1.below bz, HS1.out.2.below bz⟩, ?_⟩⟩
  obtain ⟨M, hM⟩ : ∃ M, M = x.sk.merge y.sk := ⟨_, rfl⟩
  rw [← hM] at rm ⊢
  have HM : Hid (M = x.sk.merge y.sk) := hM
  have HS2 : Hid (Blk w2 w.heap.size #[.int .i64 x.key, .int .i64 x.window, .slice p l g, .int .i64 x.sk.count, .int .i64 x.sk.sum, .int .i64 x.sk.min, .int .i64 x.sk.max, .slice a1 n1 c1, .slice a2 n2 c2, .slice a3 n3 c3] 30 ∧ Blk w2 (w.heap.size + 1) #[.int .i64 y.key, .int .i64 y.window, .slice q k j, .int .i64 y.sk.count, .int .i64 y.sk.sum, .int .i64 y.sk.min, .int .i64 y.sk.max, .slice b1 m1 d1, .slice b2 m2 d2, .slice b3 m3 d3] 30) := ⟨HS1.out.1.below bz, HS1.out.2.below bz⟩
  have HZ2 : Hid (Blk w2 (w.heap.size + 1 + 1) #[.int .i64 0, .int .i64 0, .slice none 0 0, .int .i64 0, .int .i64 0, .int .i64 0, .int .i64 0, .slice none 0 0, .slice none 0 0, .slice none 0 0] 30 ∧ Below w.heap.size w w2) := ⟨HZ1.out.1.below bz, Below.next HZ1.out.2 bz⟩
  have HJ2 : Hid (RdP w2 aj lj (joinTo x.ids y.ids y.ids.length) Fj ∧ Own (w.heap.size + 3) w2 Fj ∧ RdSk w2 (.agg #[.int .i64 M.count, .int .i64 M.sum, .int .i64 M.min, .int .i64 M.max, .slice e1 r1 f1, .slice e2 r2 f2, .slice e3 r3 f3]) M X ∧ Own (w.heap.size + 3) w2 X ∧ ∀ b ∈ Fj, b ∉ X) := ⟨HJ.out.1.below bz, HJ.out.2.below HJ.out.1.lt bz, rm, om.mono (by have := HZ1.out.1.lt; omega), fun b hb hx => by have := HJ.out.1.lt b hb; have := om.ge b hx; omega⟩
  clear hK bz rm om HS1 HZ1 HJ hM
  refine takeH (o := ?o15) 14 (.agg #[.int .i64 x.key, .int .i64 x.window, .slice aj lj cj, .int .i64 M.count, .int .i64 M.sum, .int .i64 M.min, .int .i64 M.max, .slice e1 r1 f1, .slice e2 r2 f2, .slice e3 r3 f3]) ?h15 ?r15
  case h15 => simp only [List.getElem?_toArray, List.getElem?_cons_succ, List.getElem?_cons_zero]; rfl
  refine ⟨_, by simp [Act.put]; rfl, by kernel_rfl, by kernel_rfl, by kernel_rfl, fun _ _ _ h => h, (.inl ⟨rfl, fun W _ => by go_simp⟩), HS2.out, ?_⟩
  refine onlyH (o := ?o16) 15 (by kernel_rfl) ?h16 ?r16
  case h16 => simp only [List.getElem?_toArray, List.getElem?_cons_succ, List.getElem?_cons_zero]; rfl
  intro K hK
  refine op_store 30 (w.heap.size + 1 + 1) #[.int .i64 0, .int .i64 0, .slice none 0 0, .int .i64 0, .int .i64 0, .int .i64 0, .int .i64 0, .slice none 0 0, .slice none 0 0, .slice none 0 0] #[.int .i64 x.key, .int .i64 x.window, .slice aj lj cj, .int .i64 M.count, .int .i64 M.sum, .int .i64 M.min, .int .i64 M.max, .slice e1 r1 f1, .slice e2 r2 f2, .slice e3 r3 f3] 30 rfl rfl rfl rfl HZ2.out.1 infoEnA rfl (by simp [Value.oneCell']) ⟨_, by simp [Act.put]; rfl, hK _ _ ⟨⟨HS2.out.1.setRowOther (by omega), HS2.out.2.setRowOther (by omega)⟩, ?_⟩⟩
  clear hK
  refine wpAnyH_done (by kernel_rfl) ?_ _
  have nf : w.heap.size + 1 + 1 ∉ Fj := fun hx => by have := HJ2.out.2.1.ge _ hx; omega
  have nx : w.heap.size + 1 + 1 ∉ X := fun hx => by have := HJ2.out.2.2.2.1.ge _ hx; omega
  obtain ⟨E, hE⟩ : ∃ E : Array Value, E = #[.int .i64 x.key, .int .i64 x.window, .slice aj lj cj, .int .i64 M.count, .int .i64 M.sum, .int .i64 M.min, .int .i64 M.max, .slice e1 r1 f1, .slice e2 r2 f2, .slice e3 r3 f3] := ⟨_, rfl⟩
  rw [← hE]
  obtain ⟨w3, hw3⟩ : ∃ W, W = w2.setRow (w.heap.size + 1 + 1) E := ⟨_, rfl⟩
  have HF : Hid (Blk w3 (w.heap.size + 1 + 1) E 30 ∧ RdP w3 aj lj (joinTo x.ids y.ids y.ids.length) Fj ∧ Own w.heap.size w3 Fj ∧ RdSk w3 (.agg #[.int .i64 M.count, .int .i64 M.sum, .int .i64 M.min, .int .i64 M.max, .slice e1 r1 f1, .slice e2 r2 f2, .slice e3 r3 f3]) M X ∧ Own w.heap.size w3 X ∧ (∀ b ∈ Fj, b ∉ X) ∧ Below w.heap.size w w3) := by
    rw [hw3]
    exact ⟨HZ2.out.1.setRow, HJ2.out.1.agree (Agree.row nf E), (HJ2.out.2.1.agree (Agree.row nf E)).mono (by omega), HJ2.out.2.2.1.agree (Agree.row nx E), (HJ2.out.2.2.2.1.agree (Agree.row nx E)).mono (by omega), HJ2.out.2.2.2.2, below_setRow HZ2.out.2 (by omega) _⟩
  have HE : Hid (E = #[.int .i64 x.key, .int .i64 x.window, .slice aj lj cj, .int .i64 M.count, .int .i64 M.sum, .int .i64 M.min, .int .i64 M.max, .slice e1 r1 f1, .slice e2 r2 f2, .slice e3 r3 f3] ∧ E.size = 10) := ⟨hE, by rw [hE]; rfl⟩
  rw [← hw3]
  clear hE hw3 HJ2 HZ2 HS2 nf nx
  go_wp2
  refine bodyPost_ret (results_cell_row Try.results30 _ _ (w.heap.size + 1 + 1) _ _ (0, 0) _ rfl HF.out.1 Try.underlying30 rfl (by rw [HE.out.2]; exact infoEnA)) rfl ?_
  have hM := HM.out
  subst hM
  exact ⟨_, Fj, X, rfl, ⟨aj, lj, cj, e1, r1, f1, e2, r2, f2, e3, r3, f3, by rw [HE.out.1]; rfl, HF.out.2.1, HF.out.2.2.2.1, HCJ.out⟩, HF.out.2.2.1, HF.out.2.2.2.2.1, HF.out.2.2.2.2.2.1, HF.out.2.2.2.2.2.2⟩
end Go.Proofs.Ytbmbmnhamogghab
/- The walk through the model's Merge. No statement of the seat is proved here. -/
namespace Go.Proofs.Ytbmbmnhamogghab
open Go.RowKit

def Sk.mergeR (s t : Sk) : Sk := if s.ok && t.ok then s.merge t else Sk.zero
/-- What a merging answers. -/
def NewSk2 (w : World) (s : Sk) (d : Bool) (e : Ending) (w' : World) : Prop :=
  ∃ v F, e = .returned (.tuple #[v, .bool d]) ∧ RdSk w' v s F ∧ Own w.heap.size w' F ∧ Below w.heap.size w w'
end Go.Proofs.Ytbmbmnhamogghab
/- The walk through the model's EntryAdd. No statement of the seat is proved here. -/
namespace Go.Proofs.Ytbmbmnhamogghab
open Go.RowKit
def En.addOk (x y : En) : Bool := x.ok && y.ok && decide (x.key = y.key) && decide (x.window = y.window) && x.ids.apart y.ids
def En.addR (x y : En) : En := if x.addOk y = true then x.add y else En.zero
theorem En.addR_not {x y : En} (h : x.addOk y = false) : x.addR y = En.zero := by unfold En.addR; rw [h]; rfl
theorem En.addR_yes {x y : En} (h : x.addOk y = true) : x.addR y = x.add y := by unfold En.addR; rw [if_pos h]
set_option maxRecDepth 100000 in
set_option maxHeartbeats 8000000 in
theorem entryAddSpec_any (v u : Value) (x y : En) (F F' G G' : List Nat) (w : World) (h : RdEn w v x F F') (k : RdEn w u y G G') (hx : x.sk.wide) (hy : y.sk.wide) (hlen : x.ids.length + y.ids.length ≤ 2097152) :
    Calls Try.prog 8 #[v, u] w fun e w' => NewEn2 w (x.addR y) (x.addOk y) e w' := by
  have HX : Hid (RdEn w v x F F' ∧ RdEn w u y G G' ∧ x.sk.wide ∧ y.sk.wide ∧ x.ids.length + y.ids.length ≤ 2097152) := ⟨h, k, hx, hy, hlen⟩
  obtain ⟨p, l, g, a1, n1, c1, a2, n2, c2, a3, n3, c3, rfl, px, _⟩ := h
  obtain ⟨q, k, j, b1, m1, d1, b2, m2, d2, b3, m3, d3, rfl, py, _⟩ := k
  have HP : Hid (RdP w p l x.ids F ∧ RdP w q k y.ids G ∧ l ≤ 2097152 ∧ k ≤ 2097152) := ⟨px, py, by rw [← px.length]; omega, by rw [← py.length]; omega⟩
  have HT : Hid (Three w #[.int .i64 x.key, .int .i64 x.window, .slice p l g, .int .i64 x.sk.count, .int .i64 x.sk.sum, .int .i64 x.sk.min, .int .i64 x.sk.max, .slice a1 n1 c1, .slice a2 n2 c2, .slice a3 n3 c3] 30 #[.int .i64 y.key, .int .i64 y.window, .slice q k j, .int .i64 y.sk.count, .int .i64 y.sk.sum, .int .i64 y.sk.min, .int .i64 y.sk.max, .slice b1 m1 d1, .slice b2 m2 d2, .slice b3 m3 d3] #[.int .i64 0, .int .i64 0, .slice none 0 0, .int .i64 0, .int .i64 0, .int .i64 0, .int .i64 0, .slice none 0 0, .slice none 0 0, .slice none 0 0] 30 (((w.alloc (.cells #[.int .i64 x.key, .int .i64 x.window, .slice p l g, .int .i64 x.sk.count, .int .i64 x.sk.sum, .int .i64 x.sk.min, .int .i64 x.sk.max, .slice a1 n1 c1, .slice a2 n2 c2, .slice a3 n3 c3] 30)).alloc (.cells #[.int .i64 y.key, .int .i64 y.window, .slice q k j, .int .i64 y.sk.count, .int .i64 y.sk.sum, .int .i64 y.sk.min, .int .i64 y.sk.max, .slice b1 m1 d1, .slice b2 m2 d2, .slice b3 m3 d3] 30)).alloc (.cells #[.int .i64 0, .int .i64 0, .slice none 0 0, .int .i64 0, .int .i64 0, .int .i64 0, .int .i64 0, .slice none 0 0, .slice none 0 0, .slice none 0 0] 30))) := Three.made ..
  clear px py hx hy hlen
  go_enter Try.func8, Try.ntmps8
  go_wp2_with (first | go_skip | (with_reducible refine stopLoad 30 rfl ?_))
  refine load_any 30 w.heap.size _ 30 _ HT.out.box rfl rfl rfl Try.underlying30 rfl (by kernel_rfl) ?_
  go_wp2_with fail
  refine (entryOkSpec_any _ x F F' _ (HX.out.1.below HT.out.bel) HX.out.2.2.1 (by have := HX.out.2.2.2.2; omega)).mono ?_
  rintro e w1 ⟨rfl, hb⟩
  have HT1 : Hid (Three w #[.int .i64 x.key, .int .i64 x.window, .slice p l g, .int .i64 x.sk.count, .int .i64 x.sk.sum, .int .i64 x.sk.min, .int .i64 x.sk.max, .slice a1 n1 c1, .slice a2 n2 c2, .slice a3 n3 c3] 30 #[.int .i64 y.key, .int .i64 y.window, .slice q k j, .int .i64 y.sk.count, .int .i64 y.sk.sum, .int .i64 y.sk.min, .int .i64 y.sk.max, .slice b1 m1 d1, .slice b2 m2 d2, .slice b3 m3 d3] #[.int .i64 0, .int .i64 0, .slice none 0 0, .int .i64 0, .int .i64 0, .int .i64 0, .int .i64 0, .slice none 0 0, .slice none 0 0, .slice none 0 0] 30 w1) := HT.out.below hb
  obtain ⟨d1', hd⟩ : ∃ d, d = x.ok := ⟨_, rfl⟩
  rw [← hd]
  have HD1 : Hid (d1' = x.ok) := hd
  clear hd hb HT
  cases d1'
  · have HV : Hid (x.addOk y = false) := by show _ = _; unfold En.addOk; rw [← HD1.out]; rfl
    go_wp2_with (first | go_skip | (with_reducible refine stopStore 30 rfl ?_))
    refine store_known 30 (w.heap.size + 1 + 1) #[.int .i64 0, .int .i64 0, .slice none 0 0, .int .i64 0, .int .i64 0, .int .i64 0, .int .i64 0, .slice none 0 0, .slice none 0 0, .slice none 0 0] #[.int .i64 0, .int .i64 0, .slice none 0 0, .int .i64 0, .int .i64 0, .int .i64 0, .int .i64 0, .slice none 0 0, .slice none 0 0, .slice none 0 0] 30 HT1.out.loc rfl rfl rfl rfl infoEnA rfl (by simp [Value.oneCell']) ?_
    have HE : Hid (Blk _ (w.heap.size + 1 + 1) #[.int .i64 0, .int .i64 0, .slice none 0 0, .int .i64 0, .int .i64 0, .int .i64 0, .int .i64 0, .slice none 0 0, .slice none 0 0, .slice none 0 0] 30 ∧ Below w.heap.size w _) := ⟨HT1.out.loc.setRow (ds := #[.int .i64 0, .int .i64 0, .slice none 0 0, .int .i64 0, .int .i64 0, .int .i64 0, .int .i64 0, .slice none 0 0, .slice none 0 0, .slice none 0 0]), below_setRow (g := w.heap.size + 1 + 1) HT1.out.bel (by omega) #[.int .i64 0, .int .i64 0, .slice none 0 0, .int .i64 0, .int .i64 0, .int .i64 0, .int .i64 0, .slice none 0 0, .slice none 0 0, .slice none 0 0]⟩
    go_wp2
    refine bodyPost_ret (results_row_tmp Try.results8 _ _ (w.heap.size + 1 + 1) _ _ (0, 0) _ rfl HE.out.1 Try.underlying30 rfl infoEnA) rfl ?_
    rw [En.addR_not HV.out, HV.out]
    exact ⟨_, [], [], rfl, rdEn_zero _, Own.nil, Own.nil, by simp, HE.out.2⟩
  go_wp2_with (first | go_skip | (with_reducible refine stopLoad 30 rfl ?_))
  refine load_any 30 (w.heap.size + 1) _ 30 _ HT1.out.res rfl rfl rfl Try.underlying30 rfl (by kernel_rfl) ?_
  go_wp2_with fail
  refine (entryOkSpec_any _ y G G' _ (HX.out.2.1.below HT1.out.bel) HX.out.2.2.2.1 (by have := HX.out.2.2.2.2; omega)).mono ?_
  rintro e w2 ⟨rfl, hb⟩
  have HT2 : Hid (Three w #[.int .i64 x.key, .int .i64 x.window, .slice p l g, .int .i64 x.sk.count, .int .i64 x.sk.sum, .int .i64 x.sk.min, .int .i64 x.sk.max, .slice a1 n1 c1, .slice a2 n2 c2, .slice a3 n3 c3] 30 #[.int .i64 y.key, .int .i64 y.window, .slice q k j, .int .i64 y.sk.count, .int .i64 y.sk.sum, .int .i64 y.sk.min, .int .i64 y.sk.max, .slice b1 m1 d1, .slice b2 m2 d2, .slice b3 m3 d3] #[.int .i64 0, .int .i64 0, .slice none 0 0, .int .i64 0, .int .i64 0, .int .i64 0, .int .i64 0, .slice none 0 0, .slice none 0 0, .slice none 0 0] 30 w2) := HT1.out.below hb
  obtain ⟨d2', hd⟩ : ∃ d, d = y.ok := ⟨_, rfl⟩
  rw [← hd]
  have HD2 : Hid (d2' = y.ok) := hd
  clear hd hb HT1
  cases d2'
  · have HV : Hid (x.addOk y = false) := by show _ = _; unfold En.addOk; rw [← HD2.out]; simp
    go_wp2_with (first | go_skip | (with_reducible refine stopStore 30 rfl ?_))
    refine store_known 30 (w.heap.size + 1 + 1) #[.int .i64 0, .int .i64 0, .slice none 0 0, .int .i64 0, .int .i64 0, .int .i64 0, .int .i64 0, .slice none 0 0, .slice none 0 0, .slice none 0 0] #[.int .i64 0, .int .i64 0, .slice none 0 0, .int .i64 0, .int .i64 0, .int .i64 0, .int .i64 0, .slice none 0 0, .slice none 0 0, .slice none 0 0] 30 HT2.out.loc rfl rfl rfl rfl infoEnA rfl (by simp [Value.oneCell']) ?_
    have HE : Hid (Blk _ (w.heap.size + 1 + 1) #[.int .i64 0, .int .i64 0, .slice none 0 0, .int .i64 0, .int .i64 0, .int .i64 0, .int .i64 0, .slice none 0 0, .slice none 0 0, .slice none 0 0] 30 ∧ Below w.heap.size w _) := ⟨HT2.out.loc.setRow (ds := #[.int .i64 0, .int .i64 0, .slice none 0 0, .int .i64 0, .int .i64 0, .int .i64 0, .int .i64 0, .slice none 0 0, .slice none 0 0, .slice none 0 0]), below_setRow (g := w.heap.size + 1 + 1) HT2.out.bel (by omega) #[.int .i64 0, .int .i64 0, .slice none 0 0, .int .i64 0, .int .i64 0, .int .i64 0, .int .i64 0, .slice none 0 0, .slice none 0 0, .slice none 0 0]⟩
    go_wp2
    refine bodyPost_ret (results_row_tmp Try.results8 _ _ (w.heap.size + 1 + 1) _ _ (0, 0) _ rfl HE.out.1 Try.underlying30 rfl infoEnA) rfl ?_
    rw [En.addR_not HV.out, HV.out]
    exact ⟨_, [], [], rfl, rdEn_zero _, Own.nil, Own.nil, by simp, HE.out.2⟩
  have k0 := HT2.out.box.cell 0
  have k1 := HT2.out.box.cell 1
  have k2 := HT2.out.box.cell 2
  have j0 := HT2.out.res.cell 0
  have j1 := HT2.out.res.cell 1
  have j2 := HT2.out.res.cell 2
  simp only [List.getElem?_toArray, List.getElem?_cons_succ, List.getElem?_cons_zero] at k0 k1 k2 j0 j1 j2
  by_cases h_key : x.key = y.key
  rotate_left
  · have e_key : (x.key != y.key) = true := by simpa using h_key
    have HV : Hid (x.addOk y = false) := by show _ = _; unfold En.addOk; rw [dec_false h_key]; simp
    clear h_key
    go_wp2_with (first | go_skip | (with_reducible refine stopStore 30 rfl ?_))
    refine store_known 30 (w.heap.size + 1 + 1) #[.int .i64 0, .int .i64 0, .slice none 0 0, .int .i64 0, .int .i64 0, .int .i64 0, .int .i64 0, .slice none 0 0, .slice none 0 0, .slice none 0 0] #[.int .i64 0, .int .i64 0, .slice none 0 0, .int .i64 0, .int .i64 0, .int .i64 0, .int .i64 0, .slice none 0 0, .slice none 0 0, .slice none 0 0] 30 HT2.out.loc rfl rfl rfl rfl infoEnA rfl (by simp [Value.oneCell']) ?_
    have HE : Hid (Blk _ (w.heap.size + 1 + 1) #[.int .i64 0, .int .i64 0, .slice none 0 0, .int .i64 0, .int .i64 0, .int .i64 0, .int .i64 0, .slice none 0 0, .slice none 0 0, .slice none 0 0] 30 ∧ Below w.heap.size w _) := ⟨HT2.out.loc.setRow (ds := #[.int .i64 0, .int .i64 0, .slice none 0 0, .int .i64 0, .int .i64 0, .int .i64 0, .int .i64 0, .slice none 0 0, .slice none 0 0, .slice none 0 0]), below_setRow (g := w.heap.size + 1 + 1) HT2.out.bel (by omega) #[.int .i64 0, .int .i64 0, .slice none 0 0, .int .i64 0, .int .i64 0, .int .i64 0, .int .i64 0, .slice none 0 0, .slice none 0 0, .slice none 0 0]⟩
    go_wp2
    refine bodyPost_ret (results_row_tmp Try.results8 _ _ (w.heap.size + 1 + 1) _ _ (0, 0) _ rfl HE.out.1 Try.underlying30 rfl infoEnA) rfl ?_
    rw [En.addR_not HV.out, HV.out]
    exact ⟨_, [], [], rfl, rdEn_zero _, Own.nil, Own.nil, by simp, HE.out.2⟩
  have e_key : (x.key != y.key) = false := by simpa using h_key
  have H_key : Hid (x.key = y.key) := h_key
  clear h_key
  by_cases h_window : x.window = y.window
  rotate_left
  · have e_window : (x.window != y.window) = true := by simpa using h_window
    have HV : Hid (x.addOk y = false) := by show _ = _; unfold En.addOk; rw [dec_false h_window]; simp
    clear h_window
    go_wp2_with (first | go_skip | (with_reducible refine stopStore 30 rfl ?_))
    refine store_known 30 (w.heap.size + 1 + 1) #[.int .i64 0, .int .i64 0, .slice none 0 0, .int .i64 0, .int .i64 0, .int .i64 0, .int .i64 0, .slice none 0 0, .slice none 0 0, .slice none 0 0] #[.int .i64 0, .int .i64 0, .slice none 0 0, .int .i64 0, .int .i64 0, .int .i64 0, .int .i64 0, .slice none 0 0, .slice none 0 0, .slice none 0 0] 30 HT2.out.loc rfl rfl rfl rfl infoEnA rfl (by simp [Value.oneCell']) ?_
    have HE : Hid (Blk _ (w.heap.size + 1 + 1) #[.int .i64 0, .int .i64 0, .slice none 0 0, .int .i64 0, .int .i64 0, .int .i64 0, .int .i64 0, .slice none 0 0, .slice none 0 0, .slice none 0 0] 30 ∧ Below w.heap.size w _) := ⟨HT2.out.loc.setRow (ds := #[.int .i64 0, .int .i64 0, .slice none 0 0, .int .i64 0, .int .i64 0, .int .i64 0, .int .i64 0, .slice none 0 0, .slice none 0 0, .slice none 0 0]), below_setRow (g := w.heap.size + 1 + 1) HT2.out.bel (by omega) #[.int .i64 0, .int .i64 0, .slice none 0 0, .int .i64 0, .int .i64 0, .int .i64 0, .int .i64 0, .slice none 0 0, .slice none 0 0, .slice none 0 0]⟩
    go_wp2
    refine bodyPost_ret (results_row_tmp Try.results8 _ _ (w.heap.size + 1 + 1) _ _ (0, 0) _ rfl HE.out.1 Try.underlying30 rfl infoEnA) rfl ?_
    rw [En.addR_not HV.out, HV.out]
    exact ⟨_, [], [], rfl, rdEn_zero _, Own.nil, Own.nil, by simp, HE.out.2⟩
  have e_window : (x.window != y.window) = false := by simpa using h_window
  have H_window : Hid (x.window = y.window) := h_window
  clear h_window
  go_wp2_with fail
  refine (apartSpec_any p q l k g j x.ids y.ids F G _ (HP.out.1.below HT2.out.bel) (HP.out.2.1.below HT2.out.bel) (by have := HP.out; omega) (by have := HP.out; omega)).mono ?_
  rintro e w3 ⟨rfl, hq⟩
  have HT3 : Hid (Three w #[.int .i64 x.key, .int .i64 x.window, .slice p l g, .int .i64 x.sk.count, .int .i64 x.sk.sum, .int .i64 x.sk.min, .int .i64 x.sk.max, .slice a1 n1 c1, .slice a2 n2 c2, .slice a3 n3 c3] 30 #[.int .i64 y.key, .int .i64 y.window, .slice q k j, .int .i64 y.sk.count, .int .i64 y.sk.sum, .int .i64 y.sk.min, .int .i64 y.sk.max, .slice b1 m1 d1, .slice b2 m2 d2, .slice b3 m3 d3] #[.int .i64 0, .int .i64 0, .slice none 0 0, .int .i64 0, .int .i64 0, .int .i64 0, .int .i64 0, .slice none 0 0, .slice none 0 0, .slice none 0 0] 30 w3) := HT2.out.below (quiet_below hq)
  obtain ⟨d3', hd⟩ : ∃ d, d = x.ids.apart y.ids := ⟨_, rfl⟩
  rw [← hd]
  have HD3 : Hid (d3' = x.ids.apart y.ids) := hd
  clear hd hq HT2 k0 k1 k2 j0 j1 j2
  cases d3'
  · have HV : Hid (x.addOk y = false) := by show _ = _; unfold En.addOk; rw [← HD3.out]; simp
    go_wp2_with (first | go_skip | (with_reducible refine stopStore 30 rfl ?_))
    refine store_known 30 (w.heap.size + 1 + 1) #[.int .i64 0, .int .i64 0, .slice none 0 0, .int .i64 0, .int .i64 0, .int .i64 0, .int .i64 0, .slice none 0 0, .slice none 0 0, .slice none 0 0] #[.int .i64 0, .int .i64 0, .slice none 0 0, .int .i64 0, .int .i64 0, .int .i64 0, .int .i64 0, .slice none 0 0, .slice none 0 0, .slice none 0 0] 30 HT3.out.loc rfl rfl rfl rfl infoEnA rfl (by simp [Value.oneCell']) ?_
    have HE : Hid (Blk _ (w.heap.size + 1 + 1) #[.int .i64 0, .int .i64 0, .slice none 0 0, .int .i64 0, .int .i64 0, .int .i64 0, .int .i64 0, .slice none 0 0, .slice none 0 0, .slice none 0 0] 30 ∧ Below w.heap.size w _) := ⟨HT3.out.loc.setRow (ds := #[.int .i64 0, .int .i64 0, .slice none 0 0, .int .i64 0, .int .i64 0, .int .i64 0, .int .i64 0, .slice none 0 0, .slice none 0 0, .slice none 0 0]), below_setRow (g := w.heap.size + 1 + 1) HT3.out.bel (by omega) #[.int .i64 0, .int .i64 0, .slice none 0 0, .int .i64 0, .int .i64 0, .int .i64 0, .int .i64 0, .slice none 0 0, .slice none 0 0, .slice none 0 0]⟩
    go_wp2
    refine bodyPost_ret (results_row_tmp Try.results8 _ _ (w.heap.size + 1 + 1) _ _ (0, 0) _ rfl HE.out.1 Try.underlying30 rfl infoEnA) rfl ?_
    rw [En.addR_not HV.out, HV.out]
    exact ⟨_, [], [], rfl, rdEn_zero _, Own.nil, Own.nil, by simp, HE.out.2⟩
  have HV : Hid (x.addOk y = true) := by show _ = _; unfold En.addOk; rw [← HD1.out, ← HD2.out, ← HD3.out, dec_true H_key.out, dec_true H_window.out]; rfl
  go_wp2_with (first | go_skip | (with_reducible refine stopLoad 30 rfl ?_))
  refine load_any 30 w.heap.size _ 30 _ HT3.out.box rfl rfl rfl Try.underlying30 rfl (by kernel_rfl) ?_
  go_wp2_with (first | go_skip | (with_reducible refine stopLoad 30 rfl ?_))
  refine load_any 30 (w.heap.size + 1) _ 30 _ HT3.out.res rfl rfl rfl Try.underlying30 rfl (by kernel_rfl) ?_
  go_wp2_with fail
  refine (l6Add_any _ _ x y F F' G G' _ (HX.out.1.below HT3.out.bel) (HX.out.2.1.below HT3.out.bel) HD1.out.symm HD2.out.symm HX.out.2.2.2.2).mono ?_
  rintro e w4 ⟨v4, F4, G4, rfl, r4, o4, o4', hd4, hb4⟩
  obtain ⟨b4, l4, cc4, e1, r1, f1, e2, r2, f2, e3, r3, f3, rfl, p4, s4, hc4⟩ := r4
  have HC4 : Hid (Capd b4 l4 cc4) := hc4
  clear hc4
  have HT4 : Hid (Three w #[.int .i64 x.key, .int .i64 x.window, .slice p l g, .int .i64 x.sk.count, .int .i64 x.sk.sum, .int .i64 x.sk.min, .int .i64 x.sk.max, .slice a1 n1 c1, .slice a2 n2 c2, .slice a3 n3 c3] 30 #[.int .i64 y.key, .int .i64 y.window, .slice q k j, .int .i64 y.sk.count, .int .i64 y.sk.sum, .int .i64 y.sk.min, .int .i64 y.sk.max, .slice b1 m1 d1, .slice b2 m2 d2, .slice b3 m3 d3] #[.int .i64 0, .int .i64 0, .slice none 0 0, .int .i64 0, .int .i64 0, .int .i64 0, .int .i64 0, .slice none 0 0, .slice none 0 0, .slice none 0 0] 30 w4) := HT3.out.below hb4
  have hsz : w.heap.size + 3 ≤ w3.heap.size := HT3.out.size
  obtain ⟨M, hM⟩ : ∃ M, M = x.add y := ⟨_, rfl⟩
  rw [← hM] at p4 s4 ⊢
  have HM : Hid (M = x.add y) := hM
  have HG : Hid (RdP w4 b4 l4 M.ids F4 ∧ RdSk w4 (.agg #[.int .i64 M.sk.count, .int .i64 M.sk.sum, .int .i64 M.sk.min, .int .i64 M.sk.max, .slice e1 r1 f1, .slice e2 r2 f2, .slice e3 r3 f3]) M.sk G4 ∧ Own (w.heap.size + 3) w4 F4 ∧ Own (w.heap.size + 3) w4 G4 ∧ ∀ b ∈ F4, b ∉ G4) := ⟨p4, s4, o4.mono hsz, o4'.mono hsz, hd4⟩
  clear hM p4 s4 o4 o4' hd4 hb4 HT3
  go_wp2_with (first | go_skip | (with_reducible refine stopStore 30 rfl ?_))
  refine store_known 30 (w.heap.size + 1 + 1) #[.int .i64 0, .int .i64 0, .slice none 0 0, .int .i64 0, .int .i64 0, .int .i64 0, .int .i64 0, .slice none 0 0, .slice none 0 0, .slice none 0 0] #[.int .i64 M.key, .int .i64 M.window, .slice b4 l4 cc4, .int .i64 M.sk.count, .int .i64 M.sk.sum, .int .i64 M.sk.min, .int .i64 M.sk.max, .slice e1 r1 f1, .slice e2 r2 f2, .slice e3 r3 f3] 30 HT4.out.loc rfl rfl rfl rfl infoEnA rfl (by simp [Value.oneCell']) ?_
  have nf : w.heap.size + 1 + 1 ∉ F4 := fun hx => by have := HG.out.2.2.1.ge _ hx; omega
  have nx : w.heap.size + 1 + 1 ∉ G4 := fun hx => by have := HG.out.2.2.2.1.ge _ hx; omega
  obtain ⟨E, hE⟩ : ∃ E : Array Value, E = #[.int .i64 M.key, .int .i64 M.window, .slice b4 l4 cc4, .int .i64 M.sk.count, .int .i64 M.sk.sum, .int .i64 M.sk.min, .int .i64 M.sk.max, .slice e1 r1 f1, .slice e2 r2 f2, .slice e3 r3 f3] := ⟨_, rfl⟩
  rw [← hE]
  obtain ⟨w5, hw5⟩ : ∃ W, W = w4.setRow (w.heap.size + 1 + 1) E := ⟨_, rfl⟩
  have HF : Hid (Blk w5 (w.heap.size + 1 + 1) E 30 ∧ RdP w5 b4 l4 M.ids F4 ∧ RdSk w5 (.agg #[.int .i64 M.sk.count, .int .i64 M.sk.sum, .int .i64 M.sk.min, .int .i64 M.sk.max, .slice e1 r1 f1, .slice e2 r2 f2, .slice e3 r3 f3]) M.sk G4 ∧ Own w.heap.size w5 F4 ∧ Own w.heap.size w5 G4 ∧ (∀ b ∈ F4, b ∉ G4) ∧ Below w.heap.size w w5) := by
    rw [hw5]
    exact ⟨HT4.out.loc.setRow, HG.out.1.agree (Agree.row nf E), HG.out.2.1.agree (Agree.row nx E), (HG.out.2.2.1.agree (Agree.row nf E)).mono (by omega), (HG.out.2.2.2.1.agree (Agree.row nx E)).mono (by omega), HG.out.2.2.2.2, below_setRow HT4.out.bel (by omega) _⟩
  have HE : Hid (E = #[.int .i64 M.key, .int .i64 M.window, .slice b4 l4 cc4, .int .i64 M.sk.count, .int .i64 M.sk.sum, .int .i64 M.sk.min, .int .i64 M.sk.max, .slice e1 r1 f1, .slice e2 r2 f2, .slice e3 r3 f3] ∧ E.size = 10) := ⟨hE, by rw [hE]; rfl⟩
  rw [← hw5]
  clear hE hw5 HG HT4 nf nx
  go_wp2
  refine bodyPost_ret (results_row_tmp Try.results8 _ _ (w.heap.size + 1 + 1) _ _ (0, 0) _ rfl HF.out.1 Try.underlying30 rfl (by rw [HE.out.2]; exact infoEnA)) rfl ?_
  rw [En.addR_yes HV.out, HV.out, ← HM.out]
  exact ⟨_, F4, G4, rfl, ⟨b4, l4, cc4, e1, r1, f1, e2, r2, f2, e3, r3, f3, by rw [HE.out.1], HF.out.2.1, HF.out.2.2.1, HC4.out⟩, HF.out.2.2.2.1, HF.out.2.2.2.2.1, HF.out.2.2.2.2.2.1, HF.out.2.2.2.2.2.2⟩
end Go.Proofs.Ytbmbmnhamogghab
/- The walks through the model's EntrySize. No statement of the seat is proved here. -/
namespace Go.Proofs.Ytbmbmnhamogghab
open Go.RowKit
/-- How many are above 0. -/
def cntUp (l : List Int) : Int := ((l.filter (fun x => decide (0 < x))).length : Nat)
theorem cntUp_range (l : List Int) : 0 ≤ cntUp l ∧ cntUp l ≤ l.length := by
  unfold cntUp
  have := List.length_filter_le (fun x => decide (0 < x)) l
  omega
theorem takeI_succ (l : List Int) (k : Nat) (hk : k < l.length) : l.take (k + 1) = l.take k ++ [l[k]?.getD 0] := by
  rw [List.take_add_one, List.getElem?_eq_getElem hk]; rfl
theorem cntUp_yes {l : List Int} {k : Nat} (hk : k < l.length) (h : 0 < l[k]?.getD 0) : cntUp (l.take (k + 1)) = cntUp (l.take k) + 1 := by
  rw [takeI_succ l k hk]
  unfold cntUp
  rw [List.filter_append]
  simp [h]
theorem cntUp_no {l : List Int} {k : Nat} (hk : k < l.length) (h : ¬ 0 < l[k]?.getD 0) : cntUp (l.take (k + 1)) = cntUp (l.take k) := by
  rw [takeI_succ l k hk]
  unfold cntUp
  rw [List.filter_append]
  simp [h]
def En.size (x : En) : Int := if x.ok = true then 4 + cntUp x.sk.hist + cntUp x.sk.regs + cntUp (x.sk.rows.getD 0 []) + cntUp (x.sk.rows.getD 1 []) + 2 * x.ids.length else 0
theorem En.size_not {x : En} (h : x.ok = false) : x.size = 0 := by unfold En.size; rw [h]; rfl
theorem En.size_ok {x : En} (h : x.ok = true) : x.size = 4 + cntUp x.sk.hist + cntUp x.sk.regs + cntUp (x.sk.rows.getD 0 []) + cntUp (x.sk.rows.getD 1 []) + 2 * x.ids.length := by unfold En.size; rw [if_pos h]
end Go.Proofs.Ytbmbmnhamogghab
/- Sets of numbers: what makes two of them the same, and what is made of both. No statement of the seat is proved here. -/
namespace Go.Proofs.Ytbmbmnhamogghab
open Go.RowKit
/-- Right from l on: the spans rise, with a gap between any two. -/
def okFrom : Int → Sp → Prop
  | _, [] => True
  | l, p :: ps => (l ≤ p.1 ∧ p.1 ≤ p.2 ∧ p.2 ≤ 9999) ∧ okFrom (p.2 + 2) ps
def endOf : Int → Sp → Int
  | l, [] => l
  | _, p :: ps => endOf (p.2 + 2) ps
theorem okFrom_append : ∀ (o r : Sp) (l : Int), okFrom l (o ++ r) ↔ okFrom l o ∧ okFrom (endOf l o) r
  | [], r, l => by simp [okFrom, endOf]
  | p :: o, r, l => by simp only [List.cons_append, okFrom, endOf, okFrom_append o r, and_assoc]
theorem endOf_snoc : ∀ (o : Sp) (t : Int × Int) (l : Int), endOf l (o ++ [t]) = t.2 + 2
  | [], t, l => rfl
  | p :: o, t, l => by simp only [List.cons_append, endOf, endOf_snoc o t]
theorem okFrom_mono : ∀ {ps : Sp} {l m : Int}, okFrom l ps → m ≤ l → okFrom m ps
  | [], _, _, _, _ => trivial
  | p :: ps, l, m, h, hm => ⟨⟨by have := h.1; omega, h.1.2⟩, h.2⟩
theorem has_cons (p : Int × Int) (ps : Sp) (n : Int) : Sp.has (p :: ps) n = (decide (p.1 ≤ n ∧ n ≤ p.2) || Sp.has ps n) := rfl
theorem has_nil (n : Int) : Sp.has [] n = false := rfl
theorem has_append (ps qs : Sp) (n : Int) : Sp.has (ps ++ qs) n = (Sp.has ps n || Sp.has qs n) := by simp [Sp.has]
/-- n is in ps. -/
def InS (ps : Sp) (n : Int) : Prop := ps.has n = true
theorem inS_cons {p : Int × Int} {ps : Sp} {n : Int} : InS (p :: ps) n ↔ (p.1 ≤ n ∧ n ≤ p.2) ∨ InS ps n := by unfold InS; rw [has_cons]; simp
theorem inS_nil {n : Int} : ¬ InS [] n := by unfold InS; rw [has_nil]; simp
theorem inS_append {ps qs : Sp} {n : Int} : InS (ps ++ qs) n ↔ InS ps n ∨ InS qs n := by unfold InS; rw [has_append]; simp
theorem inS_ge : ∀ {ps : Sp} {l n : Int}, okFrom l ps → InS ps n → l ≤ n
  | [], _, _, _, h => (inS_nil h).elim
  | p :: ps, l, n, h, hn => by
    rcases inS_cons.1 hn with e | e
    · have := h.1; omega
    · have := inS_ge h.2 e; have := h.1; omega
theorem inS_le : ∀ {ps : Sp} {l n : Int}, okFrom l ps → InS ps n → n ≤ 9999
  | [], _, _, _, h => (inS_nil h).elim
  | p :: ps, l, n, h, hn => by
    rcases inS_cons.1 hn with e | e
    · have := h.1; omega
    · exact inS_le h.2 e
theorem sp_ext : ∀ {ps qs : Sp} {l m : Int}, okFrom l ps → okFrom m qs → (∀ n, InS ps n ↔ InS qs n) → ps = qs
  | [], [], _, _, _, _, _ => rfl
  | [], q :: qs, _, _, _, h2, h => by
    have := (h q.1).2 (inS_cons.2 (.inl ⟨Int.le_refl _, h2.1.2.1⟩))
    exact (inS_nil this).elim
  | p :: ps, [], _, _, h1, _, h => by
    have := (h p.1).1 (inS_cons.2 (.inl ⟨Int.le_refl _, h1.1.2.1⟩))
    exact (inS_nil this).elim
  | p :: ps, q :: qs, l, m, h1, h2, h => by
    obtain ⟨⟨a1, a2, a3⟩, a4⟩ := h1
    obtain ⟨⟨b1, b2, b3⟩, b4⟩ := h2
    have e1 : p.1 = q.1 := by
      have x1 := inS_ge (ps := q :: qs) (l := q.1) ⟨⟨Int.le_refl _, b2, b3⟩, b4⟩ ((h p.1).1 (inS_cons.2 (.inl ⟨Int.le_refl _, a2⟩)))
      have x2 := inS_ge (ps := p :: ps) (l := p.1) ⟨⟨Int.le_refl _, a2, a3⟩, a4⟩ ((h q.1).2 (inS_cons.2 (.inl ⟨Int.le_refl _, b2⟩)))
      omega
    have e2 : p.2 = q.2 := by
      rcases Int.lt_trichotomy p.2 q.2 with c | c | c
      · rcases inS_cons.1 ((h (p.2 + 1)).2 (inS_cons.2 (.inl ⟨by omega, by omega⟩))) with e | e
        · omega
        · have := inS_ge a4 e; omega
      · exact c
      · rcases inS_cons.1 ((h (q.2 + 1)).1 (inS_cons.2 (.inl ⟨by omega, by omega⟩))) with e | e
        · omega
        · have := inS_ge b4 e; omega
    have e3 : ps = qs := sp_ext a4 b4 (fun n => by
      constructor
      · intro hn
        have := inS_ge a4 hn
        rcases inS_cons.1 ((h n).1 (inS_cons.2 (.inr hn))) with e | e
        · omega
        · exact e
      · intro hn
        have := inS_ge b4 hn
        rcases inS_cons.1 ((h n).2 (inS_cons.2 (.inr hn))) with e | e
        · omega
        · exact e)
    rw [e3, Prod.ext e1 e2]
/-- What is right, seen from the k-th span on. -/
def floorAt (ps : Sp) (k : Nat) : Int := if k = 0 then 0 else (ps.at (k - 1)).2 + 2
theorem okAt_iff (ps : Sp) (k : Nat) : ps.okAt k = true ↔ (if k = 0 then 0 else (ps.at (k - 1)).2 + 2) ≤ (ps.at k).1 ∧ 0 ≤ (ps.at k).1 ∧ (ps.at k).1 ≤ (ps.at k).2 ∧ (ps.at k).2 ≤ 9999 := by
  unfold Sp.okAt
  simp only [Bool.and_eq_true, Bool.or_eq_true, decide_eq_true_eq]
  split <;> omega
theorem okFrom_drop (ps : Sp) : ∀ (d k : Nat), k + d = ps.length → 0 ≤ floorAt ps k → ((∀ j, k ≤ j → j < ps.length → ps.okAt j = true) ↔ okFrom (floorAt ps k) (ps.drop k))
  | 0, k, hk, _ => by
    rw [List.drop_eq_nil_of_le (by omega)]
    exact ⟨fun _ => trivial, fun _ j h1 h2 => by omega⟩
  | d + 1, k, hk, h0 => by
    rw [drop_at (by omega), okFrom]
    have e : floorAt ps (k + 1) = (ps.at k).2 + 2 := by unfold floorAt; rw [if_neg (by omega), show k + 1 - 1 = k by omega]
    constructor
    · intro h
      have hk1 := (okAt_iff ps k).1 (h k (Nat.le_refl _) (by omega))
      refine ⟨⟨hk1.1, hk1.2.2⟩, ?_⟩
      rw [← e]
      exact (okFrom_drop ps d (k + 1) (by omega) (by rw [e]; omega)).1 (fun j h1 h2 => h j (by omega) h2)
    · rintro ⟨h1, h2⟩ j hj1 hj2
      by_cases c : j = k
      · subst c
        exact (okAt_iff ps j).2 ⟨h1.1, by omega, h1.2⟩
      · rw [← e] at h2
        exact (okFrom_drop ps d (k + 1) (by omega) (by rw [e]; omega)).2 h2 j (by omega) hj2
theorem ok_iff {ps : Sp} : ps.ok = true ↔ okFrom 0 ps := by
  have e := okFrom_drop ps ps.length 0 (by omega) (by simp [floorAt])
  simp only [floorAt, if_true, List.drop_zero] at e
  rw [← e]
  exact ⟨fun h j _ hj => Sp.ok_at h j hj, fun h => Sp.ok_all (fun j hj => h j (Nat.zero_le _) hj)⟩
theorem put_true_same : ∀ {ps : Sp} {x : Int × Int} {l : Int}, okFrom l ps → x.2 + 2 ≤ l → x.1 ≤ x.2 → put ps x true = ps
  | [], _, _, _, _, _ => rfl
  | p :: ps, x, l, h, hl, hx => by
    obtain ⟨⟨a1, a2, a3⟩, a4⟩ := h
    rw [put, if_neg (by omega), if_pos (by omega), put_true_same a4 (by omega) hx]
    rfl
theorem put_ok : ∀ {ps : Sp} {x : Int × Int} {l : Int}, okFrom l ps → l ≤ x.1 → x.1 ≤ x.2 → x.2 ≤ 9999 → okFrom l (put ps x false) ∧ ∀ n, InS (put ps x false) n ↔ InS ps n ∨ (x.1 ≤ n ∧ n ≤ x.2)
  | [], x, l, _, h1, h2, h3 => ⟨⟨⟨h1, h2, h3⟩, trivial⟩, fun n => by
      show InS [x] n ↔ _
      rw [inS_cons]
      exact ⟨fun h => h.symm.imp (fun e => e) (fun e => e), fun h => h.symm.imp (fun e => e) (fun e => e)⟩⟩
  | p :: ps, x, l, h, h1, h2, h3 => by
    obtain ⟨⟨a1, a2, a3⟩, a4⟩ := h
    rw [put]
    split
    · obtain ⟨i1, i2⟩ := put_ok a4 (by omega) h2 h3
      refine ⟨⟨⟨a1, a2, a3⟩, i1⟩, fun n => ?_⟩
      rw [inS_cons, inS_cons, i2, or_assoc]
    · split
      · rw [put_true_same (l := p.2 + 2) a4 (by omega) h2]
        refine ⟨⟨⟨h1, h2, h3⟩, ⟨⟨by omega, a2, a3⟩, a4⟩⟩, fun n => ?_⟩
        show InS (x :: p :: ps) n ↔ _
        rw [inS_cons (p := x)]
        exact or_comm
      · obtain ⟨i1, i2⟩ := put_ok (x := (min x.1 p.1, max x.2 p.2)) (l := l) (okFrom_mono a4 (by omega)) (by simp only; omega) (by simp only; omega) (by simp only; omega)
        refine ⟨i1, fun n => ?_⟩
        rw [i2, inS_cons]
        have : (min x.1 p.1 ≤ n ∧ n ≤ max x.2 p.2) ↔ (p.1 ≤ n ∧ n ≤ p.2) ∨ (x.1 ≤ n ∧ n ≤ x.2) := by omega
        rw [show ((min x.1 p.1, max x.2 p.2).1 ≤ n ∧ n ≤ (min x.1 p.1, max x.2 p.2).2) ↔ (p.1 ≤ n ∧ n ≤ p.2) ∨ (x.1 ≤ n ∧ n ≤ x.2) from this, or_comm, or_right_comm]
theorem okFrom_at {ps : Sp} (h : okFrom 0 ps) {k : Nat} (hk : k < ps.length) : 0 ≤ (ps.at k).1 ∧ (ps.at k).1 ≤ (ps.at k).2 ∧ (ps.at k).2 ≤ 9999 := (Sp.okAt_parts (Sp.ok_at (ok_iff.2 h) k hk)).1
theorem take_inS {qs : Sp} {k : Nat} (hk : k < qs.length) (n : Int) : InS (qs.take (k + 1)) n ↔ InS (qs.take k) n ∨ ((qs.at k).1 ≤ n ∧ n ≤ (qs.at k).2) := by
  rw [takeP_succ qs k hk, inS_append, inS_cons]
  show _ ∨ (_ ∨ InS [] n) ↔ _
  exact ⟨fun h => h.imp id (fun h => h.resolve_right inS_nil), fun h => h.imp id .inl⟩
theorem joinTo_ok {ps qs : Sp} (h1 : okFrom 0 ps) (h2 : okFrom 0 qs) : ∀ k, k ≤ qs.length → okFrom 0 (joinTo ps qs k) ∧ ∀ n, InS (joinTo ps qs k) n ↔ InS ps n ∨ InS (qs.take k) n
  | 0, _ => by
    rw [joinTo_zero]
    exact ⟨h1, fun n => ⟨.inl, fun h => h.resolve_right inS_nil⟩⟩
  | k + 1, hk => by
    have hq := okFrom_at h2 (k := k) (by omega)
    obtain ⟨i1, i2⟩ := joinTo_ok h1 h2 k (by omega)
    obtain ⟨j1, j2⟩ := put_ok (x := qs.at k) i1 (by omega) (by omega) (by omega)
    rw [joinTo_succ (by omega)]
    refine ⟨j1, fun n => ?_⟩
    rw [j2, i2, take_inS (by omega), or_assoc]
theorem join_ok {ps qs : Sp} (h1 : okFrom 0 ps) (h2 : okFrom 0 qs) : okFrom 0 (joinTo ps qs qs.length) ∧ ∀ n, InS (joinTo ps qs qs.length) n ↔ InS ps n ∨ InS qs n := by
  have := joinTo_ok h1 h2 qs.length (Nat.le_refl _)
  rw [List.take_length] at this
  exact this
/-- A span is laid behind o: apart, or into its last one. -/
def lay1 (o : Sp) (x : Int × Int) : Sp := if o = [] ∨ (o.at (o.length - 1)).2 + 1 < x.1 then o ++ [x] else o.take (o.length - 1) ++ [((o.at (o.length - 1)).1, max (o.at (o.length - 1)).2 x.2)]
def lay (o xs : Sp) : Sp := xs.foldl lay1 o
/-- How many spans begin no later than n. -/
def cutN : Sp → Int → Nat
  | [], _ => 0
  | p :: ps, n => if p.1 ≤ n then cutN ps n + 1 else 0
/-- Both sets, gone through once; o: what has come. -/
def both : Sp → Sp → Sp → Sp
  | a, [], o => lay o a
  | a, x :: b, o => both (a.drop (cutN a x.1)) b (lay1 (lay o (a.take (cutN a x.1))) x)
theorem snoc_cases (o : Sp) : o = [] ∨ ∃ o' t, o = o' ++ [t] := by
  rcases List.eq_nil_or_concat o with h | ⟨o', t, h⟩
  · exact .inl h
  · exact .inr ⟨o', t, by simpa using h⟩
theorem lay1_nil (x : Int × Int) : lay1 [] x = [x] := by simp [lay1]
theorem lay1_snoc (o : Sp) (t x : Int × Int) : lay1 (o ++ [t]) x = if t.2 + 1 < x.1 then o ++ [t] ++ [x] else o ++ [(t.1, max t.2 x.2)] := by
  have e : (o ++ [t]).at ((o ++ [t]).length - 1) = t := by simp [Sp.at]
  have e2 : (o ++ [t]).take ((o ++ [t]).length - 1) = o := by simp
  unfold lay1
  rw [e, e2]
  simp
/-- Right so far; the last span begins at m or ahead of it. -/
structure LayOk (o : Sp) (m : Int) : Prop where
  ok : okFrom 0 o
  le : ∀ o' t, o = o' ++ [t] → t.1 ≤ m
theorem LayOk.nil (m : Int) : LayOk [] m := ⟨trivial, fun o' t h => by simp at h⟩
theorem LayOk.up {o : Sp} {m m' : Int} (h : LayOk o m) (hm : m ≤ m') : LayOk o m' := ⟨h.ok, fun o' t e => Int.le_trans (h.le o' t e) hm⟩
theorem lay1_ok {o : Sp} {x : Int × Int} {m : Int} (h : LayOk o m) (hm : m ≤ x.1) (h0 : 0 ≤ x.1) (h1 : x.1 ≤ x.2) (h2 : x.2 ≤ 9999) : LayOk (lay1 o x) x.1 ∧ ∀ n, InS (lay1 o x) n ↔ InS o n ∨ (x.1 ≤ n ∧ n ≤ x.2) := by
  rcases snoc_cases o with rfl | ⟨o', t, rfl⟩
  · rw [lay1_nil]
    refine ⟨⟨⟨⟨h0, h1, h2⟩, trivial⟩, fun o' t e => ?_⟩, fun n => ?_⟩
    · obtain ⟨rfl, rfl⟩ : o' = [] ∧ x = t := by
        cases o' with
        | nil => simpa using e
        | cons y ys => simp at e
      exact Int.le_refl _
    · rw [inS_cons]
      exact ⟨fun h => .inr (h.resolve_right inS_nil), fun h => .inl (h.resolve_left inS_nil)⟩
  · have ht := h.le o' t rfl
    have hok := h.ok
    rw [okFrom_append] at hok
    obtain ⟨k1, ⟨k2, k3, k4⟩, _⟩ := hok
    rw [lay1_snoc]
    split
    · refine ⟨⟨?_, fun o2 t2 e => ?_⟩, fun n => ?_⟩
      · rw [okFrom_append, endOf_snoc]
        exact ⟨h.ok, ⟨by omega, h1, h2⟩, trivial⟩
      · have e3 := List.append_inj_right' e rfl
        obtain rfl : x = t2 := by simpa using e3
        exact Int.le_refl _
      · rw [inS_append (ps := o' ++ [t]), inS_cons (p := x)]
        exact ⟨fun h => h.imp id (fun h => h.resolve_right inS_nil), fun h => h.imp id .inl⟩
    · refine ⟨⟨?_, fun o2 t2 e => ?_⟩, fun n => ?_⟩
      · rw [okFrom_append]
        exact ⟨k1, ⟨k2, by simp only; omega, by simp only; omega⟩, trivial⟩
      · have e3 := List.append_inj_right' e rfl
        have e4 : (t.1, max t.2 x.2) = t2 := by simpa using e3
        rw [← e4]; simp only; omega
      · rw [inS_append, inS_append, inS_cons, inS_cons]
        have : (t.1 ≤ n ∧ n ≤ max t.2 x.2) ↔ (t.1 ≤ n ∧ n ≤ t.2) ∨ (x.1 ≤ n ∧ n ≤ x.2) := by omega
        rw [show ((t.1, max t.2 x.2).1 ≤ n ∧ n ≤ (t.1, max t.2 x.2).2) ↔ (t.1 ≤ n ∧ n ≤ t.2) ∨ (x.1 ≤ n ∧ n ≤ x.2) from this]
        have e := inS_nil (n := n)
        simp only [e, or_false, or_assoc]
theorem lay_ok : ∀ {xs o : Sp} {m l M : Int}, LayOk o m → okFrom l xs → m ≤ l → 0 ≤ l → m ≤ M → (∀ p ∈ xs, p.1 ≤ M) → LayOk (lay o xs) M ∧ ∀ n, InS (lay o xs) n ↔ InS o n ∨ InS xs n
  | [], o, m, l, M, h, _, _, _, hM, _ => ⟨h.up hM, fun n => ⟨.inl, fun h => h.resolve_right inS_nil⟩⟩
  | x :: xs, o, m, l, M, h, hx, hm, h0, hM, hall => by
    obtain ⟨⟨a1, a2, a3⟩, a4⟩ := hx
    obtain ⟨i1, i2⟩ := lay1_ok h (x := x) (by omega) (by omega) a2 a3
    obtain ⟨j1, j2⟩ := lay_ok (xs := xs) (M := M) i1 a4 (by omega) (by omega) (hall x (by simp)) (fun p hp => hall p (by simp [hp]))
    refine ⟨j1, fun n => ?_⟩
    rw [show lay o (x :: xs) = lay (lay1 o x) xs from rfl, j2, i2, inS_cons, or_assoc]
theorem cutN_le : ∀ (a : Sp) (n : Int), cutN a n ≤ a.length
  | [], _ => by simp [cutN]
  | p :: a, n => by
    rw [cutN]
    split
    · have := cutN_le a n; simp; omega
    · simp
theorem cut_take : ∀ (a : Sp) (n : Int), ∀ p ∈ a.take (cutN a n), p.1 ≤ n
  | [], _, p, hp => by simp [cutN] at hp
  | q :: a, n, p, hp => by
    rw [cutN] at hp
    split at hp
    · rw [List.take_succ_cons] at hp
      rcases List.mem_cons.1 hp with rfl | hp
      · assumption
      · exact cut_take a n p hp
    · simp at hp
theorem okFrom_take {l : Int} {a : Sp} (k : Nat) (h : okFrom l a) : okFrom l (a.take k) := by
  have := h
  rw [← List.take_append_drop k a, okFrom_append] at this
  exact this.1
theorem cut_drop : ∀ {a : Sp} {n l : Int}, okFrom l a → okFrom n (a.drop (cutN a n))
  | [], _, _, _ => by simp [cutN, okFrom]
  | q :: a, n, l, h => by
    rw [cutN]
    split
    · rw [List.drop_succ_cons]; exact cut_drop h.2
    · exact ⟨⟨by omega, h.1.2⟩, h.2⟩
theorem both_ok : ∀ {b a o : Sp} {m la lb : Int}, LayOk o m → okFrom la a → okFrom lb b → m ≤ la → m ≤ lb → 0 ≤ la → 0 ≤ lb → okFrom 0 (both a b o) ∧ ∀ n, InS (both a b o) n ↔ InS o n ∨ InS a n ∨ InS b n
  | [], a, o, m, la, lb, h, ha, _, h1, _, h0, _ => by
    obtain ⟨M, hM⟩ : ∃ M : Int, m ≤ M ∧ ∀ p ∈ a, p.1 ≤ M := ⟨max m 9999, by omega, fun p hp => by
      obtain ⟨k, hk, rfl⟩ := List.getElem_of_mem hp
      have := okFrom_at (okFrom_mono ha h0) hk
      unfold Sp.at at this
      rw [List.getElem?_eq_getElem hk] at this
      simp only [Option.getD_some] at this
      omega⟩
    obtain ⟨i1, i2⟩ := lay_ok h ha h1 h0 hM.1 hM.2
    refine ⟨i1.ok, fun n => ?_⟩
    rw [both, i2]
    exact ⟨fun h => h.imp id .inl, fun h => h.imp id (fun h => h.resolve_right inS_nil)⟩
  | x :: b, a, o, m, la, lb, h, ha, hb, h1, h2, h0, h00 => by
    obtain ⟨⟨b1, b2, b3⟩, b4⟩ := hb
    obtain ⟨i1, i2⟩ := lay_ok (M := x.1) h (okFrom_take (cutN a x.1) ha) h1 h0 (by omega) (cut_take a x.1)
    obtain ⟨j1, j2⟩ := lay1_ok (x := x) i1 (Int.le_refl _) (by omega) b2 b3
    obtain ⟨k1, k2⟩ := both_ok (a := a.drop (cutN a x.1)) (b := b) j1 (cut_drop ha) b4 (Int.le_refl _) (by omega) (by omega) (by omega)
    refine ⟨k1, fun n => ?_⟩
    have e : InS a n ↔ InS (a.take (cutN a x.1)) n ∨ InS (a.drop (cutN a x.1)) n := by rw [← inS_append, List.take_append_drop]
    rw [both, k2, j2, i2, inS_cons, e]
    simp only [or_assoc]
    constructor
    · rintro (h | h | h | h | h) <;> simp [h]
    · rintro (h | h | h | h | h) <;> simp [h]
theorem both_nil_ok {a b : Sp} (ha : okFrom 0 a) (hb : okFrom 0 b) : okFrom 0 (both a b []) ∧ ∀ n, InS (both a b []) n ↔ InS a n ∨ InS b n := by
  obtain ⟨i1, i2⟩ := both_ok (LayOk.nil 0) ha hb (Int.le_refl _) (Int.le_refl _) (Int.le_refl _) (Int.le_refl _)
  exact ⟨i1, fun n => by rw [i2]; exact ⟨fun h => h.resolve_left inS_nil, .inr⟩⟩
theorem both_join {a b : Sp} (ha : a.ok = true) (hb : b.ok = true) : both a b [] = a.join b := by
  rw [Sp.join_yes ha hb]
  obtain ⟨i1, i2⟩ := both_nil_ok (ok_iff.1 ha) (ok_iff.1 hb)
  obtain ⟨j1, j2⟩ := join_ok (ok_iff.1 ha) (ok_iff.1 hb)
  exact sp_ext i1 j1 (fun n => by rw [i2, j2])
theorem single_ok {n : Int} (h : 0 ≤ n ∧ n ≤ 9999) : okFrom 0 [(n, n)] := ⟨⟨h.1, Int.le_refl _, h.2⟩, trivial⟩
theorem inS_single {n m : Int} : InS [(n, n)] m ↔ m = n := by
  rw [inS_cons]
  exact ⟨fun h => by have := h.resolve_right inS_nil; simp only at this; omega, fun h => .inl (by simp only; omega)⟩
theorem both_add {a : Sp} {n : Int} (ha : a.ok = true) (hn : 0 ≤ n ∧ n ≤ 9999) : both a [(n, n)] [] = (a.add n).1 ∧ (a.add n).2 = decide (¬ both a [(n, n)] [] = a) := by
  obtain ⟨i1, i2⟩ := both_nil_ok (ok_iff.1 ha) (single_ok hn)
  by_cases h : a.has n = true
  · have e : both a [(n, n)] [] = a := sp_ext i1 (ok_iff.1 ha) (fun m => by
      rw [i2, inS_single]
      exact ⟨fun e => e.elim id (fun e => by rw [e]; exact h), .inl⟩)
    rw [Sp.add_not (fun e => by rw [h] at e; cases e.2.2), e]
    simp
  · have h' : a.has n = false := by simpa using h
    rw [Sp.add_yes ha hn h']
    obtain ⟨j1, j2⟩ := put_ok (x := (n, n)) (ok_iff.1 ha) hn.1 (Int.le_refl _) hn.2
    have e : both a [(n, n)] [] = put a (n, n) false := sp_ext i1 j1 (fun m => by
      rw [i2, j2, inS_single]
      exact ⟨fun e => e.imp id (fun e => by simp only; omega), fun e => e.imp id (fun e => by simp only at e; omega)⟩)
    refine ⟨e, ?_⟩
    have ne : ¬ both a [(n, n)] [] = a := fun e => h (by
      have := (i2 n).2 (.inr (inS_single.2 rfl))
      rw [e] at this
      exact this)
    simp [ne]
/-- No span of the one meets one of the other. -/
def noMeet (a b : Sp) : Bool := a.all fun p => b.all fun q => !meet p q
theorem meet_comm (p q : Int × Int) : meet p q = meet q p := by unfold meet; rw [Bool.eq_iff_iff]; simp only [decide_eq_true_eq]; exact and_comm
theorem noMeet_nil (b : Sp) : noMeet [] b = true := rfl
theorem noMeet_comm (a b : Sp) : noMeet a b = noMeet b a := by
  unfold noMeet
  rw [Bool.eq_iff_iff]
  simp only [List.all_eq_true]
  exact ⟨fun h q hq p hp => by rw [meet_comm]; exact h p hp q hq, fun h q hq p hp => by rw [meet_comm]; exact h p hp q hq⟩
theorem okFrom_mem : ∀ {b : Sp} {l : Int}, okFrom l b → ∀ q ∈ b, l ≤ q.1 ∧ q.1 ≤ q.2 ∧ q.2 ≤ 9999
  | [], _, _, q, hq => by simp at hq
  | p :: b, l, h, q, hq => by
    rcases List.mem_cons.1 hq with rfl | hq
    · exact h.1
    · have := okFrom_mem h.2 q hq
      have := h.1
      omega
theorem noMeet_hit {p q : Int × Int} {a b : Sp} (h1 : p.1 ≤ q.1) (h2 : q.1 ≤ p.2) (h3 : q.1 ≤ q.2) : noMeet (p :: a) (q :: b) = false := by
  have : meet p q = true := by unfold meet; exact decT (by omega)
  simp [noMeet, this]
theorem noMeet_drop {p q : Int × Int} {a b : Sp} {l : Int} (h : okFrom l (q :: b)) (h2 : p.2 < q.1) : noMeet (p :: a) (q :: b) = noMeet a (q :: b) := by
  have e : (q :: b).all (fun q => !meet p q) = true := by
    rw [List.all_eq_true]
    intro r hr
    have := okFrom_mem (l := q.1) (b := q :: b) ⟨⟨Int.le_refl _, h.1.2⟩, h.2⟩ r hr
    unfold meet
    rw [decF (by omega)]
    rfl
  show ((q :: b).all _ && _) = _
  rw [e]
  rfl
theorem apart_eq (ps qs : Sp) : ps.apart qs = (ps.ok && qs.ok && noMeet ps qs) := rfl
end Go.Proofs.Ytbmbmnhamogghab
/- How many numbers a set has. No statement of the seat is proved here. -/
namespace Go.Proofs.Ytbmbmnhamogghab
open Go.RowKit
/-- How many of the first N numbers f picks. -/
def cnt (f : Int → Bool) : Nat → Int
  | 0 => 0
  | k + 1 => cnt f k + if f k then 1 else 0
theorem cnt_nonneg (f : Int → Bool) : ∀ N, 0 ≤ cnt f N
  | 0 => Int.le_refl _
  | k + 1 => by have := cnt_nonneg f k; rw [cnt]; split <;> omega
theorem cnt_or (f g : Int → Bool) : ∀ N, cnt (fun n => f n || g n) N + cnt (fun n => f n && g n) N = cnt f N + cnt g N
  | 0 => rfl
  | k + 1 => by
    have := cnt_or f g k
    simp only [cnt]
    by_cases hf : f k = true <;> by_cases hg : g k = true <;> simp [hf, hg] <;> omega
theorem cnt_zero {f : Int → Bool} : ∀ {N : Nat}, cnt f N = 0 ↔ ∀ k : Nat, k < N → f k = false
  | 0 => ⟨fun _ k hk => by omega, fun _ => rfl⟩
  | N + 1 => by
    have h0 := cnt_nonneg f N
    have ih := cnt_zero (f := f) (N := N)
    rw [cnt]
    constructor
    · intro h k hk
      cases hf : f N with
      | true => rw [hf] at h; simp at h; omega
      | false =>
        rw [hf] at h
        by_cases c : k = N
        · subst c; exact hf
        · exact ih.1 (by simpa using h) k (by omega)
    · intro h
      rw [ih.2 (fun k hk => h k (by omega)), h N (by omega)]
      rfl
theorem cnt_congr {f g : Int → Bool} : ∀ {N : Nat}, (∀ k : Nat, k < N → f k = g k) → cnt f N = cnt g N
  | 0, _ => rfl
  | N + 1, h => by rw [cnt, cnt, cnt_congr (fun k hk => h k (by omega)), h N (by omega)]
theorem cnt_span (lo hi : Int) (h0 : 0 ≤ lo) (h1 : lo ≤ hi + 1) : ∀ N : Nat, hi < N ∨ (N : Int) ≤ hi + 1 → cnt (fun n => decide (lo ≤ n ∧ n ≤ hi)) N = max 0 (min (N : Int) (hi + 1) - lo)
  | 0, _ => by simp only [cnt]; omega
  | N + 1, h => by
    have ih := cnt_span lo hi h0 h1 N (by omega)
    rw [cnt, ih]
    by_cases c : lo ≤ (N : Int) ∧ (N : Int) ≤ hi
    · rw [decT c, if_pos rfl]; omega
    · rw [decF c, if_neg (by simp)]; omega
theorem sum_cnt : ∀ {ps : Sp} {l : Int}, okFrom l ps → 0 ≤ l → ∀ N : Nat, 9999 < N → Sp.sum ps = cnt (Sp.has ps) N
  | [], _, _, _, N, _ => by
    rw [cnt_zero.2 (fun k _ => has_nil k)]; rfl
  | p :: ps, l, h, h0, N, hN => by
    obtain ⟨⟨a1, a2, a3⟩, a4⟩ := h
    have ih := sum_cnt a4 (by omega) N hN
    have e := cnt_or (fun n => decide (p.1 ≤ n ∧ n ≤ p.2)) (Sp.has ps) N
    have z : cnt (fun n => decide (p.1 ≤ n ∧ n ≤ p.2) && Sp.has ps n) N = 0 := cnt_zero.2 (fun k _ => by
      cases hb : Sp.has ps k with
      | false => simp
      | true =>
        have := inS_ge a4 hb
        rw [decF (by omega)]
        rfl)
    have c := cnt_span p.1 p.2 (by omega) (by omega) N (by omega)
    have s : Sp.sum (p :: ps) = (p.2 - p.1 + 1) + Sp.sum ps := by simp [Sp.sum]
    have e2 : cnt (Sp.has (p :: ps)) N = cnt (fun n => decide (p.1 ≤ n ∧ n ≤ p.2) || Sp.has ps n) N := rfl
    rw [s, e2, ih]
    omega
theorem size_cnt {ps : Sp} (h : ps.ok = true) : ps.size = cnt ps.has 10000 := by
  rw [Sp.size_ok h]
  exact sum_cnt (ok_iff.1 h) (Int.le_refl _) 10000 (by omega)
theorem join_right {a b : Sp} (ha : a.ok = true) (hb : b.ok = true) : (a.join b).ok = true ∧ ∀ n, (a.join b).has n = (a.has n || b.has n) := by
  rw [Sp.join_yes ha hb]
  obtain ⟨j1, j2⟩ := join_ok (ok_iff.1 ha) (ok_iff.1 hb)
  refine ⟨ok_iff.2 j1, fun n => ?_⟩
  have := j2 n
  unfold InS at this
  rw [Bool.eq_iff_iff, this, Bool.or_eq_true]
theorem join_comm {a b : Sp} (ha : a.ok = true) (hb : b.ok = true) : a.join b = b.join a := by
  obtain ⟨i1, i2⟩ := join_right ha hb
  obtain ⟨j1, j2⟩ := join_right hb ha
  exact sp_ext (ok_iff.1 i1) (ok_iff.1 j1) (fun n => by unfold InS; rw [i2, j2, Bool.or_comm])
theorem noMeet_iff {a b : Sp} (ha : okFrom 0 a) (hb : okFrom 0 b) : noMeet a b = true ↔ ∀ n, (a.has n && b.has n) = false := by
  unfold noMeet
  simp only [List.all_eq_true]
  constructor
  · intro h n
    rw [Bool.and_eq_false_iff]
    cases h1 : a.has n with
    | false => exact .inl rfl
    | true =>
      right
      cases h2 : b.has n with
      | false => rfl
      | true =>
        exfalso
        unfold Sp.has at h1 h2
        rw [List.any_eq_true] at h1 h2
        obtain ⟨p, hp, e1⟩ := h1
        obtain ⟨q, hq, e2⟩ := h2
        have e1 := of_decide_eq_true e1
        have e2 := of_decide_eq_true e2
        have := h p hp q hq
        unfold meet at this
        rw [decT (by omega)] at this
        cases this
  · intro h p hp q hq
    have h1 := okFrom_mem ha p hp
    have h2 := okFrom_mem hb q hq
    cases hm : meet p q with
    | false => rfl
    | true =>
      unfold meet at hm
      have hm := of_decide_eq_true hm
      have e1 : a.has (max p.1 q.1) = true := by unfold Sp.has; rw [List.any_eq_true]; exact ⟨p, hp, decT (by omega)⟩
      have e2 : b.has (max p.1 q.1) = true := by unfold Sp.has; rw [List.any_eq_true]; exact ⟨q, hq, decT (by omega)⟩
      have := h (max p.1 q.1)
      rw [e1, e2] at this
      cases this
theorem join_size {a b : Sp} (ha : a.ok = true) (hb : b.ok = true) : (a.join b).size ≤ a.size + b.size ∧ (a.apart b = true ↔ (a.join b).size = a.size + b.size) := by
  obtain ⟨j1, j2⟩ := join_right ha hb
  rw [size_cnt j1, size_cnt ha, size_cnt hb, cnt_congr (g := fun n => a.has n || b.has n) (fun k _ => j2 k)]
  have e := cnt_or a.has b.has 10000
  have z := cnt_nonneg (fun n => a.has n && b.has n) 10000
  refine ⟨by omega, ?_⟩
  rw [apart_eq, ha, hb]
  simp only [Bool.and_self, Bool.true_and]
  rw [noMeet_iff (ok_iff.1 ha) (ok_iff.1 hb)]
  constructor
  · intro h
    have : cnt (fun n => a.has n && b.has n) 10000 = 0 := cnt_zero.2 (fun k _ => h k)
    omega
  · intro h n
    have hz : cnt (fun n => a.has n && b.has n) 10000 = 0 := by omega
    by_cases c : 0 ≤ n ∧ n ≤ 9999
    · have := cnt_zero.1 hz n.toNat (by omega)
      rw [show ((n.toNat : Nat) : Int) = n by omega] at this
      exact this
    · rw [Bool.and_eq_false_iff]
      left
      cases h1 : a.has n with
      | false => rfl
      | true =>
        exfalso
        have x1 := inS_ge (ok_iff.1 ha) h1
        have x2 := inS_le (ok_iff.1 ha) h1
        exact c ⟨x1, x2⟩
theorem add_right {a : Sp} {n : Int} (h : (a.add n).2 = true) : (a.add n).1.has n = true ∧ (a.add n).1.size = a.size + 1 ∧ a.has n = false := by
  by_cases c : a.ok = true ∧ (0 ≤ n ∧ n ≤ 9999) ∧ a.has n = false
  · obtain ⟨c1, c2, c3⟩ := c
    rw [Sp.add_yes c1 c2 c3]
    obtain ⟨j1, j2⟩ := put_ok (x := (n, n)) (ok_iff.1 c1) c2.1 (Int.le_refl _) c2.2
    refine ⟨(j2 n).2 (.inr ⟨Int.le_refl _, Int.le_refl _⟩), ?_, c3⟩
    rw [size_cnt (ok_iff.2 j1), size_cnt c1]
    have e := cnt_or a.has (fun m => decide (n ≤ m ∧ m ≤ n)) 10000
    have z : cnt (fun m => a.has m && decide (n ≤ m ∧ m ≤ n)) 10000 = 0 := cnt_zero.2 (fun k _ => by
      by_cases e : (k : Int) = n
      · rw [e, c3]; rfl
      · rw [decF (by omega), Bool.and_false])
    have s := cnt_span n n c2.1 (by omega) 10000 (by omega)
    have g : cnt (put a (n, n) false).has 10000 = cnt (fun m => a.has m || decide (n ≤ m ∧ m ≤ n)) 10000 := cnt_congr (fun k _ => by
      have := j2 (k : Int)
      unfold InS at this
      rw [Bool.eq_iff_iff, this, Bool.or_eq_true, decide_eq_true_eq])
    rw [g]
    omega
  · rw [Sp.add_not c] at h
    cases h
end Go.Proofs.Ytbmbmnhamogghab
