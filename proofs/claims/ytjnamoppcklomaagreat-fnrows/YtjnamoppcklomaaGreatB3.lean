/- Several texts of mine, laid together. No statement of the seat is proved here. -/
import Derived.Test.YtjnamoppcklomaaGreatItModel
import Derived.Test.YtjnamoppcklomaaGreatSkMergeF
import Derived.Test.YtjnamoppcklomaaGreatB2
import Derived.Test.YtjnamoppcklomaaGreatItHelp2
import Derived.Test.YtjnamoppcklomaaGreatSpHelp
import Derived.Test.YtjnamoppcklomaaGreatSkLaw
import Derived.Test.YtjnamoppcklomaaGreatB1
import Derived.Test.YtjnamoppcklomaaGreatBase
import Derived.Test.YtjnamoppcklomaaGreatWhole
import Derived.Laws.ResultCell
import Derived.Test.YtjnamoppcklomaaGreatSkShape
import Derived.Deep.DeepCutAuto
namespace Go.Proofs.YtjnamoppcklomaaGreat
section
set_option maxRecDepth 200000
set_option maxHeartbeats 16000000
open Go.RowKit
theorem En.ok_ids {x : En} (h : x.ok = true) : x.ids.ok = true ∧ 0 < x.ids.length := by
 unfold En.ok at h
 simp only [Bool.and_eq_true, decide_eq_true_eq] at h
 exact ⟨h.1.2, h.1.1.2⟩
theorem En.ok_sum {x : En} (h : x.ok = true) : x.sk.ok = true := by
 unfold En.ok at h
 simp only [Bool.and_eq_true] at h
 exact h.2
def En.add (x y : En) : En := ⟨x.key, x.window, joinTo x.ids y.ids y.ids.length, x.sk.merge y.sk⟩
theorem three_madeE (w : World) (A B Z : Array Value) (t : TypeId) : Blk (((w.alloc (.cells A t)).alloc (.cells B t)).alloc (.cells Z t)) w.heap.size A t ∧ Blk (((w.alloc (.cells A t)).alloc (.cells B t)).alloc (.cells Z t)) (w.heap.size + 1) B t ∧ Blk (((w.alloc (.cells A t)).alloc (.cells B t)).alloc (.cells Z t)) (w.heap.size + 1 + 1) Z t ∧ Below w.heap.size w (((w.alloc (.cells A t)).alloc (.cells B t)).alloc (.cells Z t)) := by
 have T := Three.made w A t B Z t
 exact ⟨T.box, T.res, T.loc, T.bel⟩
theorem l6Add_any (v u : Value) (x y : En) (F F' G G' : List Nat) (w : World) (h : RdEn w v x F F') (k : RdEn w u y G G') (hx : x.ok = true) (hy : y.ok = true) (hlen : x.ids.length + y.ids.length ≤ 2097152) :
 Calls Tryz.prog 34 #[v, u] w fun e w' => NewEn w (x.add y) e w' := by
 obtain ⟨p, l, g, a1, n1, c1, a2, n2, c2, a3, n3, c3, rfl, px, rx, _⟩ := h
 obtain ⟨q, k, j, b1, m1, d1, b2, m2, d2, b3, m3, d3, rfl, py, ry, _⟩ := k
 have HP : Hid (RdP w p l x.ids F ∧ RdP w q k y.ids G ∧ l + k ≤ 2097152 ∧ (p = none → g = 0)) := ⟨px, py, by rw [← px.length, ← py.length]; exact hlen, fun e => by
   rcases px.cells with ⟨h0, _⟩ | ⟨b, off, _, e2, _⟩
   · have := (En.ok_ids hx).2; have := px.length; omega
   · rw [e] at e2; cases e2⟩
 have HR : Hid (RdSk w (.agg #[.int .i64 x.sk.count, .int .i64 x.sk.sum, .int .i64 x.sk.min, .int .i64 x.sk.max, .slice a1 n1 c1, .slice a2 n2 c2, .slice a3 n3 c3]) x.sk F' ∧ RdSk w (.agg #[.int .i64 y.sk.count, .int .i64 y.sk.sum, .int .i64 y.sk.min, .int .i64 y.sk.max, .slice b1 m1 d1, .slice b2 m2 d2, .slice b3 m3 d3]) y.sk G') := ⟨rx, ry⟩
 have HO : Hid (x.ok = true ∧ y.ok = true) := ⟨hx, hy⟩
 clear px py rx ry hx hy hlen
 go_enter Tryz.func34, Tryz.ntmps34
 go_wp2
 have TM := three_madeE w #[.int .i64 x.key, .int .i64 x.window, .slice p l g, .int .i64 x.sk.count, .int .i64 x.sk.sum, .int .i64 x.sk.min, .int .i64 x.sk.max, .slice a1 n1 c1, .slice a2 n2 c2, .slice a3 n3 c3] #[.int .i64 y.key, .int .i64 y.window, .slice q k j, .int .i64 y.sk.count, .int .i64 y.sk.sum, .int .i64 y.sk.min, .int .i64 y.sk.max, .slice b1 m1 d1, .slice b2 m2 d2, .slice b3 m3 d3] #[.int .i64 0, .int .i64 0, .slice none 0 0, .int .i64 0, .int .i64 0, .int .i64 0, .int .i64 0, .slice none 0 0, .slice none 0 0, .slice none 0 0] 33
 obtain ⟨w0, hw0⟩ : ∃ W, W = ((w.alloc (.cells #[.int .i64 x.key, .int .i64 x.window, .slice p l g, .int .i64 x.sk.count, .int .i64 x.sk.sum, .int .i64 x.sk.min, .int .i64 x.sk.max, .slice a1 n1 c1, .slice a2 n2 c2, .slice a3 n3 c3] 33)).alloc (.cells #[.int .i64 y.key, .int .i64 y.window, .slice q k j, .int .i64 y.sk.count, .int .i64 y.sk.sum, .int .i64 y.sk.min, .int .i64 y.sk.max, .slice b1 m1 d1, .slice b2 m2 d2, .slice b3 m3 d3] 33)).alloc (.cells #[.int .i64 0, .int .i64 0, .slice none 0 0, .int .i64 0, .int .i64 0, .int .i64 0, .int .i64 0, .slice none 0 0, .slice none 0 0, .slice none 0 0] 33) := ⟨_, rfl⟩
 rw [← hw0] at TM ⊢
 have HS : Hid (Blk w0.drew w.heap.size #[.int .i64 x.key, .int .i64 x.window, .slice p l g, .int .i64 x.sk.count, .int .i64 x.sk.sum, .int .i64 x.sk.min, .int .i64 x.sk.max, .slice a1 n1 c1, .slice a2 n2 c2, .slice a3 n3 c3] 33 ∧ Blk w0.drew (w.heap.size + 1) #[.int .i64 y.key, .int .i64 y.window, .slice q k j, .int .i64 y.sk.count, .int .i64 y.sk.sum, .int .i64 y.sk.min, .int .i64 y.sk.max, .slice b1 m1 d1, .slice b2 m2 d2, .slice b3 m3 d3] 33) := ⟨TM.1.drew, TM.2.1.drew⟩
 have HZ : Hid (Blk w0.drew (w.heap.size + 1 + 1) #[.int .i64 0, .int .i64 0, .slice none 0 0, .int .i64 0, .int .i64 0, .int .i64 0, .int .i64 0, .slice none 0 0, .slice none 0 0, .slice none 0 0] 33 ∧ Below w.heap.size w w0.drew) := ⟨TM.2.2.1.drew, TM.2.2.2.drew⟩
 have hsz : w.heap.size + 2 < w0.drew.heap.size := by have := HZ.out.1.lt; omega
 clear TM hw0
 refine wp_region_held (S := (fun W => Blk W w.heap.size #[.int .i64 x.key, .int .i64 x.window, .slice p l g, .int .i64 x.sk.count, .int .i64 x.sk.sum, .int .i64 x.sk.min, .int .i64 x.sk.max, .slice a1 n1 c1, .slice a2 n2 c2, .slice a3 n3 c3] 33 ∧ Blk W (w.heap.size + 1) #[.int .i64 y.key, .int .i64 y.window, .slice q k j, .int .i64 y.sk.count, .int .i64 y.sk.sum, .int .i64 y.sk.min, .int .i64 y.sk.max, .slice b1 m1 d1, .slice b2 m2 d2, .slice b3 m3 d3] 33)) (by kernel_rfl) ?_
 change wpAnyH _ _ _ _ _ _ _ _ (World.drew _)
 refine tg 0 (.pointer (some ⟨w.heap.size, 0, none⟩)) (H := ⟨HS.out, ?_⟩)
 refine tk 1 (.int .i64 x.key) (H := ⟨(.inl ⟨rfl, fun W hW => by have c := hW.1.cell 0; simp only [aT, aZ] at c; go_simp⟩), HS.out, ?_⟩)
 refine tg 2 (.pointer (some ⟨w.heap.size, 1, none⟩)) (H := ⟨HS.out, ?_⟩)
 refine tk 3 (.int .i64 x.window) (H := ⟨(.inl ⟨rfl, fun W hW => by have c := hW.1.cell 1; simp only [aT, aS, aZ] at c; go_simp⟩), HS.out, ?_⟩)
 refine tg 4 (.pointer (some ⟨w.heap.size, 2, none⟩)) (H := ⟨HS.out, ?_⟩)
 refine tk 5 (.slice p l g) (H := ⟨(.inl ⟨rfl, fun W hW => by have c := hW.1.cell 2; simp only [aT, aS, aZ] at c; go_simp⟩), HS.out, ?_⟩)
 refine tg 6 (.pointer (some ⟨w.heap.size + 1, 2, none⟩)) (H := ⟨HS.out, ?_⟩)
 refine tk 7 (.slice q k j) (H := ⟨(.inl ⟨rfl, fun W hW => by have c := hW.2.cell 2; simp only [aT, aS, aZ] at c; go_simp⟩), HS.out, ?_⟩)
 refine tg 9 (.pointer (some ⟨w.heap.size, 3, none⟩)) (H := ⟨HS.out, ?_⟩)
 refine tk 10 (.agg #[.int .i64 x.sk.count, .int .i64 x.sk.sum, .int .i64 x.sk.min, .int .i64 x.sk.max, .slice a1 n1 c1, .slice a2 n2 c2, .slice a3 n3 c3]) (H := ⟨(yields_cut 31 w.heap.size 3 7 _ #[.int .i64 x.sk.count, .int .i64 x.sk.sum, .int .i64 x.sk.min, .int .i64 x.sk.max, .slice a1 n1 c1, .slice a2 n2 c2, .slice a3 n3 c3] 33 _ rfl rfl rfl Tryz.underlying31 rfl (by kernel_rfl) (by simp) rfl (fun W hW => hW.1)), HS.out, ?_⟩)
 refine tg 11 (.pointer (some ⟨w.heap.size + 1, 3, none⟩)) (H := ⟨HS.out, ?_⟩)
 refine tk 12 (.agg #[.int .i64 y.sk.count, .int .i64 y.sk.sum, .int .i64 y.sk.min, .int .i64 y.sk.max, .slice b1 m1 d1, .slice b2 m2 d2, .slice b3 m3 d3]) (H := ⟨(yields_cut 31 (w.heap.size + 1) 3 7 _ #[.int .i64 y.sk.count, .int .i64 y.sk.sum, .int .i64 y.sk.min, .int .i64 y.sk.max, .slice b1 m1 d1, .slice b2 m2 d2, .slice b3 m3 d3] 33 _ rfl rfl rfl Tryz.underlying31 rfl (by kernel_rfl) (by simp) rfl (fun W hW => hW.2)), HS.out, ?_⟩)
 refine oq 8 (H := fun K hK => ?_)
 refine op_call2' 73 _ _ _ Tryz.f73 (fun v w' => ∃ a len cap F, v = .slice a len cap ∧ RdP w' a len (joinTo x.ids y.ids y.ids.length) F ∧ Own w0.drew.heap.size w' F ∧ Below w0.drew.heap.size w0.drew w' ∧ Capd a len cap) rfl rfl Tryz.func73 (by kernel_rfl) (by kernel_rfl) ((l5Join_any p q l k g j x.ids y.ids F G w0.drew (HP.out.1.below HZ.out.2) (HP.out.2.1.below HZ.out.2) HP.out.2.2.1 HP.out.2.2.2 (inb_iff.1 (ok_inb (En.ok_ids HO.out.1).1)) (inb_iff.1 (ok_inb (En.ok_ids HO.out.2).1))).mono (by rintro e w' ⟨a, len, cap, F, rfl, h1, h2, h3, h4⟩; exact ⟨_, rfl, a, len, cap, F, rfl, h1, h2, h3, h4⟩)) ?_
 rintro _ w1 ⟨aj, lj, cj, Fj, rfl, rj, oj, bz, hcj⟩
 have HCJ : Hid (Capd aj lj cj) := hcj
 clear hcj
 refine pk (h := hK _ _ ⟨⟨HS.out.1.below bz, HS.out.2.below bz⟩, ?_⟩)
 have HJ : Hid (RdP w1 aj lj (joinTo x.ids y.ids y.ids.length) Fj ∧ Own (w.heap.size + 3) w1 Fj) := ⟨rj, oj.mono (by omega)⟩
 have HS1 : Hid (Blk w1 w.heap.size #[.int .i64 x.key, .int .i64 x.window, .slice p l g, .int .i64 x.sk.count, .int .i64 x.sk.sum, .int .i64 x.sk.min, .int .i64 x.sk.max, .slice a1 n1 c1, .slice a2 n2 c2, .slice a3 n3 c3] 33 ∧ Blk w1 (w.heap.size + 1) #[.int .i64 y.key, .int .i64 y.window, .slice q k j, .int .i64 y.sk.count, .int .i64 y.sk.sum, .int .i64 y.sk.min, .int .i64 y.sk.max, .slice b1 m1 d1, .slice b2 m2 d2, .slice b3 m3 d3] 33) := ⟨HS.out.1.below bz, HS.out.2.below bz⟩
 have HZ1 : Hid (Blk w1 (w.heap.size + 1 + 1) #[.int .i64 0, .int .i64 0, .slice none 0 0, .int .i64 0, .int .i64 0, .int .i64 0, .int .i64 0, .slice none 0 0, .slice none 0 0, .slice none 0 0] 33 ∧ Below w.heap.size w w1) := ⟨HZ.out.1.below bz, Below.next HZ.out.2 bz⟩
 clear hK bz rj oj HS HZ
 refine oq 13 (H := fun K hK => ?_)
 refine op_call2' 74 _ _ _ Tryz.f74 (fun v w' => ∃ X, RdSk w' v (x.sk.merge y.sk) X ∧ Own w1.heap.size w' X ∧ Below w1.heap.size w1 w') rfl rfl Tryz.func74 (by kernel_rfl) (by kernel_rfl) ((l3Merge_any _ _ x.sk y.sk F' G' w1 (HR.out.1.below HZ1.out.2) (HR.out.2.below HZ1.out.2) (En.ok_sum HO.out.1) (En.ok_sum HO.out.2)).mono (by rintro e w' ⟨v, X, rfl, h1, h2, h3⟩; exact ⟨_, rfl, X, h1, h2, h3⟩)) ?_
 rintro vm w2 ⟨X, rm, om, bz⟩
 obtain ⟨e1, r1, f1, e2, r2, f2, e3, r3, f3, rfl⟩ := rm.cells7
 refine pk (h := hK _ _ ⟨⟨HS1.out.1.below bz, HS1.out.2.below bz⟩, ?_⟩)
 obtain ⟨M, hM⟩ : ∃ M, M = x.sk.merge y.sk := ⟨_, rfl⟩
 rw [← hM] at rm ⊢
 have HM : Hid (M = x.sk.merge y.sk) := hM
 have HS2 : Hid (Blk w2 w.heap.size #[.int .i64 x.key, .int .i64 x.window, .slice p l g, .int .i64 x.sk.count, .int .i64 x.sk.sum, .int .i64 x.sk.min, .int .i64 x.sk.max, .slice a1 n1 c1, .slice a2 n2 c2, .slice a3 n3 c3] 33 ∧ Blk w2 (w.heap.size + 1) #[.int .i64 y.key, .int .i64 y.window, .slice q k j, .int .i64 y.sk.count, .int .i64 y.sk.sum, .int .i64 y.sk.min, .int .i64 y.sk.max, .slice b1 m1 d1, .slice b2 m2 d2, .slice b3 m3 d3] 33) := ⟨HS1.out.1.below bz, HS1.out.2.below bz⟩
 have HZ2 : Hid (Blk w2 (w.heap.size + 1 + 1) #[.int .i64 0, .int .i64 0, .slice none 0 0, .int .i64 0, .int .i64 0, .int .i64 0, .int .i64 0, .slice none 0 0, .slice none 0 0, .slice none 0 0] 33 ∧ Below w.heap.size w w2) := ⟨HZ1.out.1.below bz, Below.next HZ1.out.2 bz⟩
 have HJ2 : Hid (RdP w2 aj lj (joinTo x.ids y.ids y.ids.length) Fj ∧ Own (w.heap.size + 3) w2 Fj ∧ RdSk w2 (.agg #[.int .i64 M.count, .int .i64 M.sum, .int .i64 M.min, .int .i64 M.max, .slice e1 r1 f1, .slice e2 r2 f2, .slice e3 r3 f3]) M X ∧ Own (w.heap.size + 3) w2 X ∧ ∀ b ∈ Fj, b ∉ X) := ⟨HJ.out.1.below bz, HJ.out.2.below HJ.out.1.lt bz, rm, om.mono (by have := HZ1.out.1.lt; omega), fun b hb hx => by have := HJ.out.1.lt b hb; have := om.ge b hx; omega⟩
 clear hK bz rm om HS1 HZ1 HJ hM
 refine tg 14 (.agg #[.int .i64 x.key, .int .i64 x.window, .slice aj lj cj, .int .i64 M.count, .int .i64 M.sum, .int .i64 M.min, .int .i64 M.max, .slice e1 r1 f1, .slice e2 r2 f2, .slice e3 r3 f3]) (H := ⟨HS2.out, ?_⟩)
 refine oq 15 (H := fun K hK => ?_)
 refine op_store 33 (w.heap.size + 1 + 1) #[.int .i64 0, .int .i64 0, .slice none 0 0, .int .i64 0, .int .i64 0, .int .i64 0, .int .i64 0, .slice none 0 0, .slice none 0 0, .slice none 0 0] #[.int .i64 x.key, .int .i64 x.window, .slice aj lj cj, .int .i64 M.count, .int .i64 M.sum, .int .i64 M.min, .int .i64 M.max, .slice e1 r1 f1, .slice e2 r2 f2, .slice e3 r3 f3] 33 rfl rfl rfl rfl HZ2.out.1 infoEnA rfl (by simp [Value.oneCell']) (pk (h := hK _ _ ⟨⟨HS2.out.1.setRowOther (by omega), HS2.out.2.setRowOther (by omega)⟩, ?_⟩))
 clear hK
 refine wpAnyH_done (by kernel_rfl) ?_ _
 have nf : w.heap.size + 1 + 1 ∉ Fj := fun hx => by have := HJ2.out.2.1.ge _ hx; omega
 have nx : w.heap.size + 1 + 1 ∉ X := fun hx => by have := HJ2.out.2.2.2.1.ge _ hx; omega
 obtain ⟨E, hE⟩ : ∃ E : Array Value, E = #[.int .i64 x.key, .int .i64 x.window, .slice aj lj cj, .int .i64 M.count, .int .i64 M.sum, .int .i64 M.min, .int .i64 M.max, .slice e1 r1 f1, .slice e2 r2 f2, .slice e3 r3 f3] := ⟨_, rfl⟩
 rw [← hE]
 obtain ⟨w3, hw3⟩ : ∃ W, W = w2.setRow (w.heap.size + 1 + 1) E := ⟨_, rfl⟩
 have HF : Hid (Blk w3 (w.heap.size + 1 + 1) E 33 ∧ RdP w3 aj lj (joinTo x.ids y.ids y.ids.length) Fj ∧ Own w.heap.size w3 Fj ∧ RdSk w3 (.agg #[.int .i64 M.count, .int .i64 M.sum, .int .i64 M.min, .int .i64 M.max, .slice e1 r1 f1, .slice e2 r2 f2, .slice e3 r3 f3]) M X ∧ Own w.heap.size w3 X ∧ (∀ b ∈ Fj, b ∉ X) ∧ Below w.heap.size w w3) := by
  rw [hw3]
  exact ⟨HZ2.out.1.setRow, HJ2.out.1.agree (Agree.row nf E), (HJ2.out.2.1.agree (Agree.row nf E)).mono (by omega), HJ2.out.2.2.1.agree (Agree.row nx E), (HJ2.out.2.2.2.1.agree (Agree.row nx E)).mono (by omega), HJ2.out.2.2.2.2, below_setRow HZ2.out.2 (by omega) _⟩
 have HE : Hid (E = #[.int .i64 x.key, .int .i64 x.window, .slice aj lj cj, .int .i64 M.count, .int .i64 M.sum, .int .i64 M.min, .int .i64 M.max, .slice e1 r1 f1, .slice e2 r2 f2, .slice e3 r3 f3] ∧ E.size = 10) := ⟨hE, by rw [hE]; rfl⟩
 rw [← hw3]
 clear hE hw3 HJ2 HZ2 HS2 nf nx
 go_wp2
 refine bodyPost_ret (results_cell_row Tryz.results34 _ _ (w.heap.size + 1 + 1) _ _ (0, 0) _ rfl HF.out.1 Tryz.underlying33 rfl (by rw [HE.out.2]; exact infoEnA)) rfl ?_
 have hM := HM.out
 subst hM
 exact ⟨_, Fj, X, rfl, ⟨aj, lj, cj, e1, r1, f1, e2, r2, f2, e3, r3, f3, by rw [HE.out.1]; rfl, HF.out.2.1, HF.out.2.2.2.1, HCJ.out⟩, HF.out.2.2.1, HF.out.2.2.2.2.1, HF.out.2.2.2.2.2.1, HF.out.2.2.2.2.2.2⟩
end
section
open Go.RowKit
def okFrom : Int → Sp → Prop
 | _, [] => True
 | l, p :: ps => (l ≤ p.1 ∧ p.1 ≤ p.2 ∧ p.2 ≤ 9999) ∧ okFrom (p.2 + 2) ps
def endOf : Int → Sp → Int
 | l, [] => l
 | _, p :: ps => endOf (p.2 + 2) ps
theorem okFrom_append : ∀ (o r : Sp) (l : Int), okFrom l (o ++ r) ↔ okFrom l o ∧ okFrom (endOf l o) r
 | [], r, l => by simp [okFrom, endOf]
 | p :: o, r, l => by simp only [List.cons_append, okFrom, endOf, okFrom_append o r, and_assoc]
theorem endOf_snoc : ∀ (o : Sp) (t : Int × Int) (l : Int), endOf l (o ++ [t]) = t.2 + 2
 | [], t, l => rfl
 | p :: o, t, l => by simp only [List.cons_append, endOf, endOf_snoc o t]
theorem okFrom_mono : ∀ {ps : Sp} {l m : Int}, okFrom l ps → m ≤ l → okFrom m ps
 | [], _, _, _, _ => trivial
 | p :: ps, l, m, h, hm => ⟨⟨by have := h.1; omega, h.1.2⟩, h.2⟩
theorem has_cons (p : Int × Int) (ps : Sp) (n : Int) : Sp.has (p :: ps) n = (decide (p.1 ≤ n ∧ n ≤ p.2) || Sp.has ps n) := rfl
theorem has_nil (n : Int) : Sp.has [] n = false := rfl
theorem has_append (ps qs : Sp) (n : Int) : Sp.has (ps ++ qs) n = (Sp.has ps n || Sp.has qs n) := by simp [Sp.has]
def InS (ps : Sp) (n : Int) : Prop := ps.has n = true
theorem inS_cons {p : Int × Int} {ps : Sp} {n : Int} : InS (p :: ps) n ↔ (p.1 ≤ n ∧ n ≤ p.2) ∨ InS ps n := by unfold InS; rw [has_cons]; simp
theorem inS_nil {n : Int} : ¬ InS [] n := by unfold InS; rw [has_nil]; simp
theorem inS_append {ps qs : Sp} {n : Int} : InS (ps ++ qs) n ↔ InS ps n ∨ InS qs n := by unfold InS; rw [has_append]; simp
theorem inS_ge : ∀ {ps : Sp} {l n : Int}, okFrom l ps → InS ps n → l ≤ n
 | [], _, _, _, h => (inS_nil h).elim
 | p :: ps, l, n, h, hn => by
  rcases inS_cons.1 hn with e | e
  ·
   have := h.1; omega
  ·
   have := inS_ge h.2 e; have := h.1; omega
theorem inS_le : ∀ {ps : Sp} {l n : Int}, okFrom l ps → InS ps n → n ≤ 9999
 | [], _, _, _, h => (inS_nil h).elim
 | p :: ps, l, n, h, hn => by
  rcases inS_cons.1 hn with e | e
  ·
   have := h.1; omega
  ·
   exact inS_le h.2 e
theorem sp_ext : ∀ {ps qs : Sp} {l m : Int}, okFrom l ps → okFrom m qs → (∀ n, InS ps n ↔ InS qs n) → ps = qs
 | [], [], _, _, _, _, _ => rfl
 | [], q :: qs, _, _, _, h2, h => by
  have := (h q.1).2 (inS_cons.2 (.inl ⟨Int.le_refl _, h2.1.2.1⟩))
  exact (inS_nil this).elim
 | p :: ps, [], _, _, h1, _, h => by
  have := (h p.1).1 (inS_cons.2 (.inl ⟨Int.le_refl _, h1.1.2.1⟩))
  exact (inS_nil this).elim
 | p :: ps, q :: qs, l, m, h1, h2, h => by
  obtain ⟨⟨a1, a2, a3⟩, a4⟩ := h1
  obtain ⟨⟨b1, b2, b3⟩, b4⟩ := h2
  have e1 : p.1 = q.1 := by
   have x1 := inS_ge (ps := q :: qs) (l := q.1) ⟨⟨Int.le_refl _, b2, b3⟩, b4⟩ ((h p.1).1 (inS_cons.2 (.inl ⟨Int.le_refl _, a2⟩)))
   have x2 := inS_ge (ps := p :: ps) (l := p.1) ⟨⟨Int.le_refl _, a2, a3⟩, a4⟩ ((h q.1).2 (inS_cons.2 (.inl ⟨Int.le_refl _, b2⟩)))
   omega
  have e2 : p.2 = q.2 := by
   rcases Int.lt_trichotomy p.2 q.2 with c | c | c
   ·
    rcases inS_cons.1 ((h (p.2 + 1)).2 (inS_cons.2 (.inl ⟨by omega, by omega⟩))) with e | e
    ·
     omega
    ·
     have := inS_ge a4 e; omega
   ·
    exact c
   ·
    rcases inS_cons.1 ((h (q.2 + 1)).1 (inS_cons.2 (.inl ⟨by omega, by omega⟩))) with e | e
    ·
     omega
    ·
     have := inS_ge b4 e; omega
  have e3 : ps = qs := sp_ext a4 b4 (fun n => by
    constructor
    · intro hn
      have := inS_ge a4 hn
      rcases inS_cons.1 ((h n).1 (inS_cons.2 (.inr hn))) with e | e
      · omega
      · exact e
    · intro hn
      have := inS_ge b4 hn
      rcases inS_cons.1 ((h n).2 (inS_cons.2 (.inr hn))) with e | e
      · omega
      · exact e)
  rw [e3, Prod.ext e1 e2]
def floorAt (ps : Sp) (k : Nat) : Int := if k = 0 then 0 else (ps.at (k - 1)).2 + 2
theorem okAt_iff (ps : Sp) (k : Nat) : ps.okAt k = true ↔ (if k = 0 then 0 else (ps.at (k - 1)).2 + 2) ≤ (ps.at k).1 ∧ 0 ≤ (ps.at k).1 ∧ (ps.at k).1 ≤ (ps.at k).2 ∧ (ps.at k).2 ≤ 9999 := by
 unfold Sp.okAt
 simp only [Bool.and_eq_true, Bool.or_eq_true, decide_eq_true_eq]
 split <;> omega
theorem okFrom_drop (ps : Sp) : ∀ (d k : Nat), k + d = ps.length → 0 ≤ floorAt ps k → ((∀ j, k ≤ j → j < ps.length → ps.okAt j = true) ↔ okFrom (floorAt ps k) (ps.drop k))
 | 0, k, hk, _ => by
  rw [List.drop_eq_nil_of_le (by omega)]
  exact ⟨fun _ => trivial, fun _ j h1 h2 => by omega⟩
 | d + 1, k, hk, h0 => by
  rw [drop_at (by omega), okFrom]
  have e : floorAt ps (k + 1) = (ps.at k).2 + 2 := by unfold floorAt; rw [if_neg (by omega), show k + 1 - 1 = k by omega]
  constructor
  ·
   intro h
   have hk1 := (okAt_iff ps k).1 (h k (Nat.le_refl _) (by omega))
   refine ⟨⟨hk1.1, hk1.2.2⟩, ?_⟩
   rw [← e]
   exact (okFrom_drop ps d (k + 1) (by omega) (by rw [e]; omega)).1 (fun j h1 h2 => h j (by omega) h2)
  ·
   rintro ⟨h1, h2⟩ j hj1 hj2
   by_cases c : j = k
   ·
    subst c
    exact (okAt_iff ps j).2 ⟨h1.1, by omega, h1.2⟩
   ·
    rw [← e] at h2
    exact (okFrom_drop ps d (k + 1) (by omega) (by rw [e]; omega)).2 h2 j (by omega) hj2
theorem ok_iff {ps : Sp} : ps.ok = true ↔ okFrom 0 ps := by
 have e := okFrom_drop ps ps.length 0 (by omega) (by simp [floorAt])
 simp only [floorAt, if_true, List.drop_zero] at e
 rw [← e]
 exact ⟨fun h j _ hj => Sp.ok_at h j hj, fun h => Sp.ok_all (fun j hj => h j (Nat.zero_le _) hj)⟩
theorem put_true_same : ∀ {ps : Sp} {x : Int × Int} {l : Int}, okFrom l ps → x.2 + 2 ≤ l → x.1 ≤ x.2 → put ps x true = ps
 | [], _, _, _, _, _ => rfl
 | p :: ps, x, l, h, hl, hx => by
  obtain ⟨⟨a1, a2, a3⟩, a4⟩ := h
  rw [put, if_neg (by omega), if_pos (by omega), put_true_same a4 (by omega) hx]
  rfl
theorem put_ok : ∀ {ps : Sp} {x : Int × Int} {l : Int}, okFrom l ps → l ≤ x.1 → x.1 ≤ x.2 → x.2 ≤ 9999 → okFrom l (put ps x false) ∧ ∀ n, InS (put ps x false) n ↔ InS ps n ∨ (x.1 ≤ n ∧ n ≤ x.2)
 | [], x, l, _, h1, h2, h3 => ⟨⟨⟨h1, h2, h3⟩, trivial⟩, fun n => by
     show InS [x] n ↔ _
     rw [inS_cons]
     exact ⟨fun h => h.symm.imp (fun e => e) (fun e => e), fun h => h.symm.imp (fun e => e) (fun e => e)⟩⟩
 | p :: ps, x, l, h, h1, h2, h3 => by
  obtain ⟨⟨a1, a2, a3⟩, a4⟩ := h
  rw [put]
  split
  ·
   obtain ⟨i1, i2⟩ := put_ok a4 (by omega) h2 h3
   refine ⟨⟨⟨a1, a2, a3⟩, i1⟩, fun n => ?_⟩
   rw [inS_cons, inS_cons, i2, or_assoc]
  ·
   split
   ·
    rw [put_true_same (l := p.2 + 2) a4 (by omega) h2]
    refine ⟨⟨⟨h1, h2, h3⟩, ⟨⟨by omega, a2, a3⟩, a4⟩⟩, fun n => ?_⟩
    show InS (x :: p :: ps) n ↔ _
    rw [inS_cons (p := x)]
    exact or_comm
   ·
    obtain ⟨i1, i2⟩ := put_ok (x := (min x.1 p.1, max x.2 p.2)) (l := l) (okFrom_mono a4 (by omega)) (by simp only; omega) (by simp only; omega) (by simp only; omega)
    refine ⟨i1, fun n => ?_⟩
    rw [i2, inS_cons]
    have : (min x.1 p.1 ≤ n ∧ n ≤ max x.2 p.2) ↔ (p.1 ≤ n ∧ n ≤ p.2) ∨ (x.1 ≤ n ∧ n ≤ x.2) := by omega
    rw [show ((min x.1 p.1, max x.2 p.2).1 ≤ n ∧ n ≤ (min x.1 p.1, max x.2 p.2).2) ↔ (p.1 ≤ n ∧ n ≤ p.2) ∨ (x.1 ≤ n ∧ n ≤ x.2) from this, or_comm, or_right_comm]
theorem okFrom_at {ps : Sp} (h : okFrom 0 ps) {k : Nat} (hk : k < ps.length) : 0 ≤ (ps.at k).1 ∧ (ps.at k).1 ≤ (ps.at k).2 ∧ (ps.at k).2 ≤ 9999 := (Sp.okAt_parts (Sp.ok_at (ok_iff.2 h) k hk)).1
theorem take_inS {qs : Sp} {k : Nat} (hk : k < qs.length) (n : Int) : InS (qs.take (k + 1)) n ↔ InS (qs.take k) n ∨ ((qs.at k).1 ≤ n ∧ n ≤ (qs.at k).2) := by
 rw [takeP_succ qs k hk, inS_append, inS_cons]
 show _ ∨ (_ ∨ InS [] n) ↔ _
 exact ⟨fun h => h.imp id (fun h => h.resolve_right inS_nil), fun h => h.imp id .inl⟩
theorem joinTo_ok {ps qs : Sp} (h1 : okFrom 0 ps) (h2 : okFrom 0 qs) : ∀ k, k ≤ qs.length → okFrom 0 (joinTo ps qs k) ∧ ∀ n, InS (joinTo ps qs k) n ↔ InS ps n ∨ InS (qs.take k) n
 | 0, _ => by
  rw [joinTo_zero]
  exact ⟨h1, fun n => ⟨.inl, fun h => h.resolve_right inS_nil⟩⟩
 | k + 1, hk => by
  have hq := okFrom_at h2 (k := k) (by omega)
  obtain ⟨i1, i2⟩ := joinTo_ok h1 h2 k (by omega)
  obtain ⟨j1, j2⟩ := put_ok (x := qs.at k) i1 (by omega) (by omega) (by omega)
  rw [joinTo_succ (by omega)]
  refine ⟨j1, fun n => ?_⟩
  rw [j2, i2, take_inS (by omega), or_assoc]
theorem join_ok {ps qs : Sp} (h1 : okFrom 0 ps) (h2 : okFrom 0 qs) : okFrom 0 (joinTo ps qs qs.length) ∧ ∀ n, InS (joinTo ps qs qs.length) n ↔ InS ps n ∨ InS qs n := by
 have := joinTo_ok h1 h2 qs.length (Nat.le_refl _)
 rw [List.take_length] at this
 exact this
def lay1 (o : Sp) (x : Int × Int) : Sp := if o = [] ∨ (o.at (o.length - 1)).2 + 1 < x.1 then o ++ [x] else o.take (o.length - 1) ++ [((o.at (o.length - 1)).1, max (o.at (o.length - 1)).2 x.2)]
def lay (o xs : Sp) : Sp := xs.foldl lay1 o
def cutN : Sp → Int → Nat
 | [], _ => 0
 | p :: ps, n => if p.1 ≤ n then cutN ps n + 1 else 0
def both : Sp → Sp → Sp → Sp
 | a, [], o => lay o a
 | a, x :: b, o => both (a.drop (cutN a x.1)) b (lay1 (lay o (a.take (cutN a x.1))) x)
theorem snoc_cases (o : Sp) : o = [] ∨ ∃ o' t, o = o' ++ [t] := by
 rcases List.eq_nil_or_concat o with h | ⟨o', t, h⟩
 ·
  exact .inl h
 ·
  exact .inr ⟨o', t, by simpa using h⟩
theorem lay1_nil (x : Int × Int) : lay1 [] x = [x] := by simp [lay1]
theorem lay1_snoc (o : Sp) (t x : Int × Int) : lay1 (o ++ [t]) x = if t.2 + 1 < x.1 then o ++ [t] ++ [x] else o ++ [(t.1, max t.2 x.2)] := by
 have e : (o ++ [t]).at ((o ++ [t]).length - 1) = t := by simp [Sp.at]
 have e2 : (o ++ [t]).take ((o ++ [t]).length - 1) = o := by simp
 unfold lay1
 rw [e, e2]
 simp
structure LayOk (o : Sp) (m : Int) : Prop where
 ok : okFrom 0 o
 le : ∀ o' t, o = o' ++ [t] → t.1 ≤ m
theorem LayOk.nil (m : Int) : LayOk [] m := ⟨trivial, fun o' t h => by simp at h⟩
theorem LayOk.up {o : Sp} {m m' : Int} (h : LayOk o m) (hm : m ≤ m') : LayOk o m' := ⟨h.ok, fun o' t e => Int.le_trans (h.le o' t e) hm⟩
theorem lay1_ok {o : Sp} {x : Int × Int} {m : Int} (h : LayOk o m) (hm : m ≤ x.1) (h0 : 0 ≤ x.1) (h1 : x.1 ≤ x.2) (h2 : x.2 ≤ 9999) : LayOk (lay1 o x) x.1 ∧ ∀ n, InS (lay1 o x) n ↔ InS o n ∨ (x.1 ≤ n ∧ n ≤ x.2) := by
 rcases snoc_cases o with rfl | ⟨o', t, rfl⟩
 ·
  rw [lay1_nil]
  refine ⟨⟨⟨⟨h0, h1, h2⟩, trivial⟩, fun o' t e => ?_⟩, fun n => ?_⟩
  ·
   obtain ⟨rfl, rfl⟩ : o' = [] ∧ x = t := by
    cases o' with
    | nil => simpa using e
    | cons y ys => simp at e
   exact Int.le_refl _
  ·
   rw [inS_cons]
   exact ⟨fun h => .inr (h.resolve_right inS_nil), fun h => .inl (h.resolve_left inS_nil)⟩
 ·
  have ht := h.le o' t rfl
  have hok := h.ok
  rw [okFrom_append] at hok
  obtain ⟨k1, ⟨k2, k3, k4⟩, _⟩ := hok
  rw [lay1_snoc]
  split
  ·
   refine ⟨⟨?_, fun o2 t2 e => ?_⟩, fun n => ?_⟩
   ·
    rw [okFrom_append, endOf_snoc]
    exact ⟨h.ok, ⟨by omega, h1, h2⟩, trivial⟩
   ·
    have e3 := List.append_inj_right' e rfl
    obtain rfl : x = t2 := by simpa using e3
    exact Int.le_refl _
   ·
    rw [inS_append (ps := o' ++ [t]), inS_cons (p := x)]
    exact ⟨fun h => h.imp id (fun h => h.resolve_right inS_nil), fun h => h.imp id .inl⟩
  ·
   refine ⟨⟨?_, fun o2 t2 e => ?_⟩, fun n => ?_⟩
   ·
    rw [okFrom_append]
    exact ⟨k1, ⟨k2, by simp only; omega, by simp only; omega⟩, trivial⟩
   ·
    have e3 := List.append_inj_right' e rfl
    have e4 : (t.1, max t.2 x.2) = t2 := by simpa using e3
    rw [← e4]; simp only; omega
   ·
    rw [inS_append, inS_append, inS_cons, inS_cons]
    have : (t.1 ≤ n ∧ n ≤ max t.2 x.2) ↔ (t.1 ≤ n ∧ n ≤ t.2) ∨ (x.1 ≤ n ∧ n ≤ x.2) := by omega
    rw [show ((t.1, max t.2 x.2).1 ≤ n ∧ n ≤ (t.1, max t.2 x.2).2) ↔ (t.1 ≤ n ∧ n ≤ t.2) ∨ (x.1 ≤ n ∧ n ≤ x.2) from this]
    have e := inS_nil (n := n)
    simp only [e, or_false, or_assoc]
theorem lay_ok : ∀ {xs o : Sp} {m l M : Int}, LayOk o m → okFrom l xs → m ≤ l → 0 ≤ l → m ≤ M → (∀ p ∈ xs, p.1 ≤ M) → LayOk (lay o xs) M ∧ ∀ n, InS (lay o xs) n ↔ InS o n ∨ InS xs n
 | [], o, m, l, M, h, _, _, _, hM, _ => ⟨h.up hM, fun n => ⟨.inl, fun h => h.resolve_right inS_nil⟩⟩
 | x :: xs, o, m, l, M, h, hx, hm, h0, hM, hall => by
  obtain ⟨⟨a1, a2, a3⟩, a4⟩ := hx
  obtain ⟨i1, i2⟩ := lay1_ok h (x := x) (by omega) (by omega) a2 a3
  obtain ⟨j1, j2⟩ := lay_ok (xs := xs) (M := M) i1 a4 (by omega) (by omega) (hall x (by simp)) (fun p hp => hall p (by simp [hp]))
  refine ⟨j1, fun n => ?_⟩
  rw [show lay o (x :: xs) = lay (lay1 o x) xs from rfl, j2, i2, inS_cons, or_assoc]
theorem cut_take : ∀ (a : Sp) (n : Int), ∀ p ∈ a.take (cutN a n), p.1 ≤ n
 | [], _, p, hp => by simp [cutN] at hp
 | q :: a, n, p, hp => by
  rw [cutN] at hp
  split at hp
  ·
   rw [List.take_succ_cons] at hp
   rcases List.mem_cons.1 hp with rfl | hp
   ·
    assumption
   ·
    exact cut_take a n p hp
  ·
   simp at hp
theorem okFrom_take {l : Int} {a : Sp} (k : Nat) (h : okFrom l a) : okFrom l (a.take k) := by
 have := h
 rw [← List.take_append_drop k a, okFrom_append] at this
 exact this.1
theorem cut_drop : ∀ {a : Sp} {n l : Int}, okFrom l a → okFrom n (a.drop (cutN a n))
 | [], _, _, _ => by simp [cutN, okFrom]
 | q :: a, n, l, h => by
  rw [cutN]
  split
  ·
   rw [List.drop_succ_cons]; exact cut_drop h.2
  ·
   exact ⟨⟨by omega, h.1.2⟩, h.2⟩
theorem both_ok : ∀ {b a o : Sp} {m la lb : Int}, LayOk o m → okFrom la a → okFrom lb b → m ≤ la → m ≤ lb → 0 ≤ la → 0 ≤ lb → okFrom 0 (both a b o) ∧ ∀ n, InS (both a b o) n ↔ InS o n ∨ InS a n ∨ InS b n
 | [], a, o, m, la, lb, h, ha, _, h1, _, h0, _ => by
  obtain ⟨M, hM⟩ : ∃ M : Int, m ≤ M ∧ ∀ p ∈ a, p.1 ≤ M := ⟨max m 9999, by omega, fun p hp => by
    obtain ⟨k, hk, rfl⟩ := List.getElem_of_mem hp
    have := okFrom_at (okFrom_mono ha h0) hk
    unfold Sp.at at this
    rw [List.getElem?_eq_getElem hk] at this
    simp only [Option.getD_some] at this
    omega⟩
  obtain ⟨i1, i2⟩ := lay_ok h ha h1 h0 hM.1 hM.2
  refine ⟨i1.ok, fun n => ?_⟩
  rw [both, i2]
  exact ⟨fun h => h.imp id .inl, fun h => h.imp id (fun h => h.resolve_right inS_nil)⟩
 | x :: b, a, o, m, la, lb, h, ha, hb, h1, h2, h0, h00 => by
  obtain ⟨⟨b1, b2, b3⟩, b4⟩ := hb
  obtain ⟨i1, i2⟩ := lay_ok (M := x.1) h (okFrom_take (cutN a x.1) ha) h1 h0 (by omega) (cut_take a x.1)
  obtain ⟨j1, j2⟩ := lay1_ok (x := x) i1 (Int.le_refl _) (by omega) b2 b3
  obtain ⟨k1, k2⟩ := both_ok (a := a.drop (cutN a x.1)) (b := b) j1 (cut_drop ha) b4 (Int.le_refl _) (by omega) (by omega) (by omega)
  refine ⟨k1, fun n => ?_⟩
  have e : InS a n ↔ InS (a.take (cutN a x.1)) n ∨ InS (a.drop (cutN a x.1)) n := by rw [← inS_append, List.take_append_drop]
  rw [both, k2, j2, i2, inS_cons, e]
  simp only [or_assoc]
  constructor
  ·
   rintro (h | h | h | h | h) <;> simp [h]
  ·
   rintro (h | h | h | h | h) <;> simp [h]
theorem both_nil_ok {a b : Sp} (ha : okFrom 0 a) (hb : okFrom 0 b) : okFrom 0 (both a b []) ∧ ∀ n, InS (both a b []) n ↔ InS a n ∨ InS b n := by
 obtain ⟨i1, i2⟩ := both_ok (LayOk.nil 0) ha hb (Int.le_refl _) (Int.le_refl _) (Int.le_refl _) (Int.le_refl _)
 exact ⟨i1, fun n => by rw [i2]; exact ⟨fun h => h.resolve_left inS_nil, .inr⟩⟩
theorem both_join {a b : Sp} (ha : a.ok = true) (hb : b.ok = true) : both a b [] = a.join b := by
 rw [Sp.join_yes ha hb]
 obtain ⟨i1, i2⟩ := both_nil_ok (ok_iff.1 ha) (ok_iff.1 hb)
 obtain ⟨j1, j2⟩ := join_ok (ok_iff.1 ha) (ok_iff.1 hb)
 exact sp_ext i1 j1 (fun n => by rw [i2, j2])
def noMeet (a b : Sp) : Bool := a.all fun p => b.all fun q => !meet p q
theorem meet_comm (p q : Int × Int) : meet p q = meet q p := by unfold meet; rw [Bool.eq_iff_iff]; simp only [decide_eq_true_eq]; exact and_comm
theorem noMeet_nil (b : Sp) : noMeet [] b = true := rfl
theorem noMeet_comm (a b : Sp) : noMeet a b = noMeet b a := by
 unfold noMeet
 rw [Bool.eq_iff_iff]
 simp only [List.all_eq_true]
 exact ⟨fun h q hq p hp => by rw [meet_comm]; exact h p hp q hq, fun h q hq p hp => by rw [meet_comm]; exact h p hp q hq⟩
theorem okFrom_mem : ∀ {b : Sp} {l : Int}, okFrom l b → ∀ q ∈ b, l ≤ q.1 ∧ q.1 ≤ q.2 ∧ q.2 ≤ 9999
 | [], _, _, q, hq => by simp at hq
 | p :: b, l, h, q, hq => by
  rcases List.mem_cons.1 hq with rfl | hq
  ·
   exact h.1
  ·
   have := okFrom_mem h.2 q hq
   have := h.1
   omega
theorem noMeet_hit {p q : Int × Int} {a b : Sp} (h1 : p.1 ≤ q.1) (h2 : q.1 ≤ p.2) (h3 : q.1 ≤ q.2) : noMeet (p :: a) (q :: b) = false := by
 have : meet p q = true := by unfold meet; exact decT (by omega)
 simp [noMeet, this]
theorem noMeet_drop {p q : Int × Int} {a b : Sp} {l : Int} (h : okFrom l (q :: b)) (h2 : p.2 < q.1) : noMeet (p :: a) (q :: b) = noMeet a (q :: b) := by
 have e : (q :: b).all (fun q => !meet p q) = true := by
  rw [List.all_eq_true]
  intro r hr
  have := okFrom_mem (l := q.1) (b := q :: b) ⟨⟨Int.le_refl _, h.1.2⟩, h.2⟩ r hr
  unfold meet
  rw [decF (by omega)]
  rfl
 show ((q :: b).all _ && _) = _
 rw [e]
 rfl
theorem apart_eq (ps qs : Sp) : ps.apart qs = (ps.ok && qs.ok && noMeet ps qs) := rfl
end
section
open Go.RowKit
def cnt (f : Int → Bool) : Nat → Int
 | 0 => 0
 | k + 1 => cnt f k + if f k then 1 else 0
theorem cnt_nonneg (f : Int → Bool) : ∀ N, 0 ≤ cnt f N
 | 0 => Int.le_refl _
 | k + 1 => by have := cnt_nonneg f k; rw [cnt]; split <;> omega
theorem cnt_or (f g : Int → Bool) : ∀ N, cnt (fun n => f n || g n) N + cnt (fun n => f n && g n) N = cnt f N + cnt g N
 | 0 => rfl
 | k + 1 => by
  have := cnt_or f g k
  simp only [cnt]
  by_cases hf : f k = true <;> by_cases hg : g k = true <;> simp [hf, hg] <;> omega
theorem cnt_zero {f : Int → Bool} : ∀ {N : Nat}, cnt f N = 0 ↔ ∀ k : Nat, k < N → f k = false
 | 0 => ⟨fun _ k hk => by omega, fun _ => rfl⟩
 | N + 1 => by
  have h0 := cnt_nonneg f N
  have ih := cnt_zero (f := f) (N := N)
  rw [cnt]
  constructor
  ·
   intro h k hk
   cases hf : f N with
   | true => rw [hf] at h; simp at h; omega
   | false =>
    rw [hf] at h
    by_cases c : k = N
    ·
     subst c; exact hf
    ·
     exact ih.1 (by simpa using h) k (by omega)
  ·
   intro h
   rw [ih.2 (fun k hk => h k (by omega)), h N (by omega)]
   rfl
theorem cnt_congr {f g : Int → Bool} : ∀ {N : Nat}, (∀ k : Nat, k < N → f k = g k) → cnt f N = cnt g N
 | 0, _ => rfl
 | N + 1, h => by rw [cnt, cnt, cnt_congr (fun k hk => h k (by omega)), h N (by omega)]
theorem cnt_span (lo hi : Int) (h0 : 0 ≤ lo) (h1 : lo ≤ hi + 1) : ∀ N : Nat, hi < N ∨ (N : Int) ≤ hi + 1 → cnt (fun n => decide (lo ≤ n ∧ n ≤ hi)) N = max 0 (min (N : Int) (hi + 1) - lo)
 | 0, _ => by simp only [cnt]; omega
 | N + 1, h => by
  have ih := cnt_span lo hi h0 h1 N (by omega)
  rw [cnt, ih]
  by_cases c : lo ≤ (N : Int) ∧ (N : Int) ≤ hi
  ·
   rw [decT c, if_pos rfl]; omega
  ·
   rw [decF c, if_neg (by simp)]; omega
theorem sum_cnt : ∀ {ps : Sp} {l : Int}, okFrom l ps → 0 ≤ l → ∀ N : Nat, 9999 < N → Sp.sum ps = cnt (Sp.has ps) N
 | [], _, _, _, N, _ => by
  rw [cnt_zero.2 (fun k _ => has_nil k)]; rfl
 | p :: ps, l, h, h0, N, hN => by
  obtain ⟨⟨a1, a2, a3⟩, a4⟩ := h
  have ih := sum_cnt a4 (by omega) N hN
  have e := cnt_or (fun n => decide (p.1 ≤ n ∧ n ≤ p.2)) (Sp.has ps) N
  have z : cnt (fun n => decide (p.1 ≤ n ∧ n ≤ p.2) && Sp.has ps n) N = 0 := cnt_zero.2 (fun k _ => by
    cases hb : Sp.has ps k with
    | false => simp
    | true =>
      have := inS_ge a4 hb
      rw [decF (by omega)]
      rfl)
  have c := cnt_span p.1 p.2 (by omega) (by omega) N (by omega)
  have s : Sp.sum (p :: ps) = (p.2 - p.1 + 1) + Sp.sum ps := by simp [Sp.sum]
  have e2 : cnt (Sp.has (p :: ps)) N = cnt (fun n => decide (p.1 ≤ n ∧ n ≤ p.2) || Sp.has ps n) N := rfl
  rw [s, e2, ih]
  omega
theorem size_cnt {ps : Sp} (h : ps.ok = true) : ps.size = cnt ps.has 10000 := by
 rw [Sp.size_ok h]
 exact sum_cnt (ok_iff.1 h) (Int.le_refl _) 10000 (by omega)
theorem join_right {a b : Sp} (ha : a.ok = true) (hb : b.ok = true) : (a.join b).ok = true ∧ ∀ n, (a.join b).has n = (a.has n || b.has n) := by
 rw [Sp.join_yes ha hb]
 obtain ⟨j1, j2⟩ := join_ok (ok_iff.1 ha) (ok_iff.1 hb)
 refine ⟨ok_iff.2 j1, fun n => ?_⟩
 have := j2 n
 unfold InS at this
 rw [Bool.eq_iff_iff, this, Bool.or_eq_true]
theorem noMeet_iff {a b : Sp} (ha : okFrom 0 a) (hb : okFrom 0 b) : noMeet a b = true ↔ ∀ n, (a.has n && b.has n) = false := by
 unfold noMeet
 simp only [List.all_eq_true]
 constructor
 ·
  intro h n
  rw [Bool.and_eq_false_iff]
  cases h1 : a.has n with
  | false => exact .inl rfl
  | true =>
   right
   cases h2 : b.has n with
   | false => rfl
   | true =>
    exfalso
    unfold Sp.has at h1 h2
    rw [List.any_eq_true] at h1 h2
    obtain ⟨p, hp, e1⟩ := h1
    obtain ⟨q, hq, e2⟩ := h2
    have e1 := of_decide_eq_true e1
    have e2 := of_decide_eq_true e2
    have := h p hp q hq
    unfold meet at this
    rw [decT (by omega)] at this
    cases this
 ·
  intro h p hp q hq
  have h1 := okFrom_mem ha p hp
  have h2 := okFrom_mem hb q hq
  cases hm : meet p q with
  | false => rfl
  | true =>
   unfold meet at hm
   have hm := of_decide_eq_true hm
   have e1 : a.has (max p.1 q.1) = true := by unfold Sp.has; rw [List.any_eq_true]; exact ⟨p, hp, decT (by omega)⟩
   have e2 : b.has (max p.1 q.1) = true := by unfold Sp.has; rw [List.any_eq_true]; exact ⟨q, hq, decT (by omega)⟩
   have := h (max p.1 q.1)
   rw [e1, e2] at this
   cases this
theorem join_size {a b : Sp} (ha : a.ok = true) (hb : b.ok = true) : (a.join b).size ≤ a.size + b.size ∧ (a.apart b = true ↔ (a.join b).size = a.size + b.size) := by
 obtain ⟨j1, j2⟩ := join_right ha hb
 rw [size_cnt j1, size_cnt ha, size_cnt hb, cnt_congr (g := fun n => a.has n || b.has n) (fun k _ => j2 k)]
 have e := cnt_or a.has b.has 10000
 have z := cnt_nonneg (fun n => a.has n && b.has n) 10000
 refine ⟨by omega, ?_⟩
 rw [apart_eq, ha, hb]
 simp only [Bool.and_self, Bool.true_and]
 rw [noMeet_iff (ok_iff.1 ha) (ok_iff.1 hb)]
 constructor
 ·
  intro h
  have : cnt (fun n => a.has n && b.has n) 10000 = 0 := cnt_zero.2 (fun k _ => h k)
  omega
 ·
  intro h n
  have hz : cnt (fun n => a.has n && b.has n) 10000 = 0 := by omega
  by_cases c : 0 ≤ n ∧ n ≤ 9999
  ·
   have := cnt_zero.1 hz n.toNat (by omega)
   rw [show ((n.toNat : Nat) : Int) = n by omega] at this
   exact this
  ·
   rw [Bool.and_eq_false_iff]
   left
   cases h1 : a.has n with
   | false => rfl
   | true =>
    exfalso
    have x1 := inS_ge (ok_iff.1 ha) h1
    have x2 := inS_le (ok_iff.1 ha) h1
    exact c ⟨x1, x2⟩
end
section
open Go.RowKit
def fineTo (xs : List En) : Nat → Bool
 | 0 => true
 | k + 1 => fineTo xs k && (match xs[k]? with
   | some x => x.ok && (xs.take k).all fun y => x.ids.apart y.ids
   | none => true)
def Rw.ok (x : Rw) : Bool := decide (x.list.length ≤ 24) && fineTo x.list x.list.length
def idsTo (xs : List En) (k : Nat) : Sp := (xs.take k).foldl (fun o e => o.join e.ids) []
def Rw.ids (x : Rw) : Sp := if x.ok then idsTo x.list x.list.length else []
theorem fineTo_succ {xs : List En} {k : Nat} {x : En} (h : xs[k]? = some x) : fineTo xs (k + 1) = (fineTo xs k && (x.ok && (xs.take k).all fun y => x.ids.apart y.ids)) := by
 rw [fineTo, h]
theorem fineTo_mono {xs : List En} {i : Nat} : ∀ {n : Nat}, i ≤ n → fineTo xs n = true → fineTo xs i = true
 | 0, h, k => by obtain rfl : i = 0 := by omega
                 exact k
 | n + 1, h, k => by
  by_cases e : i = n + 1
  ·
   rw [e]; exact k
  ·
   refine fineTo_mono (n := n) (by omega) ?_
   rw [fineTo, Bool.and_eq_true] at k
   exact k.1
theorem fineTo_not {xs : List En} {i n : Nat} (hi : i ≤ n) (h : fineTo xs i = false) : fineTo xs n = false := by
 cases e : fineTo xs n
 ·
  rfl
 ·
  rw [fineTo_mono hi e] at h; cases h
theorem Rw.ok_not {x : Rw} {i : Nat} (hi : i ≤ x.list.length) (h : fineTo x.list i = false) : x.ok = false := by
 unfold Rw.ok; rw [fineTo_not hi h, Bool.and_false]
theorem Rw.ok_long {x : Rw} (h : 24 < x.list.length) : x.ok = false := by
 unfold Rw.ok; rw [decide_eq_false (by omega), Bool.false_and]
theorem Rw.ok_yes {x : Rw} (h : x.list.length ≤ 24) (k : fineTo x.list x.list.length = true) : x.ok = true := by
 unfold Rw.ok; rw [decide_eq_true h, k]; rfl
theorem Rw.ok_parts {x : Rw} (h : x.ok = true) : x.list.length ≤ 24 ∧ fineTo x.list x.list.length = true := by
 unfold Rw.ok at h; simp only [Bool.and_eq_true, decide_eq_true_eq] at h; exact h
theorem fineTo_at {xs : List En} {i n : Nat} {x : En} (h : fineTo xs n = true) (hi : i < n) (hx : xs[i]? = some x) : x.ok = true ∧ (xs.take i).all (fun y => x.ids.apart y.ids) = true := by
 have := fineTo_mono (i := i + 1) (by omega) h
 rw [fineTo_succ hx] at this
 simp only [Bool.and_eq_true] at this
 exact this.2
theorem idsTo_zero (xs : List En) : idsTo xs 0 = [] := by simp [idsTo]
theorem idsTo_succ {xs : List En} {k : Nat} {x : En} (h : xs[k]? = some x) : idsTo xs (k + 1) = (idsTo xs k).join x.ids := by
 unfold idsTo
 rw [List.take_add_one, h]
 simp [List.foldl_append]
theorem take_snoc_en {xs : List En} {k : Nat} {x : En} (h : xs[k]? = some x) : xs.take (k + 1) = xs.take k ++ [x] := by
 rw [List.take_add_one, h]; rfl
theorem idsTo_ok {xs : List En} : ∀ {k : Nat}, k ≤ xs.length → fineTo xs k = true → (idsTo xs k).ok = true ∧ (∀ n, (idsTo xs k).has n = (xs.take k).any fun y => y.ids.has n) ∧ ((idsTo xs k).length : Int) ≤ ensSize (xs.take k)
 | 0, _, _ => by
  rw [idsTo_zero]
  exact ⟨rfl, fun n => by simp [Sp.has], by simp [ensSize, sumOfL]⟩
 | k + 1, hk, h => by
  have hx : xs[k]? = some (xs[k]'(by omega)) := List.getElem?_eq_getElem _
  generalize xs[k]'(by omega) = x at hx
  obtain ⟨i1, i2, i3⟩ := idsTo_ok (k := k) (by omega) (fineTo_mono (by omega) h)
  have hox := (fineTo_at h (by omega) hx).1
  have hix := (En.ok_ids hox).1
  obtain ⟨j1, j2⟩ := join_right i1 hix
  rw [idsTo_succ hx, take_snoc_en hx]
  refine ⟨j1, fun n => ?_, ?_⟩
  ·
   rw [j2, i2, List.any_append]; simp
  ·
   rw [Sp.join_yes i1 hix]
   have := joinTo_length (ps := idsTo xs k) (qs := x.ids) x.ids.length (Nat.le_refl _)
   have e : ensSize (xs.take k ++ [x]) = ensSize (xs.take k) + x.wt := by unfold ensSize; rw [sumOfL_split]; simp [sumOfL]
   rw [e]
   have h0 := sumLen_nonneg x.sk.rows
   unfold En.wt Sk.size
   omega
theorem apart_iff {a b : Sp} (ha : a.ok = true) (hb : b.ok = true) : a.apart b = true ↔ ∀ n, (a.has n && b.has n) = false := by
 rw [apart_eq, ha, hb, Bool.true_and, Bool.true_and]
 exact noMeet_iff (ok_iff.1 ha) (ok_iff.1 hb)
theorem idsTo_apart {xs : List En} {k : Nat} {x : En} (hk : k ≤ xs.length) (h : fineTo xs k = true) (hx : x.ok = true) : (idsTo xs k).apart x.ids = (xs.take k).all fun y => x.ids.apart y.ids := by
 obtain ⟨i1, i2, _⟩ := idsTo_ok hk h
 have hix := (En.ok_ids hx).1
 have hall : ∀ y ∈ xs.take k, y.ids.ok = true := fun y hy => by
  obtain ⟨i, hi, e⟩ := List.mem_iff_getElem.1 hy
  have hi2 : i < k := by rw [List.length_take] at hi; omega
  have hy2 : xs[i]? = some y := by
   rw [List.getElem_take] at e
   rw [← e]; exact List.getElem?_eq_getElem _
  exact (En.ok_ids (fineTo_at h hi2 hy2).1).1
 rw [Bool.eq_iff_iff, apart_iff i1 hix, List.all_eq_true]
 constructor
 ·
  intro q y hy
  rw [apart_iff hix (hall y hy)]
  intro n
  cases e1 : x.ids.has n
  ·
   rfl
  ·
   cases e2 : y.ids.has n
   ·
    rfl
   ·
    have h3 : (xs.take k).any (fun y => y.ids.has n) = true := List.any_eq_true.2 ⟨y, hy, e2⟩
    have h4 := q n
    rw [i2, h3, e1] at h4
    cases h4
 ·
  intro q n
  rw [i2]
  cases e1 : (xs.take k).any (fun y => y.ids.has n)
  ·
   rfl
  ·
   obtain ⟨y, hy, e2⟩ := List.any_eq_true.1 e1
   have := (apart_iff hix (hall y hy)).1 (q y hy) n
   rw [e2, Bool.and_true] at this
   rw [this]; rfl
theorem ensSize_take (xs : List En) (k : Nat) : ensSize (xs.take k) ≤ ensSize xs := sumOfL_le_take En.wt_nonneg xs k
theorem idsTo_lenS {xs : List En} (hs : ensSize xs ≤ 1048576) {k : Nat} (hk : k ≤ xs.length) (h : fineTo xs k = true) : (idsTo xs k).length ≤ 1048576 := by
 have h1 := (idsTo_ok hk h).2.2
 have h2 := ensSize_take xs k
 omega
theorem idsTo_len {x : Rw} (hf : x.fits) {k : Nat} (hk : k ≤ x.list.length) (h : fineTo x.list k = true) : (idsTo x.list k).length ≤ 1048576 := by
 have h1 := (idsTo_ok hk h).2.2
 have h2 := ensSize_take x.list k
 unfold Rw.fits Rw.size at hf
 omega
end
section
open Go.RowKit
theorem ens_at {w : World} {a : Option Addr} {len : Nat} {xs : List En} {F : List Nat} (h : RdL enK w a len xs F) {k : Nat} (hk : k < len) : ∃ b off x cs Fi, a = some ⟨b, off, none⟩ ∧ b < w.heap.size ∧ xs[k]? = some x ∧ cs.size = 10 ∧ (∀ j, j < 10 → w.cell? ⟨b, off + k * 10 + j, none⟩ = cs[j]?) ∧ RdE w (.agg cs) x Fi := by
 obtain ⟨b, off, ha, hb, cs, Fi, h1, h2, h3, _⟩ := h.get k hk
 have hx : xs[k]? = some (xs[k]'(by rw [h.length]; exact hk)) := List.getElem?_eq_getElem _
 exact ⟨b, off, _, cs, Fi, ha, h.lt b hb, hx, h1, h2, h3 _ hx⟩
theorem infoEnS2 : (Tryz.prog.info? 33).map (·.size) = some 10 := by kernel_rfl
theorem ens_eq_step {xs ys : List En} {k : Nat} {x y : En} (hx : xs[k]? = some x) (hy : ys[k]? = some y) (h : xs.take k = ys.take k) (e : x = y) : xs.take (k + 1) = ys.take (k + 1) := by
 rw [take_snoc_at hx, take_snoc_at hy, h, e]
theorem ens_ne_at {xs ys : List En} {k : Nat} {x y : En} (hx : xs[k]? = some x) (hy : ys[k]? = some y) (e : ¬ x = y) : decide (xs = ys) = false := by
 rw [decide_eq_false_iff_not]
 intro h
 rw [h, hy] at hx
 cases hx
 exact e rfl
end
section
open Go.RowKit
theorem infoRwI : (Tryz.prog.info? 26).map (·.size) = some 1 := by kernel_rfl
theorem rwSize {cs : Array Value} (h : cs.size = 1) : (Tryz.prog.info? 26).map (·.size) = some cs.size := by rw [h]; kernel_rfl
end
section
open Go.RowKit
theorem ens_in {w : World} {a : Option Addr} {len : Nat} {xs : List En} {F : List Nat} (h : RdL enK w a len xs F) {k : Nat} (hk : k < len) : ∃ b off x p l g cs Fi G, a = some ⟨b, off, none⟩ ∧ b < w.heap.size ∧ xs[k]? = some x ∧ cs.size = 10 ∧ (∀ W, Below w.heap.size w W → ∀ j, j < 10 → W.cell? ⟨b, off + k * 10 + j, none⟩ = cs[j]?) ∧ RdE w (.agg cs) x Fi ∧ cs[0]? = some (.int .i64 x.key) ∧ cs[1]? = some (.int .i64 x.window) ∧ cs[2]? = some (.slice p l g) ∧ RdP w p l x.ids G ∧ Capd p l g := by
 obtain ⟨b, off, x, cs, Fi, ha, hb, hx, hs, hc, hr⟩ := ens_at h hk
 have hr0 := hr
 obtain ⟨F1, F2, hF, p, l, g, a1, n1, c1, a2, n2, c2, a3, n3, c3, ev, hp, _, hcp⟩ := hr
 injection ev with ev
 subst ev
 exact ⟨b, off, x, p, l, g, _, Fi, F1, ha, hb, hx, hs, fun W hB j hj => by rw [← hc j hj]; exact hB.cell (p := ⟨b, off + k * 10 + j, none⟩) hb, hr0, rfl, rfl, rfl, hp, hcp⟩
theorem wide_at {xs : List En} (h : ∀ y ∈ xs, y.wide) {k : Nat} {x : En} (hx : xs[k]? = some x) : x.wide := h x (List.mem_of_getElem? hx)
end
section
open Go.RowKit
theorem infoEnG : (Tryz.prog.info? 33).map (fun i => (i.zero, i.size, i.bytes)) = some (some (.agg #[.int .i64 0, .int .i64 0, .slice none 0 0, .int .i64 0, .int .i64 0, .int .i64 0, .int .i64 0, .slice none 0 0, .slice none 0 0, .slice none 0 0]), 10, 144) := by kernel_rfl
theorem infoEnG2 : (Tryz.prog.info? 33).map (·.size) = some 10 := by kernel_rfl
def NewRwG (w : World) (xs : List En) (e : Ending) (w' : World) : Prop := ∃ (q : Option Addr) (k : Nat) (F : List Nat) (lo : Nat) (vs : List Value) (GG : List Nat),
 e = .returned (.agg #[.slice q xs.length k]) ∧ RdL enK w' q xs.length xs F ∧ Capd q xs.length k ∧ Own w.heap.size w' F ∧ Below w.heap.size w w' ∧ GrowL enK 33 xs lo xs.length (.slice q xs.length k) vs GG w' ∧ w.heap.size ≤ lo
theorem NewRwG.plain {w : World} {x : Rw} {e : Ending} {w' : World} (h : NewRwG w x.list e w') : NewRw w x e w' := by
 obtain ⟨q, k, F, lo, vs, GG, rfl, r, c, o, b, _⟩ := h
 exact ⟨_, F, rfl, ⟨q, _, k, rfl, r, c⟩, o, b⟩
structure CopyR (w : World) (A : Array Value) (tA tC : TypeId) (xs : List En) (lo k : Nat) (v : Value) (vs : List Value) (G : List Nat) (W : World) : Prop where
 three : Three w A tA #[.slice none 0 0] #[v] tC W
 grow : GrowL enK 33 xs lo k v vs G W
 big : w.heap.size + 3 ≤ lo
theorem CopyR.below {w W W' : World} {A : Array Value} {tA tC : TypeId} {xs : List En} {lo k : Nat} {v : Value} {vs : List Value} {G : List Nat} (h : CopyR w A tA tC xs lo k v vs G W) (b : Below W.heap.size W W') : CopyR w A tA tC xs lo k v vs G W' :=
 ⟨h.three.below b, h.grow.below b, h.big⟩
theorem CopyR.step {w W W' : World} {A : Array Value} {tA tC : TypeId} {xs : List En} {lo k : Nat} {v v' : Value} {vs vs' : List Value} {G G' : List Nat} (h : CopyR w A tA tC xs lo k v vs G W) (hgrow : W.grownBy W' v.ownBlock) (hg : GrowL enK 33 xs lo (k + 1) v' vs' G' W') :
 CopyR w A tA tC xs lo (k + 1) v' vs' G' (W'.setCell ⟨w.heap.size + 1 + 1, 0, none⟩ v') ∧ Blk W' w.heap.size A tA ∧ Below w.heap.size w W' ∧ Blk W' (w.heap.size + 1 + 1) #[v] tC := by
 have big := h.big
 have ot : ∀ b, b < lo → W'.heap[b]? = W.heap[b]? := fun b hb => h.grow.other hgrow hb
 have bx := h.three.box.agree (ot _ (by omega))
 have rs := h.three.res.agree (ot _ (by omega))
 have lc := h.three.loc.agree (ot _ (by omega))
 have bel : Below w.heap.size w W' := h.three.bel.grown hgrow h.three.bel.size (fun b hb => by have := (h.grow.row.lt b hb).1; omega)
 have T : Three w A tA #[.slice none 0 0] #[v] tC W' := ⟨bx, rs, lc, bel⟩
 exact ⟨⟨T.set 0 v', hg.set (by omega), h.big⟩, bx, bel, lc⟩
structure CpRw (w : World) (A : Array Value) (tA : TypeId) (xs : List En) (lo k : Nat) (v : Value) (vs : List Value) (G : List Nat) (W : World) : Prop where
 box : Blk W w.heap.size A tA
 res : Blk W (w.heap.size + 1) #[.slice none 0 0] tA
 bel : Below w.heap.size w W
 grow : GrowL enK 33 xs lo k v vs G W
 big : w.heap.size + 2 ≤ lo
theorem CpRw.below {w W W' : World} {A : Array Value} {tA : TypeId} {xs : List En} {lo k : Nat} {v : Value} {vs : List Value} {G : List Nat} (h : CpRw w A tA xs lo k v vs G W) (b : Below W.heap.size W W') : CpRw w A tA xs lo k v vs G W' :=
 ⟨h.box.below b, h.res.below b, Below.next h.bel b, h.grow.below b, h.big⟩
theorem CpRw.step {w W W' : World} {A : Array Value} {tA : TypeId} {xs : List En} {lo k : Nat} {v v' : Value} {vs vs' : List Value} {G G' : List Nat} (h : CpRw w A tA xs lo k v vs G W) (hgrow : W.grownBy W' v.ownBlock) (hg : GrowL enK 33 xs lo (k + 1) v' vs' G' W') : CpRw w A tA xs lo (k + 1) v' vs' G' W' := by
 have big := h.big
 have ot : ∀ b, b < lo → W'.heap[b]? = W.heap[b]? := fun b hb => h.grow.other hgrow hb
 exact ⟨h.box.agree (ot _ (by omega)), h.res.agree (ot _ (by omega)), h.bel.grown hgrow h.bel.size (fun b hb => by have := (h.grow.row.lt b hb).1; omega), hg, big⟩
end
section
open Go.RowKit
end
section
set_option maxRecDepth 200000
set_option maxHeartbeats 16000000
open Go.RowKit
theorem cells_of {w : World} {a : Option Addr} {len : Nat} {ps : Sp} {F : List Nat} (h : RdP w a len ps F) : len = 0 ∨ ∃ b off, a = some ⟨b, off, none⟩ ∧ b < w.heap.size ∧ SpCells w b off len ps := by
 rcases h.cells with ⟨h0, _⟩ | ⟨b, off, hp, e, _, hc⟩
 ·
  exact .inl h0
 ·
  exact .inr ⟨b, off, e, World.block_lt_of_cell? _ _ (hc 0 hp).1, hc⟩
theorem floorAt_succ (ps : Sp) (k : Nat) : floorAt ps (k + 1) = (ps.at k).2 + 2 := by unfold floorAt; rw [if_neg (by omega), show k + 1 - 1 = k by omega]
theorem setOkImpl_any (a : Option Addr) (len cap : Nat) (ps : Sp) (F : List Nat) (w : World) (h : RdP w a len ps F) (hlen : len ≤ 2097152) :
 Calls Tryz.prog 45 #[.slice a len cap] w fun e w' => e = .returned (.bool ps.ok) ∧ Below w.heap.size w w' := by
 have HL : Hid (ps.length = len) := h.length
 have HC : Hid (len = 0 ∨ ∃ b off, a = some ⟨b, off, none⟩ ∧ b < w.heap.size ∧ SpCells w b off len ps) := cells_of h
 clear h
 go_enter Tryz.func45, Tryz.ntmps45
 go_wp2
 go_loopw [3, 8] (fun q i wr => ∃ (k : Nat) (l : Int), k ≤ len ∧ i = .int .i64 k ∧ q = .int .i64 l ∧ 0 ≤ l ∧ l ≤ 10001 ∧ Hid (Below w.heap.size w wr) ∧ Hid (l = floorAt ps k ∧ ∀ j, j < k → ps.okAt j = true)) (fun _ i _ => len - (intOf i).toNat)
 case atStart => exact ⟨0, 0, by omega, rfl, rfl, by omega, by omega, Below.refl _ _, rfl, fun j hj => by omega⟩
 case round =>
  obtain ⟨k, l, hk, rfl, rfl, l0, l1, HB, HN⟩ := hrel
  by_cases hlt : k < len
  ·
   have hca := HC.out
   rcases hca with h0 | ⟨b, off, rfl, hbw, hc⟩
   ·
    omega
   obtain ⟨x, hx⟩ : ∃ x, x = (ps.at k).1 := ⟨_, rfl⟩
   obtain ⟨y, hy⟩ : ∃ x, x = (ps.at k).2 := ⟨_, rfl⟩
   have e := hc k hlt
   rw [← hx, ← hy] at e
   have d1 : wr.cell? ⟨b, off + k * 2, none⟩ = some (.int .i64 x) := (HB.out.cell (by exact hbw)).trans e.1
   have d2 : wr.cell? ⟨b, off + k * 2 + 1, none⟩ = some (.int .i64 y) := (HB.out.cell (by exact hbw)).trans e.2
   have HX : Hid (x = (ps.at k).1 ∧ y = (ps.at k).2) := ⟨hx, hy⟩
   have HB2 : Hid (Below w.heap.size w (wr.alloc (.cells #[.int .i64 x, .int .i64 y] 74))) := Below.allocW _ HB.out (Nat.le_refl _)
   have HOK : Hid (ps.okAt k = true ↔ l ≤ x ∧ 0 ≤ x ∧ x ≤ y ∧ y ≤ 9999) := by
    have := okAt_iff ps k
    rw [← hx, ← hy] at this
    rw [HN.out.1]
    exact this
   have hI : (k : Int) < (len : Int) := by omega
   have hkl : k < ps.length := by rw [HL.out]; exact hlt
   clear e hx hy hc HB
   by_cases c1 : x < l
   ·
    have c1d : decide (x < l) = true := decT c1
    have HV : Hid (ps.ok = false) := Sp.ok_not hkl (by rw [Bool.eq_false_iff]; exact fun e => by have := HOK.out.1 e; omega)
    go_wp2
    go_ret
    rw [HV.out]
    exact ⟨rfl, HB2.out⟩
   have c1d : decide (x < l) = false := decF c1
   by_cases c2 : y < x
   ·
    have c2d : decide (y < x) = true := decT c2
    have HV : Hid (ps.ok = false) := Sp.ok_not hkl (by rw [Bool.eq_false_iff]; exact fun e => by have := HOK.out.1 e; omega)
    go_wp2
    go_ret
    rw [HV.out]
    exact ⟨rfl, HB2.out⟩
   have c2d : decide (y < x) = false := decF c2
   by_cases c3 : 9999 < y
   ·
    have c3d : decide (9999 < y) = true := decT c3
    have HV : Hid (ps.ok = false) := Sp.ok_not hkl (by rw [Bool.eq_false_iff]; exact fun e => by have := HOK.out.1 e; omega)
    go_wp2
    go_ret
    rw [HV.out]
    exact ⟨rfl, HB2.out⟩
   have c3d : decide (9999 < y) = false := decF c3
   have HN2 : Hid (y + 2 = floorAt ps (k + 1) ∧ ∀ j, j < k + 1 → ps.okAt j = true) := ⟨by rw [floorAt_succ, HX.out.2], all_up HN.out.2 (HOK.out.2 ⟨by omega, by omega, by omega, by omega⟩)⟩
   go_wp2
   go_roundw
   case rel => exact ⟨k + 1, y + 2, by omega, by go_num, by go_num, by omega, by omega, HB2, HN2⟩
   case measure => simp [intOf]; omega
  ·
   obtain rfl : k = len := by omega
   have HV : Hid (ps.ok = true) := Sp.ok_all (fun j hj => HN.out.2 j (by rw [← HL.out]; exact hj))
   go_wp2
   go_ret
   rw [HV.out]
   exact ⟨rfl, HB.out⟩
theorem sizeImpl_any (a : Option Addr) (len cap : Nat) (ps : Sp) (F : List Nat) (w : World) (h : RdP w a len ps F) (hlen : len ≤ 2097152) :
 Calls Tryz.prog 14 #[.slice a len cap] w fun e w' => e = .returned (.int .i64 ps.size) ∧ Below w.heap.size w w' := by
 have HL : Hid (ps.length = len) := h.length
 have HR : Hid (RdP w a len ps F) := h
 have HC : Hid (len = 0 ∨ ∃ b off, a = some ⟨b, off, none⟩ ∧ b < w.heap.size ∧ SpCells w b off len ps) := cells_of h
 clear h
 go_enter Tryz.func14, Tryz.ntmps14
 go_wp2_with fail
 refine (setOkImpl_any a len cap ps F _ HR.out (by omega)).mono ?_
 rintro e w1 ⟨rfl, hb⟩
 have HB0 : Hid (Below w.heap.size w w1) := hb
 clear hb HR
 obtain ⟨d, hd⟩ : ∃ d, d = ps.ok := ⟨_, rfl⟩
 rw [← hd]
 have HD : Hid (d = ps.ok) := hd
 clear hd
 cases d
 ·
  go_wp2
  go_ret
  rw [Sp.size_not HD.out.symm]
  exact ⟨rfl, HB0.out⟩
 go_wp2
 go_loopw [3, 11] (fun q i wr => ∃ (k : Nat) (u : Int), k ≤ len ∧ i = .int .i64 k ∧ q = .int .i64 u ∧ 0 ≤ u ∧ u ≤ 20971520000 ∧ Hid (Below w.heap.size w wr) ∧ Hid (u = Sp.sum (ps.take k))) (fun _ i _ => len - (intOf i).toNat)
 case atStart => exact ⟨0, 0, by omega, rfl, rfl, by omega, by omega, HB0, rfl⟩
 case round =>
  clear HB0
  obtain ⟨k, u, hk, rfl, rfl, u0, u1, HB, HN⟩ := hrel
  by_cases hlt : k < len
  ·
   have hca := HC.out
   rcases hca with h0 | ⟨b, off, rfl, hbw, hc⟩
   ·
    omega
   obtain ⟨x, hx⟩ : ∃ x, x = (ps.at k).1 := ⟨_, rfl⟩
   obtain ⟨y, hy⟩ : ∃ x, x = (ps.at k).2 := ⟨_, rfl⟩
   have e := hc k hlt
   have hok := (Sp.okAt_parts (Sp.ok_at HD.out.symm k (by rw [HL.out]; exact hlt))).1
   have hst := Sp.sum_step (ps := ps) (k := k) (by rw [HL.out]; exact hlt)
   have hrg := Sp.sum_range HD.out.symm (k + 1) (by rw [HL.out]; exact hlt)
   rw [← hx, ← hy] at e hok hst
   have d1 : wr.cell? ⟨b, off + k * 2, none⟩ = some (.int .i64 x) := (HB.out.cell (by exact hbw)).trans e.1
   have d2 : wr.cell? ⟨b, off + k * 2 + 1, none⟩ = some (.int .i64 y) := (HB.out.cell (by exact hbw)).trans e.2
   have HB2 : Hid (Below w.heap.size w (wr.alloc (.cells #[.int .i64 x, .int .i64 y] 74))) := Below.allocW _ HB.out (Nat.le_refl _)
   have hI : (k : Int) < (len : Int) := by omega
   have x0 : 0 ≤ x := by omega
   have x1 : x ≤ 9999 := by omega
   have y0 : 0 ≤ y := by omega
   have y1 : y ≤ 9999 := by omega
   have HN2 : Hid (u + (y - x + 1) = Sp.sum (ps.take (k + 1)) ∧ 0 ≤ u + (y - x + 1) ∧ u + (y - x + 1) ≤ 20971520000) := by
    have := HN.out
    rw [hst, ← this] at hrg
    exact ⟨by rw [hst, ← this], by omega, by omega⟩
   clear e hx hy hok hst hrg hc HB
   go_wp2
   go_roundw
   case rel => exact ⟨k + 1, u + (y - x + 1), by omega, by go_num, by go_num, HN2.out.2.1, HN2.out.2.2, HB2, HN2.out.1⟩
   case measure => simp [intOf]; omega
  ·
   obtain rfl : k = len := by omega
   have HV : Hid (u = ps.size) := by
    show _ = _
    rw [Sp.size_ok HD.out.symm, HN.out, List.take_of_length_le (by rw [HL.out]; omega)]
   go_wp2
   go_ret
   rw [← HV.out]
   exact ⟨rfl, HB.out⟩
end
section
open Go.RowKit
end
section
set_option maxRecDepth 200000
set_option maxHeartbeats 16000000
open Go.RowKit
theorem isPlace_any (k p : Int) (w : World) : Calls Tryz.prog 145 #[.agg #[.int .i64 k, .int .i64 p]] w fun e w' => e = .returned (.bool (placeOk k p)) ∧ Below w.heap.size w w' := by
 have HB : Hid (Below w.heap.size w (w.alloc (.cells #[.int .i64 k, .int .i64 p] 98))) := (Below.refl _ _).alloc (Nat.le_refl _) _
 go_enter Tryz.func145, Tryz.ntmps145
 go_wp2_with fail
 refine (inRange_any _ _ _).mono ?_
 rintro e w2 ⟨rfl, hw2⟩
 have hw2' := hw2.symm
 subst hw2'
 clear hw2
 obtain ⟨d1, hd1⟩ : ∃ d, d = decide (0 ≤ k ∧ k ≤ 4) := ⟨_, rfl⟩
 rw [← hd1]
 have HD1 : Hid (d1 = decide (0 ≤ k ∧ k ≤ 4)) := hd1
 clear hd1
 cases d1
 ·
  have HV : Hid (placeOk k p = false) := by show _ = _; unfold placeOk; rw [← HD1.out]; rfl
  go_wp2
  go_ret
  exact ⟨ret_bool HV.out.symm, HB.out⟩
 go_wp2_with fail
 refine (inRange_any _ _ _).mono ?_
 rintro e w2 ⟨rfl, hw2⟩
 have hw2' := hw2.symm
 subst hw2'
 clear hw2
 obtain ⟨d2, hd2⟩ : ∃ d, d = decide (0 ≤ p ∧ p ≤ 20) := ⟨_, rfl⟩
 rw [← hd2]
 have HV : Hid (d2 = placeOk k p) := by show _ = _; unfold placeOk; rw [← HD1.out, ← hd2]; rfl
 clear hd2
 go_wp2
 go_ret
 exact ⟨ret_bool HV.out, HB.out⟩
def hc (k p : Int) (a : Option Addr) (l c : Nat) (ys : List Int) : Array Value := (.int .i64 k :: .int .i64 p :: .slice a l c :: ys.map (Value.int .i64)).toArray
theorem hc_size {k p : Int} {a : Option Addr} {l c : Nat} {ys : List Int} (h : ys.length = 28) : (hc k p a l c ys).size = 31 := by
 unfold hc; simp [h]
theorem hc_one (k p : Int) (a : Option Addr) (l c : Nat) (ys : List Int) : (hc k p a l c ys).all (·.oneCell') = true := by
 unfold hc
 simp [Value.oneCell']
section
variable {P : Program} {ops : Array Oper} {Q : Exit → Act → World → Prop} {rest : List Oper} {a : Act} {w : World} {o : Oper}
theorem stopBuild (ty : TypeId) {fs : Array (Nat × Operand)} (_ho : o.op = .build ty fs) (h : Stop (wpList P ops Q (o :: rest) a w)) : wpList P ops Q (o :: rest) a w := h
theorem built_any {ty : TypeId} {fs : Array (Nat × Operand)} (v : Value) (hw : Region.wanted o (yielded ops a.tmps) = true) (ho : o.op = .build ty fs) (hr : (Instr.build ty (fs.map fun p => (p.1, a.eval p.2))).run P w = .ok v w) (h : wpList P ops Q rest (a.put o.dst v) w) : Stop (wpList P ops Q (o :: rest) a w) :=
 wpList_step fun K hK => by
  rw [if_pos hw]
  unfold Oper.wp execOp
  simp only [ho]
  simp [hr]
  exact hK _ _ h
end
theorem build_hold (w : World) (k p : Int) (a : Option Addr) (l c : Nat) (ys : List Int) (h : ys.length = 28) : (Instr.build 135 #[(0, .agg #[.int .i64 k, .int .i64 p]), (1, .slice a l c), (2, .agg (tc ys))]).run Tryz.prog w = .ok (.agg (hc k p a l c ys)) w := by
 have key : ∀ y0 y1 y2 y3 y4 y5 y6 y7 y8 y9 y10 y11 y12 y13 y14 y15 y16 y17 y18 y19 y20 y21 y22 y23 y24 y25 y26 y27 : Int, (Instr.build 135 #[(0, .agg #[.int .i64 k, .int .i64 p]), (1, .slice a l c), (2, .agg (tc [y0, y1, y2, y3, y4, y5, y6, y7, y8, y9, y10, y11, y12, y13, y14, y15, y16, y17, y18, y19, y20, y21, y22, y23, y24, y25, y26, y27]))]).run Tryz.prog w = .ok (.agg (hc k p a l c [y0, y1, y2, y3, y4, y5, y6, y7, y8, y9, y10, y11, y12, y13, y14, y15, y16, y17, y18, y19, y20, y21, y22, y23, y24, y25, y26, y27])) w := by
  intro y0 y1 y2 y3 y4 y5 y6 y7 y8 y9 y10 y11 y12 y13 y14 y15 y16 y17 y18 y19 y20 y21 y22 y23 y24 y25 y26 y27
  kernel_rfl
 match ys, h with
 | [y0, y1, y2, y3, y4, y5, y6, y7, y8, y9, y10, y11, y12, y13, y14, y15, y16, y17, y18, y19, y20, y21, y22, y23, y24, y25, y26, y27], _ => exact key y0 y1 y2 y3 y4 y5 y6 y7 y8 y9 y10 y11 y12 y13 y14 y15 y16 y17 y18 y19 y20 y21 y22 y23 y24 y25 y26 y27
theorem holdSize {cs : Array Value} (h : cs.size = 31) : (Tryz.prog.info? 135).map (·.size) = some cs.size := by rw [h]; kernel_rfl
theorem okHolding_any (v : Value) (x : En) (F G : List Nat) (w : World) (h : RdEn w v x F G) (hw : x.sk.wide) (hl : x.ids.length ≤ 2097152) :
 Calls Tryz.prog 103 #[v] w fun e w' => ∃ k p a l c ys, e = .returned (.tuple #[.agg (hc k p a l c ys), .bool x.ok]) ∧ ys.length = 28 ∧ (x.ok = true → k = x.key ∧ p = x.window ∧ ys = x.sk.tl ∧ RdP w a l x.ids F ∧ Capd a l c) ∧ Below w.heap.size w w' := by
 obtain ⟨b, l, c, a1, n1, c1, a2, n2, c2, a3, n3, c3, rfl, hp, hr, hcp⟩ := h
 have HR : Hid (RdSk w (.agg #[.int .i64 x.sk.count, .int .i64 x.sk.sum, .int .i64 x.sk.min, .int .i64 x.sk.max, .slice a1 n1 c1, .slice a2 n2 c2, .slice a3 n3 c3]) x.sk G ∧ x.sk.wide) := ⟨hr, hw⟩
 have HP : Hid (RdP w b l x.ids F ∧ l ≤ 2097152 ∧ x.ids.length = l ∧ Capd b l c) := ⟨hp, by rw [← hp.length]; exact hl, hp.length, hcp⟩
 have hl2 : l ≤ 2097152 := HP.out.2.1
 have Z := two_made w #[.int .i64 x.key, .int .i64 x.window, .slice b l c, .int .i64 x.sk.count, .int .i64 x.sk.sum, .int .i64 x.sk.min, .int .i64 x.sk.max, .slice a1 n1 c1, .slice a2 n2 c2, .slice a3 n3 c3] (hc 0 0 none 0 0 (List.replicate 28 0)) 33 135
 have HZ : Hid (_ ∧ _ ∧ _) := Z
 clear hr hw hp hl Z hcp
 go_enter Tryz.func103, Tryz.ntmps103
 go_wp2_with (first | go_skip | (with_reducible refine stopLoad 31 rfl ?_))
 refine load_cutw 31 w.heap.size 3 7 _ #[.int .i64 x.sk.count, .int .i64 x.sk.sum, .int .i64 x.sk.min, .int .i64 x.sk.max, .slice a1 n1 c1, .slice a2 n2 c2, .slice a3 n3 c3] 33 _ HZ.out.1 rfl rfl rfl Tryz.underlying31 rfl infoSkI (by simp) rfl ?_
 go_wp2_with fail
 refine (okTally_any _ x.sk G _ (HR.out.1.below HZ.out.2.2) HR.out.2).mono ?_
 rintro e w1 ⟨xs, ys, rfl, _, hy, hx, hyx, hb1⟩
 have hok := okT_ok hx
 have HY : Hid (ys.length = 28 ∧ (x.sk.ok = true → ys = x.sk.tl)) := ⟨hy, fun e => by rw [hyx (hok.trans e)]; exact hx (Sk.ok_shaped e)⟩
 have HS1 : Hid (Blk w1 w.heap.size #[.int .i64 x.key, .int .i64 x.window, .slice b l c, .int .i64 x.sk.count, .int .i64 x.sk.sum, .int .i64 x.sk.min, .int .i64 x.sk.max, .slice a1 n1 c1, .slice a2 n2 c2, .slice a3 n3 c3] 33 ∧ Blk w1 (w.heap.size + 1) (hc 0 0 none 0 0 (List.replicate 28 0)) 135 ∧ Below w.heap.size w w1) := ⟨HZ.out.1.below hb1, HZ.out.2.1.below hb1, Below.next HZ.out.2.2 hb1⟩
 rw [hok]
 clear hb1 hy hx hyx hok HZ
 obtain ⟨d, hd⟩ : ∃ d, d = x.sk.ok := ⟨_, rfl⟩
 rw [← hd]
 have HD : Hid (d = x.sk.ok) := hd
 clear hd
 go_wp2_with (first | go_skip | (with_reducible refine stopStore 118 rfl ?_))
 refine store_fresh 118 w1.heap.size rfl (tc (List.replicate 28 0)) (tc ys) 118 rfl rfl rfl rfl (tallySize HY.out.1) (by rw [tc_size, tc_size, HY.out.1]; rfl) (tc_one _) ?_
 intro W2 hg2 hb2
 have HS2 : Hid (Blk W2 w.heap.size #[.int .i64 x.key, .int .i64 x.window, .slice b l c, .int .i64 x.sk.count, .int .i64 x.sk.sum, .int .i64 x.sk.min, .int .i64 x.sk.max, .slice a1 n1 c1, .slice a2 n2 c2, .slice a3 n3 c3] 33 ∧ Blk W2 (w.heap.size + 1) (hc 0 0 none 0 0 (List.replicate 28 0)) 135 ∧ Below w.heap.size w W2) := ⟨HS1.out.1.below hb2, HS1.out.2.1.below hb2, Below.next HS1.out.2.2 hb2⟩
 have HG2 : Hid (Blk W2 w1.heap.size (tc ys) 118) := hg2
 clear hb2 hg2 HS1
 have k0 : W2.cell? ⟨w.heap.size, 0, none⟩ = some (.int .i64 x.key) := by rw [HS2.out.1.cell]; rfl
 have k1 : W2.cell? ⟨w.heap.size, 1, none⟩ = some (.int .i64 x.window) := by rw [HS2.out.1.cell]; rfl
 go_wp2_with (first | go_skip | (with_reducible refine stopStore 98 rfl ?_))
 refine store_fresh 98 W2.heap.size rfl #[.int .i64 0, .int .i64 0] #[.int .i64 x.key, .int .i64 x.window] 98 rfl rfl rfl rfl (by kernel_rfl) rfl (by kernel_rfl) ?_
 intro W3 hg3 hb3
 have HS3 : Hid (Blk W3 w.heap.size #[.int .i64 x.key, .int .i64 x.window, .slice b l c, .int .i64 x.sk.count, .int .i64 x.sk.sum, .int .i64 x.sk.min, .int .i64 x.sk.max, .slice a1 n1 c1, .slice a2 n2 c2, .slice a3 n3 c3] 33 ∧ Blk W3 (w.heap.size + 1) (hc 0 0 none 0 0 (List.replicate 28 0)) 135 ∧ Below w.heap.size w W3) := ⟨HS2.out.1.below hb3, HS2.out.2.1.below hb3, Below.next HS2.out.2.2 hb3⟩
 have HG3 : Hid (Blk W3 w1.heap.size (tc ys) 118 ∧ Blk W3 W2.heap.size #[.int .i64 x.key, .int .i64 x.window] 98) := ⟨HG2.out.below hb3, hg3⟩
 clear hb3 hg3 HS2 HG2 k0 k1
 cases d
 ·
  have HV : Hid (x.ok = false) := by show _ = _; unfold En.ok; rw [← HD.out]; simp
  have HS := HS3
  go_wp2_with (first | go_skip | (with_reducible refine stopStore 135 rfl ?_))
  refine store_known 135 (w.heap.size + 1) _ (hc 0 0 none 0 0 (List.replicate 28 0)) 135 HS.out.2.1 rfl rfl rfl rfl (by kernel_rfl) rfl (by kernel_rfl) ?_
  go_wp2
  refine bodyPost_ret (results_row_tmp Tryz.results103 _ _ (w.heap.size + 1) _ _ _ _ rfl HS.out.2.1.setRow Tryz.underlying135 rfl (by kernel_rfl)) rfl ?_
  exact ⟨0, 0, none, 0, 0, List.replicate 28 0, (by rw [HV.out]; rfl), rfl, fun e => (by rw [HV.out] at e; cases e), below_setRow HS.out.2.2 (by omega) _⟩
 go_wp2_with (first | go_skip | (with_reducible refine stopLoad 98 rfl ?_))
 refine load_any 98 W2.heap.size _ 98 _ HG3.out.2 rfl rfl rfl Tryz.underlying98 rfl (by kernel_rfl) ?_
 go_wp2_with fail
 refine (isPlace_any _ _ _).mono ?_
 rintro e w4 ⟨rfl, hb4⟩
 have HS4 : Hid (Blk w4 w.heap.size #[.int .i64 x.key, .int .i64 x.window, .slice b l c, .int .i64 x.sk.count, .int .i64 x.sk.sum, .int .i64 x.sk.min, .int .i64 x.sk.max, .slice a1 n1 c1, .slice a2 n2 c2, .slice a3 n3 c3] 33 ∧ Blk w4 (w.heap.size + 1) (hc 0 0 none 0 0 (List.replicate 28 0)) 135 ∧ Below w.heap.size w w4) := ⟨HS3.out.1.below hb4, HS3.out.2.1.below hb4, Below.next HS3.out.2.2 hb4⟩
 have HG4 : Hid (Blk w4 w1.heap.size (tc ys) 118 ∧ Blk w4 W2.heap.size #[.int .i64 x.key, .int .i64 x.window] 98) := ⟨HG3.out.1.below hb4, HG3.out.2.below hb4⟩
 clear hb4 HS3 HG3
 obtain ⟨d2, hd2⟩ : ∃ d, d = placeOk x.key x.window := ⟨_, rfl⟩
 rw [← hd2]
 have HD2 : Hid (d2 = placeOk x.key x.window) := hd2
 clear hd2
 cases d2
 ·
  have HV : Hid (x.ok = false) := by show _ = _; unfold En.ok; rw [← HD2.out]; simp
  have HS := HS4
  go_wp2_with (first | go_skip | (with_reducible refine stopStore 135 rfl ?_))
  refine store_known 135 (w.heap.size + 1) _ (hc 0 0 none 0 0 (List.replicate 28 0)) 135 HS.out.2.1 rfl rfl rfl rfl (by kernel_rfl) rfl (by kernel_rfl) ?_
  go_wp2
  refine bodyPost_ret (results_row_tmp Tryz.results103 _ _ (w.heap.size + 1) _ _ _ _ rfl HS.out.2.1.setRow Tryz.underlying135 rfl (by kernel_rfl)) rfl ?_
  exact ⟨0, 0, none, 0, 0, List.replicate 28 0, (by rw [HV.out]; rfl), rfl, fun e => (by rw [HV.out] at e; cases e), below_setRow HS.out.2.2 (by omega) _⟩
 have k2 : w4.cell? ⟨w.heap.size, 2, none⟩ = some (.slice b l c) := by rw [HS4.out.1.cell]; rfl
 go_wp2_with fail
 refine (setOkImpl_any b l c x.ids F _ (HP.out.1.below HS4.out.2.2) HP.out.2.1).mono ?_
 rintro e w5 ⟨rfl, hb5⟩
 have HS5 : Hid (Blk w5 w.heap.size #[.int .i64 x.key, .int .i64 x.window, .slice b l c, .int .i64 x.sk.count, .int .i64 x.sk.sum, .int .i64 x.sk.min, .int .i64 x.sk.max, .slice a1 n1 c1, .slice a2 n2 c2, .slice a3 n3 c3] 33 ∧ Blk w5 (w.heap.size + 1) (hc 0 0 none 0 0 (List.replicate 28 0)) 135 ∧ Below w.heap.size w w5) := ⟨HS4.out.1.below hb5, HS4.out.2.1.below hb5, Below.next HS4.out.2.2 hb5⟩
 have HG5 : Hid (Blk w5 w1.heap.size (tc ys) 118 ∧ Blk w5 W2.heap.size #[.int .i64 x.key, .int .i64 x.window] 98) := ⟨HG4.out.1.below hb5, HG4.out.2.below hb5⟩
 have k5 : w5.cell? ⟨w.heap.size, 2, none⟩ = some (.slice b l c) := by rw [HS5.out.1.cell]; rfl
 clear hb5 HS4 HG4 k2
 obtain ⟨d3, hd3⟩ : ∃ d, d = x.ids.ok := ⟨_, rfl⟩
 rw [← hd3]
 have HD3 : Hid (d3 = x.ids.ok) := hd3
 clear hd3
 cases d3
 ·
  have HV : Hid (x.ok = false) := by show _ = _; unfold En.ok; rw [← HD3.out]; simp
  have HS := HS5
  go_wp2_with (first | go_skip | (with_reducible refine stopStore 135 rfl ?_))
  refine store_known 135 (w.heap.size + 1) _ (hc 0 0 none 0 0 (List.replicate 28 0)) 135 HS.out.2.1 rfl rfl rfl rfl (by kernel_rfl) rfl (by kernel_rfl) ?_
  go_wp2
  refine bodyPost_ret (results_row_tmp Tryz.results103 _ _ (w.heap.size + 1) _ _ _ _ rfl HS.out.2.1.setRow Tryz.underlying135 rfl (by kernel_rfl)) rfl ?_
  exact ⟨0, 0, none, 0, 0, List.replicate 28 0, (by rw [HV.out]; rfl), rfl, fun e => (by rw [HV.out] at e; cases e), below_setRow HS.out.2.2 (by omega) _⟩
 by_cases h0 : l = 0
 ·
  have HV : Hid (x.ok = false) := by show _ = _; unfold En.ok; rw [HP.out.2.2.1, h0]; simp
  subst h0
  have HS := HS5
  go_wp2_with (first | go_skip | (with_reducible refine stopStore 135 rfl ?_))
  refine store_known 135 (w.heap.size + 1) _ (hc 0 0 none 0 0 (List.replicate 28 0)) 135 HS.out.2.1 rfl rfl rfl rfl (by kernel_rfl) rfl (by kernel_rfl) ?_
  go_wp2
  refine bodyPost_ret (results_row_tmp Tryz.results103 _ _ (w.heap.size + 1) _ _ _ _ rfl HS.out.2.1.setRow Tryz.underlying135 rfl (by kernel_rfl)) rfl ?_
  exact ⟨0, 0, none, 0, 0, List.replicate 28 0, (by rw [HV.out]; rfl), rfl, fun e => (by rw [HV.out] at e; cases e), below_setRow HS.out.2.2 (by omega) _⟩
 have g1 : ((l : Int) == 0) = false := by simp; omega
 have HV : Hid (x.ok = true) := by show _ = _; unfold En.ok; rw [← HD.out, ← HD2.out, ← HD3.out, HP.out.2.2.1]; simp; omega
 clear h0
 go_wp2_with (first | go_skip | (with_reducible refine stopLoad 98 rfl ?_))
 refine load_any 98 W2.heap.size _ 98 _ HG5.out.2 rfl rfl rfl Tryz.underlying98 rfl (by kernel_rfl) ?_
 go_wp2_with (first | go_skip | (with_reducible refine stopLoad 118 rfl ?_))
 refine load_any 118 w1.heap.size (tc ys) 118 _ HG5.out.1 rfl rfl rfl Tryz.underlying118 rfl (tallySize HY.out.1) ?_
 go_wp2_with (first | go_skip | (with_reducible refine stopBuild 135 rfl ?_))
 refine built_any (.agg (hc x.key x.window b l c ys)) rfl rfl (by simp only [List.map_toArray, List.map_cons, List.map_nil]; exact build_hold _ _ _ _ _ _ _ HY.out.1) ?_
 go_wp2_with (first | go_skip | (with_reducible refine stopStore 135 rfl ?_))
 refine store_known 135 (w.heap.size + 1) _ (hc x.key x.window b l c ys) 135 HS5.out.2.1 rfl rfl rfl rfl (holdSize (hc_size HY.out.1)) (by rw [hc_size HY.out.1]; rfl) (hc_one ..) ?_
 go_wp2
 refine bodyPost_ret (results_row_tmp Tryz.results103 _ _ (w.heap.size + 1) _ _ _ _ rfl HS5.out.2.1.setRow Tryz.underlying135 rfl (holdSize (hc_size HY.out.1))) rfl ?_
 exact ⟨x.key, x.window, b, l, c, ys, (by rw [HV.out]; rfl), HY.out.1, fun _ => ⟨rfl, rfl, HY.out.2 HD.out.symm, HP.out.1, HP.out.2.2.2⟩, below_setRow HS5.out.2.2 (by omega) _⟩
theorem entryOkImpl_en (v : Value) (x : En) (F G : List Nat) (w : World) (h : RdEn w v x F G) (hw : x.sk.wide) (hl : x.ids.length ≤ 2097152) :
 Calls Tryz.prog 88 #[v] w fun e w' => e = .returned (.bool x.ok) ∧ Below w.heap.size w w' := by
 have HH : Hid (RdEn w v x F G ∧ x.sk.wide ∧ x.ids.length ≤ 2097152) := ⟨h, hw, hl⟩
 obtain ⟨b, l, c, a1, n1, c1, a2, n2, c2, a3, n3, c3, rfl, hp, hr, hcp⟩ := h
 have HT : Hid (Blk (w.alloc (.cells #[.int .i64 x.key, .int .i64 x.window, .slice b l c, .int .i64 x.sk.count, .int .i64 x.sk.sum, .int .i64 x.sk.min, .int .i64 x.sk.max, .slice a1 n1 c1, .slice a2 n2 c2, .slice a3 n3 c3] 33)) w.heap.size #[.int .i64 x.key, .int .i64 x.window, .slice b l c, .int .i64 x.sk.count, .int .i64 x.sk.sum, .int .i64 x.sk.min, .int .i64 x.sk.max, .slice a1 n1 c1, .slice a2 n2 c2, .slice a3 n3 c3] 33 ∧ Below w.heap.size w (w.alloc (.cells #[.int .i64 x.key, .int .i64 x.window, .slice b l c, .int .i64 x.sk.count, .int .i64 x.sk.sum, .int .i64 x.sk.min, .int .i64 x.sk.max, .slice a1 n1 c1, .slice a2 n2 c2, .slice a3 n3 c3] 33))) := ⟨Blk.made _ _ _, (Below.refl _ _).alloc (Nat.le_refl _) _⟩
 clear hp hr hcp hw hl
 go_enter Tryz.func88, Tryz.ntmps88
 go_wp2_with (first | go_skip | (with_reducible refine stopLoad 33 rfl ?_))
 refine load_any 33 w.heap.size _ 33 _ HT.out.1 rfl rfl rfl Tryz.underlying33 rfl (by kernel_rfl) ?_
 go_wp2_with fail
 refine (okHolding_any _ x F G _ (HH.out.1.below HT.out.2) HH.out.2.1 HH.out.2.2).mono ?_
 rintro e w1 ⟨k, p, a, l', c', ys, rfl, hy, _, hb1⟩
 have HB : Hid (ys.length = 28 ∧ Below w.heap.size w w1) := ⟨hy, Below.next HT.out.2 hb1⟩
 clear hb1 hy
 obtain ⟨d, hd⟩ : ∃ d, d = x.ok := ⟨_, rfl⟩
 rw [← hd]
 have HD : Hid (d = x.ok) := hd
 clear hd
 go_wp2_with (first | go_skip | (with_reducible refine stopStore 135 rfl ?_))
 refine store_fresh 135 w1.heap.size rfl (hc 0 0 none 0 0 (List.replicate 28 0)) (hc k p a l' c' ys) 135 rfl rfl rfl rfl (holdSize (hc_size HB.out.1)) (by rw [hc_size HB.out.1]; rfl) (hc_one ..) ?_
 intro W2 _ hb2
 have HB2 : Hid (Below w.heap.size w W2) := Below.next HB.out.2 hb2
 clear hb2
 go_wp2
 go_ret
 exact ⟨ret_bool HD.out, HB2.out⟩
end
section
open Go.RowKit
theorem cutOf_hc {k p : Int} {a : Option Addr} {l c : Nat} {ys : List Int} (h : ys.length = 28) : cutOf (hc k p a l c ys) 3 28 = tc ys := by
 unfold cutOf hc tc
 show (List.take 28 (ys.map (Value.int .i64))).toArray = _
 rw [List.take_of_length_le (by simp; omega)]
theorem cutOf_place (k p : Int) (a : Option Addr) (l c : Nat) (ys : List Int) : cutOf (hc k p a l c ys) 0 2 = #[.int .i64 k, .int .i64 p] := by
 unfold cutOf hc
 simp
def HoldS (g : Nat) (k p : Int) (a : Option Addr) (l c : Nat) (ys : List Int) (W : World) : Prop := Blk W g (hc k p a l c ys) 135 ∧ W.cell? ⟨g, 0, none⟩ = some (.int .i64 k) ∧ W.cell? ⟨g, 1, none⟩ = some (.int .i64 p) ∧ W.cell? ⟨g, 2, none⟩ = some (.slice a l c)
theorem holdS {g : Nat} {k p : Int} {a : Option Addr} {l c : Nat} {ys : List Int} {W : World} (h : Blk W g (hc k p a l c ys) 135) : HoldS g k p a l c ys W := ⟨h, by rw [h.cell]; rfl, by rw [h.cell]; rfl, by rw [h.cell]; rfl⟩
theorem HoldS.below {g : Nat} {k p : Int} {a : Option Addr} {l c : Nat} {ys : List Int} {W W' : World} (h : HoldS g k p a l c ys W) (b : Below W.heap.size W W') : HoldS g k p a l c ys W' := holdS (h.1.below b)
theorem HoldS.setRow {g j : Nat} {k p : Int} {a : Option Addr} {l c : Nat} {ys : List Int} {W : World} {ds : Array Value} (h : HoldS g k p a l c ys W) (hj : g ≠ j) : HoldS g k p a l c ys (W.setRow j ds) := holdS (h.1.setRowOther hj)
theorem infoPlace : (Tryz.prog.info? 98).map (·.size) = some 2 := by kernel_rfl
theorem enSizeA {cs : Array Value} (h : cs.size = 10) : (Tryz.prog.info? 33).map (·.size) = some cs.size := by rw [h]; exact infoEnA
theorem value_ok {P : Program} {w : World} {m : Sem Value} {v : Value} (h : m.run P w = .ok v w) : Sem.run P (do pure (Next.value (← m))) w = .ok (.value v) w := by
 simp [h]
theorem wrapI {n : Int} (h : -9223372036854775808 ≤ n ∧ n ≤ 9223372036854775807) : IntKind.i64.wrap n = n := by
 simp [IntKind.wrap, IntKind.bits, IntKind.signed]
 omega
end
section
set_option maxRecDepth 200000
set_option maxHeartbeats 16000000
open Go.RowKit
def samePlace (x e : En) : Bool := x.key == e.key && x.window == e.window
def hitAt (xs : List En) (e : En) : Option Nat := xs.findIdx? fun y => samePlace y e
theorem hitAt_some {xs : List En} {e : En} {k : Nat} {y : En} (hy : xs[k]? = some y) (h : samePlace y e = true) (hn : ∀ z ∈ xs.take k, samePlace z e = false) : hitAt xs e = some k := by
 unfold hitAt
 have hk := (List.getElem?_eq_some_iff.1 hy).1
 rw [List.findIdx?_eq_some_iff_getElem]
 refine ⟨hk, by rw [(List.getElem?_eq_some_iff.1 hy).2]; exact h, fun j hj => ?_⟩
 have hm : xs[j]'(by omega) ∈ xs.take k := List.mem_iff_getElem.2 ⟨j, by rw [List.length_take]; omega, by rw [List.getElem_take]⟩
 rw [hn _ hm]; simp
theorem hitAt_none {xs : List En} {e : En} (hn : ∀ z ∈ xs, samePlace z e = false) : hitAt xs e = none := by
 unfold hitAt
 rw [List.findIdx?_eq_none_iff]
 exact hn
theorem samePlace_not1 {x e : En} (h : ¬ x.key = e.key) : samePlace x e = false := by unfold samePlace; rw [show (x.key == e.key) = false by simpa using h]; rfl
theorem samePlace_not2 {x e : En} (h : ¬ x.window = e.window) : samePlace x e = false := by unfold samePlace; rw [show (x.window == e.window) = false by simpa using h]; simp
theorem samePlace_yes {x e : En} (h : x.key = e.key) (k : x.window = e.window) : samePlace x e = true := by unfold samePlace; rw [h, k]; simp
theorem infoPl : (Tryz.prog.info? 98).map (·.size) = some 2 := by kernel_rfl
theorem placeOf_any (v : Value) (x : En) (F : List Nat) (w : World) (h : RdE w v x F) :
 Calls Tryz.prog 65 #[v] w fun e w' => e = .returned (.agg #[.int .i64 x.key, .int .i64 x.window]) ∧ Below w.heap.size w w' := by
 obtain ⟨F1, F2, _, b, l, c, a1, n1, c1, a2, n2, c2, a3, n3, c3, rfl, _⟩ := h
 have HT0 : Hid (_ ∧ _ ∧ _) := two_made w #[.int .i64 x.key, .int .i64 x.window, .slice b l c, .int .i64 x.sk.count, .int .i64 x.sk.sum, .int .i64 x.sk.min, .int .i64 x.sk.max, .slice a1 n1 c1, .slice a2 n2 c2, .slice a3 n3 c3] #[.int .i64 0, .int .i64 0] 33 98
 go_enter Tryz.func65, Tryz.ntmps65
 go_wp2_with (first | go_skip | (with_reducible refine stopStore 98 rfl ?_))
 refine store_known 98 (w.heap.size + 1) _ #[.int .i64 x.key, .int .i64 x.window] 98 HT0.out.2.1 rfl rfl rfl rfl infoPl rfl (by simp [Value.oneCell']) ?_
 go_wp2
 refine bodyPost_ret (results_cell_row Tryz.results65 _ _ (w.heap.size + 1) _ _ (0, 0) _ rfl HT0.out.2.1.setRow Tryz.underlying98 rfl infoPl) rfl ?_
 exact ⟨rfl, below_setRow HT0.out.2.2 (by omega) _⟩
theorem closure_any (cs es : Array Value) (x e : En) (F G : List Nat) (B : Nat) (w : World) (h : RdE w (.agg cs) x F) (k : RdE w (.agg es) e G) (hB : Blk w B es 33) :
 Calls Tryz.prog 64 #[.agg cs, .pointer (some ⟨B, 0, none⟩)] w fun r w' => r = .returned (.bool (samePlace x e)) ∧ Below w.heap.size w w' := by
 obtain ⟨_, ec, hcs, _⟩ := RdE.cells h
 injection ec with ec
 subst ec
 obtain ⟨_, ee, hes, _⟩ := RdE.cells k
 injection ee with ee
 subst ee
 have HH : Hid (RdE w (.agg cs) x F ∧ RdE w (.agg es) e G ∧ Blk w B es 33 ∧ cs.size = 10 ∧ es.size = 10) := ⟨h, k, hB, hcs, hes⟩
 have HB : Hid (Below w.heap.size w (w.alloc (.cells cs 33)) ∧ Blk (w.alloc (.cells cs 33)) w.heap.size cs 33 ∧ Blk (w.alloc (.cells cs 33)) B es 33) := ⟨Below.allocW _ (Below.refl _ _) (Nat.le_refl _), Blk.made _ _ _, hB.alloc _⟩
 clear h k hB hcs hes
 by_cases c1 : x.key = e.key
 rotate_left
 ·
  have HV : Hid (samePlace x e = false) := samePlace_not1 c1
  have z1 : (x.key == e.key) = false := by simpa using c1
  clear c1
  go_enter Tryz.func64, Tryz.ntmps64
  go_wp2_with fail
  have HBd : Hid (Below w.heap.size w (w.alloc (.cells cs 33)).drew ∧ Blk (w.alloc (.cells cs 33)).drew w.heap.size cs 33 ∧ Blk (w.alloc (.cells cs 33)).drew B es 33) := ⟨HB.out.1.drew, HB.out.2.1.drew, HB.out.2.2.drew⟩
  obtain ⟨Y0, hY0⟩ : ∃ Y, Y = (w.alloc (.cells cs 33)).drew := ⟨_, rfl⟩
  rw [← hY0] at HBd
  refine wp_region_held (S := fun W => Blk W w.heap.size cs 33 ∧ Blk W B es 33) (by kernel_rfl) ?_
  change wpAnyH _ _ _ _ _ _ _ _ (World.drew _)
  rw [← hY0]
  clear hY0
  refine tk 0 (.agg cs) (H := ⟨(yields_whole 33 _ cs 33 _ rfl rfl rfl Tryz.underlying33 rfl (by rw [HH.out.2.2.2.1]; exact infoEnG2) (fun W hW => hW.1)), ⟨HBd.out.2.1, HBd.out.2.2⟩, ?_⟩)
  refine tk 2 (.agg es) (H := ⟨(yields_whole 33 B es 33 _ rfl rfl rfl Tryz.underlying33 rfl (by rw [HH.out.2.2.2.2]; exact infoEnG2) (fun W hW => hW.2)), ⟨HBd.out.2.1, HBd.out.2.2⟩, ?_⟩)
  refine oq 1 (H := fun K hK => ?_)
  refine op_call1 65 _ _ Tryz.f65 (fun v w' => v = .agg #[.int .i64 x.key, .int .i64 x.window] ∧ Below Y0.heap.size Y0 w') rfl rfl Tryz.func65 (by kernel_rfl) (by kernel_rfl) ((placeOf_any (.agg cs) x F Y0 (HH.out.1.below HBd.out.1)).mono (by rintro e w' ⟨rfl, h1⟩; exact ⟨_, rfl, rfl, h1⟩)) ?_
  rintro _ Y1 ⟨rfl, hb1⟩
  have HB1 : Hid (Below w.heap.size w Y1 ∧ Blk Y1 w.heap.size cs 33 ∧ Blk Y1 B es 33) := ⟨Below.next HBd.out.1 hb1, HBd.out.2.1.below hb1, HBd.out.2.2.below hb1⟩
  refine pk (h := hK _ _ ⟨⟨HB1.out.2.1, HB1.out.2.2⟩, ?_⟩)
  clear hK hb1
  refine oq 3 (H := fun K hK => ?_)
  refine op_call1 65 _ _ Tryz.f65 (fun v w' => v = .agg #[.int .i64 e.key, .int .i64 e.window] ∧ Below Y1.heap.size Y1 w') rfl rfl Tryz.func65 (by kernel_rfl) (by kernel_rfl) ((placeOf_any (.agg es) e G Y1 (HH.out.2.1.below HB1.out.1)).mono (by rintro e w' ⟨rfl, h1⟩; exact ⟨_, rfl, rfl, h1⟩)) ?_
  rintro _ Y2 ⟨rfl, hb2⟩
  have HB2 : Hid (Below w.heap.size w Y2 ∧ Blk Y2 w.heap.size cs 33 ∧ Blk Y2 B es 33) := ⟨Below.next HB1.out.1 hb2, HB1.out.2.1.below hb2, HB1.out.2.2.below hb2⟩
  refine pk (h := hK _ _ ⟨⟨HB2.out.2.1, HB2.out.2.2⟩, ?_⟩)
  clear hK hb2
  refine oq 4 (H := fun K hK => ?_)
  refine op_value (.bool false) rfl (by go_simp) (pk (h := hK _ _ ⟨⟨HB2.out.2.1, HB2.out.2.2⟩, ?_⟩))
  clear hK
  refine tm 5 (.bool false) (H := ⟨⟨HB2.out.2.1, HB2.out.2.2⟩, ?_⟩)
  refine wpAnyH_done (by kernel_rfl) ?_ _
  go_wp2
  go_ret
  exact ⟨ret_bool HV.out.symm, HB2.out.1⟩
 by_cases c2 : x.window = e.window
 rotate_left
 ·
  have HV : Hid (samePlace x e = false) := samePlace_not2 c2
  have z1 : (x.key == e.key) = true := by simpa using c1
  have z2 : (x.window == e.window) = false := by simpa using c2
  clear c1 c2
  go_enter Tryz.func64, Tryz.ntmps64
  go_wp2_with fail
  have HBd : Hid (Below w.heap.size w (w.alloc (.cells cs 33)).drew ∧ Blk (w.alloc (.cells cs 33)).drew w.heap.size cs 33 ∧ Blk (w.alloc (.cells cs 33)).drew B es 33) := ⟨HB.out.1.drew, HB.out.2.1.drew, HB.out.2.2.drew⟩
  obtain ⟨Y0, hY0⟩ : ∃ Y, Y = (w.alloc (.cells cs 33)).drew := ⟨_, rfl⟩
  rw [← hY0] at HBd
  refine wp_region_held (S := fun W => Blk W w.heap.size cs 33 ∧ Blk W B es 33) (by kernel_rfl) ?_
  change wpAnyH _ _ _ _ _ _ _ _ (World.drew _)
  rw [← hY0]
  clear hY0
  refine tk 0 (.agg cs) (H := ⟨(yields_whole 33 _ cs 33 _ rfl rfl rfl Tryz.underlying33 rfl (by rw [HH.out.2.2.2.1]; exact infoEnG2) (fun W hW => hW.1)), ⟨HBd.out.2.1, HBd.out.2.2⟩, ?_⟩)
  refine tk 2 (.agg es) (H := ⟨(yields_whole 33 B es 33 _ rfl rfl rfl Tryz.underlying33 rfl (by rw [HH.out.2.2.2.2]; exact infoEnG2) (fun W hW => hW.2)), ⟨HBd.out.2.1, HBd.out.2.2⟩, ?_⟩)
  refine oq 1 (H := fun K hK => ?_)
  refine op_call1 65 _ _ Tryz.f65 (fun v w' => v = .agg #[.int .i64 x.key, .int .i64 x.window] ∧ Below Y0.heap.size Y0 w') rfl rfl Tryz.func65 (by kernel_rfl) (by kernel_rfl) ((placeOf_any (.agg cs) x F Y0 (HH.out.1.below HBd.out.1)).mono (by rintro e w' ⟨rfl, h1⟩; exact ⟨_, rfl, rfl, h1⟩)) ?_
  rintro _ Y1 ⟨rfl, hb1⟩
  have HB1 : Hid (Below w.heap.size w Y1 ∧ Blk Y1 w.heap.size cs 33 ∧ Blk Y1 B es 33) := ⟨Below.next HBd.out.1 hb1, HBd.out.2.1.below hb1, HBd.out.2.2.below hb1⟩
  refine pk (h := hK _ _ ⟨⟨HB1.out.2.1, HB1.out.2.2⟩, ?_⟩)
  clear hK hb1
  refine oq 3 (H := fun K hK => ?_)
  refine op_call1 65 _ _ Tryz.f65 (fun v w' => v = .agg #[.int .i64 e.key, .int .i64 e.window] ∧ Below Y1.heap.size Y1 w') rfl rfl Tryz.func65 (by kernel_rfl) (by kernel_rfl) ((placeOf_any (.agg es) e G Y1 (HH.out.2.1.below HB1.out.1)).mono (by rintro e w' ⟨rfl, h1⟩; exact ⟨_, rfl, rfl, h1⟩)) ?_
  rintro _ Y2 ⟨rfl, hb2⟩
  have HB2 : Hid (Below w.heap.size w Y2 ∧ Blk Y2 w.heap.size cs 33 ∧ Blk Y2 B es 33) := ⟨Below.next HB1.out.1 hb2, HB1.out.2.1.below hb2, HB1.out.2.2.below hb2⟩
  refine pk (h := hK _ _ ⟨⟨HB2.out.2.1, HB2.out.2.2⟩, ?_⟩)
  clear hK hb2
  refine oq 4 (H := fun K hK => ?_)
  refine op_value (.bool false) rfl (by go_simp) (pk (h := hK _ _ ⟨⟨HB2.out.2.1, HB2.out.2.2⟩, ?_⟩))
  clear hK
  refine tm 5 (.bool false) (H := ⟨⟨HB2.out.2.1, HB2.out.2.2⟩, ?_⟩)
  refine wpAnyH_done (by kernel_rfl) ?_ _
  go_wp2
  go_ret
  exact ⟨ret_bool HV.out.symm, HB2.out.1⟩
 ·
  have HV : Hid (samePlace x e = true) := samePlace_yes c1 c2
  have z1 : (x.key == e.key) = true := by simpa using c1
  have z2 : (x.window == e.window) = true := by simpa using c2
  clear c1 c2
  go_enter Tryz.func64, Tryz.ntmps64
  go_wp2_with fail
  have HBd : Hid (Below w.heap.size w (w.alloc (.cells cs 33)).drew ∧ Blk (w.alloc (.cells cs 33)).drew w.heap.size cs 33 ∧ Blk (w.alloc (.cells cs 33)).drew B es 33) := ⟨HB.out.1.drew, HB.out.2.1.drew, HB.out.2.2.drew⟩
  obtain ⟨Y0, hY0⟩ : ∃ Y, Y = (w.alloc (.cells cs 33)).drew := ⟨_, rfl⟩
  rw [← hY0] at HBd
  refine wp_region_held (S := fun W => Blk W w.heap.size cs 33 ∧ Blk W B es 33) (by kernel_rfl) ?_
  change wpAnyH _ _ _ _ _ _ _ _ (World.drew _)
  rw [← hY0]
  clear hY0
  refine tk 0 (.agg cs) (H := ⟨(yields_whole 33 _ cs 33 _ rfl rfl rfl Tryz.underlying33 rfl (by rw [HH.out.2.2.2.1]; exact infoEnG2) (fun W hW => hW.1)), ⟨HBd.out.2.1, HBd.out.2.2⟩, ?_⟩)
  refine tk 2 (.agg es) (H := ⟨(yields_whole 33 B es 33 _ rfl rfl rfl Tryz.underlying33 rfl (by rw [HH.out.2.2.2.2]; exact infoEnG2) (fun W hW => hW.2)), ⟨HBd.out.2.1, HBd.out.2.2⟩, ?_⟩)
  refine oq 1 (H := fun K hK => ?_)
  refine op_call1 65 _ _ Tryz.f65 (fun v w' => v = .agg #[.int .i64 x.key, .int .i64 x.window] ∧ Below Y0.heap.size Y0 w') rfl rfl Tryz.func65 (by kernel_rfl) (by kernel_rfl) ((placeOf_any (.agg cs) x F Y0 (HH.out.1.below HBd.out.1)).mono (by rintro e w' ⟨rfl, h1⟩; exact ⟨_, rfl, rfl, h1⟩)) ?_
  rintro _ Y1 ⟨rfl, hb1⟩
  have HB1 : Hid (Below w.heap.size w Y1 ∧ Blk Y1 w.heap.size cs 33 ∧ Blk Y1 B es 33) := ⟨Below.next HBd.out.1 hb1, HBd.out.2.1.below hb1, HBd.out.2.2.below hb1⟩
  refine pk (h := hK _ _ ⟨⟨HB1.out.2.1, HB1.out.2.2⟩, ?_⟩)
  clear hK hb1
  refine oq 3 (H := fun K hK => ?_)
  refine op_call1 65 _ _ Tryz.f65 (fun v w' => v = .agg #[.int .i64 e.key, .int .i64 e.window] ∧ Below Y1.heap.size Y1 w') rfl rfl Tryz.func65 (by kernel_rfl) (by kernel_rfl) ((placeOf_any (.agg es) e G Y1 (HH.out.2.1.below HB1.out.1)).mono (by rintro e w' ⟨rfl, h1⟩; exact ⟨_, rfl, rfl, h1⟩)) ?_
  rintro _ Y2 ⟨rfl, hb2⟩
  have HB2 : Hid (Below w.heap.size w Y2 ∧ Blk Y2 w.heap.size cs 33 ∧ Blk Y2 B es 33) := ⟨Below.next HB1.out.1 hb2, HB1.out.2.1.below hb2, HB1.out.2.2.below hb2⟩
  refine pk (h := hK _ _ ⟨⟨HB2.out.2.1, HB2.out.2.2⟩, ?_⟩)
  clear hK hb2
  refine oq 4 (H := fun K hK => ?_)
  refine op_value (.bool true) rfl (by go_simp) (pk (h := hK _ _ ⟨⟨HB2.out.2.1, HB2.out.2.2⟩, ?_⟩))
  clear hK
  refine tm 5 (.bool true) (H := ⟨⟨HB2.out.2.1, HB2.out.2.2⟩, ?_⟩)
  refine wpAnyH_done (by kernel_rfl) ?_ _
  go_wp2
  go_ret
  exact ⟨ret_bool HV.out.symm, HB2.out.1⟩
def idxV : Option Nat → Int
 | some k => k
 | none => -1
theorem indexFunc_any (a : Option Addr) (n c : Nat) (xs : List En) (F : List Nat) (e : En) (es : Array Value) (G : List Nat) (B : Nat) (w : World) (h : RdL enK w a n xs F) (k : RdE w (.agg es) e G) (hB : Blk w B es 33) (hn : n ≤ 2097152) :
 Calls Tryz.prog 63 #[.slice a n c, .func (.func 64) #[] #[.pointer (some ⟨B, 0, none⟩)]] w fun r w' => r = .returned (.int .i64 (idxV (hitAt xs e))) ∧ Below w.heap.size w w' := by
 have HL : Hid (RdL enK w a n xs F ∧ xs.length = n) := ⟨h, h.length⟩
 have HE : Hid (RdE w (.agg es) e G ∧ Blk w B es 33) := ⟨k, hB⟩
 clear h k hB
 go_enter Tryz.func63, Tryz.ntmps63
 go_wp2
 go_loopw [8] (fun i wr => ∃ k : Nat, k ≤ n ∧ i = .int .i64 k ∧ Hid ((∀ z ∈ xs.take k, samePlace z e = false) ∧ Below w.heap.size w wr)) (fun i _ => n - (intOf i).toNat)
 case atStart => exact ⟨0, by omega, rfl, by simp, Below.refl _ _⟩
 case round =>
  obtain ⟨k, hk, rfl, HT⟩ := hrel
  by_cases hlt : k < n
  ·
   have hI : (k : Int) < (n : Int) := by omega
   obtain ⟨b, off, y, cs, Fi, rfl, hbw, hy, hcs, hcc, hr⟩ := ens_at HL.out.1 hlt
   have HY : Hid (xs[k]? = some y ∧ cs.size = 10 ∧ RdE wr (.agg cs) y Fi) := ⟨hy, hcs, hr.below HT.out.2⟩
   have HC : Hid (∀ j, j < 10 → wr.cell? ⟨b, off + k * 10 + j, none⟩ = cs[j]?) := fun j hj => by rw [← hcc j hj]; exact HT.out.2.cell (p := ⟨b, off + k * 10 + j, none⟩) hbw
   clear hbw hy hcs hcc hr
   go_wp2_with (first | go_skip | (with_reducible refine stopLoad 33 rfl ?_))
   refine load_at 33 b (off + k * 10) 10 cs _ HC.out HY.out.2.1 rfl rfl rfl Tryz.underlying33 rfl infoEnG2 ?_
   go_wp2_with fail
   refine (closure_any cs es y e Fi G B _ HY.out.2.2 (HE.out.1.below HT.out.2) (HE.out.2.below HT.out.2)).mono ?_
   rintro r w2 ⟨rfl, hb2⟩
   have HB2 : Hid (Below w.heap.size w w2) := Below.next HT.out.2 hb2
   obtain ⟨d, hd⟩ : ∃ d, d = samePlace y e := ⟨_, rfl⟩
   rw [← hd]
   have HD : Hid (d = samePlace y e) := hd
   clear hd hb2 HC
   cases d
   ·
    have HT2 : Hid ((∀ z ∈ xs.take (k + 1), samePlace z e = false) ∧ Below w.heap.size w w2) := ⟨by
      rw [take_snoc_at HY.out.1]
      intro z hz
      rcases List.mem_append.1 hz with hz | hz
      · exact HT.out.1 z hz
      · obtain rfl : z = y := by simpa using hz
        exact HD.out.symm, HB2.out⟩
    go_wp2
    go_roundw
    case rel => exact ⟨k + 1, by omega, by go_num, HT2⟩
    case measure => simp [intOf]; omega
   ·
    have HV : Hid ((k : Int) = idxV (hitAt xs e)) := by show _ = _; rw [hitAt_some HY.out.1 HD.out.symm HT.out.1]; rfl
    go_wp2
    go_ret
    exact ⟨ret_int HV.out, HB2.out⟩
  ·
   obtain rfl : k = n := by omega
   have HV : Hid ((-1 : Int) = idxV (hitAt xs e)) := by
    show _ = _
    have := HT.out.1
    rw [List.take_of_length_le (by rw [HL.out.2]; omega)] at this
    rw [hitAt_none this]; rfl
   have hI : ¬ (k : Int) < (k : Int) := by omega
   go_wp2
   go_ret
   exact ⟨ret_int HV.out, HT.out.2⟩
end
section
open Go.RowKit
end
section
open Go.RowKit
def En.addOk (x y : En) : Bool := x.ok && y.ok && decide (x.key = y.key) && decide (x.window = y.window) && x.ids.apart y.ids
def En.addR (x y : En) : En := if x.addOk y = true then x.add y else En.zero
theorem En.addR_not {x y : En} (h : x.addOk y = false) : x.addR y = En.zero := by unfold En.addR; rw [h]; rfl
theorem En.addR_yes {x y : En} (h : x.addOk y = true) : x.addR y = x.add y := by unfold En.addR; rw [if_pos h]
end
section
open Go.RowKit
end
end Go.Proofs.YtjnamoppcklomaaGreat
