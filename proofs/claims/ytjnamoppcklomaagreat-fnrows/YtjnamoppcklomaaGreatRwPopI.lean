/- The program's popped and RowPop. No statement of the seat is proved here. -/
import Derived.Test.YtjnamoppcklomaaGreatB5
import Derived.Test.YtjnamoppcklomaaGreatB6
import Derived.Test.YtjnamoppcklomaaGreatB2
import Derived.Test.YtjnamoppcklomaaGreatWhole
set_option maxRecDepth 200000
set_option maxHeartbeats 16000000
namespace Go.Proofs.YtjnamoppcklomaaGreat
open Go.RowKit
theorem popped_any (v : Value) (x : Rw) (F : List Nat) (w : World) (h : RdRw w v x F) (hl : x.list.length ≤ 1048576) :
 Calls Tryz.prog 41 #[v] w fun e w' => ∃ cs ds, e = .returned (.tuple #[.agg cs, .agg ds, .bool (decide (0 < x.list.length))]) ∧ cs.size = 10 ∧ cs.all (·.oneCell') = true ∧ ds.size = 1 ∧ ds.all (·.oneCell') = true ∧ Below w.heap.size w w' ∧
  ∀ y ys, x.list = y :: ys → ∃ b F1 F2 G, F = b :: (F1 ++ F2) ∧ RdE w' (.agg cs) y F1 ∧ RdRw w' (.agg ds) ⟨ys⟩ G ∧ (G = [] ∨ G = b :: F2) := by
 obtain ⟨a, n, c, rfl, hL, hcp⟩ := h
 have HN : Hid (x.list.length = n ∧ RdL enK w a n x.list F) := ⟨hL.length, hL⟩
 have hn : n ≤ 1048576 := by rw [← hL.length]; exact hl
 have hk : n ≤ c := hcp.2
 have HP0 : Hid (Pop3 w 60 60 33 #[.slice a n c] _) := Pop3.made w 60 60 33 #[.slice a n c]
 clear hL hl hcp
 by_cases h0 : n = 0
 ·
  have hbe : ((n : Int) == 0) = true := by simp; omega
  have H0 : Hid (n = 0) := h0
  clear h0
  go_enter Tryz.func41, Tryz.ntmps41
  go_wp2_with fail
  obtain ⟨W0, hW0⟩ : ∃ W, W = ((w.alloc (.cells #[.slice a n c] 60)).alloc (.cells #[.int .i64 0, .int .i64 0, .slice none 0 0, .int .i64 0, .int .i64 0, .int .i64 0, .int .i64 0, .slice none 0 0, .slice none 0 0, .slice none 0 0] 33)).alloc (.cells #[.slice none 0 0] 60) := ⟨_, rfl⟩
  rw [← hW0] at HP0 ⊢
  clear hW0
  have HPd : Hid (Pop3 w 60 60 33 #[.slice a n c] W0.drew) := HP0.out.below (Below.refl _ _).drew
  obtain ⟨Y0, hY0⟩ : ∃ Y, Y = W0.drew := ⟨_, rfl⟩
  rw [← hY0] at HPd
  clear HP0
  refine wp_region_held (S := fun W => Blk W (w.heap.size + 1) #[.int .i64 0, .int .i64 0, .slice none 0 0, .int .i64 0, .int .i64 0, .int .i64 0, .int .i64 0, .slice none 0 0, .slice none 0 0, .slice none 0 0] 33 ∧ Blk W (w.heap.size + 1 + 1) #[.slice none 0 0] 60) (by kernel_rfl) ?_
  change wpAnyH _ _ _ _ _ _ _ _ (World.drew _)
  rw [← hY0]
  clear hY0
  refine tk 0 (.agg #[.int .i64 0, .int .i64 0, .slice none 0 0, .int .i64 0, .int .i64 0, .int .i64 0, .int .i64 0, .slice none 0 0, .slice none 0 0, .slice none 0 0]) (H := ⟨(yields_whole 33 _ #[.int .i64 0, .int .i64 0, .slice none 0 0, .int .i64 0, .int .i64 0, .int .i64 0, .int .i64 0, .slice none 0 0, .slice none 0 0, .slice none 0 0] 33 _ rfl rfl rfl Tryz.underlying33 rfl infoEnG2 (fun W hW => hW.1)), ⟨HPd.out.ra, HPd.out.rb⟩, ?_⟩)
  refine tk 1 (.agg #[.slice none 0 0]) (H := ⟨(yields_whole 60 _ #[.slice none 0 0] 60 _ rfl rfl rfl Tryz.underlying60 rfl infoQI (fun W hW => hW.2)), ⟨HPd.out.ra, HPd.out.rb⟩, ?_⟩)
  refine oq 2 (H := fun K hK => ?_)
  refine op_store 33 (w.heap.size + 1) #[.int .i64 0, .int .i64 0, .slice none 0 0, .int .i64 0, .int .i64 0, .int .i64 0, .int .i64 0, .slice none 0 0, .slice none 0 0, .slice none 0 0] #[.int .i64 0, .int .i64 0, .slice none 0 0, .int .i64 0, .int .i64 0, .int .i64 0, .int .i64 0, .slice none 0 0, .slice none 0 0, .slice none 0 0] 33 rfl rfl rfl rfl HPd.out.ra infoEnG2 rfl (by simp [Value.oneCell']) (pk (h := hK _ _ ⟨⟨HPd.out.ra.setRow, HPd.out.rb.setRowOther (by omega)⟩, ?_⟩))
  clear hK
  refine oq 3 (H := fun K hK => ?_)
  refine op_store 60 (w.heap.size + 1 + 1) #[.slice none 0 0] #[.slice none 0 0] 60 rfl rfl rfl rfl (HPd.out.rb.setRowOther (by omega)) infoQI rfl (by simp [Value.oneCell']) (pk (h := hK _ _ ⟨⟨HPd.out.ra.setRow.setRowOther (by omega), (HPd.out.rb.setRowOther (by omega)).setRow⟩, ?_⟩))
  clear hK
  refine tm 4 (.bool false) (H := ⟨⟨HPd.out.ra.setRow.setRowOther (by omega), (HPd.out.rb.setRowOther (by omega)).setRow⟩, ?_⟩)
  refine wpAnyH_done (by kernel_rfl) ?_ _
  have HF : Hid (Blk ((Y0.setRow (w.heap.size + 1) #[.int .i64 0, .int .i64 0, .slice none 0 0, .int .i64 0, .int .i64 0, .int .i64 0, .int .i64 0, .slice none 0 0, .slice none 0 0, .slice none 0 0]).setRow (w.heap.size + 1 + 1) #[.slice none 0 0]) (w.heap.size + 1) #[.int .i64 0, .int .i64 0, .slice none 0 0, .int .i64 0, .int .i64 0, .int .i64 0, .int .i64 0, .slice none 0 0, .slice none 0 0, .slice none 0 0] 33 ∧ Blk ((Y0.setRow (w.heap.size + 1) #[.int .i64 0, .int .i64 0, .slice none 0 0, .int .i64 0, .int .i64 0, .int .i64 0, .int .i64 0, .slice none 0 0, .slice none 0 0, .slice none 0 0]).setRow (w.heap.size + 1 + 1) #[.slice none 0 0]) (w.heap.size + 1 + 1) #[.slice none 0 0] 60 ∧ Below w.heap.size w ((Y0.setRow (w.heap.size + 1) #[.int .i64 0, .int .i64 0, .slice none 0 0, .int .i64 0, .int .i64 0, .int .i64 0, .int .i64 0, .slice none 0 0, .slice none 0 0, .slice none 0 0]).setRow (w.heap.size + 1 + 1) #[.slice none 0 0])) := ⟨HPd.out.ra.setRow.setRowOther (by omega), (HPd.out.rb.setRowOther (by omega)).setRow, below_setRow (below_setRow HPd.out.bel (by omega) _) (by omega) _⟩
  obtain ⟨WF, hWF⟩ : ∃ W, W = ((Y0.setRow (w.heap.size + 1) #[.int .i64 0, .int .i64 0, .slice none 0 0, .int .i64 0, .int .i64 0, .int .i64 0, .int .i64 0, .slice none 0 0, .slice none 0 0, .slice none 0 0]).setRow (w.heap.size + 1 + 1) #[.slice none 0 0]) := ⟨_, rfl⟩
  rw [← hWF] at HF ⊢
  clear hWF HPd
  go_wp2
  refine bodyPost_ret (results_row2_tmp Tryz.results41 _ _ (w.heap.size + 1) (w.heap.size + 1 + 1) 33 60 #[.int .i64 0, .int .i64 0, .slice none 0 0, .int .i64 0, .int .i64 0, .int .i64 0, .int .i64 0, .slice none 0 0, .slice none 0 0, .slice none 0 0] #[.slice none 0 0] _ _ rfl rfl HF.out.1 HF.out.2.1 Tryz.underlying33 rfl infoEnG2 Tryz.underlying60 rfl infoQI) rfl ?_
  exact ⟨_, _, by rw [HN.out.1, H0.out]; rfl, rfl, by simp [Value.oneCell'], rfl, by simp [Value.oneCell'], HF.out.2.2, fun y ys e => by have h0 := H0.out; have := HN.out.1; rw [e] at this; simp at this; omega⟩
 have hbe : ((n : Int) == 0) = false := by simp; omega
 obtain ⟨y, ys, hxs⟩ : ∃ y ys, x.list = y :: ys := by
  cases hh : x.list with
  | nil => have := HN.out.1; rw [hh] at this; simp at this; omega
  | cons y ys => exact ⟨y, ys, rfl⟩
 have hL := HN.out.2
 rw [hxs] at hL
 obtain ⟨b, off, es, F1, F2, rfl, hn', hFX, hbw, hes, hec, hey, hels⟩ := hL.uncons
 have HX : Hid (x.list = y :: ys ∧ F = b :: (F1 ++ F2) ∧ es.size = 10 ∧ es.all (·.oneCell') = true) := ⟨hxs, hFX, hes, by obtain ⟨cs', e, _, h1⟩ := RdE.cells hey; injection e with e; rw [e]; exact h1⟩
 have hI1 : (1 : Int) ≤ (n : Int) := by omega
 obtain ⟨tw, tc, hta⟩ : ∃ tw tc, (c = 1 ∧ tw = off ∧ tc = 0) ∨ (c ≠ 1 ∧ tw = off + 10 ∧ tc = c - 1) := by
  by_cases h1 : c = 1
  ·
   exact ⟨_, _, .inl ⟨h1, rfl, rfl⟩⟩
  ·
   exact ⟨_, _, .inr ⟨h1, rfl, rfl⟩⟩
 have HTA : Hid ((c = 1 ∧ tw = off ∧ tc = 0) ∨ (c ≠ 1 ∧ tw = off + 10 ∧ tc = c - 1)) := hta
 have HEL : Hid (RdE w (.agg es) y F1 ∧ (∃ G, RdL enK w (some ⟨b, tw, none⟩) (n - 1) ys G ∧ (G = [] ∨ G = b :: F2)) ∧ b < w.heap.size ∧ (∀ j, j < 10 → w.cell? ⟨b, off + j, none⟩ = es[j]?) ∧ n = ys.length + 1 ∧ n - 1 ≤ tc) := by
  refine ⟨hey, ?_, hbw, hec, hn', by rcases hta with ⟨e1, _, e3⟩ | ⟨e1, _, e3⟩ <;> omega⟩
  by_cases h1 : n = 1
  ·
   have hys : ys = [] := List.eq_nil_of_length_eq_zero (by omega)
   subst hys
   exact ⟨[], by rw [show n - 1 = 0 by omega]; exact RdL.zero, .inl rfl⟩
  ·
   rcases hta with ⟨e1, _, _⟩ | ⟨_, rfl, _⟩
   ·
    omega
   ·
    exact ⟨b :: F2, ⟨by omega, .inr ⟨b, off + 10, F2, by omega, rfl, rfl, hels⟩⟩, .inr rfl⟩
 clear hL hxs hFX hes hec hey hels hn' hta hbw
 go_enter Tryz.func41, Tryz.ntmps41
 go_wp2_with fail
 obtain ⟨W0, hW0⟩ : ∃ W, W = ((w.alloc (.cells #[.slice (some ⟨b, off, none⟩) n c] 60)).alloc (.cells #[.int .i64 0, .int .i64 0, .slice none 0 0, .int .i64 0, .int .i64 0, .int .i64 0, .int .i64 0, .slice none 0 0, .slice none 0 0, .slice none 0 0] 33)).alloc (.cells #[.slice none 0 0] 60) := ⟨_, rfl⟩
 rw [← hW0] at HP0 ⊢
 clear hW0
 have HPd : Hid (Pop3 w 60 60 33 #[.slice (some ⟨b, off, none⟩) n c] W0.drew) := HP0.out.below (Below.refl _ _).drew
 obtain ⟨Y0, hY0⟩ : ∃ Y, Y = W0.drew := ⟨_, rfl⟩
 rw [← hY0] at HPd
 clear HP0
 have HS : Hid (Blk Y0 w.heap.size #[.slice (some ⟨b, off, none⟩) n c] 60 ∧ ∀ j, j < 10 → Y0.cell? ⟨b, off + j, none⟩ = es[j]?) := ⟨HPd.out.box, fun j hj => (HPd.out.bel.cell (p := ⟨b, off + j, none⟩) HEL.out.2.2.1).trans (HEL.out.2.2.2.1 j hj)⟩
 refine wp_region_held (S := fun W => Blk W w.heap.size #[.slice (some ⟨b, off, none⟩) n c] 60 ∧ ∀ j, j < 10 → W.cell? ⟨b, off + j, none⟩ = es[j]?) (by kernel_rfl) ?_
 change wpAnyH _ _ _ _ _ _ _ _ (World.drew _)
 rw [← hY0]
 clear hY0
 refine tm 0 (.pointer (some ⟨w.heap.size, 0, none⟩)) (H := ⟨HS.out, ?_⟩)
 refine tk 1 (.slice (some ⟨b, off, none⟩) n c) (H := ⟨(.inl ⟨rfl, fun W hW => by have c := hW.1.cell 0; simp only [aT, aZ] at c; go_simp⟩), HS.out, ?_⟩)
 refine tk 2 (.pointer (some ⟨b, off, none⟩)) (H := ⟨(.inl ⟨rfl, fun W _ => by go_simp; first | done | (intro h; omega) | (rw [if_pos (by omega)]; rfl)⟩), HS.out, ?_⟩)
 refine tk 3 (.agg es) (H := ⟨(yields_at 33 b off 10 es _ rfl rfl rfl Tryz.underlying33 rfl infoEnG2 HX.out.2.2.1 (fun W hW => hW.2)), HS.out, ?_⟩)
 refine tm 4 (.pointer (some ⟨w.heap.size, 0, none⟩)) (H := ⟨HS.out, ?_⟩)
 refine tk 5 (.slice (some ⟨b, off, none⟩) n c) (H := ⟨(.inl ⟨rfl, fun W hW => by have c := hW.1.cell 0; simp only [aT, aZ] at c; go_simp⟩), HS.out, ?_⟩)
 refine tk 6 (.slice (some ⟨b, tw, none⟩) (n - 1) tc) (H := ⟨(.inl ⟨rfl, fun W _ => by rcases HTA.out with ⟨e1, e2, e3⟩ | ⟨e1, e2, e3⟩ <;> subst e2 e3 <;> go_simp <;> first | done | (intro h; omega) | (rw [if_pos (by omega)]; rfl)⟩), HS.out, ?_⟩)
 refine tm 7 (.agg #[.slice (some ⟨b, tw, none⟩) (n - 1) tc]) (H := ⟨HS.out, ?_⟩)
 refine oq 8 (H := fun K hK => ?_)
 have nb : b < w.heap.size := HEL.out.2.2.1
 have st1 : Blk (Y0.setRow (w.heap.size + 1) es) w.heap.size #[.slice (some ⟨b, off, none⟩) n c] 60 ∧ ∀ j, j < 10 → (Y0.setRow (w.heap.size + 1) es).cell? ⟨b, off + j, none⟩ = es[j]? := ⟨HS.out.1.setRowOther (by omega), fun j hj => (World.cell?_of_block (w := Y0) (a := ⟨b, off + j, none⟩) (setRow_other Y0 _ b _ (by omega))).trans (HS.out.2 j hj)⟩
 refine op_store 33 (w.heap.size + 1) #[.int .i64 0, .int .i64 0, .slice none 0 0, .int .i64 0, .int .i64 0, .int .i64 0, .int .i64 0, .slice none 0 0, .slice none 0 0, .slice none 0 0] es 33 rfl rfl rfl rfl HPd.out.ra (by rw [HX.out.2.2.1]; exact infoEnG2) HX.out.2.2.1.symm HX.out.2.2.2 (pk (h := hK _ _ ⟨st1, ?_⟩))
 clear hK
 refine oq 9 (H := fun K hK => ?_)
 have st2 : Blk ((Y0.setRow (w.heap.size + 1) es).setRow (w.heap.size + 1 + 1) #[.slice (some ⟨b, tw, none⟩) (n - 1) tc]) w.heap.size #[.slice (some ⟨b, off, none⟩) n c] 60 ∧ ∀ j, j < 10 → ((Y0.setRow (w.heap.size + 1) es).setRow (w.heap.size + 1 + 1) #[.slice (some ⟨b, tw, none⟩) (n - 1) tc]).cell? ⟨b, off + j, none⟩ = es[j]? := ⟨st1.1.setRowOther (by omega), fun j hj => (World.cell?_of_block (w := (Y0.setRow (w.heap.size + 1) es)) (a := ⟨b, off + j, none⟩) (setRow_other _ _ b _ (by omega))).trans (st1.2 j hj)⟩
 refine op_store 60 (w.heap.size + 1 + 1) #[.slice none 0 0] #[.slice (some ⟨b, tw, none⟩) (n - 1) tc] 60 rfl rfl rfl rfl (HPd.out.rb.setRowOther (by omega)) infoQI rfl (by simp [Value.oneCell']) (pk (h := hK _ _ ⟨st2, ?_⟩))
 clear hK
 refine tm 10 (.bool true) (H := ⟨st2, ?_⟩)
 refine wpAnyH_done (by kernel_rfl) ?_ _
 have HF : Hid (Blk ((Y0.setRow (w.heap.size + 1) es).setRow (w.heap.size + 1 + 1) #[.slice (some ⟨b, tw, none⟩) (n - 1) tc]) (w.heap.size + 1) es 33 ∧ Blk ((Y0.setRow (w.heap.size + 1) es).setRow (w.heap.size + 1 + 1) #[.slice (some ⟨b, tw, none⟩) (n - 1) tc]) (w.heap.size + 1 + 1) #[.slice (some ⟨b, tw, none⟩) (n - 1) tc] 60 ∧ Below w.heap.size w ((Y0.setRow (w.heap.size + 1) es).setRow (w.heap.size + 1 + 1) #[.slice (some ⟨b, tw, none⟩) (n - 1) tc])) := ⟨HPd.out.ra.setRow.setRowOther (by omega), (HPd.out.rb.setRowOther (by omega)).setRow, below_setRow (below_setRow HPd.out.bel (by omega) _) (by omega) _⟩
 obtain ⟨WF, hWF⟩ : ∃ W, W = ((Y0.setRow (w.heap.size + 1) es).setRow (w.heap.size + 1 + 1) #[.slice (some ⟨b, tw, none⟩) (n - 1) tc]) := ⟨_, rfl⟩
 rw [← hWF] at HF ⊢
 clear hWF HPd st1 st2
 go_wp2
 refine bodyPost_ret (results_row2_tmp Tryz.results41 _ _ (w.heap.size + 1) (w.heap.size + 1 + 1) 33 60 es #[.slice (some ⟨b, tw, none⟩) (n - 1) tc] _ _ rfl rfl HF.out.1 HF.out.2.1 Tryz.underlying33 rfl (by rw [HX.out.2.2.1]; exact infoEnG2) Tryz.underlying60 rfl infoQI) rfl ?_
 refine ⟨_, _, by rw [decide_eq_true (show 0 < x.list.length by rw [HN.out.1]; omega)]; rfl, HX.out.2.2.1, HX.out.2.2.2, rfl, by simp [Value.oneCell'], HF.out.2.2, fun y' ys' e => ?_⟩
 rw [HX.out.1] at e
 cases e
 obtain ⟨G, hG, hG2⟩ := HEL.out.2.1
 exact ⟨b, F1, F2, G, HX.out.2.1, HEL.out.1.below HF.out.2.2, ⟨_, _, _, rfl, hG.below HF.out.2.2, (fun e => by cases e), HEL.out.2.2.2.2.2⟩, hG2⟩
theorem rowPopImpl_any (v : Value) (x : Rw) (F : List Nat) (w : World) (h : RdRw w v x F) (hf : x.fits) :
 Calls Tryz.prog 11 #[v] w fun e w' => NewPop w x e w' := by
 have HH : Hid (RdRw w v x F ∧ x.fits) := ⟨h, hf⟩
 obtain ⟨a, n, c, rfl, hL, hcp⟩ := h
 have HN : Hid (x.list.length = n) := hL.length
 have hn : n ≤ 1048576 := by rw [← hL.length]; exact hf.len
 have HP0 : Hid (Pop3 w 26 26 33 #[.slice a n c] _) := Pop3.made w 26 26 33 #[.slice a n c]
 clear hL hf hcp
 go_enter Tryz.func11, Tryz.ntmps11
 go_wp2_with (first | go_skip | (with_reducible refine stopLoad 26 rfl ?_))
 refine load_any 26 w.heap.size #[.slice a n c] 26 _ HP0.out.box rfl rfl rfl Tryz.underlying26 rfl (rwSize rfl) ?_
 go_wp2_with fail
 refine (copiedRow_grow _ x F _ (HH.out.1.below HP0.out.bel) HH.out.2.each (by have := HH.out.2.len; omega)).mono ?_
 intro e w1 hres
 obtain ⟨v1, FX, rfl, r1, o1, hb1⟩ := hres.plain
 obtain ⟨cs, rfl, hc1, hc2⟩ := r1.cells
 have HP1 : Hid (Pop3 w 26 26 33 #[.slice a n c] w1 ∧ RdRw w1 (.agg cs) x FX ∧ Own (w.heap.size + 3) w1 FX) := ⟨HP0.out.below hb1, r1, o1.mono HP0.out.rb.lt⟩
 obtain ⟨X, hX⟩ : ∃ X, X = w1.heap.size := ⟨_, rfl⟩
 have HC : Hid (cs.size = 1 ∧ cs.all (·.oneCell') = true ∧ w.heap.size + 3 ≤ X) := ⟨hc1, hc2, by rw [hX]; exact HP1.out.1.rb.lt⟩
 clear hc1 hc2 r1 o1 hb1 HP0 hres
 go_wp2_with (first | go_skip | (with_reducible refine stopStore 26 rfl ?_))
 refine store_fresh 26 w1.heap.size rfl #[.slice none 0 0] cs 26 rfl rfl rfl rfl (rwSize HC.out.1) HC.out.1.symm HC.out.2.1 ?_
 intro w2 hg hb
 have HP2 : Hid (Pop3 w 26 26 33 #[.slice a n c] w2 ∧ Blk w2 X cs 26 ∧ RdRw w2 (.agg cs) x FX ∧ Own (w.heap.size + 3) w2 FX) := ⟨HP1.out.1.below hb, by rw [hX]; exact hg, HP1.out.2.1.below hb, HP1.out.2.2.below HP1.out.2.1.lt hb⟩
 rw [← hX]
 clear hg hb HP1 hX
 go_wp2_with (first | go_skip | (with_reducible refine stopLoad 26 rfl ?_))
 refine load_any 26 X cs 26 _ HP2.out.2.1 rfl rfl rfl Tryz.underlying26 rfl (rwSize HC.out.1) ?_
 go_wp2_with fail
 refine (popped_any _ x FX _ HP2.out.2.2.1 (by rw [HN.out]; omega)).mono ?_
 rintro e w3 ⟨es, ds, rfl, he1, he2, hd1, hd2, hb3, hpop⟩
 have HP3 : Hid (Pop3 w 26 26 33 #[.slice a n c] w3 ∧ Blk w3 X cs 26 ∧ RdRw w3 (.agg cs) x FX ∧ Own (w.heap.size + 3) w3 FX) := ⟨HP2.out.1.below hb3, HP2.out.2.1.below hb3, HP2.out.2.2.1.below hb3, HP2.out.2.2.2.below HP2.out.2.2.1.lt hb3⟩
 have HSZ : Hid ((es.size = 10 ∧ es.all (·.oneCell') = true) ∧ ds.size = 1 ∧ ds.all (·.oneCell') = true) := ⟨⟨he1, he2⟩, hd1, hd2⟩
 have HPOP : Hid (∀ y ys, x.list = y :: ys → ∃ b F1 F2 G, FX = b :: (F1 ++ F2) ∧ RdE w3 (.agg es) y F1 ∧ RdRw w3 (.agg ds) ⟨ys⟩ G ∧ (G = [] ∨ G = b :: F2)) := hpop
 clear he1 he2 hd1 hd2 hb3 hpop HP2
 obtain ⟨L, hLs⟩ : ∃ L, L = w3.heap.size := ⟨_, rfl⟩
 go_wp2_with (first | go_skip | (with_reducible refine stopStore 33 rfl ?_) | (with_reducible refine stopStore 60 rfl ?_))
 have bb : Below w3.heap.size w3 ((w3.alloc (.cells #[.int .i64 0, .int .i64 0, .slice none 0 0, .int .i64 0, .int .i64 0, .int .i64 0, .int .i64 0, .slice none 0 0, .slice none 0 0, .slice none 0 0] 33)).alloc (.cells #[.slice none 0 0] 60)) := Below.allocW _ (Below.allocW _ (Below.refl _ _) (Nat.le_refl _)) (Nat.le_refl _)
 have kk1 : Blk ((w3.alloc (.cells #[.int .i64 0, .int .i64 0, .slice none 0 0, .int .i64 0, .int .i64 0, .int .i64 0, .int .i64 0, .slice none 0 0, .slice none 0 0, .slice none 0 0] 33)).alloc (.cells #[.slice none 0 0] 60)) w3.heap.size #[.int .i64 0, .int .i64 0, .slice none 0 0, .int .i64 0, .int .i64 0, .int .i64 0, .int .i64 0, .slice none 0 0, .slice none 0 0, .slice none 0 0] 33 := (Blk.made _ _ _).alloc _
 have kk2 : Blk ((w3.alloc (.cells #[.int .i64 0, .int .i64 0, .slice none 0 0, .int .i64 0, .int .i64 0, .int .i64 0, .int .i64 0, .slice none 0 0, .slice none 0 0, .slice none 0 0] 33)).alloc (.cells #[.slice none 0 0] 60)) (w3.heap.size + 1) #[.slice none 0 0] 60 := Blk.made_eq (by simp)
 obtain ⟨w4, hw4⟩ : ∃ Z, Z = (w3.alloc (.cells #[.int .i64 0, .int .i64 0, .slice none 0 0, .int .i64 0, .int .i64 0, .int .i64 0, .int .i64 0, .slice none 0 0, .slice none 0 0, .slice none 0 0] 33)).alloc (.cells #[.slice none 0 0] 60) := ⟨_, rfl⟩
 rw [← hw4] at bb kk1 kk2 ⊢
 rw [← hLs] at kk1 kk2 ⊢
 have HP4 : Hid (Pop3 w 26 26 33 #[.slice a n c] w4 ∧ Blk w4 X cs 26 ∧ RdRw w4 (.agg cs) x FX ∧ Own (w.heap.size + 3) w4 FX ∧ Blk w4 L #[.int .i64 0, .int .i64 0, .slice none 0 0, .int .i64 0, .int .i64 0, .int .i64 0, .int .i64 0, .slice none 0 0, .slice none 0 0, .slice none 0 0] 33 ∧ Blk w4 (L + 1) #[.slice none 0 0] 60 ∧ X < L ∧ (∀ z ∈ FX, z < L)) := ⟨HP3.out.1.below bb, HP3.out.2.1.below bb, HP3.out.2.2.1.below bb, HP3.out.2.2.2.below HP3.out.2.2.1.lt bb, kk1, kk2, by rw [hLs]; exact HP3.out.2.1.lt, by rw [hLs]; exact HP3.out.2.2.1.lt⟩
 have HPO4 : Hid (∀ y ys, x.list = y :: ys → ∃ b F1 F2 G, FX = b :: (F1 ++ F2) ∧ RdE w4 (.agg es) y F1 ∧ RdRw w4 (.agg ds) ⟨ys⟩ G ∧ (G = [] ∨ G = b :: F2)) := fun y ys e => by
  obtain ⟨b, F1, F2, G, h1, h2, h3, h4⟩ := HPOP.out y ys e
  exact ⟨b, F1, F2, G, h1, h2.below bb, h3.below bb, h4⟩
 clear bb kk1 kk2 hw4 hLs HP3 HPOP
 refine store_known 33 L _ es 33 HP4.out.2.2.2.2.1 rfl rfl rfl rfl (enSize HSZ.out.1.1) HSZ.out.1.1.symm HSZ.out.1.2 ?_
 go_wp2_with (first | go_skip | (with_reducible refine stopStore 60 rfl ?_))
 refine store_known 60 (L + 1) _ ds 60 (HP4.out.2.2.2.2.2.1.setRowOther (by omega)) rfl rfl rfl rfl (by rw [HSZ.out.2.1]; exact infoQI) HSZ.out.2.1.symm HSZ.out.2.2 ?_
 have HP5 : Hid ((Pop3 w 26 26 33 #[.slice a n c] ((w4.setRow L es).setRow (L + 1) ds) ∧ Blk ((w4.setRow L es).setRow (L + 1) ds) X cs 26 ∧ RdRw ((w4.setRow L es).setRow (L + 1) ds) (.agg cs) x FX ∧ Own (w.heap.size + 3) ((w4.setRow L es).setRow (L + 1) ds) FX) ∧ Blk ((w4.setRow L es).setRow (L + 1) ds) L es 33 ∧ Blk ((w4.setRow L es).setRow (L + 1) ds) (L + 1) ds 60 ∧ ∀ y ys, x.list = y :: ys → ∃ b F1 F2 G, FX = b :: (F1 ++ F2) ∧ RdE ((w4.setRow L es).setRow (L + 1) ds) (.agg es) y F1 ∧ RdRw ((w4.setRow L es).setRow (L + 1) ds) (.agg ds) ⟨ys⟩ G ∧ (G = [] ∨ G = b :: F2)) := by
  have lx := HC.out.2.2
  have lX := HP4.out.2.2.2.2.2.2.1
  have lF := HP4.out.2.2.2.2.2.2.2
  have ag : Agree w4 ((w4.setRow L es).setRow (L + 1) ds) FX := (Agree.row (fun hx => by have := lF _ hx; omega) _).trans (Agree.row (fun hx => by have := lF _ hx; omega) _)
  refine ⟨⟨⟨(HP4.out.1.box.setRowOther (by omega)).setRowOther (by omega), (HP4.out.1.ra.setRowOther (by omega)).setRowOther (by omega), (HP4.out.1.rb.setRowOther (by omega)).setRowOther (by omega), below_setRow (below_setRow HP4.out.1.bel (by omega) _) (by omega) _⟩, (HP4.out.2.1.setRowOther (by omega)).setRowOther (by omega), HP4.out.2.2.1.agree ag, HP4.out.2.2.2.1.agree ag⟩, HP4.out.2.2.2.2.1.setRow.setRowOther (by omega), (HP4.out.2.2.2.2.2.1.setRowOther (by omega)).setRow, fun y ys e => ?_⟩
  obtain ⟨b, F1, F2, G, h1, h2, h3, h4⟩ := HPO4.out y ys e
  refine ⟨b, F1, F2, G, h1, h2.agree (ag.mono (fun z hz => by rw [h1]; simp [hz])), h3.agree (ag.mono (fun z hz => ?_)), h4⟩
  rcases h4 with e | e
  ·
   rw [e] at hz; cases hz
  ·
   rw [e] at hz
   rw [h1]
   rcases List.mem_cons.1 hz with rfl | hz <;> simp [*]
 obtain ⟨w5, hw5⟩ : ∃ W, W = ((w4.setRow L es).setRow (L + 1) ds) := ⟨_, rfl⟩
 rw [← hw5] at HP5 ⊢
 have HLX : Hid (X < L ∧ (∀ z ∈ FX, z < L)) := HP4.out.2.2.2.2.2.2
 clear hw5 HP4 HPO4
 by_cases h0 : n = 0
 ·
  have hne : decide (0 < x.list.length) = false := by rw [HN.out, h0]; rfl
  have HV : Hid (x.pops = false) := by show _ = _; unfold Rw.pops; rw [HN.out, h0]; simp
  rw [hne]
  clear hne
  obtain ⟨WQ, hWQ⟩ : ∃ W, W = w5 := ⟨_, rfl⟩
  have HPQ : Hid (Pop3 w 26 26 33 #[.slice a n c] WQ ∧ Blk WQ X cs 26 ∧ RdRw WQ (.agg cs) x FX ∧ Own (w.heap.size + 3) WQ FX) := by rw [hWQ]; exact HP5.out.1
  rw [← hWQ]
  clear hWQ HP5
  go_wp2_with fail
  have HPd : Hid (Pop3 w 26 26 33 #[.slice a n c] WQ.drew ∧ Blk WQ.drew X cs 26 ∧ RdRw WQ.drew (.agg cs) x FX ∧ Own (w.heap.size + 3) WQ.drew FX) := by
   have bd : Below WQ.heap.size WQ WQ.drew := (Below.refl _ _).drew
   exact ⟨HPQ.out.1.below bd, HPQ.out.2.1.below bd, HPQ.out.2.2.1.below bd, HPQ.out.2.2.2.below HPQ.out.2.2.1.lt bd⟩
  obtain ⟨Y0, hY0⟩ : ∃ Y, Y = WQ.drew := ⟨_, rfl⟩
  rw [← hY0] at HPd
  refine wp_region_held (S := fun W => Blk W X cs 26) (by kernel_rfl) ?_
  change wpAnyH _ _ _ _ _ _ _ _ (World.drew _)
  rw [← hY0]
  clear hY0
  refine tm 0 (.agg #[.int .i64 0, .int .i64 0, .slice none 0 0, .int .i64 0, .int .i64 0, .int .i64 0, .int .i64 0, .slice none 0 0, .slice none 0 0, .slice none 0 0]) (H := ⟨HPd.out.2.1, ?_⟩)
  refine tk 1 (.agg cs) (H := ⟨(yields_whole 26 X cs 26 _ rfl rfl rfl Tryz.underlying26 rfl (rwSize HC.out.1) (fun W hW => hW)), HPd.out.2.1, ?_⟩)
  refine oq 2 (H := fun K hK => ?_)
  refine op_store 33 (w.heap.size + 1) #[.int .i64 0, .int .i64 0, .slice none 0 0, .int .i64 0, .int .i64 0, .int .i64 0, .int .i64 0, .slice none 0 0, .slice none 0 0, .slice none 0 0] #[.int .i64 0, .int .i64 0, .slice none 0 0, .int .i64 0, .int .i64 0, .int .i64 0, .int .i64 0, .slice none 0 0, .slice none 0 0, .slice none 0 0] 33 rfl rfl rfl rfl HPd.out.1.ra infoEnG2 rfl (by simp [Value.oneCell']) (pk (h := hK _ _ ⟨HPd.out.2.1.setRowOther (by have := HC.out.2.2; omega), ?_⟩))
  clear hK
  refine oq 3 (H := fun K hK => ?_)
  refine op_store 26 (w.heap.size + 1 + 1) #[.slice none 0 0] cs 26 rfl rfl rfl rfl (HPd.out.1.rb.setRowOther (by omega)) (rwSize HC.out.1) HC.out.1.symm HC.out.2.1 (pk (h := hK _ _ ⟨(HPd.out.2.1.setRowOther (by have := HC.out.2.2; omega)).setRowOther (by have := HC.out.2.2; omega), ?_⟩))
  clear hK
  refine tm 4 (.bool false) (H := ⟨((HPd.out.2.1.setRowOther (by have := HC.out.2.2; omega)).setRowOther (by have := HC.out.2.2; omega)), ?_⟩)
  refine wpAnyH_done (by kernel_rfl) ?_ _
  have HF : Hid (Blk ((Y0.setRow (w.heap.size + 1) #[.int .i64 0, .int .i64 0, .slice none 0 0, .int .i64 0, .int .i64 0, .int .i64 0, .int .i64 0, .slice none 0 0, .slice none 0 0, .slice none 0 0]).setRow (w.heap.size + 1 + 1) cs) (w.heap.size + 1) #[.int .i64 0, .int .i64 0, .slice none 0 0, .int .i64 0, .int .i64 0, .int .i64 0, .int .i64 0, .slice none 0 0, .slice none 0 0, .slice none 0 0] 33 ∧ Blk ((Y0.setRow (w.heap.size + 1) #[.int .i64 0, .int .i64 0, .slice none 0 0, .int .i64 0, .int .i64 0, .int .i64 0, .int .i64 0, .slice none 0 0, .slice none 0 0, .slice none 0 0]).setRow (w.heap.size + 1 + 1) cs) (w.heap.size + 1 + 1) cs 26 ∧ RdRw ((Y0.setRow (w.heap.size + 1) #[.int .i64 0, .int .i64 0, .slice none 0 0, .int .i64 0, .int .i64 0, .int .i64 0, .int .i64 0, .slice none 0 0, .slice none 0 0, .slice none 0 0]).setRow (w.heap.size + 1 + 1) cs) (.agg cs) x FX ∧ Own w.heap.size ((Y0.setRow (w.heap.size + 1) #[.int .i64 0, .int .i64 0, .slice none 0 0, .int .i64 0, .int .i64 0, .int .i64 0, .int .i64 0, .slice none 0 0, .slice none 0 0, .slice none 0 0]).setRow (w.heap.size + 1 + 1) cs) FX ∧ Below w.heap.size w ((Y0.setRow (w.heap.size + 1) #[.int .i64 0, .int .i64 0, .slice none 0 0, .int .i64 0, .int .i64 0, .int .i64 0, .int .i64 0, .slice none 0 0, .slice none 0 0, .slice none 0 0]).setRow (w.heap.size + 1 + 1) cs)) := by
   have ag : Agree Y0 ((Y0.setRow (w.heap.size + 1) #[.int .i64 0, .int .i64 0, .slice none 0 0, .int .i64 0, .int .i64 0, .int .i64 0, .int .i64 0, .slice none 0 0, .slice none 0 0, .slice none 0 0]).setRow (w.heap.size + 1 + 1) cs) FX := (Agree.row (fun hx => by have := HPd.out.2.2.2.ge _ hx; omega) _).trans (Agree.row (fun hx => by have := HPd.out.2.2.2.ge _ hx; omega) _)
   exact ⟨HPd.out.1.ra.setRow.setRowOther (by omega), (HPd.out.1.rb.setRowOther (by omega)).setRow, HPd.out.2.2.1.agree ag, (HPd.out.2.2.2.agree ag).mono (by omega), below_setRow (below_setRow HPd.out.1.bel (by omega) _) (by omega) _⟩
  obtain ⟨WF, hWF⟩ : ∃ W, W = ((Y0.setRow (w.heap.size + 1) #[.int .i64 0, .int .i64 0, .slice none 0 0, .int .i64 0, .int .i64 0, .int .i64 0, .int .i64 0, .slice none 0 0, .slice none 0 0, .slice none 0 0]).setRow (w.heap.size + 1 + 1) cs) := ⟨_, rfl⟩
  rw [← hWF] at HF ⊢
  clear hWF HPd
  go_wp2
  refine bodyPost_ret (results_row2_tmp Tryz.results11 _ _ (w.heap.size + 1) (w.heap.size + 1 + 1) 33 26 #[.int .i64 0, .int .i64 0, .slice none 0 0, .int .i64 0, .int .i64 0, .int .i64 0, .int .i64 0, .slice none 0 0, .slice none 0 0, .slice none 0 0] cs _ _ rfl rfl HF.out.1 HF.out.2.1 Tryz.underlying33 rfl infoEnG2 Tryz.underlying26 rfl (rwSize HC.out.1)) rfl ?_
  have hq := Rw.pop_not HV.out
  exact ⟨_, _, [], FX, by rw [HV.out]; rfl, by rw [hq.1]; exact rdE_zero _, by rw [hq.2]; exact HF.out.2.2.1, Own.nil, HF.out.2.2.2.1, (by simp), HF.out.2.2.2.2⟩
 have hne : decide (0 < x.list.length) = true := decide_eq_true (by rw [HN.out]; omega)
 rw [hne]
 clear hne
 go_wp2_with (first | go_skip | (with_reducible refine stopLoad 26 rfl ?_))
 refine load_any 26 w.heap.size #[.slice a n c] 26 _ HP5.out.1.1.box rfl rfl rfl Tryz.underlying26 rfl (rwSize rfl) ?_
 go_wp2_with fail
 refine (rowOkImpl_any _ x F _ (HH.out.1.below HP5.out.1.1.bel) HH.out.2).mono ?_
 rintro e WQ ⟨rfl, hb6⟩
 have HPQ : Hid (Pop3 w 26 26 33 #[.slice a n c] WQ ∧ Blk WQ X cs 26 ∧ RdRw WQ (.agg cs) x FX ∧ Own (w.heap.size + 3) WQ FX) := ⟨HP5.out.1.1.below hb6, HP5.out.1.2.1.below hb6, HP5.out.1.2.2.1.below hb6, HP5.out.1.2.2.2.below HP5.out.1.2.2.1.lt hb6⟩
 have HLL : Hid (Blk WQ L es 33 ∧ Blk WQ (L + 1) ds 60) := ⟨HP5.out.2.1.below hb6, HP5.out.2.2.1.below hb6⟩
 have HPO : Hid (∀ y ys, x.list = y :: ys → ∃ b F1 F2 G, FX = b :: (F1 ++ F2) ∧ RdE WQ (.agg es) y F1 ∧ RdRw WQ (.agg ds) ⟨ys⟩ G ∧ (G = [] ∨ G = b :: F2)) := fun y ys e => by
  obtain ⟨b, F1, F2, G, h1, h2, h3, h4⟩ := HP5.out.2.2.2 y ys e
  exact ⟨b, F1, F2, G, h1, h2.below hb6, h3.below hb6, h4⟩
 obtain ⟨dd, hd⟩ : ∃ d, d = x.ok := ⟨_, rfl⟩
 rw [← hd]
 have HD : Hid (dd = x.ok) := hd
 clear hd hb6 HP5 HH
 cases dd
 ·
  have HV : Hid (x.pops = false) := by show _ = _; unfold Rw.pops; rw [← HD.out]; rfl
  go_wp2_with fail
  have HPd : Hid (Pop3 w 26 26 33 #[.slice a n c] WQ.drew ∧ Blk WQ.drew X cs 26 ∧ RdRw WQ.drew (.agg cs) x FX ∧ Own (w.heap.size + 3) WQ.drew FX) := by
   have bd : Below WQ.heap.size WQ WQ.drew := (Below.refl _ _).drew
   exact ⟨HPQ.out.1.below bd, HPQ.out.2.1.below bd, HPQ.out.2.2.1.below bd, HPQ.out.2.2.2.below HPQ.out.2.2.1.lt bd⟩
  obtain ⟨Y0, hY0⟩ : ∃ Y, Y = WQ.drew := ⟨_, rfl⟩
  rw [← hY0] at HPd
  refine wp_region_held (S := fun W => Blk W X cs 26) (by kernel_rfl) ?_
  change wpAnyH _ _ _ _ _ _ _ _ (World.drew _)
  rw [← hY0]
  clear hY0
  refine tm 0 (.agg #[.int .i64 0, .int .i64 0, .slice none 0 0, .int .i64 0, .int .i64 0, .int .i64 0, .int .i64 0, .slice none 0 0, .slice none 0 0, .slice none 0 0]) (H := ⟨HPd.out.2.1, ?_⟩)
  refine tk 1 (.agg cs) (H := ⟨(yields_whole 26 X cs 26 _ rfl rfl rfl Tryz.underlying26 rfl (rwSize HC.out.1) (fun W hW => hW)), HPd.out.2.1, ?_⟩)
  refine oq 2 (H := fun K hK => ?_)
  refine op_store 33 (w.heap.size + 1) #[.int .i64 0, .int .i64 0, .slice none 0 0, .int .i64 0, .int .i64 0, .int .i64 0, .int .i64 0, .slice none 0 0, .slice none 0 0, .slice none 0 0] #[.int .i64 0, .int .i64 0, .slice none 0 0, .int .i64 0, .int .i64 0, .int .i64 0, .int .i64 0, .slice none 0 0, .slice none 0 0, .slice none 0 0] 33 rfl rfl rfl rfl HPd.out.1.ra infoEnG2 rfl (by simp [Value.oneCell']) (pk (h := hK _ _ ⟨HPd.out.2.1.setRowOther (by have := HC.out.2.2; omega), ?_⟩))
  clear hK
  refine oq 3 (H := fun K hK => ?_)
  refine op_store 26 (w.heap.size + 1 + 1) #[.slice none 0 0] cs 26 rfl rfl rfl rfl (HPd.out.1.rb.setRowOther (by omega)) (rwSize HC.out.1) HC.out.1.symm HC.out.2.1 (pk (h := hK _ _ ⟨(HPd.out.2.1.setRowOther (by have := HC.out.2.2; omega)).setRowOther (by have := HC.out.2.2; omega), ?_⟩))
  clear hK
  refine tm 4 (.bool false) (H := ⟨((HPd.out.2.1.setRowOther (by have := HC.out.2.2; omega)).setRowOther (by have := HC.out.2.2; omega)), ?_⟩)
  refine wpAnyH_done (by kernel_rfl) ?_ _
  have HF : Hid (Blk ((Y0.setRow (w.heap.size + 1) #[.int .i64 0, .int .i64 0, .slice none 0 0, .int .i64 0, .int .i64 0, .int .i64 0, .int .i64 0, .slice none 0 0, .slice none 0 0, .slice none 0 0]).setRow (w.heap.size + 1 + 1) cs) (w.heap.size + 1) #[.int .i64 0, .int .i64 0, .slice none 0 0, .int .i64 0, .int .i64 0, .int .i64 0, .int .i64 0, .slice none 0 0, .slice none 0 0, .slice none 0 0] 33 ∧ Blk ((Y0.setRow (w.heap.size + 1) #[.int .i64 0, .int .i64 0, .slice none 0 0, .int .i64 0, .int .i64 0, .int .i64 0, .int .i64 0, .slice none 0 0, .slice none 0 0, .slice none 0 0]).setRow (w.heap.size + 1 + 1) cs) (w.heap.size + 1 + 1) cs 26 ∧ RdRw ((Y0.setRow (w.heap.size + 1) #[.int .i64 0, .int .i64 0, .slice none 0 0, .int .i64 0, .int .i64 0, .int .i64 0, .int .i64 0, .slice none 0 0, .slice none 0 0, .slice none 0 0]).setRow (w.heap.size + 1 + 1) cs) (.agg cs) x FX ∧ Own w.heap.size ((Y0.setRow (w.heap.size + 1) #[.int .i64 0, .int .i64 0, .slice none 0 0, .int .i64 0, .int .i64 0, .int .i64 0, .int .i64 0, .slice none 0 0, .slice none 0 0, .slice none 0 0]).setRow (w.heap.size + 1 + 1) cs) FX ∧ Below w.heap.size w ((Y0.setRow (w.heap.size + 1) #[.int .i64 0, .int .i64 0, .slice none 0 0, .int .i64 0, .int .i64 0, .int .i64 0, .int .i64 0, .slice none 0 0, .slice none 0 0, .slice none 0 0]).setRow (w.heap.size + 1 + 1) cs)) := by
   have ag : Agree Y0 ((Y0.setRow (w.heap.size + 1) #[.int .i64 0, .int .i64 0, .slice none 0 0, .int .i64 0, .int .i64 0, .int .i64 0, .int .i64 0, .slice none 0 0, .slice none 0 0, .slice none 0 0]).setRow (w.heap.size + 1 + 1) cs) FX := (Agree.row (fun hx => by have := HPd.out.2.2.2.ge _ hx; omega) _).trans (Agree.row (fun hx => by have := HPd.out.2.2.2.ge _ hx; omega) _)
   exact ⟨HPd.out.1.ra.setRow.setRowOther (by omega), (HPd.out.1.rb.setRowOther (by omega)).setRow, HPd.out.2.2.1.agree ag, (HPd.out.2.2.2.agree ag).mono (by omega), below_setRow (below_setRow HPd.out.1.bel (by omega) _) (by omega) _⟩
  obtain ⟨WF, hWF⟩ : ∃ W, W = ((Y0.setRow (w.heap.size + 1) #[.int .i64 0, .int .i64 0, .slice none 0 0, .int .i64 0, .int .i64 0, .int .i64 0, .int .i64 0, .slice none 0 0, .slice none 0 0, .slice none 0 0]).setRow (w.heap.size + 1 + 1) cs) := ⟨_, rfl⟩
  rw [← hWF] at HF ⊢
  clear hWF HPd
  go_wp2
  refine bodyPost_ret (results_row2_tmp Tryz.results11 _ _ (w.heap.size + 1) (w.heap.size + 1 + 1) 33 26 #[.int .i64 0, .int .i64 0, .slice none 0 0, .int .i64 0, .int .i64 0, .int .i64 0, .int .i64 0, .slice none 0 0, .slice none 0 0, .slice none 0 0] cs _ _ rfl rfl HF.out.1 HF.out.2.1 Tryz.underlying33 rfl infoEnG2 Tryz.underlying26 rfl (rwSize HC.out.1)) rfl ?_
  have hq := Rw.pop_not HV.out
  exact ⟨_, _, [], FX, by rw [HV.out]; rfl, by rw [hq.1]; exact rdE_zero _, by rw [hq.2]; exact HF.out.2.2.1, Own.nil, HF.out.2.2.2.1, (by simp), HF.out.2.2.2.2⟩
 have HV : Hid (x.pops = true) := by show _ = _; unfold Rw.pops; rw [← HD.out, HN.out]; simp; omega
 go_wp2_with fail
 have bd : Below WQ.heap.size WQ WQ.drew := (Below.refl _ _).drew
 have HPd : Hid (Pop3 w 26 26 33 #[.slice a n c] WQ.drew ∧ Blk WQ.drew L es 33 ∧ Blk WQ.drew (L + 1) ds 60 ∧ Own (w.heap.size + 3) WQ.drew FX) := ⟨HPQ.out.1.below bd, HLL.out.1.below bd, HLL.out.2.below bd, HPQ.out.2.2.2.below HPQ.out.2.2.1.lt bd⟩
 have HPOd : Hid (∀ y ys, x.list = y :: ys → ∃ b F1 F2 G, FX = b :: (F1 ++ F2) ∧ RdE WQ.drew (.agg es) y F1 ∧ RdRw WQ.drew (.agg ds) ⟨ys⟩ G ∧ (G = [] ∨ G = b :: F2)) := fun y ys e => by
  obtain ⟨b, F1, F2, G, h1, h2, h3, h4⟩ := HPO.out y ys e
  exact ⟨b, F1, F2, G, h1, h2.below bd, h3.below bd, h4⟩
 obtain ⟨Y0, hY0⟩ : ∃ Y, Y = WQ.drew := ⟨_, rfl⟩
 rw [← hY0] at HPd HPOd
 clear bd HPQ HLL HPO
 have lx := HC.out.2.2
 have lX := HLX.out.1
 refine wp_region_held (S := fun W => Blk W L es 33 ∧ Blk W (L + 1) ds 60) (by kernel_rfl) ?_
 change wpAnyH _ _ _ _ _ _ _ _ (World.drew _)
 rw [← hY0]
 clear hY0
 refine tk 0 (.agg es) (H := ⟨(yields_whole 33 L es 33 _ rfl rfl rfl Tryz.underlying33 rfl (enSize HSZ.out.1.1) (fun W hW => hW.1)), ⟨HPd.out.2.1, HPd.out.2.2.1⟩, ?_⟩)
 refine tk 1 (.agg ds) (H := ⟨(yields_whole 60 (L + 1) ds 60 _ rfl rfl rfl Tryz.underlying60 rfl (by rw [HSZ.out.2.1]; exact infoQI) (fun W hW => hW.2)), ⟨HPd.out.2.1, HPd.out.2.2.1⟩, ?_⟩)
 refine oq 2 (H := fun K hK => ?_)
 refine op_store 33 (w.heap.size + 1) #[.int .i64 0, .int .i64 0, .slice none 0 0, .int .i64 0, .int .i64 0, .int .i64 0, .int .i64 0, .slice none 0 0, .slice none 0 0, .slice none 0 0] es 33 rfl rfl rfl rfl HPd.out.1.ra (enSize HSZ.out.1.1) HSZ.out.1.1.symm HSZ.out.1.2 (pk (h := hK _ _ ⟨⟨HPd.out.2.1.setRowOther (by omega), HPd.out.2.2.1.setRowOther (by omega)⟩, ?_⟩))
 clear hK
 refine oq 3 (H := fun K hK => ?_)
 refine op_store 26 (w.heap.size + 1 + 1) #[.slice none 0 0] ds 26 rfl rfl rfl rfl (HPd.out.1.rb.setRowOther (by omega)) (rwSize HSZ.out.2.1) HSZ.out.2.1.symm HSZ.out.2.2 (pk (h := hK _ _ ⟨⟨(HPd.out.2.1.setRowOther (by omega)).setRowOther (by omega), (HPd.out.2.2.1.setRowOther (by omega)).setRowOther (by omega)⟩, ?_⟩))
 clear hK
 refine tm 4 (.bool true) (H := ⟨⟨(HPd.out.2.1.setRowOther (by omega)).setRowOther (by omega), (HPd.out.2.2.1.setRowOther (by omega)).setRowOther (by omega)⟩, ?_⟩)
 refine wpAnyH_done (by kernel_rfl) ?_ _
 obtain ⟨y, ys, hxs⟩ : ∃ y ys, x.list = y :: ys := by
  cases hh : x.list with
  | nil => have := HN.out; rw [hh] at this; simp at this; omega
  | cons y ys => exact ⟨y, ys, rfl⟩
 have HF : Hid (Blk ((Y0.setRow (w.heap.size + 1) es).setRow (w.heap.size + 1 + 1) ds) (w.heap.size + 1) es 33 ∧ Blk ((Y0.setRow (w.heap.size + 1) es).setRow (w.heap.size + 1 + 1) ds) (w.heap.size + 1 + 1) ds 26 ∧ Below w.heap.size w ((Y0.setRow (w.heap.size + 1) es).setRow (w.heap.size + 1 + 1) ds) ∧ ∃ F1 G, RdE ((Y0.setRow (w.heap.size + 1) es).setRow (w.heap.size + 1 + 1) ds) (.agg es) y F1 ∧ RdRw ((Y0.setRow (w.heap.size + 1) es).setRow (w.heap.size + 1 + 1) ds) (.agg ds) ⟨ys⟩ G ∧ Own w.heap.size ((Y0.setRow (w.heap.size + 1) es).setRow (w.heap.size + 1 + 1) ds) F1 ∧ Own w.heap.size ((Y0.setRow (w.heap.size + 1) es).setRow (w.heap.size + 1 + 1) ds) G ∧ ∀ z ∈ F1, z ∉ G) := by
  obtain ⟨b, F1, F2, G, h1, h2, h3, h4⟩ := HPOd.out y ys hxs
  have ag : Agree Y0 ((Y0.setRow (w.heap.size + 1) es).setRow (w.heap.size + 1 + 1) ds) FX := (Agree.row (fun hx => by have := HPd.out.2.2.2.ge _ hx; omega) _).trans (Agree.row (fun hx => by have := HPd.out.2.2.2.ge _ hx; omega) _)
  have o3 := (HPd.out.2.2.2.agree ag).mono (show w.heap.size ≤ w.heap.size + 3 by omega)
  have mG : ∀ z ∈ G, z ∈ FX := fun z hz => by
   rcases h4 with e | e
   ·
    rw [e] at hz; cases hz
   ·
    rw [e] at hz
    rw [h1]
    rcases List.mem_cons.1 hz with rfl | hz <;> simp [*]
  rw [h1] at o3
  obtain ⟨p1, p2, p3, p4, p5, p6, p7⟩ := o3.three
  refine ⟨HPd.out.1.ra.setRow.setRowOther (by omega), (HPd.out.1.rb.setRowOther (by omega)).setRow, below_setRow (below_setRow HPd.out.1.bel (by omega) _) (by omega) _, F1, G, h2.agree (ag.mono (fun z hz => by rw [h1]; simp [hz])), h3.agree (ag.mono mG), p1, ?_, ?_⟩
  ·
   rcases h4 with e | e
   ·
    rw [e]; exact Own.nil
   ·
    rw [e]; exact p3
  ·
   intro z hz hq
   rcases h4 with e | e
   ·
    rw [e] at hq; cases hq
   ·
    rw [e] at hq; exact p4 z hz hq
 obtain ⟨WF, hWF⟩ : ∃ W, W = ((Y0.setRow (w.heap.size + 1) es).setRow (w.heap.size + 1 + 1) ds) := ⟨_, rfl⟩
 rw [← hWF] at HF ⊢
 have HXS : Hid (x.list = y :: ys) := hxs
 clear hWF hxs HPd HPOd
 go_wp2
 refine bodyPost_ret (results_row2_tmp Tryz.results11 _ _ (w.heap.size + 1) (w.heap.size + 1 + 1) 33 26 es ds _ _ rfl rfl HF.out.1 HF.out.2.1 Tryz.underlying33 rfl (enSize HSZ.out.1.1) Tryz.underlying26 rfl (rwSize HSZ.out.2.1)) rfl ?_
 have hq := Rw.pop_yes HV.out HXS.out
 obtain ⟨F1, G, f1, f2, f3, f4, f5⟩ := HF.out.2.2.2
 exact ⟨_, _, F1, G, by rw [HV.out]; rfl, by rw [hq.1]; exact f1, by rw [hq.2]; exact f2, f3, f4, f5, HF.out.2.2.1⟩
end Go.Proofs.YtjnamoppcklomaaGreat
