/- The walk through the model's drawing of a summary and a share. No statement of the seat is proved here. -/
import Derived.Test.YtlapdamopclojaaSkDraw
namespace Go.Proofs.Ytlapdamopclojaa
open Go.RowKit
theorem below_grown {w w1 w2 : World} {q : Nat} (h : Below w.heap.size w w1) (k : w1.grownBy w2 (some q)) (hq : w.heap.size ≤ q) : Below w.heap.size w w2 := h.grown k h.size (fun j hj => by simp at hj; omega)
theorem pick_share {y : Int} (h : y ∈ ([1, 500, 990, 1000, 0, 1001, 250] : List Int)) : 0 ≤ y ∧ y ≤ 1001 := by
  simp at h
  omega
theorem full_wide {s : Sk} (h : s.full) : s.wide := ⟨by have := h.hist; omega, by have := h.regs; omega, by have := h.rows; omega, fun z hz => by have := h.row z hz; omega⟩
def DrewQ (w : World) (e : Ending) (w' : World) : Prop := ∃ cs s F p, e = .returned (.tuple #[.agg cs, .int .i64 p]) ∧ RdSk w' (.agg cs) s F ∧ s.full ∧ Own w.heap.size w' F ∧ (0 ≤ p ∧ p ≤ 1001) ∧ Below w.heap.size w w'
theorem drewQ_put {w W : World} {cs : Array Value} {s : Sk} {F : List Nat} {p : Int} (r : RdSk W (.agg cs) s F) (hs : s.full) (o : Own (w.heap.size + 1) W F) (hp : 0 ≤ p ∧ p ≤ 1001) (b : Below w.heap.size w W) : DrewQ w (.returned (.tuple #[.agg cs, .int .i64 p])) (W.setRow w.heap.size cs) := by
  have ag : Agree W (W.setRow w.heap.size cs) F := fun b hb => setRow_other W _ b _ (fun e => by have := o.ge b hb; omega)
  exact ⟨cs, s, F, p, rfl, r.agree ag, hs, (o.agree ag).mono (by omega), hp, below_setRow b (Nat.le_refl _) _⟩
set_option maxRecDepth 200000 in
set_option maxHeartbeats 4000000 in
theorem drawQuantile_any (a : Option Addr) (len cap : Nat) (zs : List Int) (w : World) (hR : RdB w a len zs) (hlen : len ≤ 1048576) :
    Calls Try.prog 32 #[.slice a len cap] w fun e w' => DrewQ w e w' := by
  have HT : Hid (Blk (w.alloc (.cells #[.int .i64 0, .int .i64 0, .int .i64 0, .int .i64 0, .slice none 0 0, .slice none 0 0, .slice none 0 0] 41)) w.heap.size #[.int .i64 0, .int .i64 0, .int .i64 0, .int .i64 0, .slice none 0 0, .slice none 0 0, .slice none 0 0] 41 ∧ Below w.heap.size w (w.alloc (.cells #[.int .i64 0, .int .i64 0, .int .i64 0, .int .i64 0, .slice none 0 0, .slice none 0 0, .slice none 0 0] 41))) := ⟨Blk.made _ _ _, (Below.refl _ _).alloc (Nat.le_refl _) _⟩
  have HR : Hid (RdB w a len zs) := hR
  have hsz : (w.alloc (.cells #[.int .i64 0, .int .i64 0, .int .i64 0, .int .i64 0, .slice none 0 0, .slice none 0 0, .slice none 0 0] 41)).heap.size = w.heap.size + 1 := by simp
  clear hR
  go_enter Try.func32, Try.ntmps32
  go_wp2_with fail
  refine (l1New_any a len cap zs _ (HR.out.below HT.out.2) hlen).mono ?_
  rintro e w1 ⟨rfl, ⟨h0, C⟩, b1⟩
  rw [hsz] at C ⊢
  have HC : Hid (Cur w1 (w.heap.size + 1) a len cap zs 0 h0 ∧ Blk w1 w.heap.size #[.int .i64 0, .int .i64 0, .int .i64 0, .int .i64 0, .slice none 0 0, .slice none 0 0, .slice none 0 0] 41 ∧ Below w.heap.size w w1) := ⟨C, HT.out.1.below b1, Below.next HT.out.2 b1⟩
  clear C b1 HT HR hsz
  go_wp2_with fail
  refine (l3Draw_any (w.heap.size + 1) a len cap zs 0 h0 _ HC.out.1 hlen).mono ?_
  rintro e w2 ⟨vv, s, F, i2, h2, rfl, rr, hs, oo, C2, g2⟩
  obtain ⟨cs, rfl, e7, e1⟩ := rr.cells
  have hq1 : w.heap.size + 1 < w1.heap.size := World.block_lt_of_cell? _ _ HC.out.1.c0
  have HE : Hid (RdSk w2 (.agg cs) s F ∧ Own (w.heap.size + 1) w2 F ∧ s.full ∧ cs.size = 7 ∧ cs.all (·.oneCell') = true ∧ Cur w2 (w.heap.size + 1) a len cap zs i2 h2 ∧ Blk w2 w.heap.size #[.int .i64 0, .int .i64 0, .int .i64 0, .int .i64 0, .slice none 0 0, .slice none 0 0, .slice none 0 0] 41 ∧ Below w.heap.size w w2) := ⟨rr, oo.mono (by omega), hs, e7, e1, C2, HC.out.2.1.grown g2 (by omega), below_grown HC.out.2.2 g2 (by omega)⟩
  have HFQ : Hid (∀ b ∈ F, b ≠ w.heap.size + 1) := fun b hb e => by have := oo.ge b hb; omega
  clear rr hs oo C2 g2 e7 e1 HC
  go_wp2_with (first | go_skip | (with_reducible refine stopLoad 41 rfl ?_) | (with_reducible refine stopStore 41 rfl ?_))
  refine store_fresh 41 w2.heap.size rfl #[.int .i64 0, .int .i64 0, .int .i64 0, .int .i64 0, .slice none 0 0, .slice none 0 0, .slice none 0 0] cs 41 rfl rfl rfl rfl (skSize HE.out.2.2.2.1) HE.out.2.2.2.1.symm HE.out.2.2.2.2.1 ?_
  intro w3 hg3 hb3
  have HS : Hid (Blk w3.drew w2.heap.size cs 41) := hg3.drew
  have H3 : Hid (RdSk w3.drew (.agg cs) s F ∧ Own (w.heap.size + 1) w3.drew F ∧ Cur w3.drew (w.heap.size + 1) a len cap zs i2 h2 ∧ Blk w3.drew w.heap.size #[.int .i64 0, .int .i64 0, .int .i64 0, .int .i64 0, .slice none 0 0, .slice none 0 0, .slice none 0 0] 41 ∧ Below w.heap.size w w3.drew) := ⟨(HE.out.1.below hb3).below (Below.refl _ _).drew, (HE.out.2.1.below HE.out.1.lt hb3).below (HE.out.1.below hb3).lt (Below.refl _ _).drew, (HE.out.2.2.2.2.2.1.keep hb3).keep (Below.refl _ _).drew, (HE.out.2.2.2.2.2.2.1.below hb3).drew, (Below.next HE.out.2.2.2.2.2.2.2 hb3).drew⟩
  have HQ : Hid (s.full ∧ cs.size = 7 ∧ cs.all (·.oneCell') = true ∧ w.heap.size + 1 < w2.heap.size) := ⟨HE.out.2.2.1, HE.out.2.2.2.1, HE.out.2.2.2.2.1, World.block_lt_of_cell? _ _ HE.out.2.2.2.2.2.1.c0⟩
  clear hg3 hb3 HE
  go_wp2
  refine wp_region_held (S := fun W => Blk W w2.heap.size cs 41) (by kernel_rfl) ?_
  change wpAnyH _ _ _ _ _ _ _ _ (World.drew _)
  refine takeH (o := ?o1) 0 (.agg cs) ?h1 ?r1
  case h1 => simp only [List.getElem?_toArray, List.getElem?_cons_zero]; rfl
  refine ⟨_, by simp [Act.put]; rfl, by kernel_rfl, by kernel_rfl, by kernel_rfl, fun _ _ _ h => h, (yields_whole 41 w2.heap.size cs 41 _ rfl rfl rfl Try.underlying41 rfl (skSize HQ.out.2.1) (fun W hW => hW)), HS.out, ?_⟩
  refine takeH (o := ?o2) 1 (.pointer (some ⟨w.heap.size + 1, 0, none⟩)) ?h2 ?r2
  case h2 => simp only [List.getElem?_toArray, List.getElem?_cons_succ, List.getElem?_cons_zero]; rfl
  refine ⟨_, by simp [Act.put]; rfl, by kernel_rfl, by kernel_rfl, by kernel_rfl, fun _ _ _ h => h, (.inl ⟨rfl, fun W _ => by go_simp⟩), HS.out, ?_⟩
  refine onlyH (o := ?o3) 2 (by kernel_rfl) ?h3 ?r3
  case h3 => simp only [List.getElem?_toArray, List.getElem?_cons_succ, List.getElem?_cons_zero]; rfl
  intro K hK
  refine op_turn (.slice (some ⟨w3.drew.heap.size, 0, none⟩) 7 7) (w3.drew.alloc (.cells ([1, 500, 990, 1000, 0, 1001, 250].map (Value.int .i64)).toArray 3)) rfl (by go_simp) ⟨_, by simp [Act.put]; rfl, hK _ _ ⟨HS.out.alloc _, ?_⟩⟩
  obtain ⟨w4, hW⟩ : ∃ W, W = (w3.drew.alloc (.cells ([1, 500, 990, 1000, 0, 1001, 250].map (Value.int .i64)).toArray 3)) := ⟨_, rfl⟩
  rw [← hW]
  have hbw : Below w3.drew.heap.size w3.drew w4 := by rw [hW]; exact (Below.refl _ _).alloc (Nat.le_refl _) _
  have HLIT : Hid (∀ j, j < ([1, 500, 990, 1000, 0, 1001, 250] : List Int).length → w4.cell? ⟨w3.drew.heap.size, j, none⟩ = some (.int .i64 (([1, 500, 990, 1000, 0, 1001, 250] : List Int).getD j 0))) := fun j hj => by rw [hW]; exact lit_ints w3.drew [1, 500, 990, 1000, 0, 1001, 250] 3 j hj
  have hq3 : w.heap.size + 1 < w3.drew.heap.size := World.block_lt_of_cell? _ _ H3.out.2.2.1.c0
  have H4 : Hid (RdSk w4 (.agg cs) s F ∧ Own (w.heap.size + 1) w4 F ∧ Cur w4 (w.heap.size + 1) a len cap zs i2 h2 ∧ Blk w4 w.heap.size #[.int .i64 0, .int .i64 0, .int .i64 0, .int .i64 0, .slice none 0 0, .slice none 0 0, .slice none 0 0] 41 ∧ Below w.heap.size w w4) := ⟨H3.out.1.below hbw, H3.out.2.1.below H3.out.1.lt hbw, H3.out.2.2.1.keep hbw, H3.out.2.2.2.1.below hbw, Below.next H3.out.2.2.2.2 hbw⟩
  have HF : Hid (∀ b ∈ F, b ≠ w.heap.size + 1) := fun b hb e => HFQ.out b hb e
  have HS4 : Hid (Blk w4 w2.heap.size cs 41) := HS.out.below hbw
  clear hK hW hbw HS
  refine onlyH (o := ?o4) 3 (by kernel_rfl) ?h4 ?r4
  case h4 => simp only [List.getElem?_toArray, List.getElem?_cons_succ, List.getElem?_cons_zero]; rfl
  intro K hK
  refine op_call2' 36 _ _ _ Try.f36 (fun v w' => ∃ y i' h', v = .int .i64 y ∧ (0 ≤ y ∧ y ≤ 1001) ∧ Cur w' (w.heap.size + 1) a len cap zs i' h' ∧ w4.grownBy w' (some (w.heap.size + 1))) rfl rfl Try.func36 (by kernel_rfl) (by kernel_rfl) ((pickInt_cur (w.heap.size + 1) w3.drew.heap.size _ a len cap zs i2 h2 [1, 500, 990, 1000, 0, 1001, 250] w4 H4.out.2.2.1 hlen HLIT.out (by omega) _ rfl (by simp) (by simp)).mono (by rintro e w' ⟨y, i', h', hy, rfl, C, g⟩; exact ⟨_, rfl, y, i', h', rfl, pick_share hy, C, g⟩)) ?_
  rintro _ w5 ⟨py, i5, h5, rfl, hp, C5, g5⟩
  have H5 : Hid (RdSk w5 (.agg cs) s F ∧ Own (w.heap.size + 1) w5 F ∧ Blk w5 w.heap.size #[.int .i64 0, .int .i64 0, .int .i64 0, .int .i64 0, .slice none 0 0, .slice none 0 0, .slice none 0 0] 41 ∧ Below w.heap.size w w5) := ⟨H4.out.1.agree (agree_grown g5 H4.out.1.lt (fun hb => HF.out _ hb rfl)), H4.out.2.1.agree (agree_grown g5 H4.out.1.lt (fun hb => HF.out _ hb rfl)), H4.out.2.2.2.1.grown g5 (by omega), below_grown H4.out.2.2.2.2 g5 (by omega)⟩
  have HS5 : Hid (Blk w5 w2.heap.size cs 41) := HS4.out.grown g5 (by have := HQ.out.2.2.2; omega)
  have HP : Hid (0 ≤ py ∧ py ≤ 1001) := hp
  refine ⟨_, by simp [Act.put]; rfl, hK _ _ ⟨HS5.out, ?_⟩⟩
  clear hK C5 g5 H4 HS4 HLIT hp
  refine onlyH (o := ?o5) 4 (by kernel_rfl) ?h5 ?r5
  case h5 => simp only [List.getElem?_toArray, List.getElem?_cons_succ, List.getElem?_cons_zero]; rfl
  intro K hK
  refine op_store 41 w.heap.size #[.int .i64 0, .int .i64 0, .int .i64 0, .int .i64 0, .slice none 0 0, .slice none 0 0, .slice none 0 0] cs 41 rfl rfl rfl rfl H5.out.2.2.1 (skSize HQ.out.2.1) HQ.out.2.1.symm HQ.out.2.2.1 ⟨_, by simp [Act.put]; rfl, hK _ _ ⟨HS5.out.setRowOther (by have := HQ.out.2.2.2; omega), ?_⟩⟩
  clear hK
  refine onlyH (o := ?o6) 5 (by kernel_rfl) ?h6 ?r6
  case h6 => simp only [List.getElem?_toArray, List.getElem?_cons_succ, List.getElem?_cons_zero]; rfl
  intro K hK
  refine op_value (.int .i64 py) rfl (by go_simp) ⟨_, by simp [Act.put]; rfl, hK _ _ ⟨HS5.out.setRowOther (by have := HQ.out.2.2.2; omega), ?_⟩⟩
  clear hK
  refine wpAnyH_done (by kernel_rfl) ?_ _
  go_wp2
  refine bodyPost_ret (results_row_tmp Try.results32 _ _ w.heap.size _ _ _ _ rfl H5.out.2.2.1.setRow Try.underlying41 rfl (skSize HQ.out.2.1)) rfl ?_
  exact drewQ_put H5.out.1 HQ.out.1 H5.out.2.1 HP.out H5.out.2.2.2
end Go.Proofs.Ytlapdamopclojaa
