/- The walk through the model's drawing of two summaries. No statement of the seat is proved here. -/
import Derived.Test.YtlapdamopclojaaSkDrawQ
namespace Go.Proofs.Ytlapdamopclojaa
open Go.RowKit
theorem results_row_row {P : Program} {fn : Func} {p u : Tmp} {ty : TypeId} (h : fn.results = #[.cell p ty, .cell u ty]) (tmps : Array Value) (w : World) (g k : Nat) (t : TypeId) (cs ds : Array Value) (d : TypeDesc)
    (hp : tmps.getD p undef = .pointer (some ⟨g, 0, none⟩)) (hq : tmps.getD u undef = .pointer (some ⟨k, 0, none⟩)) (hg : Blk w g cs t) (hk : Blk w k ds t)
    (hu : P.underlying ty = some d) (hd : (match d with | .struct _ | .array _ _ => true | _ => false) = true) (hi : (P.info? ty).map (·.size) = some cs.size) (hj : (P.info? ty).map (·.size) = some ds.size) :
    (results fn tmps).run P w = .ok (.tuple #[.agg cs, .agg ds]) w := by
  have e : (results fn tmps).run P w = ((asAddr (tmps.getD p undef)).run P w).andThen fun a w₁ => ((loadVar ty a).run P w₁).andThen fun v w₂ => ((asAddr (tmps.getD u undef)).run P w₂).andThen fun a w₁ => ((loadVar ty a).run P w₁).andThen fun v' w₂ => .ok (.tuple #[v, v']) w₂ := by
    simp only [results, h]
    simp [Sem.run_bind, Result.andThen]
  rw [e, hp, hq]
  simp [asAddr, run_loadVar_row w g t ty cs (0, 0) d hg hu hd hi, run_loadVar_row w k t ty ds (0, 0) d hk hu hd hj, Result.andThen]
/-- Two summaries, each of their lists with something in it. -/
def DrewTwo (w : World) (e : Ending) (w' : World) : Prop := ∃ cs s F ds t G, e = .returned (.tuple #[.agg cs, .agg ds]) ∧ RdSk w' (.agg cs) s F ∧ s.full ∧ RdSk w' (.agg ds) t G ∧ t.full ∧ Below w.heap.size w w'
/-- The same, and where their lists lie. -/
def DrewOwn (w : World) (e : Ending) (w' : World) : Prop := ∃ cs s F ds t G, e = .returned (.tuple #[.agg cs, .agg ds]) ∧ RdSk w' (.agg cs) s F ∧ s.full ∧ RdSk w' (.agg ds) t G ∧ t.full ∧ (∀ b ∈ F, w.heap.size ≤ b) ∧ (∀ b ∈ G, w.heap.size ≤ b) ∧ Below w.heap.size w w'
theorem drewOwn_put {w W : World} {cs ds : Array Value} {s t : Sk} {F G : List Nat} (r : RdSk W (.agg cs) s F) (hs : s.full) (r' : RdSk W (.agg ds) t G) (ht : t.full) (oF : ∀ b ∈ F, w.heap.size + 1 < b) (oG : ∀ b ∈ G, w.heap.size + 1 < b) (b : Below w.heap.size w W) : DrewOwn w (.returned (.tuple #[.agg cs, .agg ds])) ((W.setRow w.heap.size cs).setRow (w.heap.size + 1) ds) := by
  have ag : ∀ (X : List Nat), (∀ b ∈ X, w.heap.size + 1 < b) → Agree W ((W.setRow w.heap.size cs).setRow (w.heap.size + 1) ds) X := fun X hX b hb => (setRow_other _ _ b _ (fun e => by have := hX b hb; omega)).trans (setRow_other W _ b _ (fun e => by have := hX b hb; omega))
  exact ⟨cs, s, F, ds, t, G, rfl, r.agree (ag F oF), hs, r'.agree (ag G oG), ht, fun b hb => by (have := oF b hb; omega), fun b hb => by (have := oG b hb; omega), below_setRow (below_setRow b (Nat.le_refl _) _) (by omega) _⟩
theorem drewTwo_put {w W : World} {cs ds : Array Value} {s t : Sk} {F G : List Nat} (r : RdSk W (.agg cs) s F) (hs : s.full) (r' : RdSk W (.agg ds) t G) (ht : t.full) (oF : ∀ b ∈ F, w.heap.size + 1 < b) (oG : ∀ b ∈ G, w.heap.size + 1 < b) (b : Below w.heap.size w W) : DrewTwo w (.returned (.tuple #[.agg cs, .agg ds])) ((W.setRow w.heap.size cs).setRow (w.heap.size + 1) ds) := by
  have ag : ∀ (X : List Nat), (∀ b ∈ X, w.heap.size + 1 < b) → Agree W ((W.setRow w.heap.size cs).setRow (w.heap.size + 1) ds) X := fun X hX b hb => (setRow_other _ _ b _ (fun e => by have := hX b hb; omega)).trans (setRow_other W _ b _ (fun e => by have := hX b hb; omega))
  exact ⟨cs, s, F, ds, t, G, rfl, r.agree (ag F oF), hs, r'.agree (ag G oG), ht, below_setRow (below_setRow b (Nat.le_refl _) _) (by omega) _⟩
theorem two_set_rows {w W : World} {cs ds : Array Value} (h0 : Blk W w.heap.size #[.int .i64 0, .int .i64 0, .int .i64 0, .int .i64 0, .slice none 0 0, .slice none 0 0, .slice none 0 0] 41) (h1 : Blk W (w.heap.size + 1) #[.int .i64 0, .int .i64 0, .int .i64 0, .int .i64 0, .slice none 0 0, .slice none 0 0, .slice none 0 0] 41) : Blk ((W.setRow w.heap.size cs).setRow (w.heap.size + 1) ds) w.heap.size cs 41 ∧ Blk ((W.setRow w.heap.size cs).setRow (w.heap.size + 1) ds) (w.heap.size + 1) ds 41 :=
  ⟨h0.setRow.setRowOther (by omega), (h1.setRowOther (by omega)).setRow⟩
set_option maxRecDepth 200000 in
set_option maxHeartbeats 4000000 in
theorem l3Two_own (a : Option Addr) (len cap : Nat) (zs : List Int) (w : World) (hR : RdB w a len zs) (hlen : len ≤ 1048576) :
    Calls Try.prog 48 #[.slice a len cap] w fun e w' => DrewOwn w e w' := by
  have HT : Hid (Blk ((w.alloc (.cells #[.int .i64 0, .int .i64 0, .int .i64 0, .int .i64 0, .slice none 0 0, .slice none 0 0, .slice none 0 0] 41)).alloc (.cells #[.int .i64 0, .int .i64 0, .int .i64 0, .int .i64 0, .slice none 0 0, .slice none 0 0, .slice none 0 0] 41)) w.heap.size #[.int .i64 0, .int .i64 0, .int .i64 0, .int .i64 0, .slice none 0 0, .slice none 0 0, .slice none 0 0] 41 ∧ Blk ((w.alloc (.cells #[.int .i64 0, .int .i64 0, .int .i64 0, .int .i64 0, .slice none 0 0, .slice none 0 0, .slice none 0 0] 41)).alloc (.cells #[.int .i64 0, .int .i64 0, .int .i64 0, .int .i64 0, .slice none 0 0, .slice none 0 0, .slice none 0 0] 41)) (w.heap.size + 1) #[.int .i64 0, .int .i64 0, .int .i64 0, .int .i64 0, .slice none 0 0, .slice none 0 0, .slice none 0 0] 41 ∧ Below w.heap.size w ((w.alloc (.cells #[.int .i64 0, .int .i64 0, .int .i64 0, .int .i64 0, .slice none 0 0, .slice none 0 0, .slice none 0 0] 41)).alloc (.cells #[.int .i64 0, .int .i64 0, .int .i64 0, .int .i64 0, .slice none 0 0, .slice none 0 0, .slice none 0 0] 41))) := two_made w #[.int .i64 0, .int .i64 0, .int .i64 0, .int .i64 0, .slice none 0 0, .slice none 0 0, .slice none 0 0] #[.int .i64 0, .int .i64 0, .int .i64 0, .int .i64 0, .slice none 0 0, .slice none 0 0, .slice none 0 0] 41 41
  have HR : Hid (RdB w a len zs) := hR
  have hsz : ((w.alloc (.cells #[.int .i64 0, .int .i64 0, .int .i64 0, .int .i64 0, .slice none 0 0, .slice none 0 0, .slice none 0 0] 41)).alloc (.cells #[.int .i64 0, .int .i64 0, .int .i64 0, .int .i64 0, .slice none 0 0, .slice none 0 0, .slice none 0 0] 41)).heap.size = w.heap.size + 1 + 1 := by simp
  clear hR
  go_enter Try.func48, Try.ntmps48
  go_wp2_with fail
  refine (l1New_any a len cap zs _ (HR.out.below HT.out.2.2) hlen).mono ?_
  rintro e w1 ⟨rfl, ⟨h0, C⟩, b1⟩
  rw [hsz] at C ⊢
  have HC : Hid (Cur w1 (w.heap.size + 1 + 1) a len cap zs 0 h0 ∧ Blk w1 w.heap.size #[.int .i64 0, .int .i64 0, .int .i64 0, .int .i64 0, .slice none 0 0, .slice none 0 0, .slice none 0 0] 41 ∧ Blk w1 (w.heap.size + 1) #[.int .i64 0, .int .i64 0, .int .i64 0, .int .i64 0, .slice none 0 0, .slice none 0 0, .slice none 0 0] 41 ∧ Below w.heap.size w w1) := ⟨C, HT.out.1.below b1, HT.out.2.1.below b1, Below.next HT.out.2.2 b1⟩
  clear C b1 HT HR hsz
  go_wp2_with fail
  refine (l3Draw_any (w.heap.size + 1 + 1) a len cap zs 0 h0 _ HC.out.1 hlen).mono ?_
  rintro e w2 ⟨vv, s, F, i2, h2, rfl, rr, hs, oo, C2, g2⟩
  obtain ⟨cs, rfl, e7, e1⟩ := rr.cells
  have hq1 : w.heap.size + 1 + 1 < w1.heap.size := World.block_lt_of_cell? _ _ HC.out.1.c0
  have HF : Hid (∀ b ∈ F, w.heap.size + 1 + 1 < b) := fun b hb => by have := oo.ge b hb; omega
  have HA : Hid (s.full ∧ cs.size = 7 ∧ cs.all (·.oneCell') = true) := ⟨hs, e7, e1⟩
  have HE : Hid (RdSk w2 (.agg cs) s F ∧ Cur w2 (w.heap.size + 1 + 1) a len cap zs i2 h2 ∧ Blk w2 w.heap.size #[.int .i64 0, .int .i64 0, .int .i64 0, .int .i64 0, .slice none 0 0, .slice none 0 0, .slice none 0 0] 41 ∧ Blk w2 (w.heap.size + 1) #[.int .i64 0, .int .i64 0, .int .i64 0, .int .i64 0, .slice none 0 0, .slice none 0 0, .slice none 0 0] 41 ∧ Below w.heap.size w w2) := ⟨rr, C2, HC.out.2.1.grown g2 (by omega), HC.out.2.2.1.grown g2 (by omega), below_grown HC.out.2.2.2 g2 (by omega)⟩
  clear rr hs oo C2 g2 e7 e1 HC
  go_wp2_with (first | go_skip | (with_reducible refine stopLoad 41 rfl ?_) | (with_reducible refine stopStore 41 rfl ?_))
  refine store_fresh 41 w2.heap.size rfl #[.int .i64 0, .int .i64 0, .int .i64 0, .int .i64 0, .slice none 0 0, .slice none 0 0, .slice none 0 0] cs 41 rfl rfl rfl rfl (skSize HA.out.2.1) HA.out.2.1.symm HA.out.2.2 ?_
  intro w3 hg3 hb3
  have hq2 : w.heap.size + 1 + 1 < w2.heap.size := World.block_lt_of_cell? _ _ HE.out.2.1.c0
  have H3 : Hid ((Blk w3 w2.heap.size cs 41 ∧ RdSk w3 (.agg cs) s F) ∧ Cur w3 (w.heap.size + 1 + 1) a len cap zs i2 h2 ∧ Blk w3 w.heap.size #[.int .i64 0, .int .i64 0, .int .i64 0, .int .i64 0, .slice none 0 0, .slice none 0 0, .slice none 0 0] 41 ∧ Blk w3 (w.heap.size + 1) #[.int .i64 0, .int .i64 0, .int .i64 0, .int .i64 0, .slice none 0 0, .slice none 0 0, .slice none 0 0] 41 ∧ Below w.heap.size w w3) := ⟨⟨hg3, HE.out.1.below hb3⟩, HE.out.2.1.keep hb3, HE.out.2.2.1.below hb3, HE.out.2.2.2.1.below hb3, Below.next HE.out.2.2.2.2 hb3⟩
  clear hg3 hb3 HE
  go_wp2_with fail
  refine (l3Draw_any (w.heap.size + 1 + 1) a len cap zs i2 h2 _ H3.out.2.1 hlen).mono ?_
  rintro e w4 ⟨vv, t, G, i4, h4, rfl, rr, hs, oo, C4, g4⟩
  obtain ⟨ds, rfl, e7, e1⟩ := rr.cells
  have hq3 : w2.heap.size < w3.heap.size := H3.out.1.1.lt
  have HG : Hid (∀ b ∈ G, w.heap.size + 1 + 1 < b) := fun b hb => by have := oo.ge b hb; omega
  have HB : Hid (t.full ∧ ds.size = 7 ∧ ds.all (·.oneCell') = true) := ⟨hs, e7, e1⟩
  have HE : Hid ((Blk w4 w2.heap.size cs 41 ∧ RdSk w4 (.agg cs) s F) ∧ RdSk w4 (.agg ds) t G ∧ Cur w4 (w.heap.size + 1 + 1) a len cap zs i4 h4 ∧ Blk w4 w.heap.size #[.int .i64 0, .int .i64 0, .int .i64 0, .int .i64 0, .slice none 0 0, .slice none 0 0, .slice none 0 0] 41 ∧ Blk w4 (w.heap.size + 1) #[.int .i64 0, .int .i64 0, .int .i64 0, .int .i64 0, .slice none 0 0, .slice none 0 0, .slice none 0 0] 41 ∧ Below w.heap.size w w4) := ⟨⟨H3.out.1.1.grown g4 (by omega), H3.out.1.2.agree (agree_grown g4 H3.out.1.2.lt (fun hb => by have := HF.out _ hb; omega))⟩, rr, C4, H3.out.2.2.1.grown g4 (by omega), H3.out.2.2.2.1.grown g4 (by omega), below_grown H3.out.2.2.2.2 g4 (by omega)⟩
  clear rr hs oo C4 g4 e7 e1 H3
  go_wp2_with (first | go_skip | (with_reducible refine stopLoad 41 rfl ?_) | (with_reducible refine stopStore 41 rfl ?_))
  refine store_fresh 41 w4.heap.size rfl #[.int .i64 0, .int .i64 0, .int .i64 0, .int .i64 0, .slice none 0 0, .slice none 0 0, .slice none 0 0] ds 41 rfl rfl rfl rfl (skSize HB.out.2.1) HB.out.2.1.symm HB.out.2.2 ?_
  intro w5 hg5 hb5
  have hq4 : w2.heap.size < w4.heap.size := HE.out.1.1.lt
  have H5 : Hid ((Blk w5 w2.heap.size cs 41 ∧ RdSk w5 (.agg cs) s F) ∧ (Blk w5 w4.heap.size ds 41 ∧ RdSk w5 (.agg ds) t G) ∧ Cur w5 (w.heap.size + 1 + 1) a len cap zs i4 h4 ∧ Blk w5 w.heap.size #[.int .i64 0, .int .i64 0, .int .i64 0, .int .i64 0, .slice none 0 0, .slice none 0 0, .slice none 0 0] 41 ∧ Blk w5 (w.heap.size + 1) #[.int .i64 0, .int .i64 0, .int .i64 0, .int .i64 0, .slice none 0 0, .slice none 0 0, .slice none 0 0] 41 ∧ Below w.heap.size w w5) := ⟨⟨HE.out.1.1.below hb5, HE.out.1.2.below hb5⟩, ⟨hg5, HE.out.2.1.below hb5⟩, HE.out.2.2.1.keep hb5, HE.out.2.2.2.1.below hb5, HE.out.2.2.2.2.1.below hb5, Below.next HE.out.2.2.2.2.2 hb5⟩
  clear hg5 hb5 HE
  go_wp2_with fail
  refine (l1Once_any (w.heap.size + 1 + 1) a len cap zs i4 h4 4 _ H5.out.2.2.1 hlen (by omega) (by omega)).mono ?_
  rintro e w6 ⟨b, i6, h6, rfl, C6, g6⟩
  have H6 : Hid ((Blk w6.drew w2.heap.size cs 41 ∧ RdSk w6.drew (.agg cs) s F) ∧ (Blk w6.drew w4.heap.size ds 41 ∧ RdSk w6.drew (.agg ds) t G) ∧ Blk w6.drew w.heap.size #[.int .i64 0, .int .i64 0, .int .i64 0, .int .i64 0, .slice none 0 0, .slice none 0 0, .slice none 0 0] 41 ∧ Blk w6.drew (w.heap.size + 1) #[.int .i64 0, .int .i64 0, .int .i64 0, .int .i64 0, .slice none 0 0, .slice none 0 0, .slice none 0 0] 41 ∧ Below w.heap.size w w6.drew) := ⟨⟨(H5.out.1.1.grown g6 (by omega)).drew, (H5.out.1.2.agree (agree_grown g6 H5.out.1.2.lt (fun hb => by have := HF.out _ hb; omega))).below (Below.refl _ _).drew⟩, ⟨(H5.out.2.1.1.grown g6 (by omega)).drew, (H5.out.2.1.2.agree (agree_grown g6 H5.out.2.1.2.lt (fun hb => by have := HG.out _ hb; omega))).below (Below.refl _ _).drew⟩, (H5.out.2.2.2.1.grown g6 (by omega)).drew, (H5.out.2.2.2.2.1.grown g6 (by omega)).drew, (below_grown H5.out.2.2.2.2.2 g6 (by omega)).drew⟩
  clear C6 g6 H5
  cases b
  · have HS : Hid (Blk w6.drew w2.heap.size cs 41 ∧ Blk w6.drew w4.heap.size ds 41) := ⟨H6.out.1.1, H6.out.2.1.1⟩
    go_wp2
    refine wp_region_held (S := fun W => Blk W w2.heap.size cs 41 ∧ Blk W w4.heap.size ds 41) (by kernel_rfl) ?_
    change wpAnyH _ _ _ _ _ _ _ _ (World.drew _)
    refine takeH (o := ?o1) 0 (.agg cs) ?h1 ?r1
    case h1 => simp only [List.getElem?_toArray, List.getElem?_cons_zero]; rfl
    refine ⟨_, by simp [Act.put]; rfl, by kernel_rfl, by kernel_rfl, by kernel_rfl, fun _ _ _ h => h, (yields_whole 41 w2.heap.size cs 41 _ rfl rfl rfl Try.underlying41 rfl (skSize HA.out.2.1) (fun W hW => hW.1)), HS.out, ?_⟩
    refine takeH (o := ?o2) 1 (.agg ds) ?h2 ?r2
    case h2 => simp only [List.getElem?_toArray, List.getElem?_cons_succ, List.getElem?_cons_zero]; rfl
    refine ⟨_, by simp [Act.put]; rfl, by kernel_rfl, by kernel_rfl, by kernel_rfl, fun _ _ _ h => h, (yields_whole 41 w4.heap.size ds 41 _ rfl rfl rfl Try.underlying41 rfl (skSize HB.out.2.1) (fun W hW => hW.2)), HS.out, ?_⟩
    refine onlyH (o := ?o3) 2 (by kernel_rfl) ?h3 ?r3
    case h3 => simp only [List.getElem?_toArray, List.getElem?_cons_succ, List.getElem?_cons_zero]; rfl
    intro K hK
    refine op_store 41 w.heap.size #[.int .i64 0, .int .i64 0, .int .i64 0, .int .i64 0, .slice none 0 0, .slice none 0 0, .slice none 0 0] cs 41 rfl rfl rfl rfl H6.out.2.2.1 (skSize HA.out.2.1) HA.out.2.1.symm HA.out.2.2 ⟨_, by simp [Act.put]; rfl, hK _ _ ⟨⟨HS.out.1.setRowOther (by omega), HS.out.2.setRowOther (by omega)⟩, ?_⟩⟩
    clear hK
    refine onlyH (o := ?o4) 3 (by kernel_rfl) ?h4 ?r4
    case h4 => simp only [List.getElem?_toArray, List.getElem?_cons_succ, List.getElem?_cons_zero]; rfl
    intro K hK
    refine op_store 41 (w.heap.size + 1) #[.int .i64 0, .int .i64 0, .int .i64 0, .int .i64 0, .slice none 0 0, .slice none 0 0, .slice none 0 0] ds 41 rfl rfl rfl rfl (H6.out.2.2.2.1.setRowOther (by omega)) (skSize HB.out.2.1) HB.out.2.1.symm HB.out.2.2 ⟨_, by simp [Act.put]; rfl, hK _ _ ⟨⟨(HS.out.1.setRowOther (by omega)).setRowOther (by omega), (HS.out.2.setRowOther (by omega)).setRowOther (by omega)⟩, ?_⟩⟩
    clear hK
    refine wpAnyH_done (by kernel_rfl) ?_ _
    go_wp2
    have tr := two_set_rows (cs := cs) (ds := ds) H6.out.2.2.1 H6.out.2.2.2.1
    refine bodyPost_ret (results_row_row Try.results48 _ _ w.heap.size (w.heap.size + 1) 41 cs ds _ rfl rfl tr.1 tr.2 Try.underlying41 rfl (skSize HA.out.2.1) (skSize HB.out.2.1)) rfl ?_
    exact drewOwn_put H6.out.1.2 HA.out.1 H6.out.2.1.2 HB.out.1 (fun b hb => by have := HF.out b hb; omega) (fun b hb => by have := HG.out b hb; omega) H6.out.2.2.2.2
  · have HS : Hid (Blk w6.drew w2.heap.size cs 41) := H6.out.1.1
    go_wp2
    refine wp_region_held (S := fun W => Blk W w2.heap.size cs 41) (by kernel_rfl) ?_
    change wpAnyH _ _ _ _ _ _ _ _ (World.drew _)
    refine takeH (o := ?o5) 0 (.agg cs) ?h5 ?r5
    case h5 => simp only [List.getElem?_toArray, List.getElem?_cons_zero]; rfl
    refine ⟨_, by simp [Act.put]; rfl, by kernel_rfl, by kernel_rfl, by kernel_rfl, fun _ _ _ h => h, (yields_whole 41 w2.heap.size cs 41 _ rfl rfl rfl Try.underlying41 rfl (skSize HA.out.2.1) (fun W hW => hW)), HS.out, ?_⟩
    refine takeH (o := ?o6) 1 (.agg cs) ?h6 ?r6
    case h6 => simp only [List.getElem?_toArray, List.getElem?_cons_succ, List.getElem?_cons_zero]; rfl
    refine ⟨_, by simp [Act.put]; rfl, by kernel_rfl, by kernel_rfl, by kernel_rfl, fun _ _ _ h => h, (yields_whole 41 w2.heap.size cs 41 _ rfl rfl rfl Try.underlying41 rfl (skSize HA.out.2.1) (fun W hW => hW)), HS.out, ?_⟩
    refine onlyH (o := ?o7) 2 (by kernel_rfl) ?h7 ?r7
    case h7 => simp only [List.getElem?_toArray, List.getElem?_cons_succ, List.getElem?_cons_zero]; rfl
    intro K hK
    refine op_call1 68 _ _ Try.f68 (fun v w' => ∃ X, RdSk w' v s X ∧ Own w6.drew.heap.size w' X ∧ Below w6.drew.heap.size w6.drew w') rfl rfl Try.func68 (by kernel_rfl) (by kernel_rfl) ((l3Copy_any _ s F w6.drew H6.out.1.2 HA.out.1).mono (by rintro e w' ⟨v, X, rfl, h1, h2, h3⟩; exact ⟨_, rfl, X, h1, h2, h3⟩)) ?_
    rintro zc w7 ⟨X, rz, oz, bz⟩
    obtain ⟨es, rfl, e7, e1⟩ := rz.cells
    have H7 : Hid ((Blk w7 w2.heap.size cs 41 ∧ RdSk w7 (.agg cs) s F) ∧ RdSk w7 (.agg es) s X ∧ es.size = 7 ∧ es.all (·.oneCell') = true ∧ (∀ b ∈ X, w.heap.size + 1 < b) ∧ Blk w7 w.heap.size #[.int .i64 0, .int .i64 0, .int .i64 0, .int .i64 0, .slice none 0 0, .slice none 0 0, .slice none 0 0] 41 ∧ Blk w7 (w.heap.size + 1) #[.int .i64 0, .int .i64 0, .int .i64 0, .int .i64 0, .slice none 0 0, .slice none 0 0, .slice none 0 0] 41 ∧ Below w.heap.size w w7) := ⟨⟨H6.out.1.1.below bz, H6.out.1.2.below bz⟩, rz, e7, e1, fun b hb => by have := oz.ge b hb; have := H6.out.1.1.lt; omega, H6.out.2.2.1.below bz, H6.out.2.2.2.1.below bz, Below.next H6.out.2.2.2.2 bz⟩
    refine ⟨_, by simp [Act.put]; rfl, hK _ _ ⟨HS.out.below bz, ?_⟩⟩
    clear hK rz oz bz e7 e1 HS H6
    refine onlyH (o := ?o8) 3 (by kernel_rfl) ?h8 ?r8
    case h8 => simp only [List.getElem?_toArray, List.getElem?_cons_succ, List.getElem?_cons_zero]; rfl
    intro K hK
    refine op_store 41 w.heap.size #[.int .i64 0, .int .i64 0, .int .i64 0, .int .i64 0, .slice none 0 0, .slice none 0 0, .slice none 0 0] cs 41 rfl rfl rfl rfl H7.out.2.2.2.2.2.1 (skSize HA.out.2.1) HA.out.2.1.symm HA.out.2.2 ⟨_, by simp [Act.put]; rfl, hK _ _ ⟨H7.out.1.1.setRowOther (by omega), ?_⟩⟩
    clear hK
    refine onlyH (o := ?o9) 4 (by kernel_rfl) ?h9 ?r9
    case h9 => simp only [List.getElem?_toArray, List.getElem?_cons_succ, List.getElem?_cons_zero]; rfl
    intro K hK
    refine op_store 41 (w.heap.size + 1) #[.int .i64 0, .int .i64 0, .int .i64 0, .int .i64 0, .slice none 0 0, .slice none 0 0, .slice none 0 0] es 41 rfl rfl rfl rfl (H7.out.2.2.2.2.2.2.1.setRowOther (by omega)) (skSize H7.out.2.2.1) H7.out.2.2.1.symm H7.out.2.2.2.1 ⟨_, by simp [Act.put]; rfl, hK _ _ ⟨(H7.out.1.1.setRowOther (by omega)).setRowOther (by omega), ?_⟩⟩
    clear hK
    refine wpAnyH_done (by kernel_rfl) ?_ _
    go_wp2
    have tr := two_set_rows (cs := cs) (ds := es) H7.out.2.2.2.2.2.1 H7.out.2.2.2.2.2.2.1
    refine bodyPost_ret (results_row_row Try.results48 _ _ w.heap.size (w.heap.size + 1) 41 cs es _ rfl rfl tr.1 tr.2 Try.underlying41 rfl (skSize HA.out.2.1) (skSize H7.out.2.2.1)) rfl ?_
    exact drewOwn_put H7.out.1.2 HA.out.1 H7.out.2.1 HA.out.1 (fun b hb => by have := HF.out b hb; omega) H7.out.2.2.2.2.1 H7.out.2.2.2.2.2.2.2
set_option maxHeartbeats 2000000 in
theorem drawMerge_any (a : Option Addr) (len cap : Nat) (zs : List Int) (w : World) (hR : RdB w a len zs) (hlen : len ≤ 1048576) :
    Calls Try.prog 26 #[.slice a len cap] w fun e w' => DrewTwo w e w' := by
  have HT : Hid (Blk ((w.alloc (.cells #[.int .i64 0, .int .i64 0, .int .i64 0, .int .i64 0, .slice none 0 0, .slice none 0 0, .slice none 0 0] 41)).alloc (.cells #[.int .i64 0, .int .i64 0, .int .i64 0, .int .i64 0, .slice none 0 0, .slice none 0 0, .slice none 0 0] 41)) w.heap.size #[.int .i64 0, .int .i64 0, .int .i64 0, .int .i64 0, .slice none 0 0, .slice none 0 0, .slice none 0 0] 41 ∧ Blk ((w.alloc (.cells #[.int .i64 0, .int .i64 0, .int .i64 0, .int .i64 0, .slice none 0 0, .slice none 0 0, .slice none 0 0] 41)).alloc (.cells #[.int .i64 0, .int .i64 0, .int .i64 0, .int .i64 0, .slice none 0 0, .slice none 0 0, .slice none 0 0] 41)) (w.heap.size + 1) #[.int .i64 0, .int .i64 0, .int .i64 0, .int .i64 0, .slice none 0 0, .slice none 0 0, .slice none 0 0] 41 ∧ Below w.heap.size w ((w.alloc (.cells #[.int .i64 0, .int .i64 0, .int .i64 0, .int .i64 0, .slice none 0 0, .slice none 0 0, .slice none 0 0] 41)).alloc (.cells #[.int .i64 0, .int .i64 0, .int .i64 0, .int .i64 0, .slice none 0 0, .slice none 0 0, .slice none 0 0] 41))) := two_made w #[.int .i64 0, .int .i64 0, .int .i64 0, .int .i64 0, .slice none 0 0, .slice none 0 0, .slice none 0 0] #[.int .i64 0, .int .i64 0, .int .i64 0, .int .i64 0, .slice none 0 0, .slice none 0 0, .slice none 0 0] 41 41
  have HR : Hid (RdB w a len zs) := hR
  clear hR
  go_enter Try.func26, Try.ntmps26
  go_wp2_with fail
  refine (l3Two_own a len cap zs _ (HR.out.below HT.out.2.2) hlen).mono ?_
  rintro e w1 ⟨cs, s, F, ds, t, G, rfl, r1, f1, r2, f2, o1, o2, b1⟩
  obtain ⟨_, ec, e7, e1⟩ := r1.cells
  cases ec
  obtain ⟨_, ed, d7, d1⟩ := r2.cells
  cases ed
  have H1 : Hid (RdSk w1 (.agg cs) s F ∧ s.full ∧ RdSk w1 (.agg ds) t G ∧ t.full ∧ Blk w1 w.heap.size #[.int .i64 0, .int .i64 0, .int .i64 0, .int .i64 0, .slice none 0 0, .slice none 0 0, .slice none 0 0] 41 ∧ Blk w1 (w.heap.size + 1) #[.int .i64 0, .int .i64 0, .int .i64 0, .int .i64 0, .slice none 0 0, .slice none 0 0, .slice none 0 0] 41 ∧ Below w.heap.size w w1) := ⟨r1, f1, r2, f2, HT.out.1.below b1, HT.out.2.1.below b1, Below.next HT.out.2.2 b1⟩
  have HA : Hid (cs.size = 7 ∧ cs.all (·.oneCell') = true ∧ ds.size = 7 ∧ ds.all (·.oneCell') = true ∧ (∀ b ∈ F, w.heap.size + 1 < b) ∧ (∀ b ∈ G, w.heap.size + 1 < b)) := ⟨e7, e1, d7, d1, fun b hb => by have := o1 b hb; simp at this; omega, fun b hb => by have := o2 b hb; simp at this; omega⟩
  clear r1 f1 r2 f2 o1 o2 b1 e7 e1 d7 d1 HT HR
  go_wp2_with (first | go_skip | (with_reducible refine stopLoad 41 rfl ?_) | (with_reducible refine stopStore 41 rfl ?_))
  refine store_known 41 w.heap.size _ cs 41 H1.out.2.2.2.2.1 rfl rfl rfl rfl (skSize HA.out.1) HA.out.1.symm HA.out.2.1 ?_
  go_wp2_with (first | go_skip | (with_reducible refine stopLoad 41 rfl ?_) | (with_reducible refine stopStore 41 rfl ?_))
  refine store_known 41 (w.heap.size + 1) _ ds 41 (H1.out.2.2.2.2.2.1.setRowOther (by omega)) rfl rfl rfl rfl (skSize HA.out.2.2.1) HA.out.2.2.1.symm HA.out.2.2.2.1 ?_
  go_wp2
  have tr := two_set_rows (cs := cs) (ds := ds) H1.out.2.2.2.2.1 H1.out.2.2.2.2.2.1
  refine bodyPost_ret (results_row_row Try.results26 _ _ w.heap.size (w.heap.size + 1) 41 cs ds _ rfl rfl tr.1 tr.2 Try.underlying41 rfl (skSize HA.out.1) (skSize HA.out.2.2.1)) rfl ?_
  exact drewTwo_put H1.out.1 H1.out.2.1 H1.out.2.2.1 H1.out.2.2.2.1 HA.out.2.2.2.2.1 HA.out.2.2.2.2.2 H1.out.2.2.2.2.2.2
end Go.Proofs.Ytlapdamopclojaa
