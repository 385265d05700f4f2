/- A summary's numbers in one row (the program's own kind): how they are laid out of it. No statement of the seat is proved here. -/
import Derived.Test.YtjnamoppcklomaaGreatTallyA
import Derived.Test.YtjnamoppcklomaaGreatSkMath
import Derived.Test.YtjnamoppcklomaaGreatWhole
set_option maxRecDepth 200000
set_option maxHeartbeats 16000000
namespace Go.Proofs.YtjnamoppcklomaaGreat
open Go.RowKit
theorem two_made (w : World) (A B : Array Value) (tA tB : TypeId) : Blk ((w.alloc (.cells A tA)).alloc (.cells B tB)) w.heap.size A tA ∧ Blk ((w.alloc (.cells A tA)).alloc (.cells B tB)) (w.heap.size + 1) B tB ∧ Below w.heap.size w ((w.alloc (.cells A tA)).alloc (.cells B tB)) :=
 ⟨(Blk.made _ _ _).alloc _, Blk.made_eq (by simp), Below.allocW _ (Below.allocW _ (Below.refl _ _) (Nat.le_refl _)) (Nat.le_refl _)⟩
theorem RdI.src {w W : World} {a : Option Addr} {n : Nat} {zs : List Int} {F : List Nat} (h : RdI w a n zs F) (hb : Below w.heap.size w W) (hp : 0 < n) : ∃ ad, a = some ad ∧ ∀ j v, (zs.map (Value.int .i64))[j]? = some v → W.cell? (ad.add j) = some v := by
 have h' := h.below hb
 rcases h'.cells with ⟨h0, _⟩ | ⟨b, off, _, rfl, _, hc⟩
 ·
  omega
 ·
  refine ⟨_, rfl, fun j v hv => ?_⟩
  rw [List.getElem?_map] at hv
  obtain ⟨z, hz, rfl⟩ := Option.map_eq_some_iff.1 hv
  have hj : j < zs.length := (List.getElem?_eq_some_iff.1 hz).1
  have := hc j (by rw [← h'.length]; exact hj)
  have e : (⟨b, off, none⟩ : Addr).add j = ⟨b, off + j, none⟩ := by unfold Addr.add; split <;> simp_all
  rw [e, this]
  simp [hz]
theorem ints_one (zs : List Int) : ∀ v ∈ zs.map (Value.int .i64), v.oneCell' = true := by
 intro v hv
 obtain ⟨x, _, rfl⟩ := List.mem_map.1 hv
 rfl
theorem infoTally : (Tryz.prog.info? 118).map (·.size) = some 28 := by kernel_rfl
theorem tallySize {xs : List Int} (h : xs.length = 28) : (Tryz.prog.info? 118).map (·.size) = some (tc xs).size := by rw [tc_size, h]; exact infoTally
theorem infoInt1 : (Tryz.prog.info? 3).map (·.size) = some 1 := by kernel_rfl
theorem tallyOf_any (v : Value) (s : Sk) (F : List Nat) (w : World) (h : RdSk w v s F) (hw : s.wide) :
 Calls Tryz.prog 84 #[v] w fun e w' => ∃ xs : List Int, e = .returned (.tuple #[.agg (tc xs), .bool s.shaped]) ∧ xs.length = 28 ∧ (s.shaped = true → xs = s.tl) ∧ Below w.heap.size w w' := by
 have HH : Hid (RdSk w v s F ∧ s.wide) := ⟨h, hw⟩
 obtain ⟨a1, n1, c1, a2, n2, c2, a3, n3, c3, F1, F2, F3, rfl, h1, h2, h3, _⟩ := h
 have HR : Hid (RdI w a1 n1 s.hist F1 ∧ RdI w a2 n2 s.regs F2 ∧ RdII w a3 n3 s.rows F3) := ⟨h1, h2, h3⟩
 clear h1 h2 h3 hw
 have Z28 := two_made w #[.int .i64 s.count, .int .i64 s.sum, .int .i64 s.min, .int .i64 s.max, .slice a1 n1 c1, .slice a2 n2 c2, .slice a3 n3 c3] (tc (List.replicate 28 0)) 31 118
 have HZ : Hid (_ ∧ _ ∧ _) := Z28
 clear Z28
 go_enter Tryz.func84, Tryz.ntmps84
 go_wp2_with fail
 refine (isShaped_any _ s F _ (HH.out.1.below HZ.out.2.2) HH.out.2).mono ?_
 rintro e w1 ⟨rfl, hb1⟩
 have HB : Hid (Blk w1 w.heap.size #[.int .i64 s.count, .int .i64 s.sum, .int .i64 s.min, .int .i64 s.max, .slice a1 n1 c1, .slice a2 n2 c2, .slice a3 n3 c3] 31 ∧ Blk w1 (w.heap.size + 1) (tc (List.replicate 28 0)) 118 ∧ Below w.heap.size w w1) := ⟨HZ.out.1.below hb1, HZ.out.2.1.below hb1, Below.next HZ.out.2.2 hb1⟩
 clear hb1 HZ
 cases es : s.shaped
 ·
  have ES : Hid (s.shaped = false) := es
  clear es
  go_wp2_with (with_reducible refine stopStore 118 rfl ?_)
  refine store_known 118 (w.heap.size + 1) _ (tc (List.replicate 28 0)) 118 HB.out.2.1 rfl rfl rfl rfl infoTally rfl (tc_one _) ?_
  go_wp2
  refine bodyPost_ret (results_row_tmp Tryz.results84 _ _ (w.heap.size + 1) _ _ _ _ rfl HB.out.2.1.setRow Tryz.underlying118 rfl infoTally) rfl ?_
  exact ⟨List.replicate 28 0, by rw [ES.out]; rfl, rfl, fun e => by (rw [ES.out] at e; cases e), below_setRow HB.out.2.2 (by omega) _⟩
 have ES : Hid (s.shaped = true) := es
 obtain ⟨e1, e2, x, y, er, ex, ey⟩ := Sk.shaped_parts es
 obtain rfl : n1 = 8 := by rw [← HR.out.1.length]; exact e1
 obtain rfl : n2 = 8 := by rw [← HR.out.2.1.length]; exact e2
 obtain rfl : n3 = 2 := by rw [← HR.out.2.2.length, er]; rfl
 obtain ⟨p, po, F', ha3, hm⟩ : ∃ p po F', a3 = some ⟨p, po, none⟩ ∧ RdM w (s.rows.map ints) p po F' := by
  rcases HR.out.2.2.cells with ⟨h0, _⟩ | ⟨p, po, F', _, e, _, hm⟩
  ·
   omega
  ·
   exact ⟨p, po, F', e, hm⟩
 subst ha3
 obtain ⟨r0, m0, k0, G0, x0, q0, _⟩ := RdII.row hm HR.out.2.2.length 0 (by omega)
 obtain ⟨r1, m1, k1, G1, x1, q1, _⟩ := RdII.row hm HR.out.2.2.length 1 (by omega)
 obtain rfl : m0 = 4 := by rw [← q0.length, er]; exact ex
 obtain rfl : m1 = 4 := by rw [← q1.length, er]; exact ey
 have hpw : p < w.heap.size := World.block_lt_of_cell? _ _ x0
 have HX : Hid (w.cell? ⟨p, po, none⟩ = some (.slice r0 4 k0) ∧ w.cell? ⟨p, po + 1, none⟩ = some (.slice r1 4 k1) ∧ RdI w r0 4 (s.rows.getD 0 []) G0 ∧ RdI w r1 4 (s.rows.getD 1 []) G1) := ⟨x0, x1, q0, q1⟩
 have HE : Hid (s.hist.length = 8 ∧ s.regs.length = 8 ∧ (s.rows.getD 0 []).length = 4 ∧ (s.rows.getD 1 []).length = 4) := ⟨e1, e2, q0.length, q1.length⟩
 clear e1 e2 er ex ey hm x0 x1 q0 q1 es x y
 have y0 := HB.out.1.cell 0
 have y1 := HB.out.1.cell 1
 have y2 := HB.out.1.cell 2
 have y3 := HB.out.1.cell 3
 simp only [aT, aS, aZ] at y0 y1 y2 y3
 go_wp2_with (with_reducible refine stopStore 118 rfl ?_)
 refine store_fresh 118 w1.heap.size rfl (tc (List.replicate 28 0)) (tc ([s.count, s.sum, s.min, s.max] ++ List.replicate 24 0)) 118 rfl rfl rfl rfl (tallySize rfl) rfl (tc_one _) ?_
 intro W2 hg2 hb2
 obtain ⟨L0, hL0⟩ : ∃ L, L = ([s.count, s.sum, s.min, s.max] ++ List.replicate 24 0).map (Value.int .i64) := ⟨_, rfl⟩
 have HG2 : Hid (W2.heap[w1.heap.size]? = some (.cells L0.toArray 118 (0, 0)) ∧ L0.length = 28) := ⟨by rw [hL0]; exact hg2, by rw [hL0]; rfl⟩
 have HL0 : Hid (L0 = ([s.count, s.sum, s.min, s.max] ++ List.replicate 24 0).map (Value.int .i64)) := hL0
 have hlt1 : w.heap.size + 1 < w1.heap.size := HB.out.2.1.lt
 have HB2 : Hid (Below w1.heap.size w1 W2) := hb2
 clear y0 y1 y2 y3 hg2 hL0 hb2
 obtain ⟨H1, hH1⟩ : ∃ L, L = s.hist.map (Value.int .i64) := ⟨_, rfl⟩
 obtain ⟨H2, hH2⟩ : ∃ L, L = s.regs.map (Value.int .i64) := ⟨_, rfl⟩
 obtain ⟨H3, hH3⟩ : ∃ L, L = (s.rows.getD 0 []).map (Value.int .i64) := ⟨_, rfl⟩
 obtain ⟨H4, hH4⟩ : ∃ L, L = (s.rows.getD 1 []).map (Value.int .i64) := ⟨_, rfl⟩
 have HS : Hid (H1 = s.hist.map (Value.int .i64) ∧ H2 = s.regs.map (Value.int .i64) ∧ H3 = (s.rows.getD 0 []).map (Value.int .i64) ∧ H4 = (s.rows.getD 1 []).map (Value.int .i64)) := ⟨hH1, hH2, hH3, hH4⟩
 have HL : Hid (H1.length = 8 ∧ H2.length = 8 ∧ H3.length = 4 ∧ H4.length = 4) := ⟨by rw [hH1, List.length_map]; exact HE.out.1, by rw [hH2, List.length_map]; exact HE.out.2.1, by rw [hH3, List.length_map]; exact HE.out.2.2.1, by rw [hH4, List.length_map]; exact HE.out.2.2.2⟩
 have HO : Hid ((∀ v ∈ H1, v.oneCell' = true) ∧ (∀ v ∈ H2, v.oneCell' = true) ∧ (∀ v ∈ H3, v.oneCell' = true) ∧ (∀ v ∈ H4, v.oneCell' = true)) := ⟨by rw [hH1]; exact ints_one _, by rw [hH2]; exact ints_one _, by rw [hH3]; exact ints_one _, by rw [hH4]; exact ints_one _⟩
 have HK : Hid (∀ W, Below w1.heap.size w1 W → (∃ ad, a1 = some ad ∧ ∀ j v, H1[j]? = some v → W.cell? (ad.add j) = some v) ∧ (∃ ad, a2 = some ad ∧ ∀ j v, H2[j]? = some v → W.cell? (ad.add j) = some v) ∧ (∃ ad, r0 = some ad ∧ ∀ j v, H3[j]? = some v → W.cell? (ad.add j) = some v) ∧ (∃ ad, r1 = some ad ∧ ∀ j v, H4[j]? = some v → W.cell? (ad.add j) = some v)) := by
  intro W hb
  have hb' := Below.next HB.out.2.2 hb
  rw [hH1, hH2, hH3, hH4]
  exact ⟨HR.out.1.src hb' (by omega), HR.out.2.1.src hb' (by omega), HX.out.2.2.1.src hb' (by omega), HX.out.2.2.2.src hb' (by omega)⟩
 have HC : Hid (∀ W, Below w1.heap.size w1 W → W.cell? ⟨w.heap.size, 4, none⟩ = some (.slice a1 8 c1) ∧ W.cell? ⟨w.heap.size, 5, none⟩ = some (.slice a2 8 c2) ∧ W.cell? ⟨w.heap.size, 6, none⟩ = some (.slice (some ⟨p, po, none⟩) 2 c3) ∧ W.cell? ⟨p, po, none⟩ = some (.slice r0 4 k0) ∧ W.cell? ⟨p, po + 1, none⟩ = some (.slice r1 4 k1)) := by
  intro W hb
  have b := HB.out.1.below hb
  have hb' := Below.next HB.out.2.2 hb
  exact ⟨by rw [b.cell]; rfl, by rw [b.cell]; rfl, by rw [b.cell]; rfl, (hb'.cell (by exact hpw)).trans HX.out.1, (hb'.cell (by exact hpw)).trans HX.out.2.1⟩
 clear hH1 hH2 hH3 hH4
 have z4 := (HC.out W2 HB2.out).1
 go_wp2
 go_region_law (refine step_copy_splice rfl _ _ 28 28 rfl 3 Tryz.underlying28 infoInt1 _ _ _ _ _ _ rfl rfl w1.heap.size 4 L0 118 HG2.out.1 H1 (by rw [HL.out.1]; rfl) (fun _ => ⟨rfl, (HK.out _ HB2.out.drew).1⟩) (by rw [HL.out.1, HG2.out.2]; omega) HO.out.1 w1.heap.size w1 HB2.out.drew (Nat.le_refl _) ?_; intro W3 hg3 hb3)
 have z5 := (HC.out W3 hb3).2.1
 have HB3 : Hid (Below w1.heap.size w1 W3) := hb3
 clear hb3 z4
 obtain ⟨L1, hL1⟩ : ∃ L, L = splice L0 4 H1 := ⟨_, rfl⟩
 have HG3 : Hid (W3.heap[w1.heap.size]? = some (.cells L1.toArray 118 (0, 0)) ∧ L1.length = 28 ∧ L1 = splice L0 4 H1) := ⟨by rw [hL1]; exact hg3.out, by rw [hL1, length_splice _ _ _ (by rw [HL.out.1, HG2.out.2]; omega)]; exact HG2.out.2, hL1⟩
 clear hg3 hL1
 go_wp2
 go_region_law (refine step_copy_splice rfl _ _ 28 28 rfl 3 Tryz.underlying28 infoInt1 _ _ _ _ _ _ rfl rfl w1.heap.size 12 L1 118 HG3.out.1 H2 (by rw [HL.out.2.1]; rfl) (fun _ => ⟨rfl, (HK.out _ HB3.out.drew).2.1⟩) (by rw [HL.out.2.1, HG3.out.2.1]; omega) HO.out.2.1 w1.heap.size w1 HB3.out.drew (Nat.le_refl _) ?_; intro W4 hg4 hb4)
 have z6 := (HC.out W4 hb4).2.2.1
 have u0 := (HC.out W4 hb4).2.2.2.1
 have HB4 : Hid (Below w1.heap.size w1 W4) := hb4
 clear hb4 z5
 obtain ⟨L2, hL2⟩ : ∃ L, L = splice L1 12 H2 := ⟨_, rfl⟩
 have HG4 : Hid (W4.heap[w1.heap.size]? = some (.cells L2.toArray 118 (0, 0)) ∧ L2.length = 28 ∧ L2 = splice L1 12 H2) := ⟨by rw [hL2]; exact hg4.out, by rw [hL2, length_splice _ _ _ (by rw [HL.out.2.1, HG3.out.2.1]; omega)]; exact HG3.out.2.1, hL2⟩
 clear hg4 hL2
 go_wp2
 refine wp_loop_rounds 3 ?_
 rw [rounds_succ]
 go_wp2_with (with_reducible refine stopCopy rfl ?_)
 refine Stop.intro (wpList_copy_splice rfl _ _ 28 28 rfl 3 Tryz.underlying28 infoInt1 _ _ _ _ _ _ rfl rfl w1.heap.size 20 L2 118 HG4.out.1 H3 (by rw [HL.out.2.2.1]; rfl) (fun _ => ⟨rfl, (HK.out _ HB4.out).2.2.1⟩) (by rw [HL.out.2.2.1, HG4.out.2.1]; omega) HO.out.2.2.1 w1.heap.size w1 HB4.out (Nat.le_refl _) ?_)
 intro W5 hg5 hb5
 have u1 := (HC.out W5 hb5).2.2.2.2
 have HB5 : Hid (Below w1.heap.size w1 W5) := hb5
 clear hb5 u0 z6
 obtain ⟨L3, hL3⟩ : ∃ L, L = splice L2 20 H3 := ⟨_, rfl⟩
 have HG5 : Hid (W5.heap[w1.heap.size]? = some (.cells L3.toArray 118 (0, 0)) ∧ L3.length = 28 ∧ L3 = splice L2 20 H3) := ⟨by rw [hL3]; exact hg5.out, by rw [hL3, length_splice _ _ _ (by rw [HL.out.2.2.1, HG4.out.2.1]; omega)]; exact HG4.out.2.1, hL3⟩
 clear hg5 hL3
 go_wp2_with fail
 rw [rounds_succ]
 go_wp2_with (with_reducible refine stopCopy rfl ?_)
 refine Stop.intro (wpList_copy_splice rfl _ _ 28 28 rfl 3 Tryz.underlying28 infoInt1 _ _ _ _ _ _ rfl rfl w1.heap.size 24 L3 118 HG5.out.1 H4 (by rw [HL.out.2.2.2]; rfl) (fun _ => ⟨rfl, (HK.out _ HB5.out).2.2.2⟩) (by rw [HL.out.2.2.2, HG5.out.2.1]; omega) HO.out.2.2.2 w1.heap.size w1 HB5.out (Nat.le_refl _) ?_)
 intro W6 hg6 hb6
 have HB6 : Hid (Below w1.heap.size w1 W6) := hb6
 have HG6 : Hid (Blk W6 w1.heap.size (tc s.tl) 118) := by
  have e : splice L3 24 H4 = s.tl.map (Value.int .i64) := by
   rw [HG5.out.2.2, HG4.out.2.2, HG3.out.2.2, HL0.out, HS.out.1, HS.out.2.1, HS.out.2.2.1, HS.out.2.2.2]
   exact tl_map s HE.out.1 HE.out.2.1 HE.out.2.2.1 HE.out.2.2.2
  have := hg6.out
  rw [e] at this
  exact this
 have HRes : Hid (Blk W6 (w.heap.size + 1) (tc (List.replicate 28 0)) 118 ∧ Below w.heap.size w W6) := ⟨HB.out.2.1.below hb6, Below.next HB.out.2.2 hb6⟩
 clear hb6 hg6 u1
 go_wp2_with fail
 rw [rounds_succ]
 go_wp2_with (first | (with_reducible refine stopLoad 118 rfl ?_) | (with_reducible refine stopStore 118 rfl ?_))
 refine load_known 118 w1.heap.size (tc s.tl) 118 _ HG6.out rfl rfl rfl Tryz.underlying118 rfl (tallySize (Sk.tl_length ES.out)) ?_
 go_wp2_with (first | (with_reducible refine stopLoad 118 rfl ?_) | (with_reducible refine stopStore 118 rfl ?_))
 refine store_known 118 (w.heap.size + 1) _ (tc s.tl) 118 HRes.out.1 rfl rfl rfl rfl (tallySize (Sk.tl_length ES.out)) (by rw [tc_size, tc_size, Sk.tl_length ES.out]; rfl) (tc_one _) ?_
 go_wp2
 refine bodyPost_ret (results_row_tmp Tryz.results84 _ _ (w.heap.size + 1) _ _ _ _ rfl HRes.out.1.setRow Tryz.underlying118 rfl (tallySize (Sk.tl_length ES.out))) rfl ?_
 exact ⟨s.tl, by rw [ES.out]; rfl, Sk.tl_length ES.out, fun _ => rfl, below_setRow HRes.out.2 (by omega) _⟩
end Go.Proofs.YtjnamoppcklomaaGreat
