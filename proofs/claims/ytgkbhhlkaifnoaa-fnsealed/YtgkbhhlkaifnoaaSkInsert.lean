/- The walk through the model's Insert. No statement of the seat is proved here. -/
import Derived.Test.YtgkbhhlkaifnoaaSkIns
namespace Go.Proofs.Ytgkbhhlkaifnoaa
open Go.RowKit
/-- What a putting in answers: some summary, in memory of its own, its lists as long as told. -/
def NewShaped2 (w : World) (e : Ending) (w' : World) : Prop :=
 ∃ v s d F, e = .returned (.tuple #[v, .bool d]) ∧ RdR w' v s F ∧ s.shaped = true ∧ Own w.heap.size w' F ∧ Below w.heap.size w w'
theorem newShaped_of {w W : World} {lo g : Nat} {c sm mn mx : Int} {b1 o1 k1 b2 o2 k2 p po k3 b3 o3 j0 b4 o4 j1 : Nat} {l1 l2 x y : List Int} {d : Bool} (h : Out w lo g c sm mn mx b1 o1 k1 b2 o2 k2 p po k3 b3 o3 j0 b4 o4 j1 l1 l2 x y W) :
 NewShaped2 w (.returned (.tuple #[.agg #[.int .i64 c, .int .i64 sm, .int .i64 mn, .int .i64 mx, .slice (some ⟨b1, o1, none⟩) 8 k1, .slice (some ⟨b2, o2, none⟩) 8 k2, .slice (some ⟨p, po, none⟩) 2 k3], .bool d])) (W.setRow (w.heap.size + 1) #[.int .i64 c, .int .i64 sm, .int .i64 mn, .int .i64 mx, .slice (some ⟨b1, o1, none⟩) 8 k1, .slice (some ⟨b2, o2, none⟩) 8 k2, .slice (some ⟨p, po, none⟩) 2 k3]) := by
 obtain ⟨r, o, hs⟩ := out_rd h
 have lw := h.lw
 have ag : Agree W (W.setRow (w.heap.size + 1) #[.int .i64 c, .int .i64 sm, .int .i64 mn, .int .i64 mx, .slice (some ⟨b1, o1, none⟩) 8 k1, .slice (some ⟨b2, o2, none⟩) 8 k2, .slice (some ⟨p, po, none⟩) 2 k3]) [b1, b2, p, b3, b4] := fun b hb => setRow_other W _ b _ (fun e => by have := o.ge b hb; omega)
 exact ⟨_, _, d, _, rfl, r.agree ag, hs, (o.agree ag).mono (by omega), below_setRow h.bel (by omega) _⟩
set_option maxRecDepth 200000 in
set_option maxHeartbeats 8000000 in
theorem insert_any (v0 : Value) (s : Sk) (v : Int) (F : List Nat) (w : World) (h : RdSk w v0 s F) (hs : s.shaped = true) :
 Calls Try.prog 122 #[v0, .int .i64 v] w fun e w' => NewShaped2 w e w' := by
 have HH : Hid (RdSk w v0 s F ∧ s.shaped = true) := ⟨h, hs⟩
 obtain ⟨a1, n1, c1, a2, n2, c2, a3, n3, c3, F1, F2, F3, rfl, _⟩ := h
 have HT : Hid (_ ∧ _ ∧ _) := two_made w #[.int .i64 s.count, .int .i64 s.sum, .int .i64 s.min, .int .i64 s.max, .slice a1 n1 c1, .slice a2 n2 c2, .slice a3 n3 c3] #[.int .i64 0, .int .i64 0, .int .i64 0, .int .i64 0, .slice none 0 0, .slice none 0 0, .slice none 0 0] 34 34
 clear hs
 go_enter Try.func122, Try.ntmps122
 go_wp2_with (first | go_skip | (with_reducible refine stopLoad 34 rfl ?_) | (with_reducible refine stopStore 34 rfl ?_))
 obtain ⟨W0, hW0⟩ : ∃ W0, W0 = (w.alloc (.cells #[.int .i64 s.count, .int .i64 s.sum, .int .i64 s.min, .int .i64 s.max, .slice a1 n1 c1, .slice a2 n2 c2, .slice a3 n3 c3] 34)).alloc (.cells #[.int .i64 0, .int .i64 0, .int .i64 0, .int .i64 0, .slice none 0 0, .slice none 0 0, .slice none 0 0] 34) := ⟨_, rfl⟩
 have hs0 : W0.heap.size = w.heap.size + 1 + 1 := by rw [hW0]; simp
 rw [← hW0] at HT ⊢
 clear hW0
 refine load_any 34 w.heap.size _ 34 _ HT.out.1 rfl rfl rfl Try.underlying34 rfl (by kernel_rfl) ?_
 go_wp2_with fail
 refine (l3Copy_room _ s F _ (HH.out.1.below HT.out.2.2) (shaped_full HH.out.2)).mono ?_
 rintro e w1 ⟨vv, FF, rfl, rr, oo, bb, ro⟩
 obtain ⟨es, rfl, e7, e1⟩ := rr.cells
 have HM : Hid (Roomy w1 (.agg es)) := ro
 clear ro
 have HE : Hid (RdSk w1 (.agg es) s FF ∧ Own W0.heap.size w1 FF ∧ Below W0.heap.size W0 w1 ∧ es.size = 7 ∧ es.all (·.oneCell') = true) := ⟨rr, oo, bb, e7, e1⟩
 clear rr oo bb e7 e1
 go_wp2_with (first | go_skip | (with_reducible refine stopLoad 34 rfl ?_) | (with_reducible refine stopStore 34 rfl ?_))
 refine store_fresh 34 w1.heap.size rfl #[.int .i64 0, .int .i64 0, .int .i64 0, .int .i64 0, .slice none 0 0, .slice none 0 0, .slice none 0 0] es 34 rfl rfl rfl rfl (skSize HE.out.2.2.2.1) HE.out.2.2.2.1.symm HE.out.2.2.2.2 ?_
 intro W2 hg2 hb2
 have hbw := Below.next HE.out.2.2.1 hb2
 obtain ⟨b1, o1, k1, b2, o2, k2, p, po, k3, b3, o3, j0, b4, o4, j1, l1, l2, x, y, hO⟩ := out_of (w := w) (lo := W0.heap.size) (HE.out.1.below hb2) hg2 (HE.out.2.1.below HE.out.1.lt hb2) HE.out.2.2.1.size (fun hx => by have := HE.out.1.lt _ hx; omega) HH.out.2 (Below.next HT.out.2.2 hbw) (by omega) (HM.out.below hb2)
 have HO2 : Hid (Out w W0.heap.size w1.heap.size s.count s.sum s.min s.max b1 o1 k1 b2 o2 k2 p po k3 b3 o3 j0 b4 o4 j1 l1 l2 x y W2) := hO
 have HB2 : Hid (Blk W2 w.heap.size #[.int .i64 s.count, .int .i64 s.sum, .int .i64 s.min, .int .i64 s.max, .slice a1 n1 c1, .slice a2 n2 c2, .slice a3 n3 c3] 34 ∧ Blk W2 (w.heap.size + 1) #[.int .i64 0, .int .i64 0, .int .i64 0, .int .i64 0, .slice none 0 0, .slice none 0 0, .slice none 0 0] 34) := ⟨HT.out.1.below hbw, HT.out.2.1.below hbw⟩
 clear hg2 hb2 hbw hO HE HT HM
 go_wp2_with (first | go_skip | (with_reducible refine stopLoad 34 rfl ?_) | (with_reducible refine stopStore 34 rfl ?_))
 refine load_any 34 w.heap.size _ 34 _ HB2.out.1 rfl rfl rfl Try.underlying34 rfl (by kernel_rfl) ?_
 go_wp2_with fail
 refine (okSpec_any _ s F _ (HH.out.1.below HO2.out.bel) (shaped_wide HH.out.2)).mono ?_
 rintro e w3 ⟨rfl, hb3⟩
 have HO3 : Hid (Out w W0.heap.size w1.heap.size s.count s.sum s.min s.max b1 o1 k1 b2 o2 k2 p po k3 b3 o3 j0 b4 o4 j1 l1 l2 x y w3) := HO2.out.below hb3
 have HB3 : Hid (Blk w3 w.heap.size #[.int .i64 s.count, .int .i64 s.sum, .int .i64 s.min, .int .i64 s.max, .slice a1 n1 c1, .slice a2 n2 c2, .slice a3 n3 c3] 34 ∧ Blk w3 (w.heap.size + 1) #[.int .i64 0, .int .i64 0, .int .i64 0, .int .i64 0, .slice none 0 0, .slice none 0 0, .slice none 0 0] 34) := ⟨HB2.out.1.below hb3, HB2.out.2.below hb3⟩
 clear hb3 HO2 HB2
 cases es : s.ok
 ·
  clear es
  go_wp2_with (first | go_skip | (with_reducible refine stopLoad 34 rfl ?_) | (with_reducible refine stopStore 34 rfl ?_))
  refine load_any 34 w1.heap.size _ 34 _ HO3.out.blk rfl rfl rfl Try.underlying34 rfl (by kernel_rfl) ?_
  go_wp2_with (first | go_skip | (with_reducible refine stopLoad 34 rfl ?_) | (with_reducible refine stopStore 34 rfl ?_))
  refine store_known 34 (w.heap.size + 1) _ _ 34 HB3.out.2 rfl rfl rfl rfl (by kernel_rfl) rfl (by kernel_rfl) ?_
  go_wp2
  refine bodyPost_ret (results_row_tmp Try.results122 _ _ (w.heap.size + 1) _ _ _ _ rfl HB3.out.2.setRow Try.underlying34 rfl (by kernel_rfl)) rfl ?_
  exact newShaped_of HO3.out
 clear es
 go_wp2_with fail
 refine (l1In_any _ _ _ _).mono ?_
 rintro e w4 ⟨rfl, hw4⟩
 have hw4' := hw4.symm
 subst hw4'
 clear hw4
 by_cases hv : 0 ≤ v ∧ v ≤ 1000000
 rotate_left
 ·
  rw [dec_false hv]
  clear hv
  go_wp2_with (first | go_skip | (with_reducible refine stopLoad 34 rfl ?_) | (with_reducible refine stopStore 34 rfl ?_))
  refine load_any 34 w1.heap.size _ 34 _ HO3.out.blk rfl rfl rfl Try.underlying34 rfl (by kernel_rfl) ?_
  go_wp2_with (first | go_skip | (with_reducible refine stopLoad 34 rfl ?_) | (with_reducible refine stopStore 34 rfl ?_))
  refine store_known 34 (w.heap.size + 1) _ _ 34 HB3.out.2 rfl rfl rfl rfl (by kernel_rfl) rfl (by kernel_rfl) ?_
  go_wp2
  refine bodyPost_ret (results_row_tmp Try.results122 _ _ (w.heap.size + 1) _ _ _ _ rfl HB3.out.2.setRow Try.underlying34 rfl (by kernel_rfl)) rfl ?_
  exact newShaped_of HO3.out
 rw [dec_true hv]
 have HV : Hid (0 ≤ v ∧ v ≤ 1000000) := hv
 clear hv
 have x0 := HB3.out.1.cell 0
 have x1 := HB3.out.1.cell 1
 have x2 := HB3.out.1.cell 2
 have x3 := HB3.out.1.cell 3
 have g0 := HO3.out.blk.cell 0
 have g1 := HO3.out.blk.cell 1
 have g2 := HO3.out.blk.cell 2
 have g3 := HO3.out.blk.cell 3
 have f0 := HO3.out.blk.frozen 0
 have f1 := HO3.out.blk.frozen 1
 have f2 := HO3.out.blk.frozen 2
 have f3 := HO3.out.blk.frozen 3
 simp only [aT, aS, aZ] at x0 x1 x2 x3 g0 g1 g2 g3
 have ne : ¬ w1.heap.size = w.heap.size := by have := HO3.out.lw; have := HO3.out.ges; omega
 have ne' : ¬ w.heap.size = w1.heap.size := fun e => ne e.symm
 go_wp2_with fail
 refine (addSpec_any _ _ _).mono ?_
 rintro e w4 ⟨rfl, rfl⟩
 go_wp2_with fail
 refine (addSpec_any _ _ _).mono ?_
 rintro e w4 ⟨rfl, rfl⟩
 go_wp2_with fail
 refine (l1Min_any _ _ _).mono ?_
 rintro e w4 ⟨rfl, rfl⟩
 go_upto_if 37 with fail
 go_cut [] (fun wx => ∃ mq : Int, (Out w W0.heap.size w1.heap.size (addN s.count 1) (addN s.sum v) mq s.max b1 o1 k1 b2 o2 k2 p po k3 b3 o3 j0 b4 o4 j1 l1 l2 x y wx) ∧ (Blk wx w.heap.size #[.int .i64 s.count, .int .i64 s.sum, .int .i64 s.min, .int .i64 s.max, .slice a1 n1 c1, .slice a2 n2 c2, .slice a3 n3 c3] 34 ∧ Blk wx (w.heap.size + 1) #[.int .i64 0, .int .i64 0, .int .i64 0, .int .i64 0, .slice none 0 0, .slice none 0 0, .slice none 0 0] 34))
 case first =>
  have R := (((HO3.out.setC (addN s.count 1)).setS (addN s.sum v)).setMn (Min.min s.min v))
  have B := fun (n : Nat) (u : Value) (W : World) (h : (Blk W w.heap.size #[.int .i64 s.count, .int .i64 s.sum, .int .i64 s.min, .int .i64 s.max, .slice a1 n1 c1, .slice a2 n2 c2, .slice a3 n3 c3] 34 ∧ Blk W (w.heap.size + 1) #[.int .i64 0, .int .i64 0, .int .i64 0, .int .i64 0, .slice none 0 0, .slice none 0 0, .slice none 0 0] 34)) => (show (Blk (W.setCell ⟨w1.heap.size, n, none⟩ u) w.heap.size #[.int .i64 s.count, .int .i64 s.sum, .int .i64 s.min, .int .i64 s.max, .slice a1 n1 c1, .slice a2 n2 c2, .slice a3 n3 c3] 34 ∧ Blk (W.setCell ⟨w1.heap.size, n, none⟩ u) (w.heap.size + 1) #[.int .i64 0, .int .i64 0, .int .i64 0, .int .i64 0, .slice none 0 0, .slice none 0 0, .slice none 0 0] 34) from ⟨h.1.setOther ne' n u, h.2.setOther (by have := HO3.out.lw; have := HO3.out.ges; omega) n u⟩)
  by_cases za : s.count = 0
  ·
   have zab : (s.count == 0) = true := by simpa using za
   clear za
   go_wp2
   go_meet
   case rel => exact ⟨v, R.setMn v, B _ _ _ (B _ _ _ (B _ _ _ (B _ _ _ HB3.out)))⟩
  ·
   have zab : (s.count == 0) = false := by simpa using za
   clear za
   go_wp2
   go_meet
   case rel => exact ⟨Min.min s.min v, R, B _ _ _ (B _ _ _ (B _ _ _ HB3.out))⟩
 case rest =>
  obtain ⟨mq, hO, hB⟩ := hcut
  have HO5 : Hid (Out w W0.heap.size w1.heap.size (addN s.count 1) (addN s.sum v) mq s.max b1 o1 k1 b2 o2 k2 p po k3 b3 o3 j0 b4 o4 j1 l1 l2 x y wc) := hO
  have HB5 : Hid (Blk wc w.heap.size #[.int .i64 s.count, .int .i64 s.sum, .int .i64 s.min, .int .i64 s.max, .slice a1 n1 c1, .slice a2 n2 c2, .slice a3 n3 c3] 34 ∧ Blk wc (w.heap.size + 1) #[.int .i64 0, .int .i64 0, .int .i64 0, .int .i64 0, .slice none 0 0, .slice none 0 0, .slice none 0 0] 34) := hB
  clear hO hB x0 x1 x2 x3 g0 g1 g2 g3 f0 f1 f2 f3 HO3 HB3
  have x3 := HB5.out.1.cell 3
  have g3 := HO5.out.blk.cell 3
  have f3 := HO5.out.blk.frozen 3
  simp only [aT, aS, aZ] at x3 g3
  go_wp2_with fail
  refine (l1Max_any _ _ _).mono ?_
  rintro e w6 ⟨rfl, hw6⟩
  have hw6' := hw6.symm
  subst hw6'
  clear hw6
  go_wp2
  obtain ⟨W6, hW6⟩ : ∃ W6, W6 = wc.setCell ⟨w1.heap.size, 3, none⟩ (.int .i64 (max s.max v)) := ⟨_, rfl⟩
  have hO6 := HO5.out.setMx (max s.max v)
  rw [← hW6] at hO6 ⊢
  have HO6 : Hid (Out w W0.heap.size w1.heap.size (addN s.count 1) (addN s.sum v) mq (max s.max v) b1 o1 k1 b2 o2 k2 p po k3 b3 o3 j0 b4 o4 j1 l1 l2 x y W6) := hO6
  have HB6 : Hid (Blk W6 w.heap.size #[.int .i64 s.count, .int .i64 s.sum, .int .i64 s.min, .int .i64 s.max, .slice a1 n1 c1, .slice a2 n2 c2, .slice a3 n3 c3] 34 ∧ Blk W6 (w.heap.size + 1) #[.int .i64 0, .int .i64 0, .int .i64 0, .int .i64 0, .slice none 0 0, .slice none 0 0, .slice none 0 0] 34) := by rw [hW6]; exact ⟨HB5.out.1.setOther ne' _ _, HB5.out.2.setOther (by have := HO5.out.lw; have := HO5.out.ges; omega) _ _⟩
  clear hW6 hO6 HO5 HB5 x3 g3 f3
  obtain ⟨jb, hjb⟩ := Int.eq_ofNat_of_zero_le (bucketN_range v).1
  have hj8 : jb < 8 := by have := (bucketN_range v).2; omega
  have hj8i : (jb : Int) < 8 := by omega
  have HJ : Hid (bucketN v = (jb : Int)) := hjb
  clear hjb
  obtain ⟨e1, he1⟩ : ∃ e, e = l1.getD jb 0 := ⟨_, rfl⟩
  have cc1 : W6.drew.cell? ⟨b1, o1 + jb, none⟩ = some (.int .i64 e1) := by rw [he1]; exact HO6.out.drew.hist.at jb hj8
  have ff1 : W6.drew.frozen? ⟨b1, o1 + jb, none⟩ = false := HO6.out.drew.own.free b1 (by simp) _
  have HS : Hid (Blk W6.drew w1.heap.size #[.int .i64 (addN s.count 1), .int .i64 (addN s.sum v), .int .i64 mq, .int .i64 (max s.max v), .slice (some ⟨b1, o1, none⟩) 8 k1, .slice (some ⟨b2, o2, none⟩) 8 k2, .slice (some ⟨p, po, none⟩) 2 k3] 34) := HO6.out.drew.blk
  clear he1
  refine wp_region_held (S := fun W => Blk W w1.heap.size #[.int .i64 (addN s.count 1), .int .i64 (addN s.sum v), .int .i64 mq, .int .i64 (max s.max v), .slice (some ⟨b1, o1, none⟩) 8 k1, .slice (some ⟨b2, o2, none⟩) 8 k2, .slice (some ⟨p, po, none⟩) 2 k3] 34) (by kernel_rfl) ?_
  change wpAnyH _ _ _ _ _ _ _ _ (World.drew _)
  refine takeH (o := ?o1) 0 (.pointer (some ⟨w1.heap.size, 4, none⟩)) ?h1 ?r1
  case h1 => simp only [aT, aZ]; rfl
  refine ⟨_, by simp [Act.put]; rfl, by kernel_rfl, by kernel_rfl, by kernel_rfl, fun _ _ _ h => h, (.inl ⟨rfl, fun W _ => by go_simp⟩), HS.out, ?_⟩
  refine takeH (o := ?o2) 1 (.slice (some ⟨b1, o1, none⟩) 8 k1) ?h2 ?r2
  case h2 => simp only [aT, aS, aZ]; rfl
  refine ⟨_, by simp [Act.put]; rfl, by kernel_rfl, by kernel_rfl, by kernel_rfl, fun _ _ _ h => h, (.inl ⟨rfl, fun W hW => by have c := Blk.cell hW 4; simp only [aT, aS, aZ] at c; go_simp⟩), HS.out, ?_⟩
  refine takeH (o := ?o3) 2 (.int .i64 v) ?h3 ?r3
  case h3 => simp only [aT, aS, aZ]; rfl
  refine ⟨_, by simp [Act.put]; rfl, by kernel_rfl, by kernel_rfl, by kernel_rfl, fun _ _ _ h => h, (.inl ⟨rfl, fun W _ => by go_simp⟩), HS.out, ?_⟩
  refine takeH (o := ?o4) 4 (.pointer (some ⟨w1.heap.size, 4, none⟩)) ?h4 ?r4
  case h4 => simp only [aT, aS, aZ]; rfl
  refine ⟨_, by simp [Act.put]; rfl, by kernel_rfl, by kernel_rfl, by kernel_rfl, fun _ _ _ h => h, (.inl ⟨rfl, fun W _ => by go_simp⟩), HS.out, ?_⟩
  refine takeH (o := ?o5) 5 (.slice (some ⟨b1, o1, none⟩) 8 k1) ?h5 ?r5
  case h5 => simp only [aT, aS, aZ]; rfl
  refine ⟨_, by simp [Act.put]; rfl, by kernel_rfl, by kernel_rfl, by kernel_rfl, fun _ _ _ h => h, (.inl ⟨rfl, fun W hW => by have c := Blk.cell hW 4; simp only [aT, aS, aZ] at c; go_simp⟩), HS.out, ?_⟩
  refine takeH (o := ?o6) 6 (.int .i64 v) ?h6 ?r6
  case h6 => simp only [aT, aS, aZ]; rfl
  refine ⟨_, by simp [Act.put]; rfl, by kernel_rfl, by kernel_rfl, by kernel_rfl, fun _ _ _ h => h, (.inl ⟨rfl, fun W _ => by go_simp⟩), HS.out, ?_⟩
  refine onlyH (o := ?o7) 3 (by kernel_rfl) ?h7 ?r7
  case h7 => simp only [aT, aS, aZ]; rfl
  intro K hK
  refine op_call1 125 _ _ Try.f125 (fun u w' => u = .int .i64 jb ∧ w' = W6.drew) rfl rfl Try.func125 (by kernel_rfl) (by kernel_rfl) ((bucketSpec_any v W6.drew).mono (by rintro e w' ⟨rfl, rfl⟩; exact ⟨_, rfl, by rw [HJ.out], rfl⟩)) ?_
  rintro _ _ ⟨rfl, rfl⟩
  refine ⟨_, by simp [Act.put]; rfl, hK _ _ ⟨HS.out, ?_⟩⟩
  clear hK
  refine onlyH (o := ?o8) 7 (by kernel_rfl) ?h8 ?r8
  case h8 => simp only [aT, aS, aZ]; rfl
  intro K hK
  refine op_call1 125 _ _ Try.f125 (fun u w' => u = .int .i64 jb ∧ w' = W6.drew) rfl rfl Try.func125 (by kernel_rfl) (by kernel_rfl) ((bucketSpec_any v W6.drew).mono (by rintro e w' ⟨rfl, rfl⟩; exact ⟨_, rfl, by rw [HJ.out], rfl⟩)) ?_
  rintro _ _ ⟨rfl, rfl⟩
  refine ⟨_, by simp [Act.put]; rfl, hK _ _ ⟨HS.out, ?_⟩⟩
  clear hK
  refine takeH (o := ?o9) 8 (.pointer (some ⟨b1, o1 + jb, none⟩)) ?h9 ?r9
  case h9 => simp only [aT, aS, aZ]; rfl
  refine ⟨_, by simp [Act.put]; rfl, by kernel_rfl, by kernel_rfl, by kernel_rfl, fun _ _ _ h => h, (.inl ⟨rfl, fun W _ => by go_simp⟩), HS.out, ?_⟩
  refine onlyH (o := ?o10) 9 (by kernel_rfl) ?h10 ?r10
  case h10 => simp only [aT, aS, aZ]; rfl
  intro K hK
  refine op_value (.int .i64 e1) rfl (by go_simp) ⟨_, by simp [Act.put]; rfl, hK _ _ ⟨HS.out, ?_⟩⟩
  clear hK
  refine onlyH (o := ?o11) 10 (by kernel_rfl) ?h11 ?r11
  case h11 => simp only [aT, aS, aZ]; rfl
  intro K hK
  refine op_call2 124 _ _ _ Try.f124 (fun w' => w' = W6.drew) (.int .i64 (addN e1 1)) rfl rfl Try.func124 (by kernel_rfl) (by kernel_rfl) (addSpec_any e1 1 _) ⟨_, by simp [Act.put]; rfl, ?_⟩
  rintro _ rfl
  refine hK _ _ ⟨HS.out, ?_⟩
  clear hK
  refine takeH (o := ?o12) 11 (.pointer (some ⟨b1, o1 + jb, none⟩)) ?h12 ?r12
  case h12 => simp only [aT, aS, aZ]; rfl
  refine ⟨_, by simp [Act.put]; rfl, by kernel_rfl, by kernel_rfl, by kernel_rfl, fun _ _ _ h => h, (.inl ⟨rfl, fun W _ => by go_simp⟩), HS.out, ?_⟩
  refine onlyH (o := ?o13) 12 (by kernel_rfl) ?h13 ?r13
  case h13 => simp only [aT, aS, aZ]; rfl
  intro K hK
  have hO7 := HO6.out.drew.setHist jb hj8 (addN e1 1)
  refine op_skip (W6.drew.setCell ⟨b1, o1 + jb, none⟩ (.int .i64 (addN e1 1))) rfl (by go_simp) ⟨_, by simp [Act.put]; rfl, hK _ _ ⟨hO7.blk, ?_⟩⟩
  have HO7 : Hid (Out w W0.heap.size w1.heap.size (addN s.count 1) (addN s.sum v) mq (max s.max v) b1 o1 k1 b2 o2 k2 p po k3 b3 o3 j0 b4 o4 j1 (l1.set jb (addN e1 1)) l2 x y (W6.drew.setCell ⟨b1, o1 + jb, none⟩ (.int .i64 (addN e1 1)))) := hO7
  have HB7 : Hid (Blk (W6.drew.setCell ⟨b1, o1 + jb, none⟩ (.int .i64 (addN e1 1))) w.heap.size #[.int .i64 s.count, .int .i64 s.sum, .int .i64 s.min, .int .i64 s.max, .slice a1 n1 c1, .slice a2 n2 c2, .slice a3 n3 c3] 34 ∧ Blk (W6.drew.setCell ⟨b1, o1 + jb, none⟩ (.int .i64 (addN e1 1))) (w.heap.size + 1) #[.int .i64 0, .int .i64 0, .int .i64 0, .int .i64 0, .slice none 0 0, .slice none 0 0, .slice none 0 0] 34) := ⟨HB6.out.1.drew.setOther (by have := HO6.out.lw; have := HO6.out.ges; omega) _ _, HB6.out.2.drew.setOther (by have := HO6.out.lw; have := HO6.out.ges; omega) _ _⟩
  clear hK hO7 cc1 ff1 HO6 HB6 HS
  refine wpAnyH_done (by kernel_rfl) ?_ _
  obtain ⟨W7, hW7⟩ : ∃ W7, W7 = W6.drew.setCell ⟨b1, o1 + jb, none⟩ (.int .i64 (addN e1 1)) := ⟨_, rfl⟩
  rw [← hW7] at HO7 HB7 ⊢
  clear hW7
  obtain ⟨m, hm⟩ := Int.eq_ofNat_of_zero_le (mixN_range v).1
  have hm1 : m < 65536 := by have := (mixN_range v).2; omega
  have HM : Hid (mixN v = (m : Int)) := hm
  clear hm
  go_wp2_with fail
  refine (mixSpec_any _ _).mono ?_
  rintro e w8 ⟨rfl, hw8⟩
  have hw8' := hw8.symm
  subst hw8'
  clear hw8
  rw [HM.out]
  go_upto_region 12 with fail
  obtain ⟨jr, hjr⟩ : ∃ jr, jr = m % 8 := ⟨_, rfl⟩
  have hr8 : jr < 8 := by omega
  have hr8i : (jr : Int) < 8 := by omega
  have hsl : ((m : Int) % 8) = (jr : Int) := by rw [hjr]; omega
  rw [hsl]
  clear hjr hsl
  go_cut [] (fun wx => ∃ L1 L2 X Y, (Out w W0.heap.size w1.heap.size (addN s.count 1) (addN s.sum v) mq (max s.max v) b1 o1 k1 b2 o2 k2 p po k3 b3 o3 j0 b4 o4 j1 L1 L2 X Y wx) ∧ (Blk wx w.heap.size #[.int .i64 s.count, .int .i64 s.sum, .int .i64 s.min, .int .i64 s.max, .slice a1 n1 c1, .slice a2 n2 c2, .slice a3 n3 c3] 34 ∧ Blk wx (w.heap.size + 1) #[.int .i64 0, .int .i64 0, .int .i64 0, .int .i64 0, .slice none 0 0, .slice none 0 0, .slice none 0 0] 34))
  case first =>
   obtain ⟨e2, he2⟩ : ∃ e, e = l2.getD jr 0 := ⟨_, rfl⟩
   have cc2 : W7.drew.cell? ⟨b2, o2 + jr, none⟩ = some (.int .i64 e2) := by rw [he2]; exact HO7.out.drew.regs.at jr hr8
   have ff2 : W7.drew.frozen? ⟨b2, o2 + jr, none⟩ = false := HO7.out.drew.own.free b2 (by simp) _
   have HS : Hid (Blk W7.drew w1.heap.size #[.int .i64 (addN s.count 1), .int .i64 (addN s.sum v), .int .i64 mq, .int .i64 (max s.max v), .slice (some ⟨b1, o1, none⟩) 8 k1, .slice (some ⟨b2, o2, none⟩) 8 k2, .slice (some ⟨p, po, none⟩) 2 k3] 34 ∧ True) := ⟨HO7.out.drew.blk, trivial⟩
   clear he2
   refine wp_region_held (S := fun W => Blk W w1.heap.size #[.int .i64 (addN s.count 1), .int .i64 (addN s.sum v), .int .i64 mq, .int .i64 (max s.max v), .slice (some ⟨b1, o1, none⟩) 8 k1, .slice (some ⟨b2, o2, none⟩) 8 k2, .slice (some ⟨p, po, none⟩) 2 k3] 34 ∧ True) (by kernel_rfl) ?_
   change wpAnyH _ _ _ _ _ _ _ _ (World.drew _)
   refine takeH (o := ?o401) 0 (.pointer (some ⟨w1.heap.size, 5, none⟩)) ?h401 ?r401
   case h401 => simp only [aT, aZ]; rfl
   refine ⟨_, by simp [Act.put]; rfl, by kernel_rfl, by kernel_rfl, by kernel_rfl, fun _ _ _ h => h, (.inl ⟨rfl, fun W _ => by go_simp⟩), HS.out, ?_⟩
   refine takeH (o := ?o402) 1 (.slice (some ⟨b2, o2, none⟩) 8 k2) ?h402 ?r402
   case h402 => simp only [aT, aS, aZ]; rfl
   refine ⟨_, by simp [Act.put]; rfl, by kernel_rfl, by kernel_rfl, by kernel_rfl, fun _ _ _ h => h, (.inl ⟨rfl, fun W hW => by have c := Blk.cell hW.1 5; simp only [aT, aS, aZ] at c; go_simp⟩), HS.out, ?_⟩
   refine takeH (o := ?o403) 2 (.int .i64 jr) ?h403 ?r403
   case h403 => simp only [aT, aS, aZ]; rfl
   refine ⟨_, by simp [Act.put]; rfl, by kernel_rfl, by kernel_rfl, by kernel_rfl, fun _ _ _ h => h, (.inl ⟨rfl, fun W _ => by go_simp⟩), HS.out, ?_⟩
   refine takeH (o := ?o404) 3 (.pointer (some ⟨w1.heap.size, 5, none⟩)) ?h404 ?r404
   case h404 => simp only [aT, aS, aZ]; rfl
   refine ⟨_, by simp [Act.put]; rfl, by kernel_rfl, by kernel_rfl, by kernel_rfl, fun _ _ _ h => h, (.inl ⟨rfl, fun W _ => by go_simp⟩), HS.out, ?_⟩
   refine takeH (o := ?o405) 4 (.slice (some ⟨b2, o2, none⟩) 8 k2) ?h405 ?r405
   case h405 => simp only [aT, aS, aZ]; rfl
   refine ⟨_, by simp [Act.put]; rfl, by kernel_rfl, by kernel_rfl, by kernel_rfl, fun _ _ _ h => h, (.inl ⟨rfl, fun W hW => by have c := Blk.cell hW.1 5; simp only [aT, aS, aZ] at c; go_simp⟩), HS.out, ?_⟩
   refine takeH (o := ?o406) 5 (.int .i64 jr) ?h406 ?r406
   case h406 => simp only [aT, aS, aZ]; rfl
   refine ⟨_, by simp [Act.put]; rfl, by kernel_rfl, by kernel_rfl, by kernel_rfl, fun _ _ _ h => h, (.inl ⟨rfl, fun W _ => by go_simp⟩), HS.out, ?_⟩
   refine takeH (o := ?o407) 6 (.pointer (some ⟨b2, o2 + jr, none⟩)) ?h407 ?r407
   case h407 => simp only [aT, aS, aZ]; rfl
   refine ⟨_, by simp [Act.put]; rfl, by kernel_rfl, by kernel_rfl, by kernel_rfl, fun _ _ _ h => h, (.inl ⟨rfl, fun W _ => by go_simp⟩), HS.out, ?_⟩
   refine takeH (o := ?o408) 8 (.int .i64 v) ?h408 ?r408
   case h408 => simp only [aT, aS, aZ]; rfl
   refine ⟨_, by simp [Act.put]; rfl, by kernel_rfl, by kernel_rfl, by kernel_rfl, fun _ _ _ h => h, (.inl ⟨rfl, fun W _ => by go_simp⟩), HS.out, ?_⟩
   refine twoH (o := ?o409) (o' := ?p409) 7 9 (by kernel_rfl) ?h409 ?g409 ?r409 ?s409
   case h409 => simp only [aT, aS, aZ]; rfl
   case g409 => simp only [aT, aS, aZ]; rfl
   case r409 =>
    intro K hK
    refine op_value (.int .i64 e2) rfl (by go_simp) ⟨_, by simp [Act.put]; rfl, hK _ _ ⟨HS.out, ?_⟩⟩
    clear hK
    refine onlyH (o := ?o410) 9 (by kernel_rfl) ?h410 ?r410
    case h410 => simp only [aT, aS, aZ]; rfl
    intro K hK
    refine op_call1 127 _ _ Try.f127 (fun u w' => u = .int .i64 (rankN v) ∧ w' = W7.drew) rfl rfl Try.func127 (by kernel_rfl) (by kernel_rfl) ((rankSpec_any v W7.drew).mono (by rintro e w' ⟨rfl, rfl⟩; exact ⟨_, rfl, rfl, rfl⟩)) ?_
    rintro _ _ ⟨rfl, rfl⟩
    refine ⟨_, by simp [Act.put]; rfl, hK _ _ ⟨HS.out, ?_⟩⟩
    clear hK
    refine onlyH (o := ?o411) 10 (by kernel_rfl) ?h411 ?r411
    case h411 => simp only [aT, aS, aZ]; rfl
    intro K hK
    refine op_call2 68 _ _ _ Try.f68 (fun w' => w' = W7.drew) (.int .i64 (max e2 (rankN v))) rfl rfl Try.func68 (by kernel_rfl) (by kernel_rfl) (l1Max_any e2 (rankN v) _) ⟨_, by simp [Act.put]; rfl, ?_⟩
    rintro _ rfl
    refine hK _ _ ⟨HS.out, ?_⟩
    clear hK
    refine takeH (o := ?o412) 11 (.pointer (some ⟨b2, o2 + jr, none⟩)) ?h412 ?r412
    case h412 => simp only [aT, aS, aZ]; rfl
    refine ⟨_, by simp [Act.put]; rfl, by kernel_rfl, by kernel_rfl, by kernel_rfl, fun _ _ _ h => h, (.inl ⟨rfl, fun W _ => by go_simp⟩), HS.out, ?_⟩
    refine onlyH (o := ?o413) 12 (by kernel_rfl) ?h413 ?r413
    case h413 => simp only [aT, aS, aZ]; rfl
    intro K hK
    have hO8 := HO7.out.drew.setRegs jr hr8 (max e2 (rankN v))
    refine op_skip (W7.drew.setCell ⟨b2, o2 + jr, none⟩ (.int .i64 (max e2 (rankN v)))) rfl (by go_simp) ⟨_, by simp [Act.put]; rfl, hK _ _ ⟨⟨hO8.blk, trivial⟩, ?_⟩⟩
    clear hK
    refine wpAnyH_done (by kernel_rfl) ?_ _
    go_wp2_with fail
    go_meet
    case rel => exact ⟨_, _, _, _, hO8, HB7.out.1.drew.setOther (by have := HO7.out.lw; have := HO7.out.ges; omega) _ _, HB7.out.2.drew.setOther (by have := HO7.out.lw; have := HO7.out.ges; omega) _ _⟩
   case s409 =>
    intro K hK
    refine op_call1 127 _ _ Try.f127 (fun u w' => u = .int .i64 (rankN v) ∧ w' = W7.drew) rfl rfl Try.func127 (by kernel_rfl) (by kernel_rfl) ((rankSpec_any v W7.drew).mono (by rintro e w' ⟨rfl, rfl⟩; exact ⟨_, rfl, rfl, rfl⟩)) ?_
    rintro _ _ ⟨rfl, rfl⟩
    refine ⟨_, by simp [Act.put]; rfl, hK _ _ ⟨HS.out, ?_⟩⟩
    clear hK
    refine onlyH (o := ?o414) 7 (by kernel_rfl) ?h414 ?r414
    case h414 => simp only [aT, aS, aZ]; rfl
    intro K hK
    refine op_value (.int .i64 e2) rfl (by go_simp) ⟨_, by simp [Act.put]; rfl, hK _ _ ⟨HS.out, ?_⟩⟩
    clear hK
    refine onlyH (o := ?o415) 10 (by kernel_rfl) ?h415 ?r415
    case h415 => simp only [aT, aS, aZ]; rfl
    intro K hK
    refine op_call2 68 _ _ _ Try.f68 (fun w' => w' = W7.drew) (.int .i64 (max e2 (rankN v))) rfl rfl Try.func68 (by kernel_rfl) (by kernel_rfl) (l1Max_any e2 (rankN v) _) ⟨_, by simp [Act.put]; rfl, ?_⟩
    rintro _ rfl
    refine hK _ _ ⟨HS.out, ?_⟩
    clear hK
    refine takeH (o := ?o416) 11 (.pointer (some ⟨b2, o2 + jr, none⟩)) ?h416 ?r416
    case h416 => simp only [aT, aS, aZ]; rfl
    refine ⟨_, by simp [Act.put]; rfl, by kernel_rfl, by kernel_rfl, by kernel_rfl, fun _ _ _ h => h, (.inl ⟨rfl, fun W _ => by go_simp⟩), HS.out, ?_⟩
    refine onlyH (o := ?o417) 12 (by kernel_rfl) ?h417 ?r417
    case h417 => simp only [aT, aS, aZ]; rfl
    intro K hK
    have hO8 := HO7.out.drew.setRegs jr hr8 (max e2 (rankN v))
    refine op_skip (W7.drew.setCell ⟨b2, o2 + jr, none⟩ (.int .i64 (max e2 (rankN v)))) rfl (by go_simp) ⟨_, by simp [Act.put]; rfl, hK _ _ ⟨⟨hO8.blk, trivial⟩, ?_⟩⟩
    clear hK
    refine wpAnyH_done (by kernel_rfl) ?_ _
    go_wp2_with fail
    go_meet
    case rel => exact ⟨_, _, _, _, hO8, HB7.out.1.drew.setOther (by have := HO7.out.lw; have := HO7.out.ges; omega) _ _, HB7.out.2.drew.setOther (by have := HO7.out.lw; have := HO7.out.ges; omega) _ _⟩
  case rest =>
   obtain ⟨L1, L2, X, Y, hO, hB⟩ := hcut
   have HO8 : Hid (Out w W0.heap.size w1.heap.size (addN s.count 1) (addN s.sum v) mq (max s.max v) b1 o1 k1 b2 o2 k2 p po k3 b3 o3 j0 b4 o4 j1 L1 L2 X Y wc) := hO
   have HB8 : Hid (Blk wc w.heap.size #[.int .i64 s.count, .int .i64 s.sum, .int .i64 s.min, .int .i64 s.max, .slice a1 n1 c1, .slice a2 n2 c2, .slice a3 n3 c3] 34 ∧ Blk wc (w.heap.size + 1) #[.int .i64 0, .int .i64 0, .int .i64 0, .int .i64 0, .slice none 0 0, .slice none 0 0, .slice none 0 0] 34) := hB
   clear hO hB HO7 HB7
   go_wp2
   refine wp_loop_rounds 3 ?_
   rw [rounds_succ]
   go_wp2_with fail
   refine (mixSpec_any _ _).mono ?_
   rintro e w9 ⟨rfl, hw9⟩
   have hw9' := hw9.symm
   subst hw9'
   clear hw9
   rw [HM.out]
   obtain ⟨jc0, hjc⟩ : ∃ jc, jc = (m + 0) % 4 := ⟨_, rfl⟩
   have h40 : jc0 < 4 := by omega
   have h4i0 : (jc0 : Int) < 4 := by omega
   have hsl0 : ((m : Int) % 4) = (jc0 : Int) := by rw [hjc]; omega
   clear hjc
   go_wp2
   rw [hsl0]
   clear hsl0
   obtain ⟨e0r, her⟩ : ∃ e, e = X.getD jc0 0 := ⟨_, rfl⟩
   have ccr : wc.drew.cell? ⟨b3, o3 + jc0, none⟩ = some (.int .i64 e0r) := by rw [her]; exact HO8.out.drew.row0.at jc0 h40
   have ffr : wc.drew.frozen? ⟨b3, o3 + jc0, none⟩ = false := HO8.out.drew.own.free b3 (by simp) _
   have HS : Hid ((fun W => Blk W w1.heap.size #[.int .i64 (addN s.count 1), .int .i64 (addN s.sum v), .int .i64 mq, .int .i64 (max s.max v), .slice (some ⟨b1, o1, none⟩) 8 k1, .slice (some ⟨b2, o2, none⟩) 8 k2, .slice (some ⟨p, po, none⟩) 2 k3] 34 ∧ W.cell? ⟨p, po, none⟩ = some (.slice (some ⟨b3, o3, none⟩) 4 j0) ∧ W.cell? ⟨p, po + 1, none⟩ = some (.slice (some ⟨b4, o4, none⟩) 4 j1)) wc.drew) := ⟨HO8.out.drew.blk, HO8.out.drew.c0, HO8.out.drew.c1⟩
   clear her
   refine wp_region_held (S := fun W => Blk W w1.heap.size #[.int .i64 (addN s.count 1), .int .i64 (addN s.sum v), .int .i64 mq, .int .i64 (max s.max v), .slice (some ⟨b1, o1, none⟩) 8 k1, .slice (some ⟨b2, o2, none⟩) 8 k2, .slice (some ⟨p, po, none⟩) 2 k3] 34 ∧ W.cell? ⟨p, po, none⟩ = some (.slice (some ⟨b3, o3, none⟩) 4 j0) ∧ W.cell? ⟨p, po + 1, none⟩ = some (.slice (some ⟨b4, o4, none⟩) 4 j1)) (by kernel_rfl) ?_
   change wpAnyH _ _ _ _ _ _ _ _ (World.drew _)
   refine takeH (o := ?o801) 0 (.pointer (some ⟨w1.heap.size, 6, none⟩)) ?h801 ?r801
   case h801 => simp only [aT, aZ]; rfl
   refine ⟨_, by simp [Act.put]; rfl, by kernel_rfl, by kernel_rfl, by kernel_rfl, fun _ _ _ h => h, (.inl ⟨rfl, fun W _ => by go_simp⟩), HS.out, ?_⟩
   refine takeH (o := ?o802) 1 (.slice (some ⟨p, po, none⟩) 2 k3) ?h802 ?r802
   case h802 => simp only [aT, aS, aZ]; rfl
   refine ⟨_, by simp [Act.put]; rfl, by kernel_rfl, by kernel_rfl, by kernel_rfl, fun _ _ _ h => h, (.inl ⟨rfl, fun W hW => by have c := Blk.cell hW.1 6; simp only [aT, aS, aZ] at c; go_simp⟩), HS.out, ?_⟩
   refine takeH (o := ?o803) 2 (.int .i64 0) ?h803 ?r803
   case h803 => simp only [aT, aS, aZ]; rfl
   refine ⟨_, by simp [Act.put]; rfl, by kernel_rfl, by kernel_rfl, by kernel_rfl, fun _ _ _ h => h, (.inl ⟨rfl, fun W _ => by go_simp⟩), HS.out, ?_⟩
   refine takeH (o := ?o804) 3 (.pointer (some ⟨p, po, none⟩)) ?h804 ?r804
   case h804 => simp only [aT, aS, aZ]; rfl
   refine ⟨_, by simp [Act.put]; rfl, by kernel_rfl, by kernel_rfl, by kernel_rfl, fun _ _ _ h => h, (.inl ⟨rfl, fun W _ => by go_simp⟩), HS.out, ?_⟩
   refine takeH (o := ?o805) 4 (.slice (some ⟨b3, o3, none⟩) 4 j0) ?h805 ?r805
   case h805 => simp only [aT, aS, aZ]; rfl
   refine ⟨_, by simp [Act.put]; rfl, by kernel_rfl, by kernel_rfl, by kernel_rfl, fun _ _ _ h => h, (.inl ⟨rfl, fun W hW => by have c := hW.2.1; go_simp⟩), HS.out, ?_⟩
   refine takeH (o := ?o806) 5 (.int .i64 jc0) ?h806 ?r806
   case h806 => simp only [aT, aS, aZ]; rfl
   refine ⟨_, by simp [Act.put]; rfl, by kernel_rfl, by kernel_rfl, by kernel_rfl, fun _ _ _ h => h, (.inl ⟨rfl, fun W _ => by go_simp⟩), HS.out, ?_⟩
   refine takeH (o := ?o807) 6 (.pointer (some ⟨w1.heap.size, 6, none⟩)) ?h807 ?r807
   case h807 => simp only [aT, aS, aZ]; rfl
   refine ⟨_, by simp [Act.put]; rfl, by kernel_rfl, by kernel_rfl, by kernel_rfl, fun _ _ _ h => h, (.inl ⟨rfl, fun W _ => by go_simp⟩), HS.out, ?_⟩
   refine takeH (o := ?o808) 7 (.slice (some ⟨p, po, none⟩) 2 k3) ?h808 ?r808
   case h808 => simp only [aT, aS, aZ]; rfl
   refine ⟨_, by simp [Act.put]; rfl, by kernel_rfl, by kernel_rfl, by kernel_rfl, fun _ _ _ h => h, (.inl ⟨rfl, fun W hW => by have c := Blk.cell hW.1 6; simp only [aT, aS, aZ] at c; go_simp⟩), HS.out, ?_⟩
   refine takeH (o := ?o809) 8 (.int .i64 0) ?h809 ?r809
   case h809 => simp only [aT, aS, aZ]; rfl
   refine ⟨_, by simp [Act.put]; rfl, by kernel_rfl, by kernel_rfl, by kernel_rfl, fun _ _ _ h => h, (.inl ⟨rfl, fun W _ => by go_simp⟩), HS.out, ?_⟩
   refine takeH (o := ?o810) 9 (.pointer (some ⟨p, po, none⟩)) ?h810 ?r810
   case h810 => simp only [aT, aS, aZ]; rfl
   refine ⟨_, by simp [Act.put]; rfl, by kernel_rfl, by kernel_rfl, by kernel_rfl, fun _ _ _ h => h, (.inl ⟨rfl, fun W _ => by go_simp⟩), HS.out, ?_⟩
   refine takeH (o := ?o811) 10 (.slice (some ⟨b3, o3, none⟩) 4 j0) ?h811 ?r811
   case h811 => simp only [aT, aS, aZ]; rfl
   refine ⟨_, by simp [Act.put]; rfl, by kernel_rfl, by kernel_rfl, by kernel_rfl, fun _ _ _ h => h, (.inl ⟨rfl, fun W hW => by have c := hW.2.1; go_simp⟩), HS.out, ?_⟩
   refine takeH (o := ?o812) 11 (.int .i64 jc0) ?h812 ?r812
   case h812 => simp only [aT, aS, aZ]; rfl
   refine ⟨_, by simp [Act.put]; rfl, by kernel_rfl, by kernel_rfl, by kernel_rfl, fun _ _ _ h => h, (.inl ⟨rfl, fun W _ => by go_simp⟩), HS.out, ?_⟩
   refine takeH (o := ?o813) 12 (.pointer (some ⟨b3, o3 + jc0, none⟩)) ?h813 ?r813
   case h813 => simp only [aT, aS, aZ]; rfl
   refine ⟨_, by simp [Act.put]; rfl, by kernel_rfl, by kernel_rfl, by kernel_rfl, fun _ _ _ h => h, (.inl ⟨rfl, fun W _ => by go_simp⟩), HS.out, ?_⟩
   refine onlyH (o := ?o814) 13 (by kernel_rfl) ?h814 ?r814
   case h814 => simp only [aT, aS, aZ]; rfl
   intro K hK
   refine op_value (.int .i64 e0r) rfl (by go_simp) ⟨_, by simp [Act.put]; rfl, hK _ _ ⟨HS.out, ?_⟩⟩
   clear hK
   refine onlyH (o := ?o815) 14 (by kernel_rfl) ?h815 ?r815
   case h815 => simp only [aT, aS, aZ]; rfl
   intro K hK
   refine op_call2 124 _ _ _ Try.f124 (fun w' => w' = wc.drew) (.int .i64 (addN e0r 1)) rfl rfl Try.func124 (by kernel_rfl) (by kernel_rfl) (addSpec_any e0r 1 _) ⟨_, by simp [Act.put]; rfl, ?_⟩
   rintro _ rfl
   refine hK _ _ ⟨HS.out, ?_⟩
   clear hK
   refine takeH (o := ?o816) 15 (.pointer (some ⟨b3, o3 + jc0, none⟩)) ?h816 ?r816
   case h816 => simp only [aT, aS, aZ]; rfl
   refine ⟨_, by simp [Act.put]; rfl, by kernel_rfl, by kernel_rfl, by kernel_rfl, fun _ _ _ h => h, (.inl ⟨rfl, fun W _ => by go_simp⟩), HS.out, ?_⟩
   refine onlyH (o := ?o817) 16 (by kernel_rfl) ?h817 ?r817
   case h817 => simp only [aT, aS, aZ]; rfl
   intro K hK
   have hOn := HO8.out.drew.setRow0 jc0 h40 (addN e0r 1)
   refine op_skip (wc.drew.setCell ⟨b3, o3 + jc0, none⟩ (.int .i64 (addN e0r 1))) rfl (by go_simp) ⟨_, by simp [Act.put]; rfl, hK _ _ ⟨⟨hOn.blk, hOn.c0, hOn.c1⟩, ?_⟩⟩
   obtain ⟨Wa, hWn⟩ : ∃ W, W = wc.drew.setCell ⟨b3, o3 + jc0, none⟩ (.int .i64 (addN e0r 1)) := ⟨_, rfl⟩
   have hBn : (Blk Wa w.heap.size #[.int .i64 s.count, .int .i64 s.sum, .int .i64 s.min, .int .i64 s.max, .slice a1 n1 c1, .slice a2 n2 c2, .slice a3 n3 c3] 34 ∧ Blk Wa (w.heap.size + 1) #[.int .i64 0, .int .i64 0, .int .i64 0, .int .i64 0, .slice none 0 0, .slice none 0 0, .slice none 0 0] 34) := by rw [hWn]; exact ⟨HB8.out.1.drew.setOther (by have := HO8.out.lw; have := HO8.out.ges; omega) _ _, HB8.out.2.drew.setOther (by have := HO8.out.lw; have := HO8.out.ges; omega) _ _⟩
   rw [← hWn] at hOn ⊢
   have HO9 : Hid (_) := hOn
   have HB9 : Hid (_ ∧ _) := hBn
   clear hK hWn hOn hBn ccr ffr HS HO8 HB8
   refine wpAnyH_done (by kernel_rfl) ?_ _
   go_wp2_with fail
   rw [rounds_succ]
   go_wp2_with fail
   refine (mixSpec_any _ _).mono ?_
   rintro e w9 ⟨rfl, hw9⟩
   have hw9' := hw9.symm
   subst hw9'
   clear hw9
   rw [HM.out]
   obtain ⟨jc1, hjc⟩ : ∃ jc, jc = (m + 1) % 4 := ⟨_, rfl⟩
   have h41 : jc1 < 4 := by omega
   have h4i1 : (jc1 : Int) < 4 := by omega
   have hsl1 : (((m : Int) + 1) % 4) = (jc1 : Int) := by rw [hjc]; omega
   clear hjc
   go_wp2
   rw [hsl1]
   clear hsl1
   obtain ⟨e1r, her⟩ : ∃ e, e = Y.getD jc1 0 := ⟨_, rfl⟩
   have ccr : Wa.drew.cell? ⟨b4, o4 + jc1, none⟩ = some (.int .i64 e1r) := by rw [her]; exact HO9.out.drew.row1.at jc1 h41
   have ffr : Wa.drew.frozen? ⟨b4, o4 + jc1, none⟩ = false := HO9.out.drew.own.free b4 (by simp) _
   have HS : Hid ((fun W => Blk W w1.heap.size #[.int .i64 (addN s.count 1), .int .i64 (addN s.sum v), .int .i64 mq, .int .i64 (max s.max v), .slice (some ⟨b1, o1, none⟩) 8 k1, .slice (some ⟨b2, o2, none⟩) 8 k2, .slice (some ⟨p, po, none⟩) 2 k3] 34 ∧ W.cell? ⟨p, po, none⟩ = some (.slice (some ⟨b3, o3, none⟩) 4 j0) ∧ W.cell? ⟨p, po + 1, none⟩ = some (.slice (some ⟨b4, o4, none⟩) 4 j1)) Wa.drew) := ⟨HO9.out.drew.blk, HO9.out.drew.c0, HO9.out.drew.c1⟩
   clear her
   refine wp_region_held (S := fun W => Blk W w1.heap.size #[.int .i64 (addN s.count 1), .int .i64 (addN s.sum v), .int .i64 mq, .int .i64 (max s.max v), .slice (some ⟨b1, o1, none⟩) 8 k1, .slice (some ⟨b2, o2, none⟩) 8 k2, .slice (some ⟨p, po, none⟩) 2 k3] 34 ∧ W.cell? ⟨p, po, none⟩ = some (.slice (some ⟨b3, o3, none⟩) 4 j0) ∧ W.cell? ⟨p, po + 1, none⟩ = some (.slice (some ⟨b4, o4, none⟩) 4 j1)) (by kernel_rfl) ?_
   change wpAnyH _ _ _ _ _ _ _ _ (World.drew _)
   refine takeH (o := ?o818) 0 (.pointer (some ⟨w1.heap.size, 6, none⟩)) ?h818 ?r818
   case h818 => simp only [aT, aZ]; rfl
   refine ⟨_, by simp [Act.put]; rfl, by kernel_rfl, by kernel_rfl, by kernel_rfl, fun _ _ _ h => h, (.inl ⟨rfl, fun W _ => by go_simp⟩), HS.out, ?_⟩
   refine takeH (o := ?o819) 1 (.slice (some ⟨p, po, none⟩) 2 k3) ?h819 ?r819
   case h819 => simp only [aT, aS, aZ]; rfl
   refine ⟨_, by simp [Act.put]; rfl, by kernel_rfl, by kernel_rfl, by kernel_rfl, fun _ _ _ h => h, (.inl ⟨rfl, fun W hW => by have c := Blk.cell hW.1 6; simp only [aT, aS, aZ] at c; go_simp⟩), HS.out, ?_⟩
   refine takeH (o := ?o820) 2 (.int .i64 1) ?h820 ?r820
   case h820 => simp only [aT, aS, aZ]; rfl
   refine ⟨_, by simp [Act.put]; rfl, by kernel_rfl, by kernel_rfl, by kernel_rfl, fun _ _ _ h => h, (.inl ⟨rfl, fun W _ => by go_simp⟩), HS.out, ?_⟩
   refine takeH (o := ?o821) 3 (.pointer (some ⟨p, po + 1, none⟩)) ?h821 ?r821
   case h821 => simp only [aT, aS, aZ]; rfl
   refine ⟨_, by simp [Act.put]; rfl, by kernel_rfl, by kernel_rfl, by kernel_rfl, fun _ _ _ h => h, (.inl ⟨rfl, fun W _ => by go_simp⟩), HS.out, ?_⟩
   refine takeH (o := ?o822) 4 (.slice (some ⟨b4, o4, none⟩) 4 j1) ?h822 ?r822
   case h822 => simp only [aT, aS, aZ]; rfl
   refine ⟨_, by simp [Act.put]; rfl, by kernel_rfl, by kernel_rfl, by kernel_rfl, fun _ _ _ h => h, (.inl ⟨rfl, fun W hW => by have c := hW.2.2; go_simp⟩), HS.out, ?_⟩
   refine takeH (o := ?o823) 5 (.int .i64 jc1) ?h823 ?r823
   case h823 => simp only [aT, aS, aZ]; rfl
   refine ⟨_, by simp [Act.put]; rfl, by kernel_rfl, by kernel_rfl, by kernel_rfl, fun _ _ _ h => h, (.inl ⟨rfl, fun W _ => by go_simp⟩), HS.out, ?_⟩
   refine takeH (o := ?o824) 6 (.pointer (some ⟨w1.heap.size, 6, none⟩)) ?h824 ?r824
   case h824 => simp only [aT, aS, aZ]; rfl
   refine ⟨_, by simp [Act.put]; rfl, by kernel_rfl, by kernel_rfl, by kernel_rfl, fun _ _ _ h => h, (.inl ⟨rfl, fun W _ => by go_simp⟩), HS.out, ?_⟩
   refine takeH (o := ?o825) 7 (.slice (some ⟨p, po, none⟩) 2 k3) ?h825 ?r825
   case h825 => simp only [aT, aS, aZ]; rfl
   refine ⟨_, by simp [Act.put]; rfl, by kernel_rfl, by kernel_rfl, by kernel_rfl, fun _ _ _ h => h, (.inl ⟨rfl, fun W hW => by have c := Blk.cell hW.1 6; simp only [aT, aS, aZ] at c; go_simp⟩), HS.out, ?_⟩
   refine takeH (o := ?o826) 8 (.int .i64 1) ?h826 ?r826
   case h826 => simp only [aT, aS, aZ]; rfl
   refine ⟨_, by simp [Act.put]; rfl, by kernel_rfl, by kernel_rfl, by kernel_rfl, fun _ _ _ h => h, (.inl ⟨rfl, fun W _ => by go_simp⟩), HS.out, ?_⟩
   refine takeH (o := ?o827) 9 (.pointer (some ⟨p, po + 1, none⟩)) ?h827 ?r827
   case h827 => simp only [aT, aS, aZ]; rfl
   refine ⟨_, by simp [Act.put]; rfl, by kernel_rfl, by kernel_rfl, by kernel_rfl, fun _ _ _ h => h, (.inl ⟨rfl, fun W _ => by go_simp⟩), HS.out, ?_⟩
   refine takeH (o := ?o828) 10 (.slice (some ⟨b4, o4, none⟩) 4 j1) ?h828 ?r828
   case h828 => simp only [aT, aS, aZ]; rfl
   refine ⟨_, by simp [Act.put]; rfl, by kernel_rfl, by kernel_rfl, by kernel_rfl, fun _ _ _ h => h, (.inl ⟨rfl, fun W hW => by have c := hW.2.2; go_simp⟩), HS.out, ?_⟩
   refine takeH (o := ?o829) 11 (.int .i64 jc1) ?h829 ?r829
   case h829 => simp only [aT, aS, aZ]; rfl
   refine ⟨_, by simp [Act.put]; rfl, by kernel_rfl, by kernel_rfl, by kernel_rfl, fun _ _ _ h => h, (.inl ⟨rfl, fun W _ => by go_simp⟩), HS.out, ?_⟩
   refine takeH (o := ?o830) 12 (.pointer (some ⟨b4, o4 + jc1, none⟩)) ?h830 ?r830
   case h830 => simp only [aT, aS, aZ]; rfl
   refine ⟨_, by simp [Act.put]; rfl, by kernel_rfl, by kernel_rfl, by kernel_rfl, fun _ _ _ h => h, (.inl ⟨rfl, fun W _ => by go_simp⟩), HS.out, ?_⟩
   refine onlyH (o := ?o831) 13 (by kernel_rfl) ?h831 ?r831
   case h831 => simp only [aT, aS, aZ]; rfl
   intro K hK
   refine op_value (.int .i64 e1r) rfl (by go_simp) ⟨_, by simp [Act.put]; rfl, hK _ _ ⟨HS.out, ?_⟩⟩
   clear hK
   refine onlyH (o := ?o832) 14 (by kernel_rfl) ?h832 ?r832
   case h832 => simp only [aT, aS, aZ]; rfl
   intro K hK
   refine op_call2 124 _ _ _ Try.f124 (fun w' => w' = Wa.drew) (.int .i64 (addN e1r 1)) rfl rfl Try.func124 (by kernel_rfl) (by kernel_rfl) (addSpec_any e1r 1 _) ⟨_, by simp [Act.put]; rfl, ?_⟩
   rintro _ rfl
   refine hK _ _ ⟨HS.out, ?_⟩
   clear hK
   refine takeH (o := ?o833) 15 (.pointer (some ⟨b4, o4 + jc1, none⟩)) ?h833 ?r833
   case h833 => simp only [aT, aS, aZ]; rfl
   refine ⟨_, by simp [Act.put]; rfl, by kernel_rfl, by kernel_rfl, by kernel_rfl, fun _ _ _ h => h, (.inl ⟨rfl, fun W _ => by go_simp⟩), HS.out, ?_⟩
   refine onlyH (o := ?o834) 16 (by kernel_rfl) ?h834 ?r834
   case h834 => simp only [aT, aS, aZ]; rfl
   intro K hK
   have hOn := HO9.out.drew.setRow1 jc1 h41 (addN e1r 1)
   refine op_skip (Wa.drew.setCell ⟨b4, o4 + jc1, none⟩ (.int .i64 (addN e1r 1))) rfl (by go_simp) ⟨_, by simp [Act.put]; rfl, hK _ _ ⟨⟨hOn.blk, hOn.c0, hOn.c1⟩, ?_⟩⟩
   obtain ⟨Wb, hWn⟩ : ∃ W, W = Wa.drew.setCell ⟨b4, o4 + jc1, none⟩ (.int .i64 (addN e1r 1)) := ⟨_, rfl⟩
   have hBn : (Blk Wb w.heap.size #[.int .i64 s.count, .int .i64 s.sum, .int .i64 s.min, .int .i64 s.max, .slice a1 n1 c1, .slice a2 n2 c2, .slice a3 n3 c3] 34 ∧ Blk Wb (w.heap.size + 1) #[.int .i64 0, .int .i64 0, .int .i64 0, .int .i64 0, .slice none 0 0, .slice none 0 0, .slice none 0 0] 34) := by rw [hWn]; exact ⟨HB9.out.1.drew.setOther (by have := HO9.out.lw; have := HO9.out.ges; omega) _ _, HB9.out.2.drew.setOther (by have := HO9.out.lw; have := HO9.out.ges; omega) _ _⟩
   rw [← hWn] at hOn ⊢
   have HO10 : Hid (_) := hOn
   have HB10 : Hid (_ ∧ _) := hBn
   clear hK hWn hOn hBn ccr ffr HS HO9 HB9
   refine wpAnyH_done (by kernel_rfl) ?_ _
   go_wp2_with fail
   rw [rounds_succ]
   go_wp2_with (first | go_skip | (with_reducible refine stopLoad 34 rfl ?_) | (with_reducible refine stopStore 34 rfl ?_))
   refine load_any 34 w1.heap.size _ 34 _ HO10.out.blk rfl rfl rfl Try.underlying34 rfl (by kernel_rfl) ?_
   go_wp2_with (first | go_skip | (with_reducible refine stopLoad 34 rfl ?_) | (with_reducible refine stopStore 34 rfl ?_))
   refine store_known 34 (w.heap.size + 1) _ _ 34 HB10.out.2 rfl rfl rfl rfl (by kernel_rfl) rfl (by kernel_rfl) ?_
   go_wp2
   refine bodyPost_ret (results_row_tmp Try.results122 _ _ (w.heap.size + 1) _ _ _ _ rfl HB10.out.2.setRow Try.underlying34 rfl (by kernel_rfl)) rfl ?_
   exact newShaped_of HO10.out
end Go.Proofs.Ytgkbhhlkaifnoaa
