/- Several texts of mine, laid together. No statement of the seat is proved here. -/
import Derived.Test.YtgkbhhlkaifnoaaB2
import Derived.Test.YtgkbhhlkaifnoaaSk
import Derived.Deep.RegionHeld3
import Derived.Deep.OwnRows
import Derived.Test.YtgkbhhlkaifnoaaDrawSk
import Derived.Test.YtgkbhhlkaifnoaaPart
import Derived.Test.YtgkbhhlkaifnoaaB1
import Derived.Test.YtgkbhhlkaifnoaaDrawPick
import Derived.Test.YtgkbhhlkaifnoaaFrModel
/- The walk through the model's Insert. No statement of the seat is proved here. -/
namespace Go.Proofs.Ytgkbhhlkaifnoaa
open Go.RowKit
/-- What a putting in answers: some summary, in memory of its own, its lists as long as told. -/
def NewShaped2 (w : World) (e : Ending) (w' : World) : Prop :=
  ∃ v s d F, e = .returned (.tuple #[v, .bool d]) ∧ RdR w' v s F ∧ s.shaped = true ∧ Own w.heap.size w' F ∧ Below w.heap.size w w'
theorem newShaped_of {w W : World} {lo g : Nat} {c sm mn mx : Int} {b1 o1 k1 b2 o2 k2 p po k3 b3 o3 j0 b4 o4 j1 : Nat} {l1 l2 x y : List Int} {d : Bool} (h : Out w lo g c sm mn mx b1 o1 k1 b2 o2 k2 p po k3 b3 o3 j0 b4 o4 j1 l1 l2 x y W) :
    NewShaped2 w (.returned (.tuple #[.agg #[.int .i64 c, .int .i64 sm, .int .i64 mn, .int .i64 mx, .slice (some ⟨b1, o1, none⟩) 8 k1, .slice (some ⟨b2, o2, none⟩) 8 k2, .slice (some ⟨p, po, none⟩) 2 k3], .bool d])) (W.setRow (w.heap.size + 1) #[.int .i64 c, .int .i64 sm, .int .i64 mn, .int .i64 mx, .slice (some ⟨b1, o1, none⟩) 8 k1, .slice (some ⟨b2, o2, none⟩) 8 k2, .slice (some ⟨p, po, none⟩) 2 k3]) := by
  obtain ⟨r, o, hs⟩ := out_rd h
  have lw := h.lw
  have ag : Agree W (W.setRow (w.heap.size + 1) #[.int .i64 c, .int .i64 sm, .int .i64 mn, .int .i64 mx, .slice (some ⟨b1, o1, none⟩) 8 k1, .slice (some ⟨b2, o2, none⟩) 8 k2, .slice (some ⟨p, po, none⟩) 2 k3]) [b1, b2, p, b3, b4] := fun b hb => setRow_other W _ b _ (fun e => by have := o.ge b hb; omega)
  exact ⟨_, _, d, _, rfl, r.agree ag, hs, (o.agree ag).mono (by omega), below_setRow h.bel (by omega) _⟩
set_option maxRecDepth 200000 in
set_option maxHeartbeats 8000000 in
theorem insert_any (v0 : Value) (s : Sk) (v : Int) (F : List Nat) (w : World) (h : RdSk w v0 s F) (hs : s.shaped = true) :
    Calls Try.prog 122 #[v0, .int .i64 v] w fun e w' => NewShaped2 w e w' := by
  have HH : Hid (RdSk w v0 s F ∧ s.shaped = true) := ⟨h, hs⟩
  obtain ⟨a1, n1, c1, a2, n2, c2, a3, n3, c3, F1, F2, F3, rfl, _⟩ := h
  have HT : Hid (_ ∧ _ ∧ _) := two_made w #[.int .i64 s.count, .int .i64 s.sum, .int .i64 s.min, .int .i64 s.max, .slice a1 n1 c1, .slice a2 n2 c2, .slice a3 n3 c3] #[.int .i64 0, .int .i64 0, .int .i64 0, .int .i64 0, .slice none 0 0, .slice none 0 0, .slice none 0 0] 34 34
  clear hs
  go_enter Try.func122, Try.ntmps122
  go_wp2_with (first | go_skip | (with_reducible refine stopLoad 34 rfl ?_) | (with_reducible refine stopStore 34 rfl ?_))
  obtain ⟨W0, hW0⟩ : ∃ W0, W0 = (w.alloc (.cells #[.int .i64 s.count, .int .i64 s.sum, .int .i64 s.min, .int .i64 s.max, .slice a1 n1 c1, .slice a2 n2 c2, .slice a3 n3 c3] 34)).alloc (.cells #[.int .i64 0, .int .i64 0, .int .i64 0, .int .i64 0, .slice none 0 0, .slice none 0 0, .slice none 0 0] 34) := ⟨_, rfl⟩
  have hs0 : W0.heap.size = w.heap.size + 1 + 1 := by rw [hW0]; simp
  rw [← hW0] at HT ⊢
  clear hW0
  refine load_any 34 w.heap.size _ 34 _ HT.out.1 rfl rfl rfl Try.underlying34 rfl (by kernel_rfl) ?_
  go_wp2_with fail
  refine (l3Copy_room _ s F _ (HH.out.1.below HT.out.2.2) (shaped_full HH.out.2)).mono ?_
  rintro e w1 ⟨vv, FF, rfl, rr, oo, bb, ro⟩
  obtain ⟨es, rfl, e7, e1⟩ := rr.cells
  have HM : Hid (Roomy w1 (.agg es)) := ro
  clear ro
  have HE : Hid (RdSk w1 (.agg es) s FF ∧ Own W0.heap.size w1 FF ∧ Below W0.heap.size W0 w1 ∧ es.size = 7 ∧ es.all (·.oneCell') = true) := ⟨rr, oo, bb, e7, e1⟩
  clear rr oo bb e7 e1
  go_wp2_with (first | go_skip | (with_reducible refine stopLoad 34 rfl ?_) | (with_reducible refine stopStore 34 rfl ?_))
  refine store_fresh 34 w1.heap.size rfl #[.int .i64 0, .int .i64 0, .int .i64 0, .int .i64 0, .slice none 0 0, .slice none 0 0, .slice none 0 0] es 34 rfl rfl rfl rfl (skSize HE.out.2.2.2.1) HE.out.2.2.2.1.symm HE.out.2.2.2.2 ?_
  intro W2 hg2 hb2
  have hbw := Below.next HE.out.2.2.1 hb2
  obtain ⟨b1, o1, k1, b2, o2, k2, p, po, k3, b3, o3, j0, b4, o4, j1, l1, l2, x, y, hO⟩ := out_of (w := w) (lo := W0.heap.size) (HE.out.1.below hb2) hg2 (HE.out.2.1.below HE.out.1.lt hb2) HE.out.2.2.1.size (fun hx => by have := HE.out.1.lt _ hx; omega) HH.out.2 (Below.next HT.out.2.2 hbw) (by omega) (HM.out.below hb2)
  have HO2 : Hid (Out w W0.heap.size w1.heap.size s.count s.sum s.min s.max b1 o1 k1 b2 o2 k2 p po k3 b3 o3 j0 b4 o4 j1 l1 l2 x y W2) := hO
  have HB2 : Hid (Blk W2 w.heap.size #[.int .i64 s.count, .int .i64 s.sum, .int .i64 s.min, .int .i64 s.max, .slice a1 n1 c1, .slice a2 n2 c2, .slice a3 n3 c3] 34 ∧ Blk W2 (w.heap.size + 1) #[.int .i64 0, .int .i64 0, .int .i64 0, .int .i64 0, .slice none 0 0, .slice none 0 0, .slice none 0 0] 34) := ⟨HT.out.1.below hbw, HT.out.2.1.below hbw⟩
  clear hg2 hb2 hbw hO HE HT HM
  go_wp2_with (first | go_skip | (with_reducible refine stopLoad 34 rfl ?_) | (with_reducible refine stopStore 34 rfl ?_))
  refine load_any 34 w.heap.size _ 34 _ HB2.out.1 rfl rfl rfl Try.underlying34 rfl (by kernel_rfl) ?_
  go_wp2_with fail
  refine (okSpec_any _ s F _ (HH.out.1.below HO2.out.bel) (shaped_wide HH.out.2)).mono ?_
  rintro e w3 ⟨rfl, hb3⟩
  have HO3 : Hid (Out w W0.heap.size w1.heap.size s.count s.sum s.min s.max b1 o1 k1 b2 o2 k2 p po k3 b3 o3 j0 b4 o4 j1 l1 l2 x y w3) := HO2.out.below hb3
  have HB3 : Hid (Blk w3 w.heap.size #[.int .i64 s.count, .int .i64 s.sum, .int .i64 s.min, .int .i64 s.max, .slice a1 n1 c1, .slice a2 n2 c2, .slice a3 n3 c3] 34 ∧ Blk w3 (w.heap.size + 1) #[.int .i64 0, .int .i64 0, .int .i64 0, .int .i64 0, .slice none 0 0, .slice none 0 0, .slice none 0 0] 34) := ⟨HB2.out.1.below hb3, HB2.out.2.below hb3⟩
  clear hb3 HO2 HB2
  cases es : s.ok
  · clear es
    go_wp2_with (first | go_skip | (with_reducible refine stopLoad 34 rfl ?_) | (with_reducible refine stopStore 34 rfl ?_))
    refine load_any 34 w1.heap.size _ 34 _ HO3.out.blk rfl rfl rfl Try.underlying34 rfl (by kernel_rfl) ?_
    go_wp2_with (first | go_skip | (with_reducible refine stopLoad 34 rfl ?_) | (with_reducible refine stopStore 34 rfl ?_))
    refine store_known 34 (w.heap.size + 1) _ _ 34 HB3.out.2 rfl rfl rfl rfl (by kernel_rfl) rfl (by kernel_rfl) ?_
    go_wp2
    refine bodyPost_ret (results_row_tmp Try.results122 _ _ (w.heap.size + 1) _ _ _ _ rfl HB3.out.2.setRow Try.underlying34 rfl (by kernel_rfl)) rfl ?_
    exact newShaped_of HO3.out
  clear es
  go_wp2_with fail
  refine (l1In_any _ _ _ _).mono ?_
  rintro e w4 ⟨rfl, hw4⟩
  have hw4' := hw4.symm
  subst hw4'
  clear hw4
  by_cases hv : 0 ≤ v ∧ v ≤ 1000000
  rotate_left
  · rw [dec_false hv]
    clear hv
    go_wp2_with (first | go_skip | (with_reducible refine stopLoad 34 rfl ?_) | (with_reducible refine stopStore 34 rfl ?_))
    refine load_any 34 w1.heap.size _ 34 _ HO3.out.blk rfl rfl rfl Try.underlying34 rfl (by kernel_rfl) ?_
    go_wp2_with (first | go_skip | (with_reducible refine stopLoad 34 rfl ?_) | (with_reducible refine stopStore 34 rfl ?_))
    refine store_known 34 (w.heap.size + 1) _ _ 34 HB3.out.2 rfl rfl rfl rfl (by kernel_rfl) rfl (by kernel_rfl) ?_
    go_wp2
    refine bodyPost_ret (results_row_tmp Try.results122 _ _ (w.heap.size + 1) _ _ _ _ rfl HB3.out.2.setRow Try.underlying34 rfl (by kernel_rfl)) rfl ?_
    exact newShaped_of HO3.out
  rw [dec_true hv]
  have HV : Hid (0 ≤ v ∧ v ≤ 1000000) := hv
  clear hv
  have x0 := HB3.out.1.cell 0
  have x1 := HB3.out.1.cell 1
  have x2 := HB3.out.1.cell 2
  have x3 := HB3.out.1.cell 3
  have g0 := HO3.out.blk.cell 0
  have g1 := HO3.out.blk.cell 1
  have g2 := HO3.out.blk.cell 2
  have g3 := HO3.out.blk.cell 3
  have f0 := HO3.out.blk.frozen 0
  have f1 := HO3.out.blk.frozen 1
  have f2 := HO3.out.blk.frozen 2
  have f3 := HO3.out.blk.frozen 3
  simp only [aT, aS, aZ] at x0 x1 x2 x3 g0 g1 g2 g3
  have ne : ¬ w1.heap.size = w.heap.size := by have := HO3.out.lw; have := HO3.out.ges; omega
  have ne' : ¬ w.heap.size = w1.heap.size := fun e => ne e.symm
  go_wp2_with fail
  refine (addSpec_any _ _ _).mono ?_
  rintro e w4 ⟨rfl, rfl⟩
  go_wp2_with fail
  refine (addSpec_any _ _ _).mono ?_
  rintro e w4 ⟨rfl, rfl⟩
  go_wp2_with fail
  refine (l1Min_any _ _ _).mono ?_
  rintro e w4 ⟨rfl, rfl⟩
  go_upto_if 37 with fail
  go_cut [] (fun wx => ∃ mq : Int, (Out w W0.heap.size w1.heap.size (addN s.count 1) (addN s.sum v) mq s.max b1 o1 k1 b2 o2 k2 p po k3 b3 o3 j0 b4 o4 j1 l1 l2 x y wx) ∧ (Blk wx w.heap.size #[.int .i64 s.count, .int .i64 s.sum, .int .i64 s.min, .int .i64 s.max, .slice a1 n1 c1, .slice a2 n2 c2, .slice a3 n3 c3] 34 ∧ Blk wx (w.heap.size + 1) #[.int .i64 0, .int .i64 0, .int .i64 0, .int .i64 0, .slice none 0 0, .slice none 0 0, .slice none 0 0] 34))
  case first =>
    have R := (((HO3.out.setC (addN s.count 1)).setS (addN s.sum v)).setMn (Min.min s.min v))
    have B := fun (n : Nat) (u : Value) (W : World) (h : (Blk W w.heap.size #[.int .i64 s.count, .int .i64 s.sum, .int .i64 s.min, .int .i64 s.max, .slice a1 n1 c1, .slice a2 n2 c2, .slice a3 n3 c3] 34 ∧ Blk W (w.heap.size + 1) #[.int .i64 0, .int .i64 0, .int .i64 0, .int .i64 0, .slice none 0 0, .slice none 0 0, .slice none 0 0] 34)) => (show (Blk (W.setCell ⟨w1.heap.size, n, none⟩ u) w.heap.size #[.int .i64 s.count, .int .i64 s.sum, .int .i64 s.min, .int .i64 s.max, .slice a1 n1 c1, .slice a2 n2 c2, .slice a3 n3 c3] 34 ∧ Blk (W.setCell ⟨w1.heap.size, n, none⟩ u) (w.heap.size + 1) #[.int .i64 0, .int .i64 0, .int .i64 0, .int .i64 0, .slice none 0 0, .slice none 0 0, .slice none 0 0] 34) from ⟨h.1.setOther ne' n u, h.2.setOther (by have := HO3.out.lw; have := HO3.out.ges; omega) n u⟩)
    by_cases za : s.count = 0
    · have zab : (s.count == 0) = true := by simpa using za
      clear za
      go_wp2
      go_meet
      case rel => exact ⟨v, R.setMn v, B _ _ _ (B _ _ _ (B _ _ _ (B _ _ _ HB3.out)))⟩
    · have zab : (s.count == 0) = false := by simpa using za
      clear za
      go_wp2
      go_meet
      case rel => exact ⟨Min.min s.min v, R, B _ _ _ (B _ _ _ (B _ _ _ HB3.out))⟩
  case rest =>
    obtain ⟨mq, hO, hB⟩ := hcut
    have HO5 : Hid (Out w W0.heap.size w1.heap.size (addN s.count 1) (addN s.sum v) mq s.max b1 o1 k1 b2 o2 k2 p po k3 b3 o3 j0 b4 o4 j1 l1 l2 x y wc) := hO
    have HB5 : Hid (Blk wc w.heap.size #[.int .i64 s.count, .int .i64 s.sum, .int .i64 s.min, .int .i64 s.max, .slice a1 n1 c1, .slice a2 n2 c2, .slice a3 n3 c3] 34 ∧ Blk wc (w.heap.size + 1) #[.int .i64 0, .int .i64 0, .int .i64 0, .int .i64 0, .slice none 0 0, .slice none 0 0, .slice none 0 0] 34) := hB
    clear hO hB x0 x1 x2 x3 g0 g1 g2 g3 f0 f1 f2 f3 HO3 HB3
    have x3 := HB5.out.1.cell 3
    have g3 := HO5.out.blk.cell 3
    have f3 := HO5.out.blk.frozen 3
    simp only [aT, aS, aZ] at x3 g3
    go_wp2_with fail
    refine (l1Max_any _ _ _).mono ?_
    rintro e w6 ⟨rfl, hw6⟩
    have hw6' := hw6.symm
    subst hw6'
    clear hw6
    go_wp2
    obtain ⟨W6, hW6⟩ : ∃ W6, W6 = wc.setCell ⟨w1.heap.size, 3, none⟩ (.int .i64 (max s.max v)) := ⟨_, rfl⟩
    have hO6 := HO5.out.setMx (max s.max v)
    rw [← hW6] at hO6 ⊢
    have HO6 : Hid (Out w W0.heap.size w1.heap.size (addN s.count 1) (addN s.sum v) mq (max s.max v) b1 o1 k1 b2 o2 k2 p po k3 b3 o3 j0 b4 o4 j1 l1 l2 x y W6) := hO6
    have HB6 : Hid (Blk W6 w.heap.size #[.int .i64 s.count, .int .i64 s.sum, .int .i64 s.min, .int .i64 s.max, .slice a1 n1 c1, .slice a2 n2 c2, .slice a3 n3 c3] 34 ∧ Blk W6 (w.heap.size + 1) #[.int .i64 0, .int .i64 0, .int .i64 0, .int .i64 0, .slice none 0 0, .slice none 0 0, .slice none 0 0] 34) := by rw [hW6]; exact ⟨HB5.out.1.setOther ne' _ _, HB5.out.2.setOther (by have := HO5.out.lw; have := HO5.out.ges; omega) _ _⟩
    clear hW6 hO6 HO5 HB5 x3 g3 f3
    obtain ⟨jb, hjb⟩ := Int.eq_ofNat_of_zero_le (bucketN_range v).1
    have hj8 : jb < 8 := by have := (bucketN_range v).2; omega
    have hj8i : (jb : Int) < 8 := by omega
    have HJ : Hid (bucketN v = (jb : Int)) := hjb
    clear hjb
    obtain ⟨e1, he1⟩ : ∃ e, e = l1.getD jb 0 := ⟨_, rfl⟩
    have cc1 : W6.drew.cell? ⟨b1, o1 + jb, none⟩ = some (.int .i64 e1) := by rw [he1]; exact HO6.out.drew.hist.at jb hj8
    have ff1 : W6.drew.frozen? ⟨b1, o1 + jb, none⟩ = false := HO6.out.drew.own.free b1 (by simp) _
    have HS : Hid (Blk W6.drew w1.heap.size #[.int .i64 (addN s.count 1), .int .i64 (addN s.sum v), .int .i64 mq, .int .i64 (max s.max v), .slice (some ⟨b1, o1, none⟩) 8 k1, .slice (some ⟨b2, o2, none⟩) 8 k2, .slice (some ⟨p, po, none⟩) 2 k3] 34) := HO6.out.drew.blk
    clear he1
    refine wp_region_held (S := fun W => Blk W w1.heap.size #[.int .i64 (addN s.count 1), .int .i64 (addN s.sum v), .int .i64 mq, .int .i64 (max s.max v), .slice (some ⟨b1, o1, none⟩) 8 k1, .slice (some ⟨b2, o2, none⟩) 8 k2, .slice (some ⟨p, po, none⟩) 2 k3] 34) (by kernel_rfl) ?_
    change wpAnyH _ _ _ _ _ _ _ _ (World.drew _)
    refine takeH (o := ?o1) 0 (.pointer (some ⟨w1.heap.size, 4, none⟩)) ?h1 ?r1
    case h1 => simp only [aT, aZ]; rfl
    refine ⟨_, by simp [Act.put]; rfl, by kernel_rfl, by kernel_rfl, by kernel_rfl, fun _ _ _ h => h, (.inl ⟨rfl, fun W _ => by go_simp⟩), HS.out, ?_⟩
    refine takeH (o := ?o2) 1 (.slice (some ⟨b1, o1, none⟩) 8 k1) ?h2 ?r2
    case h2 => simp only [aT, aS, aZ]; rfl
    refine ⟨_, by simp [Act.put]; rfl, by kernel_rfl, by kernel_rfl, by kernel_rfl, fun _ _ _ h => h, (.inl ⟨rfl, fun W hW => by have c := Blk.cell hW 4; simp only [aT, aS, aZ] at c; go_simp⟩), HS.out, ?_⟩
    refine takeH (o := ?o3) 2 (.int .i64 v) ?h3 ?r3
    case h3 => simp only [aT, aS, aZ]; rfl
    refine ⟨_, by simp [Act.put]; rfl, by kernel_rfl, by kernel_rfl, by kernel_rfl, fun _ _ _ h => h, (.inl ⟨rfl, fun W _ => by go_simp⟩), HS.out, ?_⟩
    refine takeH (o := ?o4) 4 (.pointer (some ⟨w1.heap.size, 4, none⟩)) ?h4 ?r4
    case h4 => simp only [aT, aS, aZ]; rfl
    refine ⟨_, by simp [Act.put]; rfl, by kernel_rfl, by kernel_rfl, by kernel_rfl, fun _ _ _ h => h, (.inl ⟨rfl, fun W _ => by go_simp⟩), HS.out, ?_⟩
    refine takeH (o := ?o5) 5 (.slice (some ⟨b1, o1, none⟩) 8 k1) ?h5 ?r5
    case h5 => simp only [aT, aS, aZ]; rfl
    refine ⟨_, by simp [Act.put]; rfl, by kernel_rfl, by kernel_rfl, by kernel_rfl, fun _ _ _ h => h, (.inl ⟨rfl, fun W hW => by have c := Blk.cell hW 4; simp only [aT, aS, aZ] at c; go_simp⟩), HS.out, ?_⟩
    refine takeH (o := ?o6) 6 (.int .i64 v) ?h6 ?r6
    case h6 => simp only [aT, aS, aZ]; rfl
    refine ⟨_, by simp [Act.put]; rfl, by kernel_rfl, by kernel_rfl, by kernel_rfl, fun _ _ _ h => h, (.inl ⟨rfl, fun W _ => by go_simp⟩), HS.out, ?_⟩
    refine onlyH (o := ?o7) 3 (by kernel_rfl) ?h7 ?r7
    case h7 => simp only [aT, aS, aZ]; rfl
    intro K hK
    refine op_call1 125 _ _ Try.f125 (fun u w' => u = .int .i64 jb ∧ w' = W6.drew) rfl rfl Try.func125 (by kernel_rfl) (by kernel_rfl) ((bucketSpec_any v W6.drew).mono (by rintro e w' ⟨rfl, rfl⟩; exact ⟨_, rfl, by rw [HJ.out], rfl⟩)) ?_
    rintro _ _ ⟨rfl, rfl⟩
    refine ⟨_, by simp [Act.put]; rfl, hK _ _ ⟨HS.out, ?_⟩⟩
    clear hK
    refine onlyH (o := ?o8) 7 (by kernel_rfl) ?h8 ?r8
    case h8 => simp only [aT, aS, aZ]; rfl
    intro K hK
    refine op_call1 125 _ _ Try.f125 (fun u w' => u = .int .i64 jb ∧ w' = W6.drew) rfl rfl Try.func125 (by kernel_rfl) (by kernel_rfl) ((bucketSpec_any v W6.drew).mono (by rintro e w' ⟨rfl, rfl⟩; exact ⟨_, rfl, by rw [HJ.out], rfl⟩)) ?_
    rintro _ _ ⟨rfl, rfl⟩
    refine ⟨_, by simp [Act.put]; rfl, hK _ _ ⟨HS.out, ?_⟩⟩
    clear hK
    refine takeH (o := ?o9) 8 (.pointer (some ⟨b1, o1 + jb, none⟩)) ?h9 ?r9
    case h9 => simp only [aT, aS, aZ]; rfl
    refine ⟨_, by simp [Act.put]; rfl, by kernel_rfl, by kernel_rfl, by kernel_rfl, fun _ _ _ h => h, (.inl ⟨rfl, fun W _ => by go_simp⟩), HS.out, ?_⟩
    refine onlyH (o := ?o10) 9 (by kernel_rfl) ?h10 ?r10
    case h10 => simp only [aT, aS, aZ]; rfl
    intro K hK
    refine op_value (.int .i64 e1) rfl (by go_simp) ⟨_, by simp [Act.put]; rfl, hK _ _ ⟨HS.out, ?_⟩⟩
    clear hK
    refine onlyH (o := ?o11) 10 (by kernel_rfl) ?h11 ?r11
    case h11 => simp only [aT, aS, aZ]; rfl
    intro K hK
    refine op_call2 124 _ _ _ Try.f124 (fun w' => w' = W6.drew) (.int .i64 (addN e1 1)) rfl rfl Try.func124 (by kernel_rfl) (by kernel_rfl) (addSpec_any e1 1 _) ⟨_, by simp [Act.put]; rfl, ?_⟩
    rintro _ rfl
    refine hK _ _ ⟨HS.out, ?_⟩
    clear hK
    refine takeH (o := ?o12) 11 (.pointer (some ⟨b1, o1 + jb, none⟩)) ?h12 ?r12
    case h12 => simp only [aT, aS, aZ]; rfl
    refine ⟨_, by simp [Act.put]; rfl, by kernel_rfl, by kernel_rfl, by kernel_rfl, fun _ _ _ h => h, (.inl ⟨rfl, fun W _ => by go_simp⟩), HS.out, ?_⟩
    refine onlyH (o := ?o13) 12 (by kernel_rfl) ?h13 ?r13
    case h13 => simp only [aT, aS, aZ]; rfl
    intro K hK
    have hO7 := HO6.out.drew.setHist jb hj8 (addN e1 1)
    refine op_skip (W6.drew.setCell ⟨b1, o1 + jb, none⟩ (.int .i64 (addN e1 1))) rfl (by go_simp) ⟨_, by simp [Act.put]; rfl, hK _ _ ⟨hO7.blk, ?_⟩⟩
    have HO7 : Hid (Out w W0.heap.size w1.heap.size (addN s.count 1) (addN s.sum v) mq (max s.max v) b1 o1 k1 b2 o2 k2 p po k3 b3 o3 j0 b4 o4 j1 (l1.set jb (addN e1 1)) l2 x y (W6.drew.setCell ⟨b1, o1 + jb, none⟩ (.int .i64 (addN e1 1)))) := hO7
    have HB7 : Hid (Blk (W6.drew.setCell ⟨b1, o1 + jb, none⟩ (.int .i64 (addN e1 1))) w.heap.size #[.int .i64 s.count, .int .i64 s.sum, .int .i64 s.min, .int .i64 s.max, .slice a1 n1 c1, .slice a2 n2 c2, .slice a3 n3 c3] 34 ∧ Blk (W6.drew.setCell ⟨b1, o1 + jb, none⟩ (.int .i64 (addN e1 1))) (w.heap.size + 1) #[.int .i64 0, .int .i64 0, .int .i64 0, .int .i64 0, .slice none 0 0, .slice none 0 0, .slice none 0 0] 34) := ⟨HB6.out.1.drew.setOther (by have := HO6.out.lw; have := HO6.out.ges; omega) _ _, HB6.out.2.drew.setOther (by have := HO6.out.lw; have := HO6.out.ges; omega) _ _⟩
    clear hK hO7 cc1 ff1 HO6 HB6 HS
    refine wpAnyH_done (by kernel_rfl) ?_ _
    obtain ⟨W7, hW7⟩ : ∃ W7, W7 = W6.drew.setCell ⟨b1, o1 + jb, none⟩ (.int .i64 (addN e1 1)) := ⟨_, rfl⟩
    rw [← hW7] at HO7 HB7 ⊢
    clear hW7
    obtain ⟨m, hm⟩ := Int.eq_ofNat_of_zero_le (mixN_range v).1
    have hm1 : m < 65536 := by have := (mixN_range v).2; omega
    have HM : Hid (mixN v = (m : Int)) := hm
    clear hm
    go_wp2_with fail
    refine (mixSpec_any _ _).mono ?_
    rintro e w8 ⟨rfl, hw8⟩
    have hw8' := hw8.symm
    subst hw8'
    clear hw8
    rw [HM.out]
    go_upto_region 12 with fail
    obtain ⟨jr, hjr⟩ : ∃ jr, jr = m % 8 := ⟨_, rfl⟩
    have hr8 : jr < 8 := by omega
    have hr8i : (jr : Int) < 8 := by omega
    have hsl : ((m : Int) % 8) = (jr : Int) := by rw [hjr]; omega
    rw [hsl]
    clear hjr hsl
    go_cut [] (fun wx => ∃ L1 L2 X Y, (Out w W0.heap.size w1.heap.size (addN s.count 1) (addN s.sum v) mq (max s.max v) b1 o1 k1 b2 o2 k2 p po k3 b3 o3 j0 b4 o4 j1 L1 L2 X Y wx) ∧ (Blk wx w.heap.size #[.int .i64 s.count, .int .i64 s.sum, .int .i64 s.min, .int .i64 s.max, .slice a1 n1 c1, .slice a2 n2 c2, .slice a3 n3 c3] 34 ∧ Blk wx (w.heap.size + 1) #[.int .i64 0, .int .i64 0, .int .i64 0, .int .i64 0, .slice none 0 0, .slice none 0 0, .slice none 0 0] 34))
    case first =>
      obtain ⟨e2, he2⟩ : ∃ e, e = l2.getD jr 0 := ⟨_, rfl⟩
      have cc2 : W7.drew.cell? ⟨b2, o2 + jr, none⟩ = some (.int .i64 e2) := by rw [he2]; exact HO7.out.drew.regs.at jr hr8
      have ff2 : W7.drew.frozen? ⟨b2, o2 + jr, none⟩ = false := HO7.out.drew.own.free b2 (by simp) _
      have HS : Hid (Blk W7.drew w1.heap.size #[.int .i64 (addN s.count 1), .int .i64 (addN s.sum v), .int .i64 mq, .int .i64 (max s.max v), .slice (some ⟨b1, o1, none⟩) 8 k1, .slice (some ⟨b2, o2, none⟩) 8 k2, .slice (some ⟨p, po, none⟩) 2 k3] 34 ∧ True) := ⟨HO7.out.drew.blk, trivial⟩
      clear he2
      refine wp_region_held (S := fun W => Blk W w1.heap.size #[.int .i64 (addN s.count 1), .int .i64 (addN s.sum v), .int .i64 mq, .int .i64 (max s.max v), .slice (some ⟨b1, o1, none⟩) 8 k1, .slice (some ⟨b2, o2, none⟩) 8 k2, .slice (some ⟨p, po, none⟩) 2 k3] 34 ∧ True) (by kernel_rfl) ?_
      change wpAnyH _ _ _ _ _ _ _ _ (World.drew _)
      refine takeH (o := ?o401) 0 (.pointer (some ⟨w1.heap.size, 5, none⟩)) ?h401 ?r401
      case h401 => simp only [aT, aZ]; rfl
      refine ⟨_, by simp [Act.put]; rfl, by kernel_rfl, by kernel_rfl, by kernel_rfl, fun _ _ _ h => h, (.inl ⟨rfl, fun W _ => by go_simp⟩), HS.out, ?_⟩
      refine takeH (o := ?o402) 1 (.slice (some ⟨b2, o2, none⟩) 8 k2) ?h402 ?r402
      case h402 => simp only [aT, aS, aZ]; rfl
      refine ⟨_, by simp [Act.put]; rfl, by kernel_rfl, by kernel_rfl, by kernel_rfl, fun _ _ _ h => h, (.inl ⟨rfl, fun W hW => by have c := Blk.cell hW.1 5; simp only [aT, aS, aZ] at c; go_simp⟩), HS.out, ?_⟩
      refine takeH (o := ?o403) 2 (.int .i64 jr) ?h403 ?r403
      case h403 => simp only [aT, aS, aZ]; rfl
      refine ⟨_, by simp [Act.put]; rfl, by kernel_rfl, by kernel_rfl, by kernel_rfl, fun _ _ _ h => h, (.inl ⟨rfl, fun W _ => by go_simp⟩), HS.out, ?_⟩
      refine takeH (o := ?o404) 3 (.pointer (some ⟨w1.heap.size, 5, none⟩)) ?h404 ?r404
      case h404 => simp only [aT, aS, aZ]; rfl
      refine ⟨_, by simp [Act.put]; rfl, by kernel_rfl, by kernel_rfl, by kernel_rfl, fun _ _ _ h => h, (.inl ⟨rfl, fun W _ => by go_simp⟩), HS.out, ?_⟩
      refine takeH (o := ?o405) 4 (.slice (some ⟨b2, o2, none⟩) 8 k2) ?h405 ?r405
      case h405 => simp only [aT, aS, aZ]; rfl
      refine ⟨_, by simp [Act.put]; rfl, by kernel_rfl, by kernel_rfl, by kernel_rfl, fun _ _ _ h => h, (.inl ⟨rfl, fun W hW => by have c := Blk.cell hW.1 5; simp only [aT, aS, aZ] at c; go_simp⟩), HS.out, ?_⟩
      refine takeH (o := ?o406) 5 (.int .i64 jr) ?h406 ?r406
      case h406 => simp only [aT, aS, aZ]; rfl
      refine ⟨_, by simp [Act.put]; rfl, by kernel_rfl, by kernel_rfl, by kernel_rfl, fun _ _ _ h => h, (.inl ⟨rfl, fun W _ => by go_simp⟩), HS.out, ?_⟩
      refine takeH (o := ?o407) 6 (.pointer (some ⟨b2, o2 + jr, none⟩)) ?h407 ?r407
      case h407 => simp only [aT, aS, aZ]; rfl
      refine ⟨_, by simp [Act.put]; rfl, by kernel_rfl, by kernel_rfl, by kernel_rfl, fun _ _ _ h => h, (.inl ⟨rfl, fun W _ => by go_simp⟩), HS.out, ?_⟩
      refine takeH (o := ?o408) 8 (.int .i64 v) ?h408 ?r408
      case h408 => simp only [aT, aS, aZ]; rfl
      refine ⟨_, by simp [Act.put]; rfl, by kernel_rfl, by kernel_rfl, by kernel_rfl, fun _ _ _ h => h, (.inl ⟨rfl, fun W _ => by go_simp⟩), HS.out, ?_⟩
      refine twoH (o := ?o409) (o' := ?p409) 7 9 (by kernel_rfl) ?h409 ?g409 ?r409 ?s409
      case h409 => simp only [aT, aS, aZ]; rfl
      case g409 => simp only [aT, aS, aZ]; rfl
      case r409 =>
        intro K hK
        refine op_value (.int .i64 e2) rfl (by go_simp) ⟨_, by simp [Act.put]; rfl, hK _ _ ⟨HS.out, ?_⟩⟩
        clear hK
        refine onlyH (o := ?o410) 9 (by kernel_rfl) ?h410 ?r410
        case h410 => simp only [aT, aS, aZ]; rfl
        intro K hK
        refine op_call1 127 _ _ Try.f127 (fun u w' => u = .int .i64 (rankN v) ∧ w' = W7.drew) rfl rfl Try.func127 (by kernel_rfl) (by kernel_rfl) ((rankSpec_any v W7.drew).mono (by rintro e w' ⟨rfl, rfl⟩; exact ⟨_, rfl, rfl, rfl⟩)) ?_
        rintro _ _ ⟨rfl, rfl⟩
        refine ⟨_, by simp [Act.put]; rfl, hK _ _ ⟨HS.out, ?_⟩⟩
        clear hK
        refine onlyH (o := ?o411) 10 (by kernel_rfl) ?h411 ?r411
        case h411 => simp only [aT, aS, aZ]; rfl
        intro K hK
        refine op_call2 68 _ _ _ Try.f68 (fun w' => w' = W7.drew) (.int .i64 (max e2 (rankN v))) rfl rfl Try.func68 (by kernel_rfl) (by kernel_rfl) (l1Max_any e2 (rankN v) _) ⟨_, by simp [Act.put]; rfl, ?_⟩
        rintro _ rfl
        refine hK _ _ ⟨HS.out, ?_⟩
        clear hK
        refine takeH (o := ?o412) 11 (.pointer (some ⟨b2, o2 + jr, none⟩)) ?h412 ?r412
        case h412 => simp only [aT, aS, aZ]; rfl
        refine ⟨_, by simp [Act.put]; rfl, by kernel_rfl, by kernel_rfl, by kernel_rfl, fun _ _ _ h => h, (.inl ⟨rfl, fun W _ => by go_simp⟩), HS.out, ?_⟩
        refine onlyH (o := ?o413) 12 (by kernel_rfl) ?h413 ?r413
        case h413 => simp only [aT, aS, aZ]; rfl
        intro K hK
        have hO8 := HO7.out.drew.setRegs jr hr8 (max e2 (rankN v))
        refine op_skip (W7.drew.setCell ⟨b2, o2 + jr, none⟩ (.int .i64 (max e2 (rankN v)))) rfl (by go_simp) ⟨_, by simp [Act.put]; rfl, hK _ _ ⟨⟨hO8.blk, trivial⟩, ?_⟩⟩
        clear hK
        refine wpAnyH_done (by kernel_rfl) ?_ _
        go_wp2_with fail
        go_meet
        case rel => exact ⟨_, _, _, _, hO8, HB7.out.1.drew.setOther (by have := HO7.out.lw; have := HO7.out.ges; omega) _ _, HB7.out.2.drew.setOther (by have := HO7.out.lw; have := HO7.out.ges; omega) _ _⟩
      case s409 =>
        intro K hK
        refine op_call1 127 _ _ Try.f127 (fun u w' => u = .int .i64 (rankN v) ∧ w' = W7.drew) rfl rfl Try.func127 (by kernel_rfl) (by kernel_rfl) ((rankSpec_any v W7.drew).mono (by rintro e w' ⟨rfl, rfl⟩; exact ⟨_, rfl, rfl, rfl⟩)) ?_
        rintro _ _ ⟨rfl, rfl⟩
        refine ⟨_, by simp [Act.put]; rfl, hK _ _ ⟨HS.out, ?_⟩⟩
        clear hK
        refine onlyH (o := ?o414) 7 (by kernel_rfl) ?h414 ?r414
        case h414 => simp only [aT, aS, aZ]; rfl
        intro K hK
        refine op_value (.int .i64 e2) rfl (by go_simp) ⟨_, by simp [Act.put]; rfl, hK _ _ ⟨HS.out, ?_⟩⟩
        clear hK
        refine onlyH (o := ?o415) 10 (by kernel_rfl) ?h415 ?r415
        case h415 => simp only [aT, aS, aZ]; rfl
        intro K hK
        refine op_call2 68 _ _ _ Try.f68 (fun w' => w' = W7.drew) (.int .i64 (max e2 (rankN v))) rfl rfl Try.func68 (by kernel_rfl) (by kernel_rfl) (l1Max_any e2 (rankN v) _) ⟨_, by simp [Act.put]; rfl, ?_⟩
        rintro _ rfl
        refine hK _ _ ⟨HS.out, ?_⟩
        clear hK
        refine takeH (o := ?o416) 11 (.pointer (some ⟨b2, o2 + jr, none⟩)) ?h416 ?r416
        case h416 => simp only [aT, aS, aZ]; rfl
        refine ⟨_, by simp [Act.put]; rfl, by kernel_rfl, by kernel_rfl, by kernel_rfl, fun _ _ _ h => h, (.inl ⟨rfl, fun W _ => by go_simp⟩), HS.out, ?_⟩
        refine onlyH (o := ?o417) 12 (by kernel_rfl) ?h417 ?r417
        case h417 => simp only [aT, aS, aZ]; rfl
        intro K hK
        have hO8 := HO7.out.drew.setRegs jr hr8 (max e2 (rankN v))
        refine op_skip (W7.drew.setCell ⟨b2, o2 + jr, none⟩ (.int .i64 (max e2 (rankN v)))) rfl (by go_simp) ⟨_, by simp [Act.put]; rfl, hK _ _ ⟨⟨hO8.blk, trivial⟩, ?_⟩⟩
        clear hK
        refine wpAnyH_done (by kernel_rfl) ?_ _
        go_wp2_with fail
        go_meet
        case rel => exact ⟨_, _, _, _, hO8, HB7.out.1.drew.setOther (by have := HO7.out.lw; have := HO7.out.ges; omega) _ _, HB7.out.2.drew.setOther (by have := HO7.out.lw; have := HO7.out.ges; omega) _ _⟩
    case rest =>
      obtain ⟨L1, L2, X, Y, hO, hB⟩ := hcut
      have HO8 : Hid (Out w W0.heap.size w1.heap.size (addN s.count 1) (addN s.sum v) mq (max s.max v) b1 o1 k1 b2 o2 k2 p po k3 b3 o3 j0 b4 o4 j1 L1 L2 X Y wc) := hO
      have HB8 : Hid (Blk wc w.heap.size #[.int .i64 s.count, .int .i64 s.sum, .int .i64 s.min, .int .i64 s.max, .slice a1 n1 c1, .slice a2 n2 c2, .slice a3 n3 c3] 34 ∧ Blk wc (w.heap.size + 1) #[.int .i64 0, .int .i64 0, .int .i64 0, .int .i64 0, .slice none 0 0, .slice none 0 0, .slice none 0 0] 34) := hB
      clear hO hB HO7 HB7
      go_wp2
      refine wp_loop_rounds 3 ?_
      rw [rounds_succ]
      go_wp2_with fail
      refine (mixSpec_any _ _).mono ?_
      rintro e w9 ⟨rfl, hw9⟩
      have hw9' := hw9.symm
      subst hw9'
      clear hw9
      rw [HM.out]
      obtain ⟨jc0, hjc⟩ : ∃ jc, jc = (m + 0) % 4 := ⟨_, rfl⟩
      have h40 : jc0 < 4 := by omega
      have h4i0 : (jc0 : Int) < 4 := by omega
      have hsl0 : ((m : Int) % 4) = (jc0 : Int) := by rw [hjc]; omega
      clear hjc
      go_wp2
      rw [hsl0]
      clear hsl0
      obtain ⟨e0r, her⟩ : ∃ e, e = X.getD jc0 0 := ⟨_, rfl⟩
      have ccr : wc.drew.cell? ⟨b3, o3 + jc0, none⟩ = some (.int .i64 e0r) := by rw [her]; exact HO8.out.drew.row0.at jc0 h40
      have ffr : wc.drew.frozen? ⟨b3, o3 + jc0, none⟩ = false := HO8.out.drew.own.free b3 (by simp) _
      have HS : Hid ((fun W => Blk W w1.heap.size #[.int .i64 (addN s.count 1), .int .i64 (addN s.sum v), .int .i64 mq, .int .i64 (max s.max v), .slice (some ⟨b1, o1, none⟩) 8 k1, .slice (some ⟨b2, o2, none⟩) 8 k2, .slice (some ⟨p, po, none⟩) 2 k3] 34 ∧ W.cell? ⟨p, po, none⟩ = some (.slice (some ⟨b3, o3, none⟩) 4 j0) ∧ W.cell? ⟨p, po + 1, none⟩ = some (.slice (some ⟨b4, o4, none⟩) 4 j1)) wc.drew) := ⟨HO8.out.drew.blk, HO8.out.drew.c0, HO8.out.drew.c1⟩
      clear her
      refine wp_region_held (S := fun W => Blk W w1.heap.size #[.int .i64 (addN s.count 1), .int .i64 (addN s.sum v), .int .i64 mq, .int .i64 (max s.max v), .slice (some ⟨b1, o1, none⟩) 8 k1, .slice (some ⟨b2, o2, none⟩) 8 k2, .slice (some ⟨p, po, none⟩) 2 k3] 34 ∧ W.cell? ⟨p, po, none⟩ = some (.slice (some ⟨b3, o3, none⟩) 4 j0) ∧ W.cell? ⟨p, po + 1, none⟩ = some (.slice (some ⟨b4, o4, none⟩) 4 j1)) (by kernel_rfl) ?_
      change wpAnyH _ _ _ _ _ _ _ _ (World.drew _)
      refine takeH (o := ?o801) 0 (.pointer (some ⟨w1.heap.size, 6, none⟩)) ?h801 ?r801
      case h801 => simp only [aT, aZ]; rfl
      refine ⟨_, by simp [Act.put]; rfl, by kernel_rfl, by kernel_rfl, by kernel_rfl, fun _ _ _ h => h, (.inl ⟨rfl, fun W _ => by go_simp⟩), HS.out, ?_⟩
      refine takeH (o := ?o802) 1 (.slice (some ⟨p, po, none⟩) 2 k3) ?h802 ?r802
      case h802 => simp only [aT, aS, aZ]; rfl
      refine ⟨_, by simp [Act.put]; rfl, by kernel_rfl, by kernel_rfl, by kernel_rfl, fun _ _ _ h => h, (.inl ⟨rfl, fun W hW => by have c := Blk.cell hW.1 6; simp only [aT, aS, aZ] at c; go_simp⟩), HS.out, ?_⟩
      refine takeH (o := ?o803) 2 (.int .i64 0) ?h803 ?r803
      case h803 => simp only [aT, aS, aZ]; rfl
      refine ⟨_, by simp [Act.put]; rfl, by kernel_rfl, by kernel_rfl, by kernel_rfl, fun _ _ _ h => h, (.inl ⟨rfl, fun W _ => by go_simp⟩), HS.out, ?_⟩
      refine takeH (o := ?o804) 3 (.pointer (some ⟨p, po, none⟩)) ?h804 ?r804
      case h804 => simp only [aT, aS, aZ]; rfl
      refine ⟨_, by simp [Act.put]; rfl, by kernel_rfl, by kernel_rfl, by kernel_rfl, fun _ _ _ h => h, (.inl ⟨rfl, fun W _ => by go_simp⟩), HS.out, ?_⟩
      refine takeH (o := ?o805) 4 (.slice (some ⟨b3, o3, none⟩) 4 j0) ?h805 ?r805
      case h805 => simp only [aT, aS, aZ]; rfl
      refine ⟨_, by simp [Act.put]; rfl, by kernel_rfl, by kernel_rfl, by kernel_rfl, fun _ _ _ h => h, (.inl ⟨rfl, fun W hW => by have c := hW.2.1; go_simp⟩), HS.out, ?_⟩
      refine takeH (o := ?o806) 5 (.int .i64 jc0) ?h806 ?r806
      case h806 => simp only [aT, aS, aZ]; rfl
      refine ⟨_, by simp [Act.put]; rfl, by kernel_rfl, by kernel_rfl, by kernel_rfl, fun _ _ _ h => h, (.inl ⟨rfl, fun W _ => by go_simp⟩), HS.out, ?_⟩
      refine takeH (o := ?o807) 6 (.pointer (some ⟨w1.heap.size, 6, none⟩)) ?h807 ?r807
      case h807 => simp only [aT, aS, aZ]; rfl
      refine ⟨_, by simp [Act.put]; rfl, by kernel_rfl, by kernel_rfl, by kernel_rfl, fun _ _ _ h => h, (.inl ⟨rfl, fun W _ => by go_simp⟩), HS.out, ?_⟩
      refine takeH (o := ?o808) 7 (.slice (some ⟨p, po, none⟩) 2 k3) ?h808 ?r808
      case h808 => simp only [aT, aS, aZ]; rfl
      refine ⟨_, by simp [Act.put]; rfl, by kernel_rfl, by kernel_rfl, by kernel_rfl, fun _ _ _ h => h, (.inl ⟨rfl, fun W hW => by have c := Blk.cell hW.1 6; simp only [aT, aS, aZ] at c; go_simp⟩), HS.out, ?_⟩
      refine takeH (o := ?o809) 8 (.int .i64 0) ?h809 ?r809
      case h809 => simp only [aT, aS, aZ]; rfl
      refine ⟨_, by simp [Act.put]; rfl, by kernel_rfl, by kernel_rfl, by kernel_rfl, fun _ _ _ h => h, (.inl ⟨rfl, fun W _ => by go_simp⟩), HS.out, ?_⟩
      refine takeH (o := ?o810) 9 (.pointer (some ⟨p, po, none⟩)) ?h810 ?r810
      case h810 => simp only [aT, aS, aZ]; rfl
      refine ⟨_, by simp [Act.put]; rfl, by kernel_rfl, by kernel_rfl, by kernel_rfl, fun _ _ _ h => h, (.inl ⟨rfl, fun W _ => by go_simp⟩), HS.out, ?_⟩
      refine takeH (o := ?o811) 10 (.slice (some ⟨b3, o3, none⟩) 4 j0) ?h811 ?r811
      case h811 => simp only [aT, aS, aZ]; rfl
      refine ⟨_, by simp [Act.put]; rfl, by kernel_rfl, by kernel_rfl, by kernel_rfl, fun _ _ _ h => h, (.inl ⟨rfl, fun W hW => by have c := hW.2.1; go_simp⟩), HS.out, ?_⟩
      refine takeH (o := ?o812) 11 (.int .i64 jc0) ?h812 ?r812
      case h812 => simp only [aT, aS, aZ]; rfl
      refine ⟨_, by simp [Act.put]; rfl, by kernel_rfl, by kernel_rfl, by kernel_rfl, fun _ _ _ h => h, (.inl ⟨rfl, fun W _ => by go_simp⟩), HS.out, ?_⟩
      refine takeH (o := ?o813) 12 (.pointer (some ⟨b3, o3 + jc0, none⟩)) ?h813 ?r813
      case h813 => simp only [aT, aS, aZ]; rfl
      refine ⟨_, by simp [Act.put]; rfl, by kernel_rfl, by kernel_rfl, by kernel_rfl, fun _ _ _ h => h, (.inl ⟨rfl, fun W _ => by go_simp⟩), HS.out, ?_⟩
      refine onlyH (o := ?o814) 13 (by kernel_rfl) ?h814 ?r814
      case h814 => simp only [aT, aS, aZ]; rfl
      intro K hK
      refine op_value (.int .i64 e0r) rfl (by go_simp) ⟨_, by simp [Act.put]; rfl, hK _ _ ⟨HS.out, ?_⟩⟩
      clear hK
      refine onlyH (o := ?o815) 14 (by kernel_rfl) ?h815 ?r815
      case h815 => simp only [aT, aS, aZ]; rfl
      intro K hK
      refine op_call2 124 _ _ _ Try.f124 (fun w' => w' = wc.drew) (.int .i64 (addN e0r 1)) rfl rfl Try.func124 (by kernel_rfl) (by kernel_rfl) (addSpec_any e0r 1 _) ⟨_, by simp [Act.put]; rfl, ?_⟩
      rintro _ rfl
      refine hK _ _ ⟨HS.out, ?_⟩
      clear hK
      refine takeH (o := ?o816) 15 (.pointer (some ⟨b3, o3 + jc0, none⟩)) ?h816 ?r816
      case h816 => simp only [aT, aS, aZ]; rfl
      refine ⟨_, by simp [Act.put]; rfl, by kernel_rfl, by kernel_rfl, by kernel_rfl, fun _ _ _ h => h, (.inl ⟨rfl, fun W _ => by go_simp⟩), HS.out, ?_⟩
      refine onlyH (o := ?o817) 16 (by kernel_rfl) ?h817 ?r817
      case h817 => simp only [aT, aS, aZ]; rfl
      intro K hK
      have hOn := HO8.out.drew.setRow0 jc0 h40 (addN e0r 1)
      refine op_skip (wc.drew.setCell ⟨b3, o3 + jc0, none⟩ (.int .i64 (addN e0r 1))) rfl (by go_simp) ⟨_, by simp [Act.put]; rfl, hK _ _ ⟨⟨hOn.blk, hOn.c0, hOn.c1⟩, ?_⟩⟩
      obtain ⟨Wa, hWn⟩ : ∃ W, W = wc.drew.setCell ⟨b3, o3 + jc0, none⟩ (.int .i64 (addN e0r 1)) := ⟨_, rfl⟩
      have hBn : (Blk Wa w.heap.size #[.int .i64 s.count, .int .i64 s.sum, .int .i64 s.min, .int .i64 s.max, .slice a1 n1 c1, .slice a2 n2 c2, .slice a3 n3 c3] 34 ∧ Blk Wa (w.heap.size + 1) #[.int .i64 0, .int .i64 0, .int .i64 0, .int .i64 0, .slice none 0 0, .slice none 0 0, .slice none 0 0] 34) := by rw [hWn]; exact ⟨HB8.out.1.drew.setOther (by have := HO8.out.lw; have := HO8.out.ges; omega) _ _, HB8.out.2.drew.setOther (by have := HO8.out.lw; have := HO8.out.ges; omega) _ _⟩
      rw [← hWn] at hOn ⊢
      have HO9 : Hid (_) := hOn
      have HB9 : Hid (_ ∧ _) := hBn
      clear hK hWn hOn hBn ccr ffr HS HO8 HB8
      refine wpAnyH_done (by kernel_rfl) ?_ _
      go_wp2_with fail
      rw [rounds_succ]
      go_wp2_with fail
      refine (mixSpec_any _ _).mono ?_
      rintro e w9 ⟨rfl, hw9⟩
      have hw9' := hw9.symm
      subst hw9'
      clear hw9
      rw [HM.out]
      obtain ⟨jc1, hjc⟩ : ∃ jc, jc = (m + 1) % 4 := ⟨_, rfl⟩
      have h41 : jc1 < 4 := by omega
      have h4i1 : (jc1 : Int) < 4 := by omega
      have hsl1 : (((m : Int) + 1) % 4) = (jc1 : Int) := by rw [hjc]; omega
      clear hjc
      go_wp2
      rw [hsl1]
      clear hsl1
      obtain ⟨e1r, her⟩ : ∃ e, e = Y.getD jc1 0 := ⟨_, rfl⟩
      have ccr : Wa.drew.cell? ⟨b4, o4 + jc1, none⟩ = some (.int .i64 e1r) := by rw [her]; exact HO9.out.drew.row1.at jc1 h41
      have ffr : Wa.drew.frozen? ⟨b4, o4 + jc1, none⟩ = false := HO9.out.drew.own.free b4 (by simp) _
      have HS : Hid ((fun W => Blk W w1.heap.size #[.int .i64 (addN s.count 1), .int .i64 (addN s.sum v), .int .i64 mq, .int .i64 (max s.max v), .slice (some ⟨b1, o1, none⟩) 8 k1, .slice (some ⟨b2, o2, none⟩) 8 k2, .slice (some ⟨p, po, none⟩) 2 k3] 34 ∧ W.cell? ⟨p, po, none⟩ = some (.slice (some ⟨b3, o3, none⟩) 4 j0) ∧ W.cell? ⟨p, po + 1, none⟩ = some (.slice (some ⟨b4, o4, none⟩) 4 j1)) Wa.drew) := ⟨HO9.out.drew.blk, HO9.out.drew.c0, HO9.out.drew.c1⟩
      clear her
      refine wp_region_held (S := fun W => Blk W w1.heap.size #[.int .i64 (addN s.count 1), .int .i64 (addN s.sum v), .int .i64 mq, .int .i64 (max s.max v), .slice (some ⟨b1, o1, none⟩) 8 k1, .slice (some ⟨b2, o2, none⟩) 8 k2, .slice (some ⟨p, po, none⟩) 2 k3] 34 ∧ W.cell? ⟨p, po, none⟩ = some (.slice (some ⟨b3, o3, none⟩) 4 j0) ∧ W.cell? ⟨p, po + 1, none⟩ = some (.slice (some ⟨b4, o4, none⟩) 4 j1)) (by kernel_rfl) ?_
      change wpAnyH _ _ _ _ _ _ _ _ (World.drew _)
      refine takeH (o := ?o818) 0 (.pointer (some ⟨w1.heap.size, 6, none⟩)) ?h818 ?r818
      case h818 => simp only [aT, aZ]; rfl
      refine ⟨_, by simp [Act.put]; rfl, by kernel_rfl, by kernel_rfl, by kernel_rfl, fun _ _ _ h => h, (.inl ⟨rfl, fun W _ => by go_simp⟩), HS.out, ?_⟩
      refine takeH (o := ?o819) 1 (.slice (some ⟨p, po, none⟩) 2 k3) ?h819 ?r819
      case h819 => simp only [aT, aS, aZ]; rfl
      refine ⟨_, by simp [Act.put]; rfl, by kernel_rfl, by kernel_rfl, by kernel_rfl, fun _ _ _ h => h, (.inl ⟨rfl, fun W hW => by have c := Blk.cell hW.1 6; simp only [aT, aS, aZ] at c; go_simp⟩), HS.out, ?_⟩
      refine takeH (o := ?o820) 2 (.int .i64 1) ?h820 ?r820
      case h820 => simp only [aT, aS, aZ]; rfl
      refine ⟨_, by simp [Act.put]; rfl, by kernel_rfl, by kernel_rfl, by kernel_rfl, fun _ _ _ h => h, (.inl ⟨rfl, fun W _ => by go_simp⟩), HS.out, ?_⟩
      refine takeH (o := ?o821) 3 (.pointer (some ⟨p, po + 1, none⟩)) ?h821 ?r821
      case h821 => simp only [aT, aS, aZ]; rfl
      refine ⟨_, by simp [Act.put]; rfl, by kernel_rfl, by kernel_rfl, by kernel_rfl, fun _ _ _ h => h, (.inl ⟨rfl, fun W _ => by go_simp⟩), HS.out, ?_⟩
      refine takeH (o := ?o822) 4 (.slice (some ⟨b4, o4, none⟩) 4 j1) ?h822 ?r822
      case h822 => simp only [aT, aS, aZ]; rfl
      refine ⟨_, by simp [Act.put]; rfl, by kernel_rfl, by kernel_rfl, by kernel_rfl, fun _ _ _ h => h, (.inl ⟨rfl, fun W hW => by have c := hW.2.2; go_simp⟩), HS.out, ?_⟩
      refine takeH (o := ?o823) 5 (.int .i64 jc1) ?h823 ?r823
      case h823 => simp only [aT, aS, aZ]; rfl
      refine ⟨_, by simp [Act.put]; rfl, by kernel_rfl, by kernel_rfl, by kernel_rfl, fun _ _ _ h => h, (.inl ⟨rfl, fun W _ => by go_simp⟩), HS.out, ?_⟩
      refine takeH (o := ?o824) 6 (.pointer (some ⟨w1.heap.size, 6, none⟩)) ?h824 ?r824
      case h824 => simp only [aT, aS, aZ]; rfl
      refine ⟨_, by simp [Act.put]; rfl, by kernel_rfl, by kernel_rfl, by kernel_rfl, fun _ _ _ h => h, (.inl ⟨rfl, fun W _ => by go_simp⟩), HS.out, ?_⟩
      refine takeH (o := ?o825) 7 (.slice (some ⟨p, po, none⟩) 2 k3) ?h825 ?r825
      case h825 => simp only [aT, aS, aZ]; rfl
      refine ⟨_, by simp [Act.put]; rfl, by kernel_rfl, by kernel_rfl, by kernel_rfl, fun _ _ _ h => h, (.inl ⟨rfl, fun W hW => by have c := Blk.cell hW.1 6; simp only [aT, aS, aZ] at c; go_simp⟩), HS.out, ?_⟩
      refine takeH (o := ?o826) 8 (.int .i64 1) ?h826 ?r826
      case h826 => simp only [aT, aS, aZ]; rfl
      refine ⟨_, by simp [Act.put]; rfl, by kernel_rfl, by kernel_rfl, by kernel_rfl, fun _ _ _ h => h, (.inl ⟨rfl, fun W _ => by go_simp⟩), HS.out, ?_⟩
      refine takeH (o := ?o827) 9 (.pointer (some ⟨p, po + 1, none⟩)) ?h827 ?r827
      case h827 => simp only [aT, aS, aZ]; rfl
      refine ⟨_, by simp [Act.put]; rfl, by kernel_rfl, by kernel_rfl, by kernel_rfl, fun _ _ _ h => h, (.inl ⟨rfl, fun W _ => by go_simp⟩), HS.out, ?_⟩
      refine takeH (o := ?o828) 10 (.slice (some ⟨b4, o4, none⟩) 4 j1) ?h828 ?r828
      case h828 => simp only [aT, aS, aZ]; rfl
      refine ⟨_, by simp [Act.put]; rfl, by kernel_rfl, by kernel_rfl, by kernel_rfl, fun _ _ _ h => h, (.inl ⟨rfl, fun W hW => by have c := hW.2.2; go_simp⟩), HS.out, ?_⟩
      refine takeH (o := ?o829) 11 (.int .i64 jc1) ?h829 ?r829
      case h829 => simp only [aT, aS, aZ]; rfl
      refine ⟨_, by simp [Act.put]; rfl, by kernel_rfl, by kernel_rfl, by kernel_rfl, fun _ _ _ h => h, (.inl ⟨rfl, fun W _ => by go_simp⟩), HS.out, ?_⟩
      refine takeH (o := ?o830) 12 (.pointer (some ⟨b4, o4 + jc1, none⟩)) ?h830 ?r830
      case h830 => simp only [aT, aS, aZ]; rfl
      refine ⟨_, by simp [Act.put]; rfl, by kernel_rfl, by kernel_rfl, by kernel_rfl, fun _ _ _ h => h, (.inl ⟨rfl, fun W _ => by go_simp⟩), HS.out, ?_⟩
      refine onlyH (o := ?o831) 13 (by kernel_rfl) ?h831 ?r831
      case h831 => simp only [aT, aS, aZ]; rfl
      intro K hK
      refine op_value (.int .i64 e1r) rfl (by go_simp) ⟨_, by simp [Act.put]; rfl, hK _ _ ⟨HS.out, ?_⟩⟩
      clear hK
      refine onlyH (o := ?o832) 14 (by kernel_rfl) ?h832 ?r832
      case h832 => simp only [aT, aS, aZ]; rfl
      intro K hK
      refine op_call2 124 _ _ _ Try.f124 (fun w' => w' = Wa.drew) (.int .i64 (addN e1r 1)) rfl rfl Try.func124 (by kernel_rfl) (by kernel_rfl) (addSpec_any e1r 1 _) ⟨_, by simp [Act.put]; rfl, ?_⟩
      rintro _ rfl
      refine hK _ _ ⟨HS.out, ?_⟩
      clear hK
      refine takeH (o := ?o833) 15 (.pointer (some ⟨b4, o4 + jc1, none⟩)) ?h833 ?r833
      case h833 => simp only [aT, aS, aZ]; rfl
      refine ⟨_, by simp [Act.put]; rfl, by kernel_rfl, by kernel_rfl, by kernel_rfl, fun _ _ _ h => h, (.inl ⟨rfl, fun W _ => by go_simp⟩), HS.out, ?_⟩
      refine onlyH (o := ?o834) 16 (by kernel_rfl) ?h834 ?r834
      case h834 => simp only [aT, aS, aZ]; rfl
      intro K hK
      have hOn := HO9.out.drew.setRow1 jc1 h41 (addN e1r 1)
      refine op_skip (Wa.drew.setCell ⟨b4, o4 + jc1, none⟩ (.int .i64 (addN e1r 1))) rfl (by go_simp) ⟨_, by simp [Act.put]; rfl, hK _ _ ⟨⟨hOn.blk, hOn.c0, hOn.c1⟩, ?_⟩⟩
      obtain ⟨Wb, hWn⟩ : ∃ W, W = Wa.drew.setCell ⟨b4, o4 + jc1, none⟩ (.int .i64 (addN e1r 1)) := ⟨_, rfl⟩
      have hBn : (Blk Wb w.heap.size #[.int .i64 s.count, .int .i64 s.sum, .int .i64 s.min, .int .i64 s.max, .slice a1 n1 c1, .slice a2 n2 c2, .slice a3 n3 c3] 34 ∧ Blk Wb (w.heap.size + 1) #[.int .i64 0, .int .i64 0, .int .i64 0, .int .i64 0, .slice none 0 0, .slice none 0 0, .slice none 0 0] 34) := by rw [hWn]; exact ⟨HB9.out.1.drew.setOther (by have := HO9.out.lw; have := HO9.out.ges; omega) _ _, HB9.out.2.drew.setOther (by have := HO9.out.lw; have := HO9.out.ges; omega) _ _⟩
      rw [← hWn] at hOn ⊢
      have HO10 : Hid (_) := hOn
      have HB10 : Hid (_ ∧ _) := hBn
      clear hK hWn hOn hBn ccr ffr HS HO9 HB9
      refine wpAnyH_done (by kernel_rfl) ?_ _
      go_wp2_with fail
      rw [rounds_succ]
      go_wp2_with (first | go_skip | (with_reducible refine stopLoad 34 rfl ?_) | (with_reducible refine stopStore 34 rfl ?_))
      refine load_any 34 w1.heap.size _ 34 _ HO10.out.blk rfl rfl rfl Try.underlying34 rfl (by kernel_rfl) ?_
      go_wp2_with (first | go_skip | (with_reducible refine stopLoad 34 rfl ?_) | (with_reducible refine stopStore 34 rfl ?_))
      refine store_known 34 (w.heap.size + 1) _ _ 34 HB10.out.2 rfl rfl rfl rfl (by kernel_rfl) rfl (by kernel_rfl) ?_
      go_wp2
      refine bodyPost_ret (results_row_tmp Try.results122 _ _ (w.heap.size + 1) _ _ _ _ rfl HB10.out.2.setRow Try.underlying34 rfl (by kernel_rfl)) rfl ?_
      exact newShaped_of HO10.out
end Go.Proofs.Ytgkbhhlkaifnoaa
/- The walk through the model's SketchNew. No statement of the seat is proved here. -/
namespace Go.Proofs.Ytgkbhhlkaifnoaa
open Go.RowKit
def Sk.new : Sk := ⟨0, 0, 0, 0, [0, 0, 0, 0, 0, 0, 0, 0], [0, 0, 0, 0, 0, 0, 0, 0], [[0, 0, 0, 0], [0, 0, 0, 0]]⟩
theorem rdI_blk {W : World} {g n : Nat} {cs : Array Value} {t : TypeId} {zs : List Int} (h : Blk W g cs t) (hc : cs.toList = zs.map (Value.int .i64)) (hn : zs.length = n) (hp : 0 < n) : RdI W (some ⟨g, 0, none⟩) n zs [g] := by
  refine ⟨hn, .inr ⟨g, 0, hp, rfl, rfl, fun i hi => ?_⟩⟩
  rw [Nat.zero_add, h.cell i, ← Array.getElem?_toList, hc, List.getElem?_map, List.getElem?_eq_getElem (by omega)]
  simp [List.getElem?_eq_getElem (show i < zs.length by omega)]
/-- A new summary, and what lies behind its lists. -/
def NewSkX (w : World) (t : TypeId) (e : Ending) (W : World) : Prop := ∃ v F g1 x5 g5 z8, e = .returned v ∧ v = .agg #[.int .i64 0, .int .i64 0, .int .i64 0, .int .i64 0, .slice (some ⟨g1, 0, none⟩) 8 8, x5, .slice (some ⟨g5, 0, none⟩) 2 2] ∧ RdSk W v Sk.new F ∧ Own w.heap.size W F ∧ Below w.heap.size w W ∧ g1 ∈ F ∧ Blk W g1 z8 t ∧ z8.size = 8
theorem NewSkX.sk {w W : World} {t : TypeId} {e : Ending} (h : NewSkX w t e W) : NewSk w Sk.new e W := by
  obtain ⟨v, F, _, _, _, _, h1, _, h2, h3, h4, _⟩ := h
  exact ⟨v, F, h1, h2, h3, h4⟩
theorem newSk_close {w W : World} {g1 g2 g3 g4 g5 : Nat} {z8 z4 : Array Value} {t t' : TypeId} (b1 : Blk W g1 z8 t) (b2 : Blk W g2 z8 t) (b5 : Blk W g5 #[.slice (some ⟨g3, 0, none⟩) 4 4, .slice (some ⟨g4, 0, none⟩) 4 4] t') (b3 : Blk W g3 z4 t) (b4 : Blk W g4 z4 t)
    (hz8 : z8 = madeCells #[.int .i64 0] 8) (hz4 : z4 = madeCells #[.int .i64 0] 4)
    (hn : g1 ≠ g2 ∧ g1 ≠ g3 ∧ g1 ≠ g4 ∧ g1 ≠ g5 ∧ g2 ≠ g3 ∧ g2 ≠ g4 ∧ g2 ≠ g5 ∧ g3 ≠ g4 ∧ g3 ≠ g5 ∧ g4 ≠ g5) (hge : w.heap.size ≤ g1 ∧ w.heap.size ≤ g2 ∧ w.heap.size ≤ g3 ∧ w.heap.size ≤ g4 ∧ w.heap.size ≤ g5) (hb : Below w.heap.size w W) :
    NewSkX w t (.returned (.agg #[.int .i64 0, .int .i64 0, .int .i64 0, .int .i64 0, .slice (some ⟨g1, 0, none⟩) 8 8, .slice (some ⟨g2, 0, none⟩) 8 8, .slice (some ⟨g5, 0, none⟩) 2 2])) W := by
  have e8 : z8.toList = ([0, 0, 0, 0, 0, 0, 0, 0] : List Int).map (Value.int .i64) := by rw [hz8]; kernel_rfl
  have e4 : z4.toList = ([0, 0, 0, 0] : List Int).map (Value.int .i64) := by rw [hz4]; kernel_rfl
  have es : z8.size = 8 := by have := congrArg List.length e8; simpa using this
  refine ⟨_, [g1] ++ ([g2] ++ [g5, g3, g4]), g1, _, g5, z8, rfl, rfl, ⟨_, 8, 8, _, 8, 8, _, 2, 2, [g1], [g2], [g5, g3, g4], rfl, rdI_blk b1 e8 rfl (by omega), rdI_blk b2 e8 rfl (by omega), ⟨rfl, .inr ⟨g5, 0, [g3, g4], by omega, rfl, rfl, ?_⟩⟩, rfl⟩, ⟨?_, ?_, ?_⟩, hb, by simp, b1, es⟩
  · show RdM W [ints [0, 0, 0, 0], ints [0, 0, 0, 0]] g5 0 [g3, g4]
    rw [RdM]
    refine ⟨_, [g3], [g4], by rw [b5.cell 0]; rfl, rd_ints.2 ⟨_, 4, 4, rfl, rdI_blk b3 e4 rfl (by omega)⟩, ?_, rfl⟩
    rw [RdM]
    exact ⟨_, [g4], [], by rw [b5.cell 1]; rfl, rd_ints.2 ⟨_, 4, 4, rfl, rdI_blk b4 e4 rfl (by omega)⟩, by simp [RdM], rfl⟩
  · simp
    omega
  · intro b hx o
    simp at hx
    rcases hx with rfl | rfl | rfl | rfl | rfl
    · exact b1.frozen o
    · exact b2.frozen o
    · exact b5.frozen o
    · exact b3.frozen o
    · exact b4.frozen o
  · intro b hx
    simp at hx
    omega
theorem newSk_close2 {w W : World} {g1 g2 g5 : Nat} {z8 z4 : Array Value} {t t' : TypeId} (b1 : Blk W g1 z8 t) (b2 : Blk W g2 z8 t)
    (h : ∃ g3 g4, Blk W g5 #[.slice (some ⟨g3, 0, none⟩) 4 4, .slice (some ⟨g4, 0, none⟩) 4 4] t' ∧ Blk W g3 z4 t ∧ Blk W g4 z4 t ∧ (g1 ≠ g2 ∧ g1 ≠ g3 ∧ g1 ≠ g4 ∧ g1 ≠ g5 ∧ g2 ≠ g3 ∧ g2 ≠ g4 ∧ g2 ≠ g5 ∧ g3 ≠ g4 ∧ g3 ≠ g5 ∧ g4 ≠ g5) ∧ (w.heap.size ≤ g1 ∧ w.heap.size ≤ g2 ∧ w.heap.size ≤ g3 ∧ w.heap.size ≤ g4 ∧ w.heap.size ≤ g5))
    (hz8 : z8 = madeCells #[.int .i64 0] 8) (hz4 : z4 = madeCells #[.int .i64 0] 4) (hb : Below w.heap.size w W) :
    NewSkX w t (.returned (.agg #[.int .i64 0, .int .i64 0, .int .i64 0, .int .i64 0, .slice (some ⟨g1, 0, none⟩) 8 8, .slice (some ⟨g2, 0, none⟩) 8 8, .slice (some ⟨g5, 0, none⟩) 2 2])) W := by
  obtain ⟨g3, g4, b5, b3, b4, hn, hge⟩ := h
  exact newSk_close b1 b2 b5 b3 b4 hz8 hz4 hn hge hb
set_option maxRecDepth 200000 in
set_option maxHeartbeats 40000000 in
theorem newSpec_x (w : World) : Calls Try.prog 121 #[] w fun e w' => NewSkX w 3 e w' := by
  obtain ⟨z8, hz8⟩ : ∃ z : Array Value, z = madeCells #[.int .i64 0] 8 := ⟨_, rfl⟩
  obtain ⟨z4, hz4⟩ : ∃ z : Array Value, z = madeCells #[.int .i64 0] 4 := ⟨_, rfl⟩
  have hmk8 : ∀ w : World, (Instr.makeSlice 29 (.int .i64 8) (.int .i64 8)).run Try.prog w = .ok (.slice (some ⟨w.heap.size, 0, none⟩) 8 8) (w.alloc (.cells z8 3)) := fun w => by
    rw [hz8]; exact run_make_row' (P := Try.prog) 29 3 (.int .i64 0) 8 Try.underlying29 infoInt rfl .i64 .i64 8 (by omega) (by omega) w
  have hmk4 : ∀ w : World, (Instr.makeSlice 29 (.int .i64 4) (.int .i64 4)).run Try.prog w = .ok (.slice (some ⟨w.heap.size, 0, none⟩) 4 4) (w.alloc (.cells z4 3)) := fun w => by
    rw [hz4]; exact run_make_row' (P := Try.prog) 29 3 (.int .i64 0) 8 Try.underlying29 infoInt rfl .i64 .i64 4 (by omega) (by omega) w
  have HZ : Hid (z8 = madeCells #[.int .i64 0] 8 ∧ z4 = madeCells #[.int .i64 0] 4) := ⟨hz8, hz4⟩
  clear hz8 hz4
  go_enter Try.func121, Try.ntmps121
  go_wp2
  go_region
  all_goals
    go_wp2
    refine bodyPost_ret (results_cell_row Try.results121 _ _ w.heap.size _ _ (0, 0) _ rfl (Blk.drew (Blk.alloc (Blk.alloc (Blk.alloc (Blk.alloc (Blk.alloc (Blk.made w _ _) _) _) _) _) _)) Try.underlying34 rfl (by kernel_rfl)) rfl ?_
    refine newSk_close2 (t := 3) (t' := 29) ?_ ?_ ?_ HZ.out.1 HZ.out.2 ?_
    · apply Blk.drew; repeat (first | (refine Blk.made_eq ?_; simp; done) | apply Blk.alloc)
    · apply Blk.drew; repeat (first | (refine Blk.made_eq ?_; simp; done) | apply Blk.alloc)
    · apply Exists.intro
      apply Exists.intro
      refine ⟨?_, ?_, ?_, ?_, ?_⟩
      · apply Blk.drew; repeat (first | (refine Blk.made_eq ?_; simp; done) | apply Blk.alloc)
      · apply Blk.drew; repeat (first | (refine Blk.made_eq ?_; simp; done) | apply Blk.alloc)
      · apply Blk.drew; repeat (first | (refine Blk.made_eq ?_; simp; done) | apply Blk.alloc)
      · omega
      · omega
    · apply Below.drew; repeat (first | exact Below.refl _ _ | refine Below.allocW _ ?_ (Nat.le_refl _))
end Go.Proofs.Ytgkbhhlkaifnoaa
/- The walk through the model's Sketched. No statement of the seat is proved here. -/
namespace Go.Proofs.Ytgkbhhlkaifnoaa
open Go.RowKit
section
variable {P : Program} {ops : Array Oper} {Q : Exit → Act → World → Prop} {a : Act} {w : World} {x : Operand} {o : Oper} {K : Act → World → Prop}
theorem op_load (ty : TypeId) (g : Nat) (cells : Array Value) (t : TypeId) (d : TypeDesc) (hg : Blk w g cells t) (hw : Region.wanted o (yielded ops a.tmps) = true) (ho : o.op = .load ty x) (hx : a.eval x = .pointer (some ⟨g, 0, none⟩))
    (hu : P.underlying ty = some d) (hd : (match d with | .struct _ | .array _ _ => true | _ => false) = true) (hi : (P.info? ty).map (·.size) = some cells.size)
    (h : ∃ a', a.put o.dst (.agg cells) = a' ∧ K a' w) : if Region.wanted o (yielded ops a.tmps) = true then Oper.wp P o a w K Q else K (a.put o.dst undef) w := by
  obtain ⟨_, rfl, h⟩ := h
  rw [if_pos hw]
  exact wp_load_row ty x ho g hx t cells (0, 0) d hg hu hd hi h
end
/-- Some summary, in memory of its own, its lists as long as told. -/
def NewShaped (w : World) (e : Ending) (w' : World) : Prop :=
  ∃ v s F, e = .returned v ∧ RdR w' v s F ∧ s.shaped = true ∧ Own w.heap.size w' F ∧ Below w.heap.size w w'
theorem NewSkX.rd {w W : World} {e : Ending} (h : NewSkX w 3 e W) : ∃ v F, e = .returned v ∧ RdR W v Sk.new F ∧ Own w.heap.size W F ∧ Below w.heap.size w W := by
  obtain ⟨v, F, g1, x5, g5, z8, h1, h2, h3, h4, h5, h6, h7, h8⟩ := h
  exact ⟨v, F, h1, ⟨h3, _, _, _, _, _, _, _, [g1], _, _, _, _, h2, ⟨g1, 0, rfl, rfl, rfl, ⟨z8, h7, h8⟩, by omega, by decide⟩, by simpa using h6, by omega⟩, h4, h5⟩
theorem new_shaped : Sk.new.shaped = true := by decide
set_option maxRecDepth 200000 in
set_option maxHeartbeats 4000000 in
theorem sketched_any (a : Option Addr) (len cap : Nat) (zs : List Int) (FL : List Nat) (w : World) (h : RdI w a len zs FL) (hlen : len ≤ 1048576) :
    Calls Try.prog 112 #[.slice a len cap] w fun e w' => NewShaped w e w' := by
  have HR : Hid (RdI w a len zs FL) := h
  have HT : Hid (Blk (w.alloc (.cells #[.int .i64 0, .int .i64 0, .int .i64 0, .int .i64 0, .slice none 0 0, .slice none 0 0, .slice none 0 0] 34)) w.heap.size #[.int .i64 0, .int .i64 0, .int .i64 0, .int .i64 0, .slice none 0 0, .slice none 0 0, .slice none 0 0] 34 ∧ Below w.heap.size w (w.alloc (.cells #[.int .i64 0, .int .i64 0, .int .i64 0, .int .i64 0, .slice none 0 0, .slice none 0 0, .slice none 0 0] 34))) := ⟨Blk.made _ _ _, (Below.refl _ _).alloc (Nat.le_refl _) _⟩
  clear h
  go_enter Try.func112, Try.ntmps112
  go_wp2_with fail
  refine (newSpec_x _).mono ?_
  intro e w1 hx
  obtain ⟨vv, X, rfl, rr, oo, bb⟩ := hx.rd
  clear hx
  obtain ⟨cs, rfl, e7, e1⟩ := rr.cells
  have HE : Hid (RdR w1 (.agg cs) Sk.new X ∧ Own (w.heap.size + 1) w1 X ∧ cs.size = 7 ∧ cs.all (·.oneCell') = true ∧ Blk w1 w.heap.size #[.int .i64 0, .int .i64 0, .int .i64 0, .int .i64 0, .slice none 0 0, .slice none 0 0, .slice none 0 0] 34 ∧ Below w.heap.size w w1) := ⟨rr, by simpa using oo, e7, e1, HT.out.1.below bb, Below.next HT.out.2 bb⟩
  clear rr oo bb e7 e1 HT
  go_wp2_with (first | go_skip | (with_reducible refine stopLoad 34 rfl ?_) | (with_reducible refine stopStore 34 rfl ?_))
  refine store_fresh 34 w1.heap.size rfl #[.int .i64 0, .int .i64 0, .int .i64 0, .int .i64 0, .slice none 0 0, .slice none 0 0, .slice none 0 0] cs 34 rfl rfl rfl rfl (skSize HE.out.2.2.1) HE.out.2.2.1.symm HE.out.2.2.2.1 ?_
  intro W2 hg2 hb2
  have HV2 : Hid (Blk W2 w1.heap.size cs 34 ∧ RdR W2 (.agg cs) Sk.new X ∧ cs.size = 7 ∧ Own (w.heap.size + 1) W2 X ∧ Below w.heap.size w W2 ∧ Blk W2 w.heap.size #[.int .i64 0, .int .i64 0, .int .i64 0, .int .i64 0, .slice none 0 0, .slice none 0 0, .slice none 0 0] 34 ∧ w.heap.size < w1.heap.size) := ⟨hg2, HE.out.1.below hb2, HE.out.2.2.1, HE.out.2.1.below HE.out.1.lt hb2, Below.next HE.out.2.2.2.2.2 hb2, HE.out.2.2.2.2.1.below hb2, HE.out.2.2.2.2.1.lt⟩
  clear hg2 hb2 HE
  have HEND : Hid (∀ W cs s X, Blk W w1.heap.size cs 34 → RdR W (.agg cs) s X → s.shaped = true → Own (w.heap.size + 1) W X → Below w.heap.size w W → NewShaped w (.returned (.agg cs)) (W.setRow w.heap.size cs)) := fun W cs s X _ q2 q3 q4 q5 => by
    have ag : Agree W (W.setRow w.heap.size cs) X := fun b hb => setRow_other W _ b _ (fun e => by have := q4.ge b hb; omega)
    exact ⟨_, s, X, rfl, q2.agree ag, q3, (q4.agree ag).mono (by omega), below_setRow q5 (Nat.le_refl _) _⟩
  by_cases h0 : len = 0
  · subst h0
    go_wp2
    refine wp_loop_rounds 1 ?_
    rw [rounds_succ]
    go_wp2_with (first | go_skip | (with_reducible refine stopLoad 34 rfl ?_) | (with_reducible refine stopStore 34 rfl ?_))
    refine load_any 34 w1.heap.size cs 34 _ HV2.out.1 rfl rfl rfl Try.underlying34 rfl (skSize HV2.out.2.2.1) ?_
    go_wp2_with (first | go_skip | (with_reducible refine stopLoad 34 rfl ?_) | (with_reducible refine stopStore 34 rfl ?_))
    refine store_known 34 w.heap.size _ cs 34 HV2.out.2.2.2.2.2.1 rfl rfl rfl rfl (skSize HV2.out.2.2.1) HV2.out.2.2.1.symm (by obtain ⟨ds, e, _, h8⟩ := HV2.out.2.1.cells; cases e; exact h8) ?_
    go_wp2
    refine bodyPost_ret (results_cell_row Try.results112 _ _ w.heap.size _ _ _ _ rfl HV2.out.2.2.2.2.2.1.setRow Try.underlying34 rfl (skSize HV2.out.2.2.1)) rfl ?_
    exact HEND.out _ _ _ _ HV2.out.1 HV2.out.2.1 new_shaped HV2.out.2.2.2.1 HV2.out.2.2.2.2.1
  obtain ⟨lb, lof, rfl⟩ := HR.out.addr (by omega)
  have hlb : lb < w.heap.size := World.block_lt_of_cell? _ _ (HR.out.at 0 (by omega))
  have HFL : Hid (∀ b ∈ FL, b < w.heap.size) := HR.out.lt
  go_wp2
  go_loopw [4] (fun i wr => ∃ (k : Nat) (cs : Array Value) (s : Sk) (X : List Nat), k ≤ len ∧ i = .int .i64 k ∧ Hid (Blk wr w1.heap.size cs 34 ∧ RdR wr (.agg cs) s X ∧ cs.size = 7 ∧ s.shaped = true ∧ Own (w.heap.size + 1) wr X ∧ Below w.heap.size w wr ∧ Blk wr w.heap.size #[.int .i64 0, .int .i64 0, .int .i64 0, .int .i64 0, .slice none 0 0, .slice none 0 0, .slice none 0 0] 34 ∧ w.heap.size < w1.heap.size ∧ RdI wr (some ⟨lb, lof, none⟩) len zs FL ∧ lb < w.heap.size)) (fun i _ => len - (intOf i).toNat)
  case atStart => exact ⟨0, cs, Sk.new, X, by omega, rfl, ⟨HV2.out.1, HV2.out.2.1, HV2.out.2.2.1, new_shaped, HV2.out.2.2.2.1, HV2.out.2.2.2.2.1, HV2.out.2.2.2.2.2.1, HV2.out.2.2.2.2.2.2, HR.out.below HV2.out.2.2.2.2.1, hlb⟩⟩
  case round =>
    clear HV2
    obtain ⟨k, cs, s, X, hk, rfl, HV⟩ := hrel
    by_cases hlt : k < len
    · obtain ⟨n, hn⟩ : ∃ n, n = zs.getD k 0 := ⟨_, rfl⟩
      have HS : Hid (wr.drew.cell? ⟨lb, lof + k, none⟩ = some (.int .i64 n)) := by rw [hn]; exact HV.out.2.2.2.2.2.2.2.2.1.at k hlt
      have HCS : Hid (cs.size = 7) := HV.out.2.2.1
      clear hn
      go_wp2
      refine wp_region_held (S := fun W => W.cell? ⟨lb, lof + k, none⟩ = some (.int .i64 n)) (by kernel_rfl) ?_
      change wpAnyH _ _ _ _ _ _ _ _ (World.drew _)
      refine takeH (o := ?o1) 1 (.slice (some ⟨lb, lof, none⟩) len cap) ?h1 ?r1
      case h1 => simp only [aT, aS, aZ]; rfl
      refine ⟨_, by simp [Act.put]; rfl, by kernel_rfl, by kernel_rfl, by kernel_rfl, fun _ _ _ h => h, (.inl ⟨rfl, fun W _ => by go_simp⟩), HS.out, ?_⟩
      refine takeH (o := ?o2) 2 (.int .i64 k) ?h2 ?r2
      case h2 => simp only [aT, aS, aZ]; rfl
      refine ⟨_, by simp [Act.put]; rfl, by kernel_rfl, by kernel_rfl, by kernel_rfl, fun _ _ _ h => h, (.inl ⟨rfl, fun W _ => by go_simp⟩), HS.out, ?_⟩
      refine takeH (o := ?o3) 3 (.pointer (some ⟨lb, lof + k, none⟩)) ?h3 ?r3
      case h3 => simp only [aT, aS, aZ]; rfl
      refine ⟨_, by simp [Act.put]; rfl, by kernel_rfl, by kernel_rfl, by kernel_rfl, fun _ _ _ h => h, (.inl ⟨rfl, fun W _ => by go_simp⟩), HS.out, ?_⟩
      refine takeH (o := ?o4) 4 (.int .i64 n) ?h4 ?r4
      case h4 => simp only [aT, aS, aZ]; rfl
      refine ⟨_, by simp [Act.put]; rfl, by kernel_rfl, by kernel_rfl, by kernel_rfl, fun _ _ _ h => h, (.inl ⟨rfl, fun W hW => by have c := hW; go_simp⟩), HS.out, ?_⟩
      refine onlyH (o := ?o5) 0 (by kernel_rfl) ?h5 ?r5
      case h5 => simp only [aT, aZ]; rfl
      intro K hK
      refine op_load 34 w1.heap.size cs 34 _ HV.out.1.drew rfl rfl rfl Try.underlying34 rfl (skSize HV.out.2.2.1) ⟨_, by simp [Act.put]; rfl, hK _ _ ⟨HS.out, ?_⟩⟩
      clear hK
      refine onlyH (o := ?o6) 5 (by kernel_rfl) ?h6 ?r6
      case h6 => simp only [aT, aS, aZ]; rfl
      intro K hK
      refine op_call2' 122 _ _ _ Try.f122 (fun u w' => ∃ es s' d X, u = .tuple #[.agg es, .bool d] ∧ es.size = 7 ∧ es.all (·.oneCell') = true ∧ RdR w' (.agg es) s' X ∧ s'.shaped = true ∧ Own wr.drew.heap.size w' X ∧ Below wr.drew.heap.size wr.drew w') rfl rfl Try.func122 (by kernel_rfl) (by kernel_rfl) ((insert_any (.agg cs) s n X wr.drew (HV.out.2.1.sk.below (Below.refl _ _).drew) HV.out.2.2.2.1).mono (by rintro e w' ⟨u, s', d, X', rfl, q1, q2, q3, q4⟩; obtain ⟨es, rfl, q5, q6⟩ := q1.cells; exact ⟨_, rfl, es, s', d, X', rfl, q5, q6, q1, q2, q3, q4⟩)) ?_
      rintro _ W5 ⟨es, s', d, X5, rfl, q5, q6, q1, q2, q3, q4⟩
      have HS5 : Hid (W5.cell? ⟨lb, lof + k, none⟩ = some (.int .i64 n)) := (q4.cell (by exact World.block_lt_of_cell? _ _ HS.out)).trans HS.out
      refine ⟨_, by simp [Act.put]; rfl, hK _ _ ⟨HS5.out, ?_⟩⟩
      have HV5 : Hid (Blk W5 w1.heap.size cs 34 ∧ RdR W5 (.agg es) s' X5 ∧ es.size = 7 ∧ es.all (·.oneCell') = true ∧ s'.shaped = true ∧ Own wr.heap.size W5 X5 ∧ Below w.heap.size w W5 ∧ Blk W5 w.heap.size #[.int .i64 0, .int .i64 0, .int .i64 0, .int .i64 0, .slice none 0 0, .slice none 0 0, .slice none 0 0] 34 ∧ w1.heap.size < wr.heap.size ∧ w.heap.size < w1.heap.size ∧ RdI W5 (some ⟨lb, lof, none⟩) len zs FL ∧ lb < w.heap.size) := ⟨HV.out.1.drew.below q4, q1, q5, q6, q2, q3, Below.next HV.out.2.2.2.2.2.1.drew q4, HV.out.2.2.2.2.2.2.1.drew.below q4, HV.out.1.lt, HV.out.2.2.2.2.2.2.2.1, (HV.out.2.2.2.2.2.2.2.2.1.below (Below.refl _ _).drew).below q4, HV.out.2.2.2.2.2.2.2.2.2⟩
      clear hK q1 q2 q3 q4 q5 q6 HV HS
      refine takeH (o := ?o7) 6 (.tuple #[.agg es, .bool d]) ?h7 ?r7
      case h7 => simp only [aT, aS, aZ]; rfl
      refine ⟨_, by simp [Act.put]; rfl, by kernel_rfl, by kernel_rfl, by kernel_rfl, fun _ _ _ h => h, (.inl ⟨rfl, fun W _ => by go_simp⟩), HS5.out, ?_⟩
      refine takeH (o := ?o8) 7 (.agg es) ?h8 ?r8
      case h8 => simp only [aT, aS, aZ]; rfl
      refine ⟨_, by simp [Act.put]; rfl, by kernel_rfl, by kernel_rfl, by kernel_rfl, fun _ _ _ h => h, (.inl ⟨rfl, fun W _ => by go_simp⟩), HS5.out, ?_⟩
      refine takeH (o := ?o9) 8 (.bool d) ?h9 ?r9
      case h9 => simp only [aT, aS, aZ]; rfl
      refine ⟨_, by simp [Act.put]; rfl, by kernel_rfl, by kernel_rfl, by kernel_rfl, fun _ _ _ h => h, (.inl ⟨rfl, fun W _ => by go_simp⟩), HS5.out, ?_⟩
      refine onlyH (o := ?o10) 9 (by kernel_rfl) ?h10 ?r10
      case h10 => simp only [aT, aS, aZ]; rfl
      intro K hK
      have hne : lb ≠ w1.heap.size := by have := HV5.out.2.2.2.2.2.2.2.2.2.2.2; have := HV5.out.2.2.2.2.2.2.2.2.2.1; omega
      have hsz : (W5.setRow w1.heap.size es).heap.size = W5.heap.size := by simp
      refine op_store 34 w1.heap.size cs es 34 rfl rfl rfl rfl HV5.out.1 (skSize HV5.out.2.2.1) (by rw [HCS.out, HV5.out.2.2.1]) HV5.out.2.2.2.1 ⟨_, by simp [Act.put]; rfl, hK _ _ ⟨(World.cell?_of_block (w := W5) (a := ⟨lb, lof + k, none⟩) (setRow_other W5 w1.heap.size lb es hne)).trans HS5.out, ?_⟩⟩
      have ag : Agree W5 (W5.setRow w1.heap.size es) X5 := fun b hb => setRow_other W5 _ b _ (fun e => by have := HV5.out.2.2.2.2.2.1.ge b hb; have := HV5.out.2.2.2.2.2.2.2.2.1; omega)
      have agL : Agree W5 (W5.setRow w1.heap.size es) FL := fun b hb => setRow_other W5 _ b _ (fun e => by have := HFL.out b hb; have := HV5.out.2.2.2.2.2.2.2.2.2.1; omega)
      have HN : Hid (Blk (W5.setRow w1.heap.size es) w1.heap.size es 34 ∧ RdR (W5.setRow w1.heap.size es) (.agg es) s' X5 ∧ es.size = 7 ∧ s'.shaped = true ∧ Own (w.heap.size + 1) (W5.setRow w1.heap.size es) X5 ∧ Below w.heap.size w (W5.setRow w1.heap.size es) ∧ Blk (W5.setRow w1.heap.size es) w.heap.size #[.int .i64 0, .int .i64 0, .int .i64 0, .int .i64 0, .slice none 0 0, .slice none 0 0, .slice none 0 0] 34 ∧ w.heap.size < w1.heap.size ∧ RdI (W5.setRow w1.heap.size es) (some ⟨lb, lof, none⟩) len zs FL ∧ lb < w.heap.size) := ⟨HV5.out.1.setRow, HV5.out.2.1.agree ag, HV5.out.2.2.1, HV5.out.2.2.2.2.1, (HV5.out.2.2.2.2.2.1.agree ag).mono (by have := HV5.out.2.2.2.2.2.2.2.2.1; have := HV5.out.2.2.2.2.2.2.2.2.2.1; omega), below_setRow HV5.out.2.2.2.2.2.2.1 (by have := HV5.out.2.2.2.2.2.2.2.2.2.1; omega) _, HV5.out.2.2.2.2.2.2.2.1.setRowOther (by have := HV5.out.2.2.2.2.2.2.2.2.2.1; omega), HV5.out.2.2.2.2.2.2.2.2.2.1, HV5.out.2.2.2.2.2.2.2.2.2.2.1.agree agL, HV5.out.2.2.2.2.2.2.2.2.2.2.2⟩
      clear hK ag agL hne hsz HV5 HS5
      refine wpAnyH_done (by kernel_rfl) ?_ _
      go_wp2
      go_roundw
      case rel => exact ⟨k + 1, es, s', X5, by omega, by go_num, HN⟩
      case measure => simp [intOf]; omega
    · obtain rfl : k = len := by omega
      go_wp2_with (first | go_skip | (with_reducible refine stopLoad 34 rfl ?_) | (with_reducible refine stopStore 34 rfl ?_))
      refine load_any 34 w1.heap.size cs 34 _ HV.out.1 rfl rfl rfl Try.underlying34 rfl (skSize HV.out.2.2.1) ?_
      go_wp2_with (first | go_skip | (with_reducible refine stopLoad 34 rfl ?_) | (with_reducible refine stopStore 34 rfl ?_))
      refine store_known 34 w.heap.size _ cs 34 HV.out.2.2.2.2.2.2.1 rfl rfl rfl rfl (skSize HV.out.2.2.1) HV.out.2.2.1.symm (by obtain ⟨ds, e, _, h8⟩ := HV.out.2.1.cells; cases e; exact h8) ?_
      go_wp2
      refine bodyPost_ret (results_cell_row Try.results112 _ _ w.heap.size _ _ _ _ rfl HV.out.2.2.2.2.2.2.1.setRow Try.underlying34 rfl (skSize HV.out.2.2.1)) rfl ?_
      exact HEND.out _ _ _ _ HV.out.1 HV.out.2.1 HV.out.2.2.2.1 HV.out.2.2.2.2.1 HV.out.2.2.2.2.2.1
end Go.Proofs.Ytgkbhhlkaifnoaa
/- The walk through the model's drawing of a summary that is right. No statement of the seat is proved here. -/
namespace Go.Proofs.Ytgkbhhlkaifnoaa
open Go.RowKit
set_option maxRecDepth 200000 in
theorem l1Once_any (g : Nat) (a : Option Addr) (len cap : Nat) (zs : List Int) (i h : Int) (n : Int) (w : World) (C : Cur w g a len cap zs i h) (hlen : len ≤ 1048576) (hn : 0 < n) (hn' : n ≤ 2147483647) :
    Calls Try.prog 60 #[.pointer (some ⟨g, 0, none⟩), .int .i64 n] w fun e w' => ∃ b i' h', e = .returned (.bool b) ∧ Cur w' g a len cap zs i' h' ∧ w.grownBy w' (some g) := by
  have HC : Hid (Cur w g a len cap zs i h) := C
  clear C
  go_enter Try.func60, Try.ntmps60
  go_wp2_with fail
  refine (l1Below_any g a len cap zs i h n _ HC.out hlen hn hn').mono ?_
  rintro e w1 ⟨x, i1, h1, rfl, _, _, C1, g1⟩
  have HC1 : Hid (Cur w1 g a len cap zs i1 h1 ∧ w.grownBy w1 (some g)) := ⟨C1, g1⟩
  clear C1 g1
  go_wp2
  go_ret
  exact ⟨_, i1, h1, rfl, HC1.out.1, HC1.out.2⟩
theorem grown_below {w w' : World} (g : Nat) (b : Below w.heap.size w w') : w.grownBy w' (some g) := ⟨b.os, b.tape, b.output, b.size, fun k hk _ => b.block k hk⟩
/-- The same world, with nothing in memory. -/
def World.bare (w : World) : World := { w with heap := #[] }
theorem bare_below {w W : World} {q : Nat} (k : w.grownBy W (some q)) : Below (World.bare w).heap.size (World.bare w) W := ⟨k.os, k.tape, k.output, Nat.zero_le _, fun j hj => absurd hj (Nat.not_lt_zero j)⟩
theorem Blk.grown {w W : World} {b q : Nat} {cs : Array Value} {t : TypeId} (h : Blk w b cs t) (k : w.grownBy W (some q)) (hq : b ≠ q) : Blk W b cs t := h.agree (k.block b h.lt (fun e => hq (by simpa using e)))
theorem agree_grown {w W : World} {F : List Nat} {q : Nat} (k : w.grownBy W (some q)) (hlt : ∀ b ∈ F, b < w.heap.size) (hq : q ∉ F) : Agree w W F := fun b hb => k.block b (hlt b hb) (fun e => hq (by simp at e; rw [← e]; exact hb))
section
variable {w : World} {lo g : Nat} {c sm mn mx : Int} {b1 o1 k1 b2 o2 k2 p po k3 b3 o3 j0 b4 o4 j1 : Nat} {l1 l2 x y : List Int} {W W' : World}
theorem Out.grown {q : Nat} (h : Out w lo g c sm mn mx b1 o1 k1 b2 o2 k2 p po k3 b3 o3 j0 b4 o4 j1 l1 l2 x y W) (k : W.grownBy W' (some q)) (hq : q < lo) (hw : w.heap.size ≤ q) : Out w lo g c sm mn mx b1 o1 k1 b2 o2 k2 p po k3 b3 o3 j0 b4 o4 j1 l1 l2 x y W' := by
  have ge := h.ges
  have e1 := h.hist.lt b1 (by simp)
  have e2 := h.regs.lt b2 (by simp)
  have e3 := h.row0.lt b3 (by simp)
  have e4 := h.row1.lt b4 (by simp)
  have e5 : p < W.heap.size := World.block_lt_of_cell? _ _ h.c0
  have e6 := h.blk.lt
  have bp := k.block p e5 (fun e => by simp at e; omega)
  exact ⟨h.blk.grown k (by omega), h.hist.agree (agree_grown k (by simpa using e1) (by simp; omega)), h.regs.agree (agree_grown k (by simpa using e2) (by simp; omega)), (World.cell?_of_block (w := W) (a := ⟨p, po, none⟩) bp).trans h.c0, (World.cell?_of_block (w := W) (a := ⟨p, po + 1, none⟩) bp).trans h.c1, h.row0.agree (agree_grown k (by simpa using e3) (by simp; omega)), h.row1.agree (agree_grown k (by simpa using e4) (by simp; omega)), h.own.agree (agree_grown k (fun b hb => by simp at hb; omega) (by simp; omega)), h.bel.grown k h.bel.size (fun j hj => by simp at hj; omega), h.lw, h.room.grown k (by omega), h.wide⟩
end
/-- What the drawing of a summary tells: some summary, its lists as long as told, in memory of its own; the cursor goes on. -/
def DrewShaped (w : World) (q : Nat) (a : Option Addr) (len cap : Nat) (zs : List Int) (e : Ending) (w' : World) : Prop :=
  ∃ v s F i' h', e = .returned v ∧ RdR w' v s F ∧ s.shaped = true ∧ Own w.heap.size w' F ∧ Cur w' q a len cap zs i' h' ∧ w.grownBy w' (some q)
theorem drew_end {w W ww : World} {q lo g : Nat} {c sm mn mx : Int} {b1 o1 k1 b2 o2 k2 p po k3 b3 o3 j0 b4 o4 j1 : Nat} {l1 l2 x y : List Int} {a : Option Addr} {len cap : Nat} {zs : List Int} {i h : Int} (hO : Out ww lo g c sm mn mx b1 o1 k1 b2 o2 k2 p po k3 b3 o3 j0 b4 o4 j1 l1 l2 x y W) (hr : Blk W w.heap.size #[.int .i64 0, .int .i64 0, .int .i64 0, .int .i64 0, .slice none 0 0, .slice none 0 0, .slice none 0 0] 34) (hC : Cur W q a len cap zs i h) (hG : w.grownBy W (some q)) (hq : q < w.heap.size) (hlo : w.heap.size < lo) :
    DrewShaped w q a len cap zs (.returned (.agg #[.int .i64 c, .int .i64 sm, .int .i64 mn, .int .i64 mx, .slice (some ⟨b1, o1, none⟩) 8 k1, .slice (some ⟨b2, o2, none⟩) 8 k2, .slice (some ⟨p, po, none⟩) 2 k3])) (W.setRow w.heap.size #[.int .i64 c, .int .i64 sm, .int .i64 mn, .int .i64 mx, .slice (some ⟨b1, o1, none⟩) 8 k1, .slice (some ⟨b2, o2, none⟩) 8 k2, .slice (some ⟨p, po, none⟩) 2 k3]) := by
  obtain ⟨r, o, hs⟩ := out_rd hO
  have ag : Agree W (W.setRow w.heap.size #[.int .i64 c, .int .i64 sm, .int .i64 mn, .int .i64 mx, .slice (some ⟨b1, o1, none⟩) 8 k1, .slice (some ⟨b2, o2, none⟩) 8 k2, .slice (some ⟨p, po, none⟩) 2 k3]) [b1, b2, p, b3, b4] := fun b hb => setRow_other W _ b _ (fun e => by have := o.ge b hb; omega)
  have hgr : w.grownBy (W.setRow w.heap.size #[.int .i64 c, .int .i64 sm, .int .i64 mn, .int .i64 mx, .slice (some ⟨b1, o1, none⟩) 8 k1, .slice (some ⟨b2, o2, none⟩) 8 k2, .slice (some ⟨p, po, none⟩) 2 k3]) (some q) := ⟨hG.os, hG.tape, hG.output, by simp; exact hG.size, fun b hb hn => (setRow_other W _ b _ (by omega)).trans (hG.block b hb hn)⟩
  refine ⟨_, _, _, i, h, rfl, r.agree ag, hs, (o.agree ag).mono (by omega), ?_, hgr⟩
  refine cur_agree hC (World.block_lt_of_cell? _ _ hC.c0) (setRow_other W _ q _ (by omega)) (fun b hb ⟨off, ha, hp⟩ => setRow_other W _ b _ (fun e => ?_))
  subst e
  rcases hC.rd.cells with h0 | ⟨b', off', ha', hc⟩
  · omega
  · rw [ha] at ha'
    cases ha'
    have e0 := hc 0 hp
    rw [hr.cell] at e0
    match off, e0 with
    | 0, e0 => simp at e0
    | 1, e0 => simp at e0
    | 2, e0 => simp at e0
    | 3, e0 => simp at e0
    | 4, e0 => simp at e0
    | 5, e0 => simp at e0
    | 6, e0 => simp at e0
    | n + 7, e0 => simp at e0
theorem cur_lt {w : World} {q : Nat} {a : Option Addr} {len cap : Nat} {zs : List Int} {i h : Int} (C : Cur w q a len cap zs i h) (b : Nat) (hb : ∃ off, a = some ⟨b, off, none⟩ ∧ 0 < len) : b < w.heap.size := by
  obtain ⟨off, ha, hp⟩ := hb
  rcases C.rd.cells with h0 | ⟨b', off', ha', hc⟩
  · omega
  · rw [ha] at ha'
    cases ha'
    exact World.block_lt_of_cell? _ _ (hc 0 hp)
theorem held_set {w W : World} {q : Nat} {a : Option Addr} {len cap : Nat} {zs : List Int} {i h : Int} {cs : Array Value} {t : TypeId} (H : Blk W w.heap.size cs t ∧ Cur W q a len cap zs i h ∧ w.grownBy W (some q)) (hq : q < w.heap.size) (ha : ∀ b, (∃ off, a = some ⟨b, off, none⟩ ∧ 0 < len) → b < w.heap.size) (k j : Nat) (v : Value) (hk : w.heap.size < k) : Blk (W.setCell ⟨k, j, none⟩ v) w.heap.size cs t ∧ Cur (W.setCell ⟨k, j, none⟩ v) q a len cap zs i h ∧ w.grownBy (W.setCell ⟨k, j, none⟩ v) (some q) := by
  refine ⟨H.1.setOther (by omega) _ _, ?_, ?_⟩
  · exact cur_agree H.2.1 (World.block_lt_of_cell? _ _ H.2.1.c0) (Below.heap_setCell W ⟨k, j, none⟩ v q (by simp; omega)) (fun b _ hb => Below.heap_setCell W ⟨k, j, none⟩ v b (by have := ha b hb; simp; omega))
  · have G := H.2.2
    exact ⟨G.os, G.tape, G.output, by simpa using G.size, fun b hb hn => (Below.heap_setCell W ⟨k, j, none⟩ v b (by simp; omega)).trans (G.block b hb hn)⟩
set_option maxRecDepth 200000 in
set_option maxHeartbeats 4000000 in
theorem l3Right_any (q : Nat) (a : Option Addr) (len cap : Nat) (zs : List Int) (i h : Int) (w : World) (C : Cur w q a len cap zs i h) (hlen : len ≤ 1048576) :
    Calls Try.prog 114 #[.pointer (some ⟨q, 0, none⟩)] w fun e w' => DrewShaped w q a len cap zs e w' := by
  have hqw : q < w.heap.size := World.block_lt_of_cell? _ _ C.c0
  have hAw := cur_lt C
  have HT : Hid (Blk (w.alloc (.cells #[.int .i64 0, .int .i64 0, .int .i64 0, .int .i64 0, .slice none 0 0, .slice none 0 0, .slice none 0 0] 34)) w.heap.size #[.int .i64 0, .int .i64 0, .int .i64 0, .int .i64 0, .slice none 0 0, .slice none 0 0, .slice none 0 0] 34 ∧ Below w.heap.size w (w.alloc (.cells #[.int .i64 0, .int .i64 0, .int .i64 0, .int .i64 0, .slice none 0 0, .slice none 0 0, .slice none 0 0] 34))) := ⟨Blk.made _ _ _, (Below.refl _ _).alloc (Nat.le_refl _) _⟩
  have HC : Hid (Cur (w.alloc (.cells #[.int .i64 0, .int .i64 0, .int .i64 0, .int .i64 0, .slice none 0 0, .slice none 0 0, .slice none 0 0] 34)) q a len cap zs i h) := C.keep HT.out.2
  clear C
  go_enter Try.func114, Try.ntmps114
  go_wp2_with fail
  refine (l3Values_any q a len cap zs i h _ HC.out hlen).mono ?_
  rintro e w1 ⟨a', n, cc, xs, F, i1, h1, rfl, r1, hn, o1, C1, g1⟩
  have hlo : w.heap.size < w1.heap.size := by have := g1.size; simp at this; omega
  have HL1 : Hid (Blk w1 w.heap.size #[.int .i64 0, .int .i64 0, .int .i64 0, .int .i64 0, .slice none 0 0, .slice none 0 0, .slice none 0 0] 34 ∧ Cur w1 q a len cap zs i1 h1 ∧ w.grownBy w1 (some q) ∧ RdI w1 a' n xs F) := ⟨HT.out.1.grown g1 (by omega), C1, grown_tr (grown_below q HT.out.2) g1, r1⟩
  clear r1 o1 C1 g1 HT HC
  go_wp2_with fail
  refine (sketched_any a' n cc xs F _ HL1.out.2.2.2 (by omega)).mono ?_
  rintro e w2 ⟨vv, s, X, rfl, rr, hs, oo, bb⟩
  obtain ⟨es, rfl, e7, e1⟩ := rr.cells
  have HE : Hid (RdR w2 (.agg es) s X ∧ Own w1.heap.size w2 X ∧ Below w1.heap.size w1 w2 ∧ es.size = 7 ∧ es.all (·.oneCell') = true ∧ s.shaped = true) := ⟨rr, oo, bb, e7, e1, hs⟩
  clear rr oo bb e7 e1 hs
  go_wp2_with (first | go_skip | (with_reducible refine stopLoad 34 rfl ?_) | (with_reducible refine stopStore 34 rfl ?_))
  refine store_fresh 34 w2.heap.size rfl #[.int .i64 0, .int .i64 0, .int .i64 0, .int .i64 0, .slice none 0 0, .slice none 0 0, .slice none 0 0] es 34 rfl rfl rfl rfl (skSize HE.out.2.2.2.1) HE.out.2.2.2.1.symm HE.out.2.2.2.2.1 ?_
  intro W3 hg3 hb3
  have hbw := Below.next HE.out.2.2.1 hb3
  have hG3 := grown_tr HL1.out.2.2.1 (grown_below q hbw)
  obtain ⟨b1, o1, k1, b2, o2, k2, p, po, k3, b3, o3, j0, b4, o4, j1, l1, l2, x, y, hO⟩ := out_of (w := World.bare w) (lo := w1.heap.size) (HE.out.1.below hb3).sk hg3 (HE.out.2.1.below HE.out.1.lt hb3) HE.out.2.2.1.size (fun hx => by have := HE.out.1.lt _ hx; omega) HE.out.2.2.2.2.2 (bare_below hG3) (by show 0 + 1 < w1.heap.size; omega) (HE.out.1.below hb3).room
  have HO3 : Hid (Out (World.bare w) w1.heap.size w2.heap.size s.count s.sum s.min s.max b1 o1 k1 b2 o2 k2 p po k3 b3 o3 j0 b4 o4 j1 l1 l2 x y W3) := hO
  have HR3 : Hid (Blk W3 w.heap.size #[.int .i64 0, .int .i64 0, .int .i64 0, .int .i64 0, .slice none 0 0, .slice none 0 0, .slice none 0 0] 34 ∧ Cur W3 q a len cap zs i1 h1 ∧ w.grownBy W3 (some q)) := ⟨HL1.out.1.below hbw, HL1.out.2.1.keep hbw, hG3⟩
  have HL : Hid (q < w.heap.size ∧ w.heap.size < w1.heap.size ∧ ∀ b, (∃ off, a = some ⟨b, off, none⟩ ∧ 0 < len) → b < w.heap.size) := ⟨hqw, hlo, hAw⟩
  clear hg3 hb3 hbw hG3 hO HE HL1
  go_wp2_with fail
  refine (l1Once_any q a len cap zs i1 h1 16 _ HR3.out.2.1 hlen (by omega) (by omega)).mono ?_
  rintro e w4 ⟨b, i4, h4, rfl, C4, g4⟩
  have HOX : Hid (Out (World.bare w) w1.heap.size w2.heap.size s.count s.sum s.min s.max b1 o1 k1 b2 o2 k2 p po k3 b3 o3 j0 b4 o4 j1 l1 l2 x y w4) := HO3.out.grown g4 (by omega) (Nat.zero_le _)
  have HRX : Hid (Blk w4 w.heap.size #[.int .i64 0, .int .i64 0, .int .i64 0, .int .i64 0, .slice none 0 0, .slice none 0 0, .slice none 0 0] 34 ∧ Cur w4 q a len cap zs i4 h4 ∧ w.grownBy w4 (some q)) := ⟨HR3.out.1.grown g4 (by omega), C4, grown_tr HR3.out.2.2 g4⟩
  clear C4 g4 HO3 HR3
  cases b
  · go_wp2_with (first | go_skip | (with_reducible refine stopLoad 34 rfl ?_) | (with_reducible refine stopStore 34 rfl ?_))
    refine load_any 34 w2.heap.size _ 34 _ HOX.out.blk rfl rfl rfl Try.underlying34 rfl (by kernel_rfl) ?_
    go_wp2_with (first | go_skip | (with_reducible refine stopLoad 34 rfl ?_) | (with_reducible refine stopStore 34 rfl ?_))
    refine store_known 34 w.heap.size _ _ 34 HRX.out.1 rfl rfl rfl rfl (by kernel_rfl) rfl (by kernel_rfl) ?_
    go_wp2
    refine bodyPost_ret (results_cell_row Try.results114 _ _ w.heap.size _ _ _ _ rfl HRX.out.1.setRow Try.underlying34 rfl (by kernel_rfl)) rfl ?_
    exact drew_end HOX.out HRX.out.1 HRX.out.2.1 HRX.out.2.2 HL.out.1 HL.out.2.1
  have g0 := HOX.out.blk.cell 0
  simp only [aT, aZ] at g0
  by_cases hc : 0 < s.count
  rotate_left
  · have hcb : decide (0 < s.count) = false := dec_false hc
    clear hc
    go_wp2_with (first | go_skip | (with_reducible refine stopLoad 34 rfl ?_) | (with_reducible refine stopStore 34 rfl ?_))
    refine load_any 34 w2.heap.size _ 34 _ HOX.out.blk rfl rfl rfl Try.underlying34 rfl (by kernel_rfl) ?_
    go_wp2_with (first | go_skip | (with_reducible refine stopLoad 34 rfl ?_) | (with_reducible refine stopStore 34 rfl ?_))
    refine store_known 34 w.heap.size _ _ 34 HRX.out.1 rfl rfl rfl rfl (by kernel_rfl) rfl (by kernel_rfl) ?_
    go_wp2
    refine bodyPost_ret (results_cell_row Try.results114 _ _ w.heap.size _ _ _ _ rfl HRX.out.1.setRow Try.underlying34 rfl (by kernel_rfl)) rfl ?_
    exact drew_end HOX.out HRX.out.1 HRX.out.2.1 HRX.out.2.2 HL.out.1 HL.out.2.1
  have hcb : decide (0 < s.count) = true := dec_true hc
  clear hc
  go_wp2_with fail
  refine (l1Below_any q a len cap zs i4 h4 2 _ HRX.out.2.1 hlen (by omega) (by omega)).mono ?_
  rintro e w5 ⟨z, i5, h5, rfl, z0, z1, C5, g5⟩
  have HO5 : Hid (Out (World.bare w) w1.heap.size w2.heap.size s.count s.sum s.min s.max b1 o1 k1 b2 o2 k2 p po k3 b3 o3 j0 b4 o4 j1 l1 l2 x y w5) := HOX.out.grown g5 (by omega) (Nat.zero_le _)
  have HR5 : Hid (Blk w5 w.heap.size #[.int .i64 0, .int .i64 0, .int .i64 0, .int .i64 0, .slice none 0 0, .slice none 0 0, .slice none 0 0] 34 ∧ Cur w5 q a len cap zs i5 h5 ∧ w.grownBy w5 (some q)) := ⟨HRX.out.1.grown g5 (by omega), C5, grown_tr HRX.out.2.2 g5⟩
  clear C5 g5 HOX HRX g0 hcb
  have g0 := HO5.out.blk.cell 0
  have g1 := HO5.out.blk.cell 1
  have g4 := HO5.out.blk.cell 4
  have f0 := HO5.out.blk.frozen 0
  have f1 := HO5.out.blk.frozen 1
  have cE := HO5.out.hist.at 3 (by omega)
  have fE := HO5.out.own.free b1 (by simp) (o1 + 3)
  simp only [aT, aS, aZ] at g0 g1 g4
  have ne1 : ¬ w2.heap.size = b1 := by have := HO5.out.nd; omega
  have ne2 : ¬ b1 = w2.heap.size := fun e => ne1 e.symm
  go_wp2_with (first | go_skip | (with_reducible refine stopLoad 34 rfl ?_) | (with_reducible refine stopStore 34 rfl ?_))
  have HOX : Hid _ := ((HO5.out.setC (1000000000 - z)).setHist 3 (by omega) 1000000000).setS 999999997
  have HRX : Hid _ := held_set (held_set (held_set HR5.out HL.out.1 HL.out.2.2 w2.heap.size 0 (.int .i64 (1000000000 - z)) (by have := HO5.out.ges; have := HL.out.2.1; omega)) HL.out.1 HL.out.2.2 b1 (o1 + 3) (.int .i64 1000000000) (by have := HO5.out.ges; have := HL.out.2.1; omega)) HL.out.1 HL.out.2.2 w2.heap.size 1 (.int .i64 999999997) (by have := HO5.out.ges; have := HL.out.2.1; omega)
  refine load_any 34 w2.heap.size _ 34 _ HOX.out.blk rfl rfl rfl Try.underlying34 rfl (by kernel_rfl) ?_
  go_wp2_with (first | go_skip | (with_reducible refine stopLoad 34 rfl ?_) | (with_reducible refine stopStore 34 rfl ?_))
  refine store_known 34 w.heap.size _ _ 34 HRX.out.1 rfl rfl rfl rfl (by kernel_rfl) rfl (by kernel_rfl) ?_
  go_wp2
  refine bodyPost_ret (results_cell_row Try.results114 _ _ w.heap.size _ _ _ _ rfl HRX.out.1.setRow Try.underlying34 rfl (by kernel_rfl)) rfl ?_
  exact drew_end HOX.out HRX.out.1 HRX.out.2.1 HRX.out.2.2 HL.out.1 HL.out.2.1
end Go.Proofs.Ytgkbhhlkaifnoaa
/- The walk through the model's drawing of a summary. No statement of the seat is proved here. -/
namespace Go.Proofs.Ytgkbhhlkaifnoaa
open Go.RowKit
theorem cell_al {W : World} {b i : Nat} {v : Value} (h : W.cell? ⟨b, i, none⟩ = some v) (o : Obj) : (W.alloc o).cell? ⟨b, i, none⟩ = some v :=
  (((Below.refl _ W).alloc (Nat.le_refl _) o).cell (p := ⟨b, i, none⟩) (World.block_lt_of_cell? _ _ h)).trans h
/-- What the drawing of a summary tells: some summary, each of its lists with something in it, in memory of its own; the cursor goes on. -/
def DrewFull (w : World) (q : Nat) (a : Option Addr) (len cap : Nat) (zs : List Int) (e : Ending) (w' : World) : Prop :=
  ∃ v s F i' h', e = .returned v ∧ RdSk w' v s F ∧ s.full ∧ Own w.heap.size w' F ∧ Cur w' q a len cap zs i' h' ∧ w.grownBy w' (some q)
theorem drew_full {w w' : World} {q : Nat} {a : Option Addr} {len cap : Nat} {zs : List Int} {e : Ending} (h : DrewShaped w q a len cap zs e w') : DrewFull w q a len cap zs e w' := by
  obtain ⟨v, s, F, i', h', e1, e2, e3, e4⟩ := h
  exact ⟨v, s, F, i', h', e1, e2.sk, shaped_full e3, e4⟩
/-- The result's place is written last. -/
theorem drew_put {w W : World} {q : Nat} {a : Option Addr} {len cap : Nat} {zs : List Int} {i h : Int} {cs : Array Value} {s : Sk} {F : List Nat} (hr : Blk W w.heap.size #[.int .i64 0, .int .i64 0, .int .i64 0, .int .i64 0, .slice none 0 0, .slice none 0 0, .slice none 0 0] 34) (hC : Cur W q a len cap zs i h) (hG : w.grownBy W (some q)) (hq : q < w.heap.size) (r : RdSk W (.agg cs) s F) (hs : s.full) (o : Own (w.heap.size + 1) W F) : DrewFull w q a len cap zs (.returned (.agg cs)) (W.setRow w.heap.size cs) := by
  have ag : Agree W (W.setRow w.heap.size cs) F := fun b hb => setRow_other W _ b _ (fun e => by have := o.ge b hb; omega)
  have hgr : w.grownBy (W.setRow w.heap.size cs) (some q) := ⟨hG.os, hG.tape, hG.output, by simp; exact hG.size, fun b hb hn => (setRow_other W _ b _ (by omega)).trans (hG.block b hb hn)⟩
  refine ⟨_, s, F, i, h, rfl, r.agree ag, hs, (o.agree ag).mono (by omega), ?_, hgr⟩
  refine cur_agree hC (World.block_lt_of_cell? _ _ hC.c0) (setRow_other W _ q _ (by omega)) (fun b hb ⟨off, ha, hp⟩ => setRow_other W _ b _ (fun e => ?_))
  subst e
  rcases hC.rd.cells with h0 | ⟨b', off', ha', hc⟩
  · omega
  · rw [ha] at ha'
    cases ha'
    have e0 := hc 0 hp
    rw [hr.cell] at e0
    match off, e0 with
    | 0, e0 => simp at e0
    | 1, e0 => simp at e0
    | 2, e0 => simp at e0
    | 3, e0 => simp at e0
    | 4, e0 => simp at e0
    | 5, e0 => simp at e0
    | 6, e0 => simp at e0
    | n + 7, e0 => simp at e0
theorem drew_row {w W ww : World} {q lo g : Nat} {c sm mn mx : Int} {b1 o1 k1 b2 o2 k2 p po k3 b3 o3 j0 b4 o4 j1 : Nat} {l1 l2 x y : List Int} {a : Option Addr} {len cap : Nat} {zs : List Int} {i h : Int} {v6 : Value} (hO : Out ww lo g c sm mn mx b1 o1 k1 b2 o2 k2 p po k3 b3 o3 j0 b4 o4 j1 l1 l2 x y W) (hr : Blk (W.setCell ⟨g, 6, none⟩ v6) w.heap.size #[.int .i64 0, .int .i64 0, .int .i64 0, .int .i64 0, .slice none 0 0, .slice none 0 0, .slice none 0 0] 34) (hC : Cur (W.setCell ⟨g, 6, none⟩ v6) q a len cap zs i h) (hG : w.grownBy (W.setCell ⟨g, 6, none⟩ v6) (some q)) (hq : q < w.heap.size) (hlo : w.heap.size + 1 ≤ lo) :
    DrewFull w q a len cap zs (.returned (.agg #[.int .i64 c, .int .i64 sm, .int .i64 mn, .int .i64 mx, .slice (some ⟨b1, o1, none⟩) 8 k1, .slice (some ⟨b2, o2, none⟩) 8 k2, .slice (some ⟨p, po, none⟩) 1 k3])) ((W.setCell ⟨g, 6, none⟩ v6).setRow w.heap.size #[.int .i64 c, .int .i64 sm, .int .i64 mn, .int .i64 mx, .slice (some ⟨b1, o1, none⟩) 8 k1, .slice (some ⟨b2, o2, none⟩) 8 k2, .slice (some ⟨p, po, none⟩) 1 k3]) := by
  have nd := hO.nd
  refine drew_put hr hC hG hq (s := ⟨c, sm, mn, mx, l1, l2, [x]⟩) (F := [b1, b2, p, b3]) ⟨_, 8, k1, _, 8, k2, _, 1, k3, [b1], [b2], [p, b3], rfl, hO.hist.agree (.set (by simp; omega) _ _), hO.regs.agree (.set (by simp; omega) _ _), ⟨rfl, .inr ⟨p, po, [b3], by omega, rfl, rfl, ?_⟩⟩, rfl⟩ ⟨?_, ?_, ?_, ?_⟩ ?_
  · show RdM _ [ints x] p po [b3]
    rw [RdM]
    exact ⟨_, [b3], [], cell_keep hO.c0 (by omega), rd_ints.2 ⟨_, _, _, rfl, hO.row0.agree (.set (by simp; omega) _ _)⟩, by simp [RdM], rfl⟩
  · have := hO.hist.length; simp; omega
  · have := hO.regs.length; simp; omega
  · simp
  · intro z hz
    have := hO.row0.length
    simp at hz
    subst hz
    omega
  · have o := (hO.own.set g 6 v6).mono hlo
    exact ⟨by have := o.nodup; simp at this ⊢; omega, fun b hb => o.free b (by simp at hb ⊢; omega), fun b hb => o.ge b (by simp at hb ⊢; omega)⟩
/-- What an append of one number onto the first list leaves. -/
structure HistX (w W W6 : World) (b1 : Nat) (l1 : List Int) (gB cp : Nat) : Prop where
  own : W6.ownsRow (w.heap.size + 1) 3 1 (.slice (some ⟨gB, 0, none⟩) (8 + 1) cp) (8 + 1) (l1.map (Value.int .i64) ++ [.int .i64 0])
  grow : (W.alloc (.cells #[.int .i64 0] 3)).grownBy W6 (Value.slice (some ⟨b1, 0, none⟩) 8 0).ownBlock
  at_ : (Value.slice (some ⟨b1, 0, none⟩) 8 0).ownBlock = some gB ∨ gB = W.heap.size + 1
theorem HistX.keep {w W W6 : World} {b1 : Nat} {l1 : List Int} {gB cp : Nat} (h : HistX w W W6 b1 l1 gB cp) : ∀ b, b < W.heap.size → b ≠ b1 → W6.heap[b]? = W.heap[b]? := fun b hb hn =>
  (h.grow.block b (by simp; omega) (fun e => hn (by simp [Value.ownBlock] at e; exact e))).trans (Below.heap_alloc W _ b hb)
theorem HistX.which {w W W6 : World} {b1 : Nat} {l1 : List Int} {gB cp : Nat} (h : HistX w W W6 b1 l1 gB cp) : gB = b1 ∨ W.heap.size < gB := by
  rcases h.at_ with e | e
  · left; simp [Value.ownBlock] at e; exact e.symm
  · right; omega
section
variable {w W W6 ww : World} {q g : Nat} {c sm mn mx : Int} {b1 o1 k1 b2 o2 k2 p po k3 b3 o3 j0 b4 o4 j1 : Nat} {l1 l2 x y : List Int} {a : Option Addr} {len cap : Nat} {zs : List Int} {i h : Int} {gB cp : Nat}
theorem HistX.held (hX : HistX w W W6 b1 l1 gB cp) (hO : Out ww (w.heap.size + 1) g c sm mn mx b1 o1 k1 b2 o2 k2 p po k3 b3 o3 j0 b4 o4 j1 l1 l2 x y W) (H : Blk W w.heap.size #[.int .i64 0, .int .i64 0, .int .i64 0, .int .i64 0, .slice none 0 0, .slice none 0 0, .slice none 0 0] 34 ∧ Cur W q a len cap zs i h ∧ w.grownBy W (some q)) (hq : q < w.heap.size) (ha : ∀ b, (∃ off, a = some ⟨b, off, none⟩ ∧ 0 < len) → b < w.heap.size) : Blk W6 w.heap.size #[.int .i64 0, .int .i64 0, .int .i64 0, .int .i64 0, .slice none 0 0, .slice none 0 0, .slice none 0 0] 34 ∧ Cur W6 q a len cap zs i h ∧ w.grownBy W6 (some q) := by
  have ge := hO.ges
  have hs := H.2.2.size
  have hsz : W.heap.size ≤ W6.heap.size := by have := hX.grow.size; simp at this; omega
  refine ⟨H.1.agree (hX.keep _ H.1.lt (by omega)), cur_agree H.2.1 (World.block_lt_of_cell? _ _ H.2.1.c0) (hX.keep q (by omega) (by omega)) (fun b hb hx => hX.keep b hb (by have := ha b hx; omega)), ?_⟩
  exact ⟨hX.grow.os.trans H.2.2.os, hX.grow.tape.trans H.2.2.tape, hX.grow.output.trans H.2.2.output, by omega, fun b hb hn => (hX.keep b (by omega) (by omega)).trans (H.2.2.block b hb hn)⟩
theorem HistX.blk (hX : HistX w W W6 b1 l1 gB cp) (hO : Out ww (w.heap.size + 1) g c sm mn mx b1 o1 k1 b2 o2 k2 p po k3 b3 o3 j0 b4 o4 j1 l1 l2 x y W) : Blk W6 g #[.int .i64 c, .int .i64 sm, .int .i64 mn, .int .i64 mx, .slice (some ⟨b1, o1, none⟩) 8 k1, .slice (some ⟨b2, o2, none⟩) 8 k2, .slice (some ⟨p, po, none⟩) 2 k3] 34 :=
  hO.blk.agree (hX.keep g hO.blk.lt (by have := hO.nd; omega))
theorem drew_hist (hO : Out ww (w.heap.size + 1) g c sm mn mx b1 o1 k1 b2 o2 k2 p po k3 b3 o3 j0 b4 o4 j1 l1 l2 x y W) (hX : HistX w W W6 b1 l1 gB cp) {v6 : Value} (hr : Blk (W6.setCell ⟨g, 4, none⟩ v6) w.heap.size #[.int .i64 0, .int .i64 0, .int .i64 0, .int .i64 0, .slice none 0 0, .slice none 0 0, .slice none 0 0] 34) (hC : Cur (W6.setCell ⟨g, 4, none⟩ v6) q a len cap zs i h) (hG : w.grownBy (W6.setCell ⟨g, 4, none⟩ v6) (some q)) (hq : q < w.heap.size) :
    DrewFull w q a len cap zs (.returned (.agg #[.int .i64 c, .int .i64 sm, .int .i64 mn, .int .i64 mx, .slice (some ⟨gB, 0, none⟩) 9 cp, .slice (some ⟨b2, o2, none⟩) 8 k2, .slice (some ⟨p, po, none⟩) 2 k3])) ((W6.setCell ⟨g, 4, none⟩ v6).setRow w.heap.size #[.int .i64 c, .int .i64 sm, .int .i64 mn, .int .i64 mx, .slice (some ⟨gB, 0, none⟩) 9 cp, .slice (some ⟨b2, o2, none⟩) 8 k2, .slice (some ⟨p, po, none⟩) 2 k3]) := by
  have nd := hO.nd
  have e1 := hO.hist.lt b1 (by simp)
  have e2 := hO.regs.lt b2 (by simp)
  have e3 := hO.row0.lt b3 (by simp)
  have e4 := hO.row1.lt b4 (by simp)
  have e5 : p < W.heap.size := World.block_lt_of_cell? _ _ hO.c0
  have e6 := hO.blk.lt
  have wh := hX.which
  have ag : Agree W W6 [b2, p, b3, b4] := fun b hb => hX.keep b (by simp at hb; omega) (by simp at hb; omega)
  have hown : W6.ownsRow (w.heap.size + 1) 3 1 (.slice (some ⟨gB, 0, none⟩) 9 cp) 9 ((l1 ++ [0]).map (Value.int .i64)) := by rw [List.map_append]; exact hX.own
  obtain ⟨F, hR, hF, hFg⟩ := RdI.of_own hown
  obtain ⟨b', o', hb', rfl⟩ := hR.single (by omega)
  cases hb'
  have hgd : g ≠ gB := by omega
  refine drew_put hr hC hG hq (s := ⟨c, sm, mn, mx, l1 ++ [0], l2, [x, y]⟩) (F := [gB, b2, p, b3, b4]) ⟨_, 9, cp, _, 8, k2, _, 2, k3, [gB], [b2], [p, b3, b4], rfl, hR.agree (.set (by simp; omega) _ _), (hO.regs.agree (ag.mono (by simp))).agree (.set (by simp; omega) _ _), ⟨rfl, .inr ⟨p, po, [b3, b4], by omega, rfl, rfl, ?_⟩⟩, rfl⟩ ⟨?_, ?_, ?_, ?_⟩ ?_
  · have bp := ag p (by simp)
    show RdM _ [ints x, ints y] p po [b3, b4]
    rw [RdM]
    refine ⟨_, [b3], [b4], cell_keep ((World.cell?_of_block (w := W) (a := ⟨p, po, none⟩) bp).trans hO.c0) (by omega), rd_ints.2 ⟨_, _, _, rfl, (hO.row0.agree (ag.mono (by simp))).agree (.set (by simp; omega) _ _)⟩, ?_, rfl⟩
    rw [RdM]
    exact ⟨_, [b4], [], cell_keep ((World.cell?_of_block (w := W) (a := ⟨p, po + 1, none⟩) bp).trans hO.c1) (by omega), rd_ints.2 ⟨_, _, _, rfl, (hO.row1.agree (ag.mono (by simp))).agree (.set (by simp; omega) _ _)⟩, by simp [RdM], rfl⟩
  · have := hO.hist.length; simp; omega
  · have := hO.regs.length; simp; omega
  · simp
  · intro z hz
    have := hO.row0.length
    have := hO.row1.length
    simp at hz
    rcases hz with rfl | rfl <;> omega
  · have oG := hF.set g 4 v6
    have oR : Own (w.heap.size + 1) W6 [b2, p, b3, b4] := (⟨by have := hO.own.nodup; simp at this ⊢; omega, fun b hb => hO.own.free b (by simp at hb ⊢; omega), fun b hb => hO.own.ge b (by simp at hb ⊢; omega)⟩ : Own (w.heap.size + 1) W [b2, p, b3, b4]).agree ag
    exact oG.app (oR.set g 4 v6) (fun b hb => by simp at hb ⊢; omega)
end
set_option maxRecDepth 200000 in
set_option maxHeartbeats 8000000 in
theorem l3Draw_any (q : Nat) (a : Option Addr) (len cap : Nat) (zs : List Int) (i h : Int) (w : World) (C : Cur w q a len cap zs i h) (hlen : len ≤ 1048576) :
    Calls Try.prog 92 #[.pointer (some ⟨q, 0, none⟩)] w fun e w' => DrewFull w q a len cap zs e w' := by
  have HL : Hid (q < w.heap.size ∧ ∀ b, (∃ off, a = some ⟨b, off, none⟩ ∧ 0 < len) → b < w.heap.size) := ⟨World.block_lt_of_cell? _ _ C.c0, cur_lt C⟩
  have HT : Hid (Blk (w.alloc (.cells #[.int .i64 0, .int .i64 0, .int .i64 0, .int .i64 0, .slice none 0 0, .slice none 0 0, .slice none 0 0] 34)) w.heap.size #[.int .i64 0, .int .i64 0, .int .i64 0, .int .i64 0, .slice none 0 0, .slice none 0 0, .slice none 0 0] 34 ∧ Below w.heap.size w (w.alloc (.cells #[.int .i64 0, .int .i64 0, .int .i64 0, .int .i64 0, .slice none 0 0, .slice none 0 0, .slice none 0 0] 34))) := ⟨Blk.made _ _ _, (Below.refl _ _).alloc (Nat.le_refl _) _⟩
  have HC : Hid (Cur (w.alloc (.cells #[.int .i64 0, .int .i64 0, .int .i64 0, .int .i64 0, .slice none 0 0, .slice none 0 0, .slice none 0 0] 34)) q a len cap zs i h) := C.keep HT.out.2
  clear C
  go_enter Try.func92, Try.ntmps92
  go_wp2_with fail
  refine (l3Right_any q a len cap zs i h _ HC.out hlen).mono ?_
  rintro e w1 ⟨vv, s, X, i1, h1, rfl, rr, hs, oo, C1, g1⟩
  have hlo : w.heap.size + 1 ≤ w1.heap.size := by have := g1.size; simpa using this
  obtain ⟨es, rfl, e7, e1⟩ := rr.cells
  have HE : Hid (RdR w1 (.agg es) s X ∧ Own (w.heap.size + 1) w1 X ∧ es.size = 7 ∧ es.all (·.oneCell') = true ∧ s.shaped = true) := ⟨rr, by simpa using oo, e7, e1, hs⟩
  have HL1 : Hid (Blk w1 w.heap.size #[.int .i64 0, .int .i64 0, .int .i64 0, .int .i64 0, .slice none 0 0, .slice none 0 0, .slice none 0 0] 34 ∧ Cur w1 q a len cap zs i1 h1 ∧ w.grownBy w1 (some q)) := ⟨HT.out.1.grown g1 (by have := HL.out.1; omega), C1, grown_tr (grown_below q HT.out.2) g1⟩
  clear rr oo e7 e1 hs C1 g1 HT HC
  go_wp2_with (first | go_skip | (with_reducible refine stopLoad 34 rfl ?_) | (with_reducible refine stopStore 34 rfl ?_))
  refine store_fresh 34 w1.heap.size rfl #[.int .i64 0, .int .i64 0, .int .i64 0, .int .i64 0, .slice none 0 0, .slice none 0 0, .slice none 0 0] es 34 rfl rfl rfl rfl (skSize HE.out.2.2.1) HE.out.2.2.1.symm HE.out.2.2.2.1 ?_
  intro W3 hg3 hb3
  have hG3 := grown_tr HL1.out.2.2 (grown_below q hb3)
  obtain ⟨b1, o1, k1, b2, o2, k2, p, po, k3, b3, o3, j0, b4, o4, j1, l1, l2, x, y, hO⟩ := out_of (w := World.bare w) (lo := w.heap.size + 1) (HE.out.1.below hb3).sk hg3 (HE.out.2.1.below HE.out.1.lt hb3) hlo (fun hx => by have := HE.out.1.lt _ hx; omega) HE.out.2.2.2.2 (bare_below hG3) (by show 0 + 1 < w.heap.size + 1; have := HL.out.1; omega) (HE.out.1.below hb3).room
  have HO3 : Hid (Out (World.bare w) (w.heap.size + 1) w1.heap.size s.count s.sum s.min s.max b1 o1 k1 b2 o2 k2 p po k3 b3 o3 j0 b4 o4 j1 l1 l2 x y W3) := hO
  have HR3 : Hid (Blk W3 w.heap.size #[.int .i64 0, .int .i64 0, .int .i64 0, .int .i64 0, .slice none 0 0, .slice none 0 0, .slice none 0 0] 34 ∧ Cur W3 q a len cap zs i1 h1 ∧ w.grownBy W3 (some q)) := ⟨HL1.out.1.below hb3, HL1.out.2.1.keep hb3, hG3⟩
  clear hg3 hb3 hG3 hO HE HL1
  go_wp2_with fail
  refine (l1Below_any q a len cap zs i1 h1 16 _ HR3.out.2.1 hlen (by omega) (by omega)).mono ?_
  rintro e w4 ⟨d, i4, h4, rfl, d0, d1, C4, g4⟩
  have HO4 : Hid (Out (World.bare w) (w.heap.size + 1) w1.heap.size s.count s.sum s.min s.max b1 o1 k1 b2 o2 k2 p po k3 b3 o3 j0 b4 o4 j1 l1 l2 x y w4) := HO3.out.grown g4 (by have := HL.out.1; omega) (Nat.zero_le _)
  have HR4 : Hid (Blk w4 w.heap.size #[.int .i64 0, .int .i64 0, .int .i64 0, .int .i64 0, .slice none 0 0, .slice none 0 0, .slice none 0 0] 34 ∧ Cur w4 q a len cap zs i4 h4 ∧ w.grownBy w4 (some q)) := ⟨HR3.out.1.grown g4 (by have := HL.out.1; omega), C4, grown_tr HR3.out.2.2 g4⟩
  clear C4 g4 HO3 HR3
  by_cases q0 : d = 0
  · subst q0
    go_wp2_with fail
    refine (pickInt_cur q w4.heap.size _ a len cap zs i4 h4 [-1, 1000001, 500] _ (HR4.out.2.1.keep ((Below.refl _ _).alloc (Nat.le_refl _) _)) hlen (fun j hj => lit_ints w4 [-1, 1000001, 500] 3 j hj) (by have := HR4.out.2.2.size; have := HL.out.1; omega) _ rfl (by simp) (by simp)).mono ?_
    rintro e w5 ⟨z, i5, h5, _, rfl, C5, g5⟩
    have gg := grown_tr (World.grownBy_alloc w4 _ (some q)) g5
    have HO5 : Hid (Out (World.bare w) (w.heap.size + 1) w1.heap.size s.count s.sum s.min s.max b1 o1 k1 b2 o2 k2 p po k3 b3 o3 j0 b4 o4 j1 l1 l2 x y w5) := HO4.out.grown gg (by have := HL.out.1; omega) (Nat.zero_le _)
    have HR5 : Hid (Blk w5 w.heap.size #[.int .i64 0, .int .i64 0, .int .i64 0, .int .i64 0, .slice none 0 0, .slice none 0 0, .slice none 0 0] 34 ∧ Cur w5 q a len cap zs i5 h5 ∧ w.grownBy w5 (some q)) := ⟨HR4.out.1.grown gg (by have := HL.out.1; omega), C5, grown_tr HR4.out.2.2 gg⟩
    have HOX : Hid _ := HO5.out.setMn z
    have HRX : Hid _ := held_set HR5.out HL.out.1 HL.out.2 w1.heap.size 2 (.int .i64 z) (by have := HO5.out.ges; omega)
    have f2 := HO5.out.blk.frozen 2
    have c2 := HO5.out.blk.cell 2
    simp only [aT, aS, aZ] at c2
    clear C5 g5 gg
    go_wp2_with (first | go_skip | (with_reducible refine stopLoad 34 rfl ?_) | (with_reducible refine stopStore 34 rfl ?_))
    refine load_any 34 w1.heap.size _ 34 _ HOX.out.blk rfl rfl rfl Try.underlying34 rfl (by kernel_rfl) ?_
    go_wp2_with (first | go_skip | (with_reducible refine stopLoad 34 rfl ?_) | (with_reducible refine stopStore 34 rfl ?_))
    refine store_known 34 w.heap.size _ _ 34 HRX.out.1 rfl rfl rfl rfl (by kernel_rfl) rfl (by kernel_rfl) ?_
    go_wp2
    refine bodyPost_ret (results_cell_row Try.results92 _ _ w.heap.size _ _ _ _ rfl HRX.out.1.setRow Try.underlying34 rfl (by kernel_rfl)) rfl ?_
    exact drew_full (drew_end HOX.out HRX.out.1 HRX.out.2.1 HRX.out.2.2 HL.out.1 (by omega))
  by_cases q1 : d = 1
  · subst q1
    have HS4 : Hid (w4.drew.cell? ⟨w1.heap.size, 5, none⟩ = some (.slice (some ⟨b2, o2, none⟩) 8 k2)) := HO4.out.drew.blk.cell 5
    have HO4d : Hid (Out (World.bare w) (w.heap.size + 1) w1.heap.size s.count s.sum s.min s.max b1 o1 k1 b2 o2 k2 p po k3 b3 o3 j0 b4 o4 j1 l1 l2 x y w4.drew) := HO4.out.drew
    have HR4d : Hid (Blk w4.drew w.heap.size #[.int .i64 0, .int .i64 0, .int .i64 0, .int .i64 0, .slice none 0 0, .slice none 0 0, .slice none 0 0] 34 ∧ Cur w4.drew q a len cap zs i4 h4 ∧ w.grownBy w4.drew (some q)) := ⟨HR4.out.1.drew, HR4.out.2.1.keep (Below.refl _ _).drew, grown_tr HR4.out.2.2 (grown_below q (Below.refl _ _).drew)⟩
    go_wp2
    refine wp_region_held (S := (fun W => W.cell? ⟨w1.heap.size, 5, none⟩ = some (.slice (some ⟨b2, o2, none⟩) 8 k2))) (by kernel_rfl) ?_
    change wpAnyH _ _ _ _ _ _ _ _ (World.drew _)
    refine takeH (o := ?o1) 0 (.pointer (some ⟨w1.heap.size, 5, none⟩)) ?h1 ?r1
    case h1 => simp only [aT, aZ]; rfl
    refine ⟨_, by simp [Act.put]; rfl, by kernel_rfl, by kernel_rfl, by kernel_rfl, fun _ _ _ h => h, (.inl ⟨rfl, fun W _ => by go_simp⟩), HS4.out, ?_⟩
    refine takeH (o := ?o2) 1 (.slice (some ⟨b2, o2, none⟩) 8 k2) ?h2 ?r2
    case h2 => simp only [aT, aS, aZ]; rfl
    refine ⟨_, by simp [Act.put]; rfl, by kernel_rfl, by kernel_rfl, by kernel_rfl, fun _ _ _ h => h, (.inl ⟨rfl, fun W hW => by have c := hW; go_simp⟩), HS4.out, ?_⟩
    refine takeH (o := ?o3) 2 (.pointer (some ⟨q, 0, none⟩)) ?h3 ?r3
    case h3 => simp only [aT, aS, aZ]; rfl
    refine ⟨_, by simp [Act.put]; rfl, by kernel_rfl, by kernel_rfl, by kernel_rfl, fun _ _ _ h => h, (.inl ⟨rfl, fun W _ => by go_simp⟩), HS4.out, ?_⟩
    refine takeH (o := ?o4) 4 (.pointer (some ⟨q, 0, none⟩)) ?h4 ?r4
    case h4 => simp only [aT, aS, aZ]; rfl
    refine ⟨_, by simp [Act.put]; rfl, by kernel_rfl, by kernel_rfl, by kernel_rfl, fun _ _ _ h => h, (.inl ⟨rfl, fun W _ => by go_simp⟩), HS4.out, ?_⟩
    refine twoH (o := ?o5) (o' := ?p5) 3 5 (by kernel_rfl) ?h5 ?g5 ?r5 ?s5
    case h5 => simp only [aT, aS, aZ]; rfl
    case g5 => simp only [aT, aS, aZ]; rfl
    case r5 =>
      intro K hK
      refine op_call2' 61 _ _ _ Try.f61 (fun v w' => ∃ j i' h', v = .int .i64 j ∧ 0 ≤ j ∧ j < 8 ∧ Cur w' q a len cap zs i' h' ∧ w4.drew.grownBy w' (some q)) rfl rfl Try.func61 (by kernel_rfl) (by kernel_rfl) ((l1Below_any q a len cap zs i4 h4 8 w4.drew HR4d.out.2.1 hlen (by omega) (by omega)).mono (by rintro e w' ⟨z, i', h', rfl, z0, z1, C, g⟩; exact ⟨_, rfl, z, i', h', rfl, z0, z1, C, g⟩)) ?_
      rintro _ w5 ⟨z, i5, h5, rfl, z0, z1, C5, g5⟩
      obtain ⟨j, rfl⟩ := Int.eq_ofNat_of_zero_le z0
      have hj : j < 8 := by omega
      have HO5 : Hid (Out (World.bare w) (w.heap.size + 1) w1.heap.size s.count s.sum s.min s.max b1 o1 k1 b2 o2 k2 p po k3 b3 o3 j0 b4 o4 j1 l1 l2 x y w5) := HO4d.out.grown g5 (by have := HL.out.1; omega) (Nat.zero_le _)
      have HR5 : Hid (Blk w5 w.heap.size #[.int .i64 0, .int .i64 0, .int .i64 0, .int .i64 0, .slice none 0 0, .slice none 0 0, .slice none 0 0] 34 ∧ Cur w5 q a len cap zs i5 h5 ∧ w.grownBy w5 (some q)) := ⟨HR4d.out.1.grown g5 (by have := HL.out.1; omega), C5, grown_tr HR4d.out.2.2 g5⟩
      have HS5 : Hid (w5.cell? ⟨w1.heap.size, 5, none⟩ = some (.slice (some ⟨b2, o2, none⟩) 8 k2)) := HO5.out.blk.cell 5
      refine ⟨_, by simp [Act.put]; rfl, hK _ _ ⟨HS5.out, ?_⟩⟩
      clear hK C5 g5 z0 z1 HS4 HO4d HR4d
      refine onlyH (o := ?o6) 5 (by kernel_rfl) ?h6 ?r6
      case h6 => simp only [aT, aS, aZ]; rfl
      intro K hK
      refine op_turn (.slice (some ⟨w5.heap.size, 0, none⟩) 3 3) (w5.alloc (.cells ([-1, 17, 18].map (Value.int .i64)).toArray 3)) rfl (by go_simp) ⟨_, by simp [Act.put]; rfl, hK _ _ ⟨(HO5.out.blk.alloc _).cell 5, ?_⟩⟩
      obtain ⟨w6, hW⟩ : ∃ W, W = (w5.alloc (.cells ([-1, 17, 18].map (Value.int .i64)).toArray 3)) := ⟨_, rfl⟩
      rw [← hW]
      have hbw : Below w5.heap.size w5 w6 := by rw [hW]; exact (Below.refl _ _).alloc (Nat.le_refl _) _
      have HLIT : Hid (∀ j, j < ([-1, 17, 18] : List Int).length → w6.cell? ⟨w5.heap.size, j, none⟩ = some (.int .i64 (([-1, 17, 18] : List Int).getD j 0))) := fun j hj => by rw [hW]; exact lit_ints w5 [-1, 17, 18] 3 j hj
      have HO6 : Hid (Out (World.bare w) (w.heap.size + 1) w1.heap.size s.count s.sum s.min s.max b1 o1 k1 b2 o2 k2 p po k3 b3 o3 j0 b4 o4 j1 l1 l2 x y w6) := HO5.out.below hbw
      have HR6 : Hid (Blk w6 w.heap.size #[.int .i64 0, .int .i64 0, .int .i64 0, .int .i64 0, .slice none 0 0, .slice none 0 0, .slice none 0 0] 34 ∧ Cur w6 q a len cap zs i5 h5 ∧ w.grownBy w6 (some q)) := ⟨HR5.out.1.below hbw, HR5.out.2.1.keep hbw, grown_tr HR5.out.2.2 (grown_below q hbw)⟩
      have HS6 : Hid (w6.cell? ⟨w1.heap.size, 5, none⟩ = some (.slice (some ⟨b2, o2, none⟩) 8 k2)) := HO6.out.blk.cell 5
      clear hK hW hbw
      refine onlyH (o := ?o7) 6 (by kernel_rfl) ?h7 ?r7
      case h7 => simp only [aT, aS, aZ]; rfl
      intro K hK
      have hs5 := HR5.out.2.2.size
      refine op_call2' 74 _ _ _ Try.f74 (fun v w' => ∃ y i' h', v = .int .i64 y ∧ Cur w' q a len cap zs i' h' ∧ w6.grownBy w' (some q)) rfl rfl Try.func74 (by kernel_rfl) (by kernel_rfl) ((pickInt_cur q w5.heap.size _ a len cap zs i5 h5 [-1, 17, 18] w6 HR6.out.2.1 hlen HLIT.out (by have := HL.out.1; have := HR4.out.2.2.size; have := hs5; omega) _ rfl (by simp) (by simp)).mono (by rintro e w' ⟨y, i', h', _, rfl, C, g⟩; exact ⟨_, rfl, y, i', h', rfl, C, g⟩)) ?_
      rintro _ w7 ⟨vy, i7, h7, rfl, C7, g7⟩
      have HO7 : Hid (Out (World.bare w) (w.heap.size + 1) w1.heap.size s.count s.sum s.min s.max b1 o1 k1 b2 o2 k2 p po k3 b3 o3 j0 b4 o4 j1 l1 l2 x y w7) := HO6.out.grown g7 (by have := HL.out.1; omega) (Nat.zero_le _)
      have HR7 : Hid (Blk w7 w.heap.size #[.int .i64 0, .int .i64 0, .int .i64 0, .int .i64 0, .slice none 0 0, .slice none 0 0, .slice none 0 0] 34 ∧ Cur w7 q a len cap zs i7 h7 ∧ w.grownBy w7 (some q)) := ⟨HR6.out.1.grown g7 (by have := HL.out.1; omega), C7, grown_tr HR6.out.2.2 g7⟩
      have HS7 : Hid (w7.cell? ⟨w1.heap.size, 5, none⟩ = some (.slice (some ⟨b2, o2, none⟩) 8 k2)) := HO7.out.blk.cell 5
      refine ⟨_, by simp [Act.put]; rfl, hK _ _ ⟨HS7.out, ?_⟩⟩
      clear hK C7 g7 HS6 HO6 HR6 HS5 HO5 HR5 HLIT HO4 HR4
      refine takeH (o := ?o8) 7 (.pointer (some ⟨b2, o2 + j, none⟩)) ?h8 ?r8
      case h8 => simp only [aT, aS, aZ]; rfl
      refine ⟨_, by simp [Act.put]; rfl, by kernel_rfl, by kernel_rfl, by kernel_rfl, fun _ _ _ h => h, (.inl ⟨rfl, fun W _ => by go_simp; intro h; omega⟩), HS7.out, ?_⟩
      refine onlyH (o := ?o9) 8 (by kernel_rfl) ?h9 ?r9
      case h9 => simp only [aT, aS, aZ]; rfl
      intro K hK
      have fE := HO7.out.own.free b2 (by simp) (o2 + j)
      have cE := HO7.out.regs.at j hj
      have HOX : Hid _ := HO7.out.setRegs j hj vy
      have HRX : Hid _ := held_set HR7.out HL.out.1 HL.out.2 b2 (o2 + j) (.int .i64 vy) (by have := HO7.out.ges; omega)
      refine op_skip (w7.setCell ⟨b2, o2 + j, none⟩ (.int .i64 vy)) rfl (by go_simp) ⟨_, by simp [Act.put]; rfl, hK _ _ ⟨HOX.out.blk.cell 5, ?_⟩⟩
      clear hK
      refine wpAnyH_done (by kernel_rfl) ?_ _
      clear HO7 HR7 HS7
      go_wp2_with (first | go_skip | (with_reducible refine stopLoad 34 rfl ?_) | (with_reducible refine stopStore 34 rfl ?_))
      refine load_any 34 w1.heap.size _ 34 _ HOX.out.blk rfl rfl rfl Try.underlying34 rfl (by kernel_rfl) ?_
      go_wp2_with (first | go_skip | (with_reducible refine stopLoad 34 rfl ?_) | (with_reducible refine stopStore 34 rfl ?_))
      refine store_known 34 w.heap.size _ _ 34 HRX.out.1 rfl rfl rfl rfl (by kernel_rfl) rfl (by kernel_rfl) ?_
      go_wp2
      refine bodyPost_ret (results_cell_row Try.results92 _ _ w.heap.size _ _ _ _ rfl HRX.out.1.setRow Try.underlying34 rfl (by kernel_rfl)) rfl ?_
      exact drew_full (drew_end HOX.out HRX.out.1 HRX.out.2.1 HRX.out.2.2 HL.out.1 (by omega))
    case s5 =>
      intro K hK
      refine op_turn (.slice (some ⟨w4.drew.heap.size, 0, none⟩) 3 3) (w4.drew.alloc (.cells ([-1, 17, 18].map (Value.int .i64)).toArray 3)) rfl (by go_simp) ⟨_, by simp [Act.put]; rfl, hK _ _ ⟨(HO4d.out.blk.alloc _).cell 5, ?_⟩⟩
      obtain ⟨w6, hW⟩ : ∃ W, W = (w4.drew.alloc (.cells ([-1, 17, 18].map (Value.int .i64)).toArray 3)) := ⟨_, rfl⟩
      rw [← hW]
      have hbw : Below w4.drew.heap.size w4.drew w6 := by rw [hW]; exact (Below.refl _ _).alloc (Nat.le_refl _) _
      have HLIT : Hid (∀ j, j < ([-1, 17, 18] : List Int).length → w6.cell? ⟨w4.drew.heap.size, j, none⟩ = some (.int .i64 (([-1, 17, 18] : List Int).getD j 0))) := fun j hj => by rw [hW]; exact lit_ints w4.drew [-1, 17, 18] 3 j hj
      have HO6 : Hid (Out (World.bare w) (w.heap.size + 1) w1.heap.size s.count s.sum s.min s.max b1 o1 k1 b2 o2 k2 p po k3 b3 o3 j0 b4 o4 j1 l1 l2 x y w6) := HO4d.out.below hbw
      have HR6 : Hid (Blk w6 w.heap.size #[.int .i64 0, .int .i64 0, .int .i64 0, .int .i64 0, .slice none 0 0, .slice none 0 0, .slice none 0 0] 34 ∧ Cur w6 q a len cap zs i4 h4 ∧ w.grownBy w6 (some q)) := ⟨HR4d.out.1.below hbw, HR4d.out.2.1.keep hbw, grown_tr HR4d.out.2.2 (grown_below q hbw)⟩
      have HS6 : Hid (w6.cell? ⟨w1.heap.size, 5, none⟩ = some (.slice (some ⟨b2, o2, none⟩) 8 k2)) := HO6.out.blk.cell 5
      have hd : w4.drew.heap.size = w4.heap.size := rfl
      clear hK hW HS4 HO4d HR4d
      refine onlyH (o := ?o10) 3 (by kernel_rfl) ?h10 ?r10
      case h10 => simp only [aT, aS, aZ]; rfl
      intro K hK
      refine op_call2' 61 _ _ _ Try.f61 (fun v w' => ∃ j i' h', v = .int .i64 j ∧ 0 ≤ j ∧ j < 8 ∧ Cur w' q a len cap zs i' h' ∧ w6.grownBy w' (some q)) rfl rfl Try.func61 (by kernel_rfl) (by kernel_rfl) ((l1Below_any q a len cap zs i4 h4 8 w6 HR6.out.2.1 hlen (by omega) (by omega)).mono (by rintro e w' ⟨z, i', h', rfl, z0, z1, C, g⟩; exact ⟨_, rfl, z, i', h', rfl, z0, z1, C, g⟩)) ?_
      rintro _ w5 ⟨z, i5, h5, rfl, z0, z1, C5, g5⟩
      obtain ⟨j, rfl⟩ := Int.eq_ofNat_of_zero_le z0
      have hj : j < 8 := by omega
      have HO5 : Hid (Out (World.bare w) (w.heap.size + 1) w1.heap.size s.count s.sum s.min s.max b1 o1 k1 b2 o2 k2 p po k3 b3 o3 j0 b4 o4 j1 l1 l2 x y w5) := HO6.out.grown g5 (by have := HL.out.1; omega) (Nat.zero_le _)
      have HR5 : Hid (Blk w5 w.heap.size #[.int .i64 0, .int .i64 0, .int .i64 0, .int .i64 0, .slice none 0 0, .slice none 0 0, .slice none 0 0] 34 ∧ Cur w5 q a len cap zs i5 h5 ∧ w.grownBy w5 (some q)) := ⟨HR6.out.1.grown g5 (by have := HL.out.1; omega), C5, grown_tr HR6.out.2.2 g5⟩
      have HS5 : Hid (w5.cell? ⟨w1.heap.size, 5, none⟩ = some (.slice (some ⟨b2, o2, none⟩) 8 k2)) := HO5.out.blk.cell 5
      have HLIT5 : Hid (∀ j, j < ([-1, 17, 18] : List Int).length → w5.cell? ⟨w4.drew.heap.size, j, none⟩ = some (.int .i64 (([-1, 17, 18] : List Int).getD j 0))) := fun j hj => (World.cell?_of_block (g5.block w4.drew.heap.size (World.block_lt_of_cell? _ _ (HLIT.out j hj)) (fun e => by have := HR4.out.2.2.size; have := HL.out.1; simp at e; omega))).trans (HLIT.out j hj)
      refine ⟨_, by simp [Act.put]; rfl, hK _ _ ⟨HS5.out, ?_⟩⟩
      clear hK C5 g5 z0 z1 hbw
      refine onlyH (o := ?o11) 6 (by kernel_rfl) ?h11 ?r11
      case h11 => simp only [aT, aS, aZ]; rfl
      intro K hK
      refine op_call2' 74 _ _ _ Try.f74 (fun v w' => ∃ y i' h', v = .int .i64 y ∧ Cur w' q a len cap zs i' h' ∧ w5.grownBy w' (some q)) rfl rfl Try.func74 (by kernel_rfl) (by kernel_rfl) ((pickInt_cur q w4.drew.heap.size _ a len cap zs i5 h5 [-1, 17, 18] w5 HR5.out.2.1 hlen HLIT5.out (by have := HL.out.1; have := HR4.out.2.2.size; omega) _ rfl (by simp) (by simp)).mono (by rintro e w' ⟨y, i', h', _, rfl, C, g⟩; exact ⟨_, rfl, y, i', h', rfl, C, g⟩)) ?_
      rintro _ w7 ⟨vy, i7, h7, rfl, C7, g7⟩
      have HO7 : Hid (Out (World.bare w) (w.heap.size + 1) w1.heap.size s.count s.sum s.min s.max b1 o1 k1 b2 o2 k2 p po k3 b3 o3 j0 b4 o4 j1 l1 l2 x y w7) := HO5.out.grown g7 (by have := HL.out.1; omega) (Nat.zero_le _)
      have HR7 : Hid (Blk w7 w.heap.size #[.int .i64 0, .int .i64 0, .int .i64 0, .int .i64 0, .slice none 0 0, .slice none 0 0, .slice none 0 0] 34 ∧ Cur w7 q a len cap zs i7 h7 ∧ w.grownBy w7 (some q)) := ⟨HR5.out.1.grown g7 (by have := HL.out.1; omega), C7, grown_tr HR5.out.2.2 g7⟩
      have HS7 : Hid (w7.cell? ⟨w1.heap.size, 5, none⟩ = some (.slice (some ⟨b2, o2, none⟩) 8 k2)) := HO7.out.blk.cell 5
      refine ⟨_, by simp [Act.put]; rfl, hK _ _ ⟨HS7.out, ?_⟩⟩
      clear hK C7 g7 HS6 HO6 HR6 HS5 HO5 HR5 HLIT HLIT5 HO4 HR4 hd
      refine takeH (o := ?o12) 7 (.pointer (some ⟨b2, o2 + j, none⟩)) ?h12 ?r12
      case h12 => simp only [aT, aS, aZ]; rfl
      refine ⟨_, by simp [Act.put]; rfl, by kernel_rfl, by kernel_rfl, by kernel_rfl, fun _ _ _ h => h, (.inl ⟨rfl, fun W _ => by go_simp; intro h; omega⟩), HS7.out, ?_⟩
      refine onlyH (o := ?o13) 8 (by kernel_rfl) ?h13 ?r13
      case h13 => simp only [aT, aS, aZ]; rfl
      intro K hK
      have fE := HO7.out.own.free b2 (by simp) (o2 + j)
      have cE := HO7.out.regs.at j hj
      have HOX : Hid _ := HO7.out.setRegs j hj vy
      have HRX : Hid _ := held_set HR7.out HL.out.1 HL.out.2 b2 (o2 + j) (.int .i64 vy) (by have := HO7.out.ges; omega)
      refine op_skip (w7.setCell ⟨b2, o2 + j, none⟩ (.int .i64 vy)) rfl (by go_simp) ⟨_, by simp [Act.put]; rfl, hK _ _ ⟨HOX.out.blk.cell 5, ?_⟩⟩
      clear hK
      refine wpAnyH_done (by kernel_rfl) ?_ _
      clear HO7 HR7 HS7
      go_wp2_with (first | go_skip | (with_reducible refine stopLoad 34 rfl ?_) | (with_reducible refine stopStore 34 rfl ?_))
      refine load_any 34 w1.heap.size _ 34 _ HOX.out.blk rfl rfl rfl Try.underlying34 rfl (by kernel_rfl) ?_
      go_wp2_with (first | go_skip | (with_reducible refine stopLoad 34 rfl ?_) | (with_reducible refine stopStore 34 rfl ?_))
      refine store_known 34 w.heap.size _ _ 34 HRX.out.1 rfl rfl rfl rfl (by kernel_rfl) rfl (by kernel_rfl) ?_
      go_wp2
      refine bodyPost_ret (results_cell_row Try.results92 _ _ w.heap.size _ _ _ _ rfl HRX.out.1.setRow Try.underlying34 rfl (by kernel_rfl)) rfl ?_
      exact drew_full (drew_end HOX.out HRX.out.1 HRX.out.2.1 HRX.out.2.2 HL.out.1 (by omega))
  by_cases q2 : d = 2
  · subst q2
    have c4 := HO4.out.blk.cell 4
    have f4 := HO4.out.blk.frozen 4
    simp only [aT, aS, aZ] at c4
    have hsz := HR4.out.2.2.size
    have hb1 := HO4.out.ges
    have HW : Hid (w4.ownsRow (w.heap.size + 1) 3 1 (.slice (some ⟨b1, o1, none⟩) 8 k1) 8 (l1.map (Value.int .i64))) := HO4.out.room.to_own HO4.out.hist hb1.2.1
    obtain ⟨t0, hi, hz0, hz1, hz2⟩ := info_parts infoInt
    have hs4 : (w4.alloc (.cells #[.int .i64 0] 3)).heap.size = w4.heap.size + 1 := by simp
    go_wp2_with (at_builtin; (refine wpList_append_lies _ rfl _ _ 29 rfl (w.heap.size + 1) 3 t0 (.int .i64 0) 1 8 Try.underlying29 hi hz0 hz1 hz2 rfl (by decide) _ 8 (l1.map (Value.int .i64)) rfl (HW.out.alloc _) ⟨w4.heap.size, 0, none⟩ 1 1 [.int .i64 0] rfl rfl (cell_new1 _ _ _) (by intro u hu; simp at hu; subst hu; rfl) (by decide) (by unfold maxLen; omega) (by omega) (by have := HO4.out.blk.lt; simp; omega) (w4.heap.size + 1) hs4 ?_))
    intro gB cp w6 hown hgrow hat hltB
    have HX : Hid (HistX w w4 w6 b1 l1 gB cp) := ⟨hown, hgrow, hat⟩
    clear hown hgrow hat hs4
    have HR6 : Hid (Blk w6 w.heap.size #[.int .i64 0, .int .i64 0, .int .i64 0, .int .i64 0, .slice none 0 0, .slice none 0 0, .slice none 0 0] 34 ∧ Cur w6 q a len cap zs i4 h4 ∧ w.grownBy w6 (some q)) := HX.out.held HO4.out HR4.out HL.out.1 HL.out.2
    have HRX : Hid _ := held_set HR6.out HL.out.1 HL.out.2 w1.heap.size 4 (.slice (some ⟨gB, 0, none⟩) 9 cp) (by have := HO4.out.ges; omega)
    have HB6 : Hid (Blk w6 w1.heap.size #[.int .i64 s.count, .int .i64 s.sum, .int .i64 s.min, .int .i64 s.max, .slice (some ⟨b1, o1, none⟩) 8 k1, .slice (some ⟨b2, o2, none⟩) 8 k2, .slice (some ⟨p, po, none⟩) 2 k3] 34) := HX.out.blk HO4.out
    have HBX : Hid _ := HB6.out.set 4 (.slice (some ⟨gB, 0, none⟩) 9 cp)
    have c4 := HB6.out.cell 4
    have f4 := HB6.out.frozen 4
    simp only [aT, aS, aZ] at c4
    go_wp2_with (first | go_skip | (with_reducible refine stopLoad 34 rfl ?_) | (with_reducible refine stopStore 34 rfl ?_))
    refine load_any 34 w1.heap.size _ 34 _ HBX.out rfl rfl rfl Try.underlying34 rfl (by kernel_rfl) ?_
    go_wp2_with (first | go_skip | (with_reducible refine stopLoad 34 rfl ?_) | (with_reducible refine stopStore 34 rfl ?_))
    refine store_known 34 w.heap.size _ _ 34 HRX.out.1 rfl rfl rfl rfl (by kernel_rfl) rfl (by kernel_rfl) ?_
    go_wp2
    refine bodyPost_ret (results_cell_row Try.results92 _ _ w.heap.size _ _ _ _ rfl HRX.out.1.setRow Try.underlying34 rfl (by kernel_rfl)) rfl ?_
    exact drew_hist HO4.out HX.out HRX.out.1 HRX.out.2.1 HRX.out.2.2 HL.out.1
  by_cases q3 : d = 3
  · subst q3
    have c6 := HO4.out.blk.cell 6
    have f6 := HO4.out.blk.frozen 6
    have hk3 := HO4.out.wide
    simp only [aT, aS, aZ] at c6
    have HRX : Hid _ := held_set HR4.out HL.out.1 HL.out.2 w1.heap.size 6 (.slice (some ⟨p, po, none⟩) 1 k3) (by have := HO4.out.ges; omega)
    have HBX : Hid _ := HO4.out.blk.set 6 (.slice (some ⟨p, po, none⟩) 1 k3)
    go_wp2_with (first | go_skip | (with_reducible refine stopLoad 34 rfl ?_) | (with_reducible refine stopStore 34 rfl ?_))
    refine load_any 34 w1.heap.size _ 34 _ HBX.out rfl rfl rfl Try.underlying34 rfl (by kernel_rfl) ?_
    go_wp2_with (first | go_skip | (with_reducible refine stopLoad 34 rfl ?_) | (with_reducible refine stopStore 34 rfl ?_))
    refine store_known 34 w.heap.size _ _ 34 HRX.out.1 rfl rfl rfl rfl (by kernel_rfl) rfl (by kernel_rfl) ?_
    go_wp2
    refine bodyPost_ret (results_cell_row Try.results92 _ _ w.heap.size _ _ _ _ rfl HRX.out.1.setRow Try.underlying34 rfl (by kernel_rfl)) rfl ?_
    exact drew_row HO4.out HRX.out.1 HRX.out.2.1 HRX.out.2.2 HL.out.1 (by omega)
  by_cases q4 : d = 4
  · subst q4
    go_wp2_with fail
    refine (pickInt_cur q w4.heap.size _ a len cap zs i4 h4 [0, -1, 1000000001] _ (HR4.out.2.1.keep ((Below.refl _ _).alloc (Nat.le_refl _) _)) hlen (fun j hj => lit_ints w4 [0, -1, 1000000001] 3 j hj) (by have := HR4.out.2.2.size; have := HL.out.1; omega) _ rfl (by simp) (by simp)).mono ?_
    rintro e w5 ⟨z, i5, h5, _, rfl, C5, g5⟩
    have gg := grown_tr (World.grownBy_alloc w4 _ (some q)) g5
    have HO5 : Hid (Out (World.bare w) (w.heap.size + 1) w1.heap.size s.count s.sum s.min s.max b1 o1 k1 b2 o2 k2 p po k3 b3 o3 j0 b4 o4 j1 l1 l2 x y w5) := HO4.out.grown gg (by have := HL.out.1; omega) (Nat.zero_le _)
    have HR5 : Hid (Blk w5 w.heap.size #[.int .i64 0, .int .i64 0, .int .i64 0, .int .i64 0, .slice none 0 0, .slice none 0 0, .slice none 0 0] 34 ∧ Cur w5 q a len cap zs i5 h5 ∧ w.grownBy w5 (some q)) := ⟨HR4.out.1.grown gg (by have := HL.out.1; omega), C5, grown_tr HR4.out.2.2 gg⟩
    have HOX : Hid _ := HO5.out.setC z
    have HRX : Hid _ := held_set HR5.out HL.out.1 HL.out.2 w1.heap.size 0 (.int .i64 z) (by have := HO5.out.ges; omega)
    have f2 := HO5.out.blk.frozen 0
    have c2 := HO5.out.blk.cell 0
    simp only [aT, aZ] at c2
    clear C5 g5 gg
    go_wp2_with (first | go_skip | (with_reducible refine stopLoad 34 rfl ?_) | (with_reducible refine stopStore 34 rfl ?_))
    refine load_any 34 w1.heap.size _ 34 _ HOX.out.blk rfl rfl rfl Try.underlying34 rfl (by kernel_rfl) ?_
    go_wp2_with (first | go_skip | (with_reducible refine stopLoad 34 rfl ?_) | (with_reducible refine stopStore 34 rfl ?_))
    refine store_known 34 w.heap.size _ _ 34 HRX.out.1 rfl rfl rfl rfl (by kernel_rfl) rfl (by kernel_rfl) ?_
    go_wp2
    refine bodyPost_ret (results_cell_row Try.results92 _ _ w.heap.size _ _ _ _ rfl HRX.out.1.setRow Try.underlying34 rfl (by kernel_rfl)) rfl ?_
    exact drew_full (drew_end HOX.out HRX.out.1 HRX.out.2.1 HRX.out.2.2 HL.out.1 (by omega))
  by_cases q5 : d = 5
  · subst q5
    have HS4 : Hid (w4.drew.cell? ⟨w1.heap.size, 6, none⟩ = some (.slice (some ⟨p, po, none⟩) 2 k3) ∧ w4.drew.cell? ⟨p, po + 1, none⟩ = some (.slice (some ⟨b4, o4, none⟩) 4 j1)) := ⟨HO4.out.drew.blk.cell 6, HO4.out.drew.c1⟩
    have HO4d : Hid (Out (World.bare w) (w.heap.size + 1) w1.heap.size s.count s.sum s.min s.max b1 o1 k1 b2 o2 k2 p po k3 b3 o3 j0 b4 o4 j1 l1 l2 x y w4.drew) := HO4.out.drew
    have HR4d : Hid (Blk w4.drew w.heap.size #[.int .i64 0, .int .i64 0, .int .i64 0, .int .i64 0, .slice none 0 0, .slice none 0 0, .slice none 0 0] 34 ∧ Cur w4.drew q a len cap zs i4 h4 ∧ w.grownBy w4.drew (some q)) := ⟨HR4.out.1.drew, HR4.out.2.1.keep (Below.refl _ _).drew, grown_tr HR4.out.2.2 (grown_below q (Below.refl _ _).drew)⟩
    go_wp2
    refine wp_region_held (S := (fun W => W.cell? ⟨w1.heap.size, 6, none⟩ = some (.slice (some ⟨p, po, none⟩) 2 k3) ∧ W.cell? ⟨p, po + 1, none⟩ = some (.slice (some ⟨b4, o4, none⟩) 4 j1))) (by kernel_rfl) ?_
    change wpAnyH _ _ _ _ _ _ _ _ (World.drew _)
    refine takeH (o := ?o14) 0 (.pointer (some ⟨w1.heap.size, 6, none⟩)) ?h14 ?r14
    case h14 => simp only [aT, aZ]; rfl
    refine ⟨_, by simp [Act.put]; rfl, by kernel_rfl, by kernel_rfl, by kernel_rfl, fun _ _ _ h => h, (.inl ⟨rfl, fun W _ => by go_simp⟩), HS4.out, ?_⟩
    refine takeH (o := ?o15) 1 (.slice (some ⟨p, po, none⟩) 2 k3) ?h15 ?r15
    case h15 => simp only [aT, aS, aZ]; rfl
    refine ⟨_, by simp [Act.put]; rfl, by kernel_rfl, by kernel_rfl, by kernel_rfl, fun _ _ _ h => h, (.inl ⟨rfl, fun W hW => by have c := hW.1; go_simp⟩), HS4.out, ?_⟩
    refine takeH (o := ?o16) 2 (.pointer (some ⟨p, po + 1, none⟩)) ?h16 ?r16
    case h16 => simp only [aT, aS, aZ]; rfl
    refine ⟨_, by simp [Act.put]; rfl, by kernel_rfl, by kernel_rfl, by kernel_rfl, fun _ _ _ h => h, (.inl ⟨rfl, fun W _ => by go_simp⟩), HS4.out, ?_⟩
    refine takeH (o := ?o17) 3 (.slice (some ⟨b4, o4, none⟩) 4 j1) ?h17 ?r17
    case h17 => simp only [aT, aS, aZ]; rfl
    refine ⟨_, by simp [Act.put]; rfl, by kernel_rfl, by kernel_rfl, by kernel_rfl, fun _ _ _ h => h, (.inl ⟨rfl, fun W hW => by have c := hW.2; go_simp⟩), HS4.out, ?_⟩
    refine takeH (o := ?o18) 4 (.pointer (some ⟨q, 0, none⟩)) ?h18 ?r18
    case h18 => simp only [aT, aS, aZ]; rfl
    refine ⟨_, by simp [Act.put]; rfl, by kernel_rfl, by kernel_rfl, by kernel_rfl, fun _ _ _ h => h, (.inl ⟨rfl, fun W _ => by go_simp⟩), HS4.out, ?_⟩
    refine onlyH (o := ?o19) 5 (by kernel_rfl) ?h19 ?r19
    case h19 => simp only [aT, aS, aZ]; rfl
    intro K hK
    refine op_turn (.slice (some ⟨w4.drew.heap.size, 0, none⟩) 3 3) (w4.drew.alloc (.cells ([-1, 3, 1000000001].map (Value.int .i64)).toArray 3)) rfl (by go_simp) ⟨_, by simp [Act.put]; rfl, hK _ _ ⟨(HO4d.out.blk.alloc _).cell 6 |> fun e => ⟨e, cell_al HO4d.out.c1 _⟩, ?_⟩⟩
    obtain ⟨w6, hW⟩ : ∃ W, W = (w4.drew.alloc (.cells ([-1, 3, 1000000001].map (Value.int .i64)).toArray 3)) := ⟨_, rfl⟩
    rw [← hW]
    have hbw : Below w4.drew.heap.size w4.drew w6 := by rw [hW]; exact (Below.refl _ _).alloc (Nat.le_refl _) _
    have HLIT : Hid (∀ j, j < ([-1, 3, 1000000001] : List Int).length → w6.cell? ⟨w4.drew.heap.size, j, none⟩ = some (.int .i64 (([-1, 3, 1000000001] : List Int).getD j 0))) := fun j hj => by rw [hW]; exact lit_ints w4.drew [-1, 3, 1000000001] 3 j hj
    have HO6 : Hid (Out (World.bare w) (w.heap.size + 1) w1.heap.size s.count s.sum s.min s.max b1 o1 k1 b2 o2 k2 p po k3 b3 o3 j0 b4 o4 j1 l1 l2 x y w6) := HO4d.out.below hbw
    have HR6 : Hid (Blk w6 w.heap.size #[.int .i64 0, .int .i64 0, .int .i64 0, .int .i64 0, .slice none 0 0, .slice none 0 0, .slice none 0 0] 34 ∧ Cur w6 q a len cap zs i4 h4 ∧ w.grownBy w6 (some q)) := ⟨HR4d.out.1.below hbw, HR4d.out.2.1.keep hbw, grown_tr HR4d.out.2.2 (grown_below q hbw)⟩
    have HS6 : Hid (w6.cell? ⟨w1.heap.size, 6, none⟩ = some (.slice (some ⟨p, po, none⟩) 2 k3) ∧ w6.cell? ⟨p, po + 1, none⟩ = some (.slice (some ⟨b4, o4, none⟩) 4 j1)) := ⟨HO6.out.blk.cell 6, HO6.out.c1⟩
    have hd : w4.drew.heap.size = w4.heap.size := rfl
    clear hK hW hbw HS4 HO4d HR4d
    refine onlyH (o := ?o20) 6 (by kernel_rfl) ?h20 ?r20
    case h20 => simp only [aT, aS, aZ]; rfl
    intro K hK
    refine op_call2' 74 _ _ _ Try.f74 (fun v w' => ∃ y i' h', v = .int .i64 y ∧ Cur w' q a len cap zs i' h' ∧ w6.grownBy w' (some q)) rfl rfl Try.func74 (by kernel_rfl) (by kernel_rfl) ((pickInt_cur q w4.drew.heap.size _ a len cap zs i4 h4 [-1, 3, 1000000001] w6 HR6.out.2.1 hlen HLIT.out (by have := HL.out.1; have := HR4.out.2.2.size; omega) _ rfl (by simp) (by simp)).mono (by rintro e w' ⟨y, i', h', _, rfl, C, g⟩; exact ⟨_, rfl, y, i', h', rfl, C, g⟩)) ?_
    rintro _ w7 ⟨vy, i7, h7, rfl, C7, g7⟩
    have HO7 : Hid (Out (World.bare w) (w.heap.size + 1) w1.heap.size s.count s.sum s.min s.max b1 o1 k1 b2 o2 k2 p po k3 b3 o3 j0 b4 o4 j1 l1 l2 x y w7) := HO6.out.grown g7 (by have := HL.out.1; omega) (Nat.zero_le _)
    have HR7 : Hid (Blk w7 w.heap.size #[.int .i64 0, .int .i64 0, .int .i64 0, .int .i64 0, .slice none 0 0, .slice none 0 0, .slice none 0 0] 34 ∧ Cur w7 q a len cap zs i7 h7 ∧ w.grownBy w7 (some q)) := ⟨HR6.out.1.grown g7 (by have := HL.out.1; omega), C7, grown_tr HR6.out.2.2 g7⟩
    have HS7 : Hid (w7.cell? ⟨w1.heap.size, 6, none⟩ = some (.slice (some ⟨p, po, none⟩) 2 k3) ∧ w7.cell? ⟨p, po + 1, none⟩ = some (.slice (some ⟨b4, o4, none⟩) 4 j1)) := ⟨HO7.out.blk.cell 6, HO7.out.c1⟩
    refine ⟨_, by simp [Act.put]; rfl, hK _ _ ⟨HS7.out, ?_⟩⟩
    clear hK C7 g7 HS6 HO6 HR6 HLIT HO4 HR4 hd
    refine takeH (o := ?o21) 7 (.pointer (some ⟨b4, o4 + 2, none⟩)) ?h21 ?r21
    case h21 => simp only [aT, aS, aZ]; rfl
    refine ⟨_, by simp [Act.put]; rfl, by kernel_rfl, by kernel_rfl, by kernel_rfl, fun _ _ _ h => h, (.inl ⟨rfl, fun W _ => by go_simp⟩), HS7.out, ?_⟩
    refine onlyH (o := ?o22) 8 (by kernel_rfl) ?h22 ?r22
    case h22 => simp only [aT, aS, aZ]; rfl
    intro K hK
    have fE := HO7.out.own.free b4 (by simp) (o4 + 2)
    have cE := HO7.out.row1.at 2 (by omega)
    have HOX : Hid _ := HO7.out.setRow1 2 (by omega) vy
    have HRX : Hid _ := held_set HR7.out HL.out.1 HL.out.2 b4 (o4 + 2) (.int .i64 vy) (by have := HO7.out.ges; omega)
    refine op_skip (w7.setCell ⟨b4, o4 + 2, none⟩ (.int .i64 vy)) rfl (by go_simp) ⟨_, by simp [Act.put]; rfl, hK _ _ ⟨⟨HOX.out.blk.cell 6, HOX.out.c1⟩, ?_⟩⟩
    clear hK
    refine wpAnyH_done (by kernel_rfl) ?_ _
    clear HO7 HR7 HS7
    go_wp2_with (first | go_skip | (with_reducible refine stopLoad 34 rfl ?_) | (with_reducible refine stopStore 34 rfl ?_))
    refine load_any 34 w1.heap.size _ 34 _ HOX.out.blk rfl rfl rfl Try.underlying34 rfl (by kernel_rfl) ?_
    go_wp2_with (first | go_skip | (with_reducible refine stopLoad 34 rfl ?_) | (with_reducible refine stopStore 34 rfl ?_))
    refine store_known 34 w.heap.size _ _ 34 HRX.out.1 rfl rfl rfl rfl (by kernel_rfl) rfl (by kernel_rfl) ?_
    go_wp2
    refine bodyPost_ret (results_cell_row Try.results92 _ _ w.heap.size _ _ _ _ rfl HRX.out.1.setRow Try.underlying34 rfl (by kernel_rfl)) rfl ?_
    exact drew_full (drew_end HOX.out HRX.out.1 HRX.out.2.1 HRX.out.2.2 HL.out.1 (by omega))
  have p0 : (d == 0) = false := beq_false_of_ne q0
  have p1 : (d == 1) = false := beq_false_of_ne q1
  have p2 : (d == 2) = false := beq_false_of_ne q2
  have p3 : (d == 3) = false := beq_false_of_ne q3
  have p4 : (d == 4) = false := beq_false_of_ne q4
  have p5 : (d == 5) = false := beq_false_of_ne q5
  have HOX := HO4
  have HRX := HR4
  clear HO4 HR4 q0 q1 q2 q3 q4 q5
  go_wp2_with (first | go_skip | (with_reducible refine stopLoad 34 rfl ?_) | (with_reducible refine stopStore 34 rfl ?_))
  refine load_any 34 w1.heap.size _ 34 _ HOX.out.blk rfl rfl rfl Try.underlying34 rfl (by kernel_rfl) ?_
  go_wp2_with (first | go_skip | (with_reducible refine stopLoad 34 rfl ?_) | (with_reducible refine stopStore 34 rfl ?_))
  refine store_known 34 w.heap.size _ _ 34 HRX.out.1 rfl rfl rfl rfl (by kernel_rfl) rfl (by kernel_rfl) ?_
  go_wp2
  refine bodyPost_ret (results_cell_row Try.results92 _ _ w.heap.size _ _ _ _ rfl HRX.out.1.setRow Try.underlying34 rfl (by kernel_rfl)) rfl ?_
  exact drew_full (drew_end HOX.out HRX.out.1 HRX.out.2.1 HRX.out.2.2 HL.out.1 (by omega))
end Go.Proofs.Ytgkbhhlkaifnoaa
/- The walks through the model's drawing of items. No statement of the seat is proved here. -/
namespace Go.Proofs.Ytgkbhhlkaifnoaa
open Go.RowKit
theorem cur_row {W : World} {q g : Nat} {a : Option Addr} {len cap : Nat} {zs : List Int} {i h : Int} {cs : Array Value} (C : Cur W q a len cap zs i h) (hq : q ≠ g) (ha : ∀ b, (∃ off, a = some ⟨b, off, none⟩ ∧ 0 < len) → b ≠ g) : Cur (W.setRow g cs) q a len cap zs i h :=
  cur_agree C (World.block_lt_of_cell? _ _ C.c0) (setRow_other W g q cs hq) (fun b _ hx => setRow_other W g b cs (ha b hx))
theorem cur_cell {W : World} {q g j : Nat} {v : Value} {a : Option Addr} {len cap : Nat} {zs : List Int} {i h : Int} (C : Cur W q a len cap zs i h) (hq : q ≠ g) (ha : ∀ b, (∃ off, a = some ⟨b, off, none⟩ ∧ 0 < len) → b ≠ g) : Cur (W.setCell ⟨g, j, none⟩ v) q a len cap zs i h :=
  cur_agree C (World.block_lt_of_cell? _ _ C.c0) (Below.heap_setCell W ⟨g, j, none⟩ v q hq) (fun b _ hx => Below.heap_setCell W ⟨g, j, none⟩ v b (ha b hx))
theorem grown_row {w W : World} {q g : Nat} {cs : Array Value} (k : w.grownBy W (some q)) (hg : w.heap.size ≤ g) : w.grownBy (W.setRow g cs) (some q) :=
  ⟨k.os, k.tape, k.output, by simp; exact k.size, fun b hb hn => (setRow_other W g b cs (by omega)).trans (k.block b hb hn)⟩
theorem grown_cell {w W : World} {q g j : Nat} {v : Value} (k : w.grownBy W (some q)) (hg : w.heap.size ≤ g) : w.grownBy (W.setCell ⟨g, j, none⟩ v) (some q) :=
  ⟨k.os, k.tape, k.output, by simp; exact k.size, fun b hb hn => (Below.heap_setCell W ⟨g, j, none⟩ v b (fun e => by have e2 : b = g := e; omega)).trans (k.block b hb hn)⟩
/-- The result's place and the cursor. -/
structure HeldR (w : World) (q : Nat) (a : Option Addr) (len cap : Nat) (zs : List Int) (i h : Int) (cs : Array Value) (t : TypeId) (W : World) : Prop where
  res : Blk W w.heap.size cs t
  cur : Cur W q a len cap zs i h
  grown : w.grownBy W (some q)
section
variable {w W W' : World} {q : Nat} {a : Option Addr} {len cap : Nat} {zs : List Int} {i h i' h' : Int} {cs : Array Value} {t : TypeId}
theorem HeldR.next (H : HeldR w q a len cap zs i h cs t W) (hq : q < w.heap.size) (C : Cur W' q a len cap zs i' h') (g : W.grownBy W' (some q)) : HeldR w q a len cap zs i' h' cs t W' := ⟨H.res.grown g (by omega), C, grown_tr H.grown g⟩
theorem HeldR.below (H : HeldR w q a len cap zs i h cs t W) (b : Below W.heap.size W W') : HeldR w q a len cap zs i h cs t W' := ⟨H.res.below b, H.cur.below b, grown_tr H.grown (grown_below q b)⟩
theorem HeldR.made (C : Cur w q a len cap zs i h) (cs : Array Value) (t : TypeId) : HeldR w q a len cap zs i h cs t (w.alloc (.cells cs t)) := ⟨Blk.made _ _ _, C.alloc _, grown_below q ((Below.refl _ _).alloc (Nat.le_refl _) _)⟩
end
/-- What a drawing of an item tells. -/
def DrewItem (w : World) (q : Nat) (a : Option Addr) (len cap : Nat) (zs : List Int) (e : Ending) (w' : World) : Prop :=
  ∃ v x F i' h', e = .returned v ∧ RdIt w' v x F ∧ x.sk.full ∧ Own w.heap.size w' F ∧ Cur w' q a len cap zs i' h' ∧ w.grownBy w' (some q)
set_option maxRecDepth 200000 in
set_option maxHeartbeats 4000000 in
theorem l6Right_any (q : Nat) (a : Option Addr) (len cap : Nat) (zs : List Int) (i h : Int) (w : World) (C : Cur w q a len cap zs i h) (hlen : len ≤ 1048576) :
    Calls Try.prog 91 #[.pointer (some ⟨q, 0, none⟩)] w fun e w' => DrewItem w q a len cap zs e w' := by
  have hq : q < w.heap.size := World.block_lt_of_cell? _ _ C.c0
  have HA : Hid (∀ b, (∃ off, a = some ⟨b, off, none⟩ ∧ 0 < len) → b < w.heap.size) := cur_lt C
  have H0 : Hid (HeldR w q a len cap zs i h #[.int .i64 0, .int .i64 0, .int .i64 0, .int .i64 0, .int .i64 0, .int .i64 0, .int .i64 0, .int .i64 0, .slice none 0 0, .slice none 0 0, .slice none 0 0] 36 (w.alloc (.cells #[.int .i64 0, .int .i64 0, .int .i64 0, .int .i64 0, .int .i64 0, .int .i64 0, .int .i64 0, .int .i64 0, .slice none 0 0, .slice none 0 0, .slice none 0 0] 36))) := HeldR.made C _ _
  clear C
  go_enter Try.func91, Try.ntmps91
  go_wp2_with fail
  refine (l1Below_any q a len cap zs i h 8 _ H0.out.cur hlen (by omega) (by omega)).mono ?_
  rintro e w1 ⟨x1, i1, h1, rfl, p1, r1, C1, g1⟩
  have H1 : Hid (HeldR w q a len cap zs i1 h1 #[.int .i64 0, .int .i64 0, .int .i64 0, .int .i64 0, .int .i64 0, .int .i64 0, .int .i64 0, .int .i64 0, .slice none 0 0, .slice none 0 0, .slice none 0 0] 36 w1) := H0.out.next hq C1 g1
  clear C1 g1 H0
  go_wp2_with fail
  refine (l1Below_any q a len cap zs i1 h1 2 _ H1.out.cur hlen (by omega) (by omega)).mono ?_
  rintro e w2 ⟨x2, i2, h2, rfl, p2, r2, C2, g2⟩
  have H2 : Hid (HeldR w q a len cap zs i2 h2 #[.int .i64 0, .int .i64 0, .int .i64 0, .int .i64 0, .int .i64 0, .int .i64 0, .int .i64 0, .int .i64 0, .slice none 0 0, .slice none 0 0, .slice none 0 0] 36 w2) := H1.out.next hq C2 g2
  clear C2 g2 H1
  go_wp2_with fail
  refine (l1Below_any q a len cap zs i2 h2 2 _ H2.out.cur hlen (by omega) (by omega)).mono ?_
  rintro e w3 ⟨x3, i3, h3, rfl, p3, r3, C3, g3⟩
  have H3 : Hid (HeldR w q a len cap zs i3 h3 #[.int .i64 0, .int .i64 0, .int .i64 0, .int .i64 0, .int .i64 0, .int .i64 0, .int .i64 0, .int .i64 0, .slice none 0 0, .slice none 0 0, .slice none 0 0] 36 w3) := H2.out.next hq C3 g3
  clear C3 g3 H2
  go_wp2_with fail
  refine (l1Below_any q a len cap zs i3 h3 3 _ H3.out.cur hlen (by omega) (by omega)).mono ?_
  rintro e w4 ⟨x4, i4, h4, rfl, p4, r4, C4, g4⟩
  have H4 : Hid (HeldR w q a len cap zs i4 h4 #[.int .i64 0, .int .i64 0, .int .i64 0, .int .i64 0, .int .i64 0, .int .i64 0, .int .i64 0, .int .i64 0, .slice none 0 0, .slice none 0 0, .slice none 0 0] 36 w4) := H3.out.next hq C4 g4
  clear C4 g4 H3
  go_wp2_with fail
  refine (l3Values_any q a len cap zs i4 h4 _ H4.out.cur hlen).mono ?_
  rintro e w5 ⟨a', n, c, xs, F5, i5, h5, rfl, r5, n5, o5, C5, g5⟩
  have H5 : Hid (HeldR w q a len cap zs i5 h5 #[.int .i64 0, .int .i64 0, .int .i64 0, .int .i64 0, .int .i64 0, .int .i64 0, .int .i64 0, .int .i64 0, .slice none 0 0, .slice none 0 0, .slice none 0 0] 36 w5) := H4.out.next hq C5 g5
  have HR5 : Hid (RdI w5 a' n xs F5) := r5
  clear C5 g5 H4 r5 o5
  go_wp2_with fail
  refine (sketched_any a' n c xs F5 _ HR5.out (by omega)).mono ?_
  rintro e w6 ⟨v, s, F, rfl, rR, hs, oF, b6⟩
  obtain ⟨e1, r1', f1, e2, r2', f2, e3, r3', f3, rfl⟩ := rR.sk.cells7
  have H6 : Hid (HeldR w q a len cap zs i5 h5 #[.int .i64 0, .int .i64 0, .int .i64 0, .int .i64 0, .int .i64 0, .int .i64 0, .int .i64 0, .int .i64 0, .slice none 0 0, .slice none 0 0, .slice none 0 0] 36 w6) := H5.out.below b6
  have HS : Hid (RdSk w6 (.agg #[.int .i64 s.count, .int .i64 s.sum, .int .i64 s.min, .int .i64 s.max, .slice e1 r1' f1, .slice e2 r2' f2, .slice e3 r3' f3]) s F ∧ s.shaped = true ∧ Own (w.heap.size + 1) w6 F) := ⟨rR.sk, hs, oF.mono H5.out.res.lt⟩
  clear rR hs oF b6 H5 HR5
  go_wp2_with (first | go_skip | (with_reducible refine stopStore 36 rfl ?_))
  refine store_known 36 w.heap.size _ #[.int .i64 (1 + x1), .int .i64 x2, .int .i64 x3, .int .i64 x4, .int .i64 s.count, .int .i64 s.sum, .int .i64 s.min, .int .i64 s.max, .slice e1 r1' f1, .slice e2 r2' f2, .slice e3 r3' f3] 36 H6.out.res rfl rfl rfl rfl (by kernel_rfl) rfl (by simp [Value.oneCell']) ?_
  obtain ⟨E, hE⟩ : ∃ E : Array Value, E = #[.int .i64 (1 + x1), .int .i64 x2, .int .i64 x3, .int .i64 x4, .int .i64 s.count, .int .i64 s.sum, .int .i64 s.min, .int .i64 s.max, .slice e1 r1' f1, .slice e2 r2' f2, .slice e3 r3' f3] := ⟨_, rfl⟩
  rw [← hE]
  have HE : Hid (E = #[.int .i64 (1 + x1), .int .i64 x2, .int .i64 x3, .int .i64 x4, .int .i64 s.count, .int .i64 s.sum, .int .i64 s.min, .int .i64 s.max, .slice e1 r1' f1, .slice e2 r2' f2, .slice e3 r3' f3] ∧ E.size = 11) := ⟨hE, by rw [hE]; rfl⟩
  clear hE
  go_wp2
  refine bodyPost_ret (results_cell_row Try.results91 _ _ w.heap.size _ _ (0, 0) _ rfl H6.out.res.setRow Try.underlying36 rfl (by rw [HE.out.2]; exact infoItA)) rfl ?_
  have nF : w.heap.size ∉ F := fun hx => by have := HS.out.2.2.ge _ hx; omega
  exact ⟨_, ⟨1 + x1, x2, x3, x4, s⟩, F, i5, h5, rfl, ⟨e1, r1', f1, e2, r2', f2, e3, r3', f3, by rw [HE.out.1], HS.out.1.agree (Agree.row nF E)⟩, shaped_full HS.out.2.1, (HS.out.2.2.agree (Agree.row nF E)).mono (by omega), cur_row H6.out.cur (by omega) (fun b hb => by have := HA.out b hb; omega), grown_row H6.out.grown (Nat.le_refl _)⟩
/-- In the midst of a drawing: the item lies in block L. -/
structure LocI (w : World) (q : Nat) (a : Option Addr) (len cap : Nat) (zs : List Int) (i h : Int) (L : Nat) (ic : Array Value) (x : It) (F : List Nat) (W : World) : Prop where
  held : HeldR w q a len cap zs i h #[.int .i64 0, .int .i64 0, .int .i64 0, .int .i64 0, .int .i64 0, .int .i64 0, .int .i64 0, .int .i64 0, .slice none 0 0, .slice none 0 0, .slice none 0 0] 36 W
  loc : Blk W L ic 36
  rd : RdIt W (.agg ic) x F
  own : Own (w.heap.size + 1) W F
  apart : L ∉ F
  gt : w.heap.size < L
  full : x.sk.full
section
variable {w W W' : World} {q : Nat} {a : Option Addr} {len cap : Nat} {zs : List Int} {i h i' h' : Int} {L : Nat} {ic : Array Value} {x : It} {F : List Nat}
theorem LocI.next (H : LocI w q a len cap zs i h L ic x F W) (hq : q < w.heap.size) (C : Cur W' q a len cap zs i' h') (g : W.grownBy W' (some q)) : LocI w q a len cap zs i' h' L ic x F W' := by
  have nq : q ∉ F := fun hx => by have := H.own.ge _ hx; omega
  have ag := agree_grown g H.rd.lt nq
  have := H.gt
  exact ⟨H.held.next hq C g, H.loc.grown g (by omega), H.rd.agree ag, H.own.agree ag, H.apart, H.gt, H.full⟩
theorem LocI.below (H : LocI w q a len cap zs i h L ic x F W) (b : Below W.heap.size W W') : LocI w q a len cap zs i h L ic x F W' := ⟨H.held.below b, H.loc.below b, H.rd.below b, H.own.below H.rd.lt b, H.apart, H.gt, H.full⟩
theorem LocI.done (H : LocI w q a len cap zs i h L ic x F W) (hq : q < w.heap.size) (ha : ∀ b, (∃ off, a = some ⟨b, off, none⟩ ∧ 0 < len) → b < w.heap.size) : DrewItem w q a len cap zs (.returned (.agg ic)) (W.setRow w.heap.size ic) := by
  have nF : w.heap.size ∉ F := fun hx => by have := H.own.ge _ hx; omega
  exact ⟨_, x, F, i, h, rfl, H.rd.agree (Agree.row nF ic), H.full, (H.own.agree (Agree.row nF ic)).mono (by omega), cur_row H.held.cur (by omega) (fun b hb => by have := ha b hb; omega), grown_row H.held.grown (Nat.le_refl _)⟩
theorem LocI.set (H : LocI w q a len cap zs i h L ic x F W) (hq : q < w.heap.size) (ha : ∀ b, (∃ off, a = some ⟨b, off, none⟩ ∧ 0 < len) → b < w.heap.size) (j : Nat) (v : Value) {ic' : Array Value} {y : It} (hic : ic.setIfInBounds j v = ic') (hr : RdIt (W.setCell ⟨L, j, none⟩ v) (.agg ic') y F) (hy : y.sk = x.sk) : LocI w q a len cap zs i h L ic' y F (W.setCell ⟨L, j, none⟩ v) := by
  subst hic
  have hgt := H.gt
  have ag : Agree W (W.setCell ⟨L, j, none⟩ v) F := .set H.apart j v
  exact ⟨⟨H.held.res.setOther (by omega) j v, cur_cell H.held.cur (by omega) (fun b hb => by have := ha b hb; omega), grown_cell H.held.grown (by omega)⟩, H.loc.set j v, hr, H.own.agree ag, H.apart, H.gt, by rw [hy]; exact H.full⟩
end
set_option maxRecDepth 200000 in
set_option maxHeartbeats 8000000 in
theorem l6Draw_any (q : Nat) (a : Option Addr) (len cap : Nat) (zs : List Int) (i h : Int) (w : World) (C : Cur w q a len cap zs i h) (hlen : len ≤ 1048576) :
    Calls Try.prog 55 #[.pointer (some ⟨q, 0, none⟩)] w fun e w' => DrewItem w q a len cap zs e w' := by
  have hq : q < w.heap.size := World.block_lt_of_cell? _ _ C.c0
  have HA : Hid (∀ b, (∃ off, a = some ⟨b, off, none⟩ ∧ 0 < len) → b < w.heap.size) := cur_lt C
  have H0 : Hid (HeldR w q a len cap zs i h #[.int .i64 0, .int .i64 0, .int .i64 0, .int .i64 0, .int .i64 0, .int .i64 0, .int .i64 0, .int .i64 0, .slice none 0 0, .slice none 0 0, .slice none 0 0] 36 (w.alloc (.cells #[.int .i64 0, .int .i64 0, .int .i64 0, .int .i64 0, .int .i64 0, .int .i64 0, .int .i64 0, .int .i64 0, .slice none 0 0, .slice none 0 0, .slice none 0 0] 36))) := HeldR.made C _ _
  clear C
  go_enter Try.func55, Try.ntmps55
  go_wp2_with fail
  refine (l6Right_any q a len cap zs i h _ H0.out.cur hlen).mono ?_
  rintro e w1 ⟨v, x, F, i1, h1, rfl, rx, fx, ox, C1, g1⟩
  obtain ⟨a1, n1, c1, a2, n2, c2, a3, n3, c3, rfl, rs⟩ := rx
  have H1 : Hid (HeldR w q a len cap zs i1 h1 #[.int .i64 0, .int .i64 0, .int .i64 0, .int .i64 0, .int .i64 0, .int .i64 0, .int .i64 0, .int .i64 0, .slice none 0 0, .slice none 0 0, .slice none 0 0] 36 w1) := H0.out.next hq C1 g1
  have HX : Hid (RdIt w1 (.agg #[.int .i64 x.seq, .int .i64 x.cls, .int .i64 x.key, .int .i64 x.window, .int .i64 x.sk.count, .int .i64 x.sk.sum, .int .i64 x.sk.min, .int .i64 x.sk.max, .slice a1 n1 c1, .slice a2 n2 c2, .slice a3 n3 c3]) x F ∧ x.sk.full ∧ Own (w.heap.size + 1) w1 F) := ⟨⟨a1, n1, c1, a2, n2, c2, a3, n3, c3, rfl, rs⟩, fx, ox.mono (by simp)⟩
  clear C1 g1 rs fx ox H0
  go_wp2_with (first | go_skip | (with_reducible refine stopStore 36 rfl ?_))
  refine store_fresh 36 w1.heap.size rfl #[.int .i64 0, .int .i64 0, .int .i64 0, .int .i64 0, .int .i64 0, .int .i64 0, .int .i64 0, .int .i64 0, .slice none 0 0, .slice none 0 0, .slice none 0 0] #[.int .i64 x.seq, .int .i64 x.cls, .int .i64 x.key, .int .i64 x.window, .int .i64 x.sk.count, .int .i64 x.sk.sum, .int .i64 x.sk.min, .int .i64 x.sk.max, .slice a1 n1 c1, .slice a2 n2 c2, .slice a3 n3 c3] 36 rfl rfl rfl rfl (by kernel_rfl) rfl (by simp [Value.oneCell']) ?_
  intro W2 hg2 hb2
  have HL : Hid (LocI w q a len cap zs i1 h1 w1.heap.size #[.int .i64 x.seq, .int .i64 x.cls, .int .i64 x.key, .int .i64 x.window, .int .i64 x.sk.count, .int .i64 x.sk.sum, .int .i64 x.sk.min, .int .i64 x.sk.max, .slice a1 n1 c1, .slice a2 n2 c2, .slice a3 n3 c3] x F W2) := ⟨H1.out.below hb2, hg2, HX.out.1.below hb2, HX.out.2.2.below HX.out.1.lt hb2, fun hx => by have := HX.out.1.lt _ hx; omega, H1.out.res.lt, HX.out.2.1⟩
  obtain ⟨L, hLe⟩ : ∃ L, L = w1.heap.size := ⟨_, rfl⟩
  rw [← hLe] at HL ⊢
  have hLgt : w.heap.size < L := HL.out.gt
  clear hg2 hb2 H1 HX hLe
  go_wp2_with fail
  refine (l1Below_any q a len cap zs i1 h1 14 _ HL.out.held.cur hlen (by omega) (by omega)).mono ?_
  rintro e w3 ⟨n, i3, h3, rfl, n0, n14, C3, g3⟩
  have HL3 : Hid (LocI w q a len cap zs i3 h3 L #[.int .i64 x.seq, .int .i64 x.cls, .int .i64 x.key, .int .i64 x.window, .int .i64 x.sk.count, .int .i64 x.sk.sum, .int .i64 x.sk.min, .int .i64 x.sk.max, .slice a1 n1 c1, .slice a2 n2 c2, .slice a3 n3 c3] x F w3) := HL.out.next hq C3 g3
  clear C3 g3 HL
  by_cases qn0 : n = 0
  · subst qn0
    go_wp2_with fail
    refine (pickInt_cur q w3.heap.size 4 a len cap zs i3 h3 [0, 60, 61, -1] _ (HL3.out.held.cur.alloc _) hlen (fun j hj => lit_ints w3 [0, 60, 61, -1] _ j hj) (by have := HL3.out.held.grown.size; omega) 4 rfl (by omega) (by omega)).mono ?_
    rintro e w4 ⟨y, i4, h4, _, rfl, C4, g4⟩
    have HL4 : Hid (LocI w q a len cap zs i4 h4 L #[.int .i64 x.seq, .int .i64 x.cls, .int .i64 x.key, .int .i64 x.window, .int .i64 x.sk.count, .int .i64 x.sk.sum, .int .i64 x.sk.min, .int .i64 x.sk.max, .slice a1 n1 c1, .slice a2 n2 c2, .slice a3 n3 c3] x F w4) := (HL3.out.below ((Below.refl _ _).alloc (Nat.le_refl _) _)).next hq C4 g4
    have cc := HL4.out.loc.cell 0
    have ff := HL4.out.loc.frozen 0
    simp only [aT, aZ] at cc
    clear C4 g4 HL3
    go_wp2_with (first | go_skip | (with_reducible refine stopLoad 36 rfl ?_))
    have HL5 : Hid (LocI w q a len cap zs i4 h4 L #[.int .i64 y, .int .i64 x.cls, .int .i64 x.key, .int .i64 x.window, .int .i64 x.sk.count, .int .i64 x.sk.sum, .int .i64 x.sk.min, .int .i64 x.sk.max, .slice a1 n1 c1, .slice a2 n2 c2, .slice a3 n3 c3] ⟨y, x.cls, x.key, x.window, x.sk⟩ F (w4.setCell ⟨L, 0, none⟩ (.int .i64 y))) := HL4.out.set hq HA.out 0 _ (by simp) (by
      have hrr := HL4.out.rd.agree (.set HL4.out.apart 0 (.int .i64 y))
      obtain ⟨b1, m1, d1, b2, m2, d2, b3, m3, d3, ev, hs⟩ := hrr
      simp at ev
      obtain ⟨⟨rfl, rfl, rfl⟩, ⟨rfl, rfl, rfl⟩, rfl, rfl, rfl⟩ := ev
      exact ⟨_, _, _, _, _, _, _, _, _, rfl, hs⟩) rfl
    obtain ⟨W5, hW5⟩ : ∃ W, W = w4.setCell ⟨L, 0, none⟩ (.int .i64 y) := ⟨_, rfl⟩
    rw [← hW5] at HL5 ⊢
    clear hW5 HL4 cc ff
    refine load_any 36 L _ 36 _ HL5.out.loc rfl rfl rfl Try.underlying36 rfl (by kernel_rfl) ?_
    go_wp2_with (first | go_skip | (with_reducible refine stopStore 36 rfl ?_))
    refine store_known 36 w.heap.size _ #[.int .i64 y, .int .i64 x.cls, .int .i64 x.key, .int .i64 x.window, .int .i64 x.sk.count, .int .i64 x.sk.sum, .int .i64 x.sk.min, .int .i64 x.sk.max, .slice a1 n1 c1, .slice a2 n2 c2, .slice a3 n3 c3] 36 HL5.out.held.res rfl rfl rfl rfl (by kernel_rfl) rfl (by simp [Value.oneCell']) ?_
    obtain ⟨E, hE⟩ : ∃ E : Array Value, E = #[.int .i64 y, .int .i64 x.cls, .int .i64 x.key, .int .i64 x.window, .int .i64 x.sk.count, .int .i64 x.sk.sum, .int .i64 x.sk.min, .int .i64 x.sk.max, .slice a1 n1 c1, .slice a2 n2 c2, .slice a3 n3 c3] := ⟨_, rfl⟩
    have HZ := HL5.out.done hq HA.out
    rw [← hE] at HZ ⊢
    have HE : Hid (DrewItem w q a len cap zs (.returned (.agg E)) (W5.setRow w.heap.size E) ∧ E.size = 11 ∧ Blk (W5.setRow w.heap.size E) w.heap.size E 36) := ⟨HZ, by rw [hE]; rfl, HL5.out.held.res.setRow⟩
    clear hE HZ
    go_wp2
    refine bodyPost_ret (results_cell_row Try.results55 _ _ w.heap.size _ _ (0, 0) _ rfl HE.out.2.2 Try.underlying36 rfl (by rw [HE.out.2.1]; exact infoItA)) rfl ?_
    exact HE.out.1
  by_cases qn1 : n = 1
  · subst qn1
    go_wp2_with fail
    refine (pickInt_cur q w3.heap.size 2 a len cap zs i3 h3 [-1, 2] _ (HL3.out.held.cur.alloc _) hlen (fun j hj => lit_ints w3 [-1, 2] _ j hj) (by have := HL3.out.held.grown.size; omega) 2 rfl (by omega) (by omega)).mono ?_
    rintro e w4 ⟨y, i4, h4, _, rfl, C4, g4⟩
    have HL4 : Hid (LocI w q a len cap zs i4 h4 L #[.int .i64 x.seq, .int .i64 x.cls, .int .i64 x.key, .int .i64 x.window, .int .i64 x.sk.count, .int .i64 x.sk.sum, .int .i64 x.sk.min, .int .i64 x.sk.max, .slice a1 n1 c1, .slice a2 n2 c2, .slice a3 n3 c3] x F w4) := (HL3.out.below ((Below.refl _ _).alloc (Nat.le_refl _) _)).next hq C4 g4
    have cc := HL4.out.loc.cell 1
    have ff := HL4.out.loc.frozen 1
    simp only [aT, aS, aZ] at cc
    clear C4 g4 HL3
    go_wp2_with (first | go_skip | (with_reducible refine stopLoad 36 rfl ?_))
    have HL5 : Hid (LocI w q a len cap zs i4 h4 L #[.int .i64 x.seq, .int .i64 y, .int .i64 x.key, .int .i64 x.window, .int .i64 x.sk.count, .int .i64 x.sk.sum, .int .i64 x.sk.min, .int .i64 x.sk.max, .slice a1 n1 c1, .slice a2 n2 c2, .slice a3 n3 c3] ⟨x.seq, y, x.key, x.window, x.sk⟩ F (w4.setCell ⟨L, 1, none⟩ (.int .i64 y))) := HL4.out.set hq HA.out 1 _ (by simp) (by
      have hrr := HL4.out.rd.agree (.set HL4.out.apart 1 (.int .i64 y))
      obtain ⟨b1, m1, d1, b2, m2, d2, b3, m3, d3, ev, hs⟩ := hrr
      simp at ev
      obtain ⟨⟨rfl, rfl, rfl⟩, ⟨rfl, rfl, rfl⟩, rfl, rfl, rfl⟩ := ev
      exact ⟨_, _, _, _, _, _, _, _, _, rfl, hs⟩) rfl
    obtain ⟨W5, hW5⟩ : ∃ W, W = w4.setCell ⟨L, 1, none⟩ (.int .i64 y) := ⟨_, rfl⟩
    rw [← hW5] at HL5 ⊢
    clear hW5 HL4 cc ff
    refine load_any 36 L _ 36 _ HL5.out.loc rfl rfl rfl Try.underlying36 rfl (by kernel_rfl) ?_
    go_wp2_with (first | go_skip | (with_reducible refine stopStore 36 rfl ?_))
    refine store_known 36 w.heap.size _ #[.int .i64 x.seq, .int .i64 y, .int .i64 x.key, .int .i64 x.window, .int .i64 x.sk.count, .int .i64 x.sk.sum, .int .i64 x.sk.min, .int .i64 x.sk.max, .slice a1 n1 c1, .slice a2 n2 c2, .slice a3 n3 c3] 36 HL5.out.held.res rfl rfl rfl rfl (by kernel_rfl) rfl (by simp [Value.oneCell']) ?_
    obtain ⟨E, hE⟩ : ∃ E : Array Value, E = #[.int .i64 x.seq, .int .i64 y, .int .i64 x.key, .int .i64 x.window, .int .i64 x.sk.count, .int .i64 x.sk.sum, .int .i64 x.sk.min, .int .i64 x.sk.max, .slice a1 n1 c1, .slice a2 n2 c2, .slice a3 n3 c3] := ⟨_, rfl⟩
    have HZ := HL5.out.done hq HA.out
    rw [← hE] at HZ ⊢
    have HE : Hid (DrewItem w q a len cap zs (.returned (.agg E)) (W5.setRow w.heap.size E) ∧ E.size = 11 ∧ Blk (W5.setRow w.heap.size E) w.heap.size E 36) := ⟨HZ, by rw [hE]; rfl, HL5.out.held.res.setRow⟩
    clear hE HZ
    go_wp2
    refine bodyPost_ret (results_cell_row Try.results55 _ _ w.heap.size _ _ (0, 0) _ rfl HE.out.2.2 Try.underlying36 rfl (by rw [HE.out.2.1]; exact infoItA)) rfl ?_
    exact HE.out.1
  by_cases qn2 : n = 2
  · subst qn2
    go_wp2_with fail
    refine (pickInt_cur q w3.heap.size 3 a len cap zs i3 h3 [-1, 4, 5] _ (HL3.out.held.cur.alloc _) hlen (fun j hj => lit_ints w3 [-1, 4, 5] _ j hj) (by have := HL3.out.held.grown.size; omega) 3 rfl (by omega) (by omega)).mono ?_
    rintro e w4 ⟨y, i4, h4, _, rfl, C4, g4⟩
    have HL4 : Hid (LocI w q a len cap zs i4 h4 L #[.int .i64 x.seq, .int .i64 x.cls, .int .i64 x.key, .int .i64 x.window, .int .i64 x.sk.count, .int .i64 x.sk.sum, .int .i64 x.sk.min, .int .i64 x.sk.max, .slice a1 n1 c1, .slice a2 n2 c2, .slice a3 n3 c3] x F w4) := (HL3.out.below ((Below.refl _ _).alloc (Nat.le_refl _) _)).next hq C4 g4
    have cc := HL4.out.loc.cell 2
    have ff := HL4.out.loc.frozen 2
    simp only [aT, aS, aZ] at cc
    clear C4 g4 HL3
    go_wp2_with (first | go_skip | (with_reducible refine stopLoad 36 rfl ?_))
    have HL5 : Hid (LocI w q a len cap zs i4 h4 L #[.int .i64 x.seq, .int .i64 x.cls, .int .i64 y, .int .i64 x.window, .int .i64 x.sk.count, .int .i64 x.sk.sum, .int .i64 x.sk.min, .int .i64 x.sk.max, .slice a1 n1 c1, .slice a2 n2 c2, .slice a3 n3 c3] ⟨x.seq, x.cls, y, x.window, x.sk⟩ F (w4.setCell ⟨L, 2, none⟩ (.int .i64 y))) := HL4.out.set hq HA.out 2 _ (by simp) (by
      have hrr := HL4.out.rd.agree (.set HL4.out.apart 2 (.int .i64 y))
      obtain ⟨b1, m1, d1, b2, m2, d2, b3, m3, d3, ev, hs⟩ := hrr
      simp at ev
      obtain ⟨⟨rfl, rfl, rfl⟩, ⟨rfl, rfl, rfl⟩, rfl, rfl, rfl⟩ := ev
      exact ⟨_, _, _, _, _, _, _, _, _, rfl, hs⟩) rfl
    obtain ⟨W5, hW5⟩ : ∃ W, W = w4.setCell ⟨L, 2, none⟩ (.int .i64 y) := ⟨_, rfl⟩
    rw [← hW5] at HL5 ⊢
    clear hW5 HL4 cc ff
    refine load_any 36 L _ 36 _ HL5.out.loc rfl rfl rfl Try.underlying36 rfl (by kernel_rfl) ?_
    go_wp2_with (first | go_skip | (with_reducible refine stopStore 36 rfl ?_))
    refine store_known 36 w.heap.size _ #[.int .i64 x.seq, .int .i64 x.cls, .int .i64 y, .int .i64 x.window, .int .i64 x.sk.count, .int .i64 x.sk.sum, .int .i64 x.sk.min, .int .i64 x.sk.max, .slice a1 n1 c1, .slice a2 n2 c2, .slice a3 n3 c3] 36 HL5.out.held.res rfl rfl rfl rfl (by kernel_rfl) rfl (by simp [Value.oneCell']) ?_
    obtain ⟨E, hE⟩ : ∃ E : Array Value, E = #[.int .i64 x.seq, .int .i64 x.cls, .int .i64 y, .int .i64 x.window, .int .i64 x.sk.count, .int .i64 x.sk.sum, .int .i64 x.sk.min, .int .i64 x.sk.max, .slice a1 n1 c1, .slice a2 n2 c2, .slice a3 n3 c3] := ⟨_, rfl⟩
    have HZ := HL5.out.done hq HA.out
    rw [← hE] at HZ ⊢
    have HE : Hid (DrewItem w q a len cap zs (.returned (.agg E)) (W5.setRow w.heap.size E) ∧ E.size = 11 ∧ Blk (W5.setRow w.heap.size E) w.heap.size E 36) := ⟨HZ, by rw [hE]; rfl, HL5.out.held.res.setRow⟩
    clear hE HZ
    go_wp2
    refine bodyPost_ret (results_cell_row Try.results55 _ _ w.heap.size _ _ (0, 0) _ rfl HE.out.2.2 Try.underlying36 rfl (by rw [HE.out.2.1]; exact infoItA)) rfl ?_
    exact HE.out.1
  by_cases qn3 : n = 3
  · subst qn3
    go_wp2_with fail
    refine (pickInt_cur q w3.heap.size 3 a len cap zs i3 h3 [-1, 20, 21] _ (HL3.out.held.cur.alloc _) hlen (fun j hj => lit_ints w3 [-1, 20, 21] _ j hj) (by have := HL3.out.held.grown.size; omega) 3 rfl (by omega) (by omega)).mono ?_
    rintro e w4 ⟨y, i4, h4, _, rfl, C4, g4⟩
    have HL4 : Hid (LocI w q a len cap zs i4 h4 L #[.int .i64 x.seq, .int .i64 x.cls, .int .i64 x.key, .int .i64 x.window, .int .i64 x.sk.count, .int .i64 x.sk.sum, .int .i64 x.sk.min, .int .i64 x.sk.max, .slice a1 n1 c1, .slice a2 n2 c2, .slice a3 n3 c3] x F w4) := (HL3.out.below ((Below.refl _ _).alloc (Nat.le_refl _) _)).next hq C4 g4
    have cc := HL4.out.loc.cell 3
    have ff := HL4.out.loc.frozen 3
    simp only [aT, aS, aZ] at cc
    clear C4 g4 HL3
    go_wp2_with (first | go_skip | (with_reducible refine stopLoad 36 rfl ?_))
    have HL5 : Hid (LocI w q a len cap zs i4 h4 L #[.int .i64 x.seq, .int .i64 x.cls, .int .i64 x.key, .int .i64 y, .int .i64 x.sk.count, .int .i64 x.sk.sum, .int .i64 x.sk.min, .int .i64 x.sk.max, .slice a1 n1 c1, .slice a2 n2 c2, .slice a3 n3 c3] ⟨x.seq, x.cls, x.key, y, x.sk⟩ F (w4.setCell ⟨L, 3, none⟩ (.int .i64 y))) := HL4.out.set hq HA.out 3 _ (by simp) (by
      have hrr := HL4.out.rd.agree (.set HL4.out.apart 3 (.int .i64 y))
      obtain ⟨b1, m1, d1, b2, m2, d2, b3, m3, d3, ev, hs⟩ := hrr
      simp at ev
      obtain ⟨⟨rfl, rfl, rfl⟩, ⟨rfl, rfl, rfl⟩, rfl, rfl, rfl⟩ := ev
      exact ⟨_, _, _, _, _, _, _, _, _, rfl, hs⟩) rfl
    obtain ⟨W5, hW5⟩ : ∃ W, W = w4.setCell ⟨L, 3, none⟩ (.int .i64 y) := ⟨_, rfl⟩
    rw [← hW5] at HL5 ⊢
    clear hW5 HL4 cc ff
    refine load_any 36 L _ 36 _ HL5.out.loc rfl rfl rfl Try.underlying36 rfl (by kernel_rfl) ?_
    go_wp2_with (first | go_skip | (with_reducible refine stopStore 36 rfl ?_))
    refine store_known 36 w.heap.size _ #[.int .i64 x.seq, .int .i64 x.cls, .int .i64 x.key, .int .i64 y, .int .i64 x.sk.count, .int .i64 x.sk.sum, .int .i64 x.sk.min, .int .i64 x.sk.max, .slice a1 n1 c1, .slice a2 n2 c2, .slice a3 n3 c3] 36 HL5.out.held.res rfl rfl rfl rfl (by kernel_rfl) rfl (by simp [Value.oneCell']) ?_
    obtain ⟨E, hE⟩ : ∃ E : Array Value, E = #[.int .i64 x.seq, .int .i64 x.cls, .int .i64 x.key, .int .i64 y, .int .i64 x.sk.count, .int .i64 x.sk.sum, .int .i64 x.sk.min, .int .i64 x.sk.max, .slice a1 n1 c1, .slice a2 n2 c2, .slice a3 n3 c3] := ⟨_, rfl⟩
    have HZ := HL5.out.done hq HA.out
    rw [← hE] at HZ ⊢
    have HE : Hid (DrewItem w q a len cap zs (.returned (.agg E)) (W5.setRow w.heap.size E) ∧ E.size = 11 ∧ Blk (W5.setRow w.heap.size E) w.heap.size E 36) := ⟨HZ, by rw [hE]; rfl, HL5.out.held.res.setRow⟩
    clear hE HZ
    go_wp2
    refine bodyPost_ret (results_cell_row Try.results55 _ _ w.heap.size _ _ (0, 0) _ rfl HE.out.2.2 Try.underlying36 rfl (by rw [HE.out.2.1]; exact infoItA)) rfl ?_
    exact HE.out.1
  by_cases qn4 : n = 4
  · subst qn4
    go_wp2_with fail
    refine (l3Draw_any q a len cap zs i3 h3 _ HL3.out.held.cur hlen).mono ?_
    rintro e w4 ⟨v4, s, F4, i4, h4, rfl, r4, f4, o4, C4, g4⟩
    obtain ⟨e1, r1, f1, e2, r2, f2, e3, r3, f3, rfl⟩ := r4.cells7
    have HL4 : Hid (LocI w q a len cap zs i4 h4 L #[.int .i64 x.seq, .int .i64 x.cls, .int .i64 x.key, .int .i64 x.window, .int .i64 x.sk.count, .int .i64 x.sk.sum, .int .i64 x.sk.min, .int .i64 x.sk.max, .slice a1 n1 c1, .slice a2 n2 c2, .slice a3 n3 c3] x F w4) := HL3.out.next hq C4 g4
    have HS4 : Hid (RdSk w4 (.agg #[.int .i64 s.count, .int .i64 s.sum, .int .i64 s.min, .int .i64 s.max, .slice e1 r1 f1, .slice e2 r2 f2, .slice e3 r3 f3]) s F4 ∧ s.full ∧ Own (w.heap.size + 1) w4 F4 ∧ L ∉ F4) := ⟨r4, f4, o4.mono (by have := HL3.out.loc.lt; omega), fun hx => by have := o4.ge _ hx; have := HL3.out.loc.lt; omega⟩
    clear C4 g4 r4 f4 o4 HL3
    go_wp2_with (first | go_skip | (with_reducible refine stopStore 34 rfl ?_))
    refine store_cut 34 L 4 _ #[.int .i64 s.count, .int .i64 s.sum, .int .i64 s.min, .int .i64 s.max, .slice e1 r1 f1, .slice e2 r2 f2, .slice e3 r3 f3] #[.int .i64 x.seq, .int .i64 x.cls, .int .i64 x.key, .int .i64 x.window, .int .i64 s.count, .int .i64 s.sum, .int .i64 s.min, .int .i64 s.max, .slice e1 r1 f1, .slice e2 r2 f2, .slice e3 r3 f3] 36 HL4.out.loc rfl rfl rfl rfl infoSkI (by simp) (one7 ..) (by simp [cutIn]) ?_
    have HL5 : Hid (LocI w q a len cap zs i4 h4 L #[.int .i64 x.seq, .int .i64 x.cls, .int .i64 x.key, .int .i64 x.window, .int .i64 s.count, .int .i64 s.sum, .int .i64 s.min, .int .i64 s.max, .slice e1 r1 f1, .slice e2 r2 f2, .slice e3 r3 f3] ⟨x.seq, x.cls, x.key, x.window, s⟩ F4 (w4.setRow L #[.int .i64 x.seq, .int .i64 x.cls, .int .i64 x.key, .int .i64 x.window, .int .i64 s.count, .int .i64 s.sum, .int .i64 s.min, .int .i64 s.max, .slice e1 r1 f1, .slice e2 r2 f2, .slice e3 r3 f3])) := by
      have ag : Agree w4 (w4.setRow L #[.int .i64 x.seq, .int .i64 x.cls, .int .i64 x.key, .int .i64 x.window, .int .i64 s.count, .int .i64 s.sum, .int .i64 s.min, .int .i64 s.max, .slice e1 r1 f1, .slice e2 r2 f2, .slice e3 r3 f3]) F4 := Agree.row HS4.out.2.2.2 _
      exact ⟨⟨HL4.out.held.res.setRowOther (by omega), cur_row HL4.out.held.cur (by omega) (fun b hb => by have := HA.out b hb; omega), grown_row HL4.out.held.grown (by omega)⟩, HL4.out.loc.setRow, ⟨_, _, _, _, _, _, _, _, _, rfl, HS4.out.1.agree ag⟩, HS4.out.2.2.1.agree ag, HS4.out.2.2.2, hLgt, HS4.out.2.1⟩
    obtain ⟨W5, hW5⟩ : ∃ W, W = w4.setRow L #[.int .i64 x.seq, .int .i64 x.cls, .int .i64 x.key, .int .i64 x.window, .int .i64 s.count, .int .i64 s.sum, .int .i64 s.min, .int .i64 s.max, .slice e1 r1 f1, .slice e2 r2 f2, .slice e3 r3 f3] := ⟨_, rfl⟩
    rw [← hW5] at HL5 ⊢
    clear hW5 HL4 HS4
    go_wp2_with (first | go_skip | (with_reducible refine stopLoad 36 rfl ?_))
    refine load_any 36 L _ 36 _ HL5.out.loc rfl rfl rfl Try.underlying36 rfl (by kernel_rfl) ?_
    go_wp2_with (first | go_skip | (with_reducible refine stopStore 36 rfl ?_))
    refine store_known 36 w.heap.size _ #[.int .i64 x.seq, .int .i64 x.cls, .int .i64 x.key, .int .i64 x.window, .int .i64 s.count, .int .i64 s.sum, .int .i64 s.min, .int .i64 s.max, .slice e1 r1 f1, .slice e2 r2 f2, .slice e3 r3 f3] 36 HL5.out.held.res rfl rfl rfl rfl (by kernel_rfl) rfl (by simp [Value.oneCell']) ?_
    obtain ⟨E, hE⟩ : ∃ E : Array Value, E = #[.int .i64 x.seq, .int .i64 x.cls, .int .i64 x.key, .int .i64 x.window, .int .i64 s.count, .int .i64 s.sum, .int .i64 s.min, .int .i64 s.max, .slice e1 r1 f1, .slice e2 r2 f2, .slice e3 r3 f3] := ⟨_, rfl⟩
    have HZ := HL5.out.done hq HA.out
    rw [← hE] at HZ ⊢
    have HE : Hid (DrewItem w q a len cap zs (.returned (.agg E)) (W5.setRow w.heap.size E) ∧ E.size = 11 ∧ Blk (W5.setRow w.heap.size E) w.heap.size E 36) := ⟨HZ, by rw [hE]; rfl, HL5.out.held.res.setRow⟩
    clear hE HZ
    go_wp2
    refine bodyPost_ret (results_cell_row Try.results55 _ _ w.heap.size _ _ (0, 0) _ rfl HE.out.2.2 Try.underlying36 rfl (by rw [HE.out.2.1]; exact infoItA)) rfl ?_
    exact HE.out.1
  have z0 : (n == 0) = false := by simp; omega
  have z1 : (n == 1) = false := by simp; omega
  have z2 : (n == 2) = false := by simp; omega
  have z3 : (n == 3) = false := by simp; omega
  have z4 : (n == 4) = false := by simp; omega
  clear qn0 qn1 qn2 qn3 qn4
  go_wp2_with (first | go_skip | (with_reducible refine stopLoad 36 rfl ?_))
  refine load_any 36 L _ 36 _ HL3.out.loc rfl rfl rfl Try.underlying36 rfl (by kernel_rfl) ?_
  go_wp2_with (first | go_skip | (with_reducible refine stopStore 36 rfl ?_))
  refine store_known 36 w.heap.size _ #[.int .i64 x.seq, .int .i64 x.cls, .int .i64 x.key, .int .i64 x.window, .int .i64 x.sk.count, .int .i64 x.sk.sum, .int .i64 x.sk.min, .int .i64 x.sk.max, .slice a1 n1 c1, .slice a2 n2 c2, .slice a3 n3 c3] 36 HL3.out.held.res rfl rfl rfl rfl (by kernel_rfl) rfl (by simp [Value.oneCell']) ?_
  obtain ⟨E, hE⟩ : ∃ E : Array Value, E = #[.int .i64 x.seq, .int .i64 x.cls, .int .i64 x.key, .int .i64 x.window, .int .i64 x.sk.count, .int .i64 x.sk.sum, .int .i64 x.sk.min, .int .i64 x.sk.max, .slice a1 n1 c1, .slice a2 n2 c2, .slice a3 n3 c3] := ⟨_, rfl⟩
  have HZ := HL3.out.done hq HA.out
  rw [← hE] at HZ ⊢
  have HE : Hid (DrewItem w q a len cap zs (.returned (.agg E)) (w3.setRow w.heap.size E) ∧ E.size = 11 ∧ Blk (w3.setRow w.heap.size E) w.heap.size E 36) := ⟨HZ, by rw [hE]; rfl, HL3.out.held.res.setRow⟩
  clear hE HZ
  go_wp2
  refine bodyPost_ret (results_cell_row Try.results55 _ _ w.heap.size _ _ (0, 0) _ rfl HE.out.2.2 Try.underlying36 rfl (by rw [HE.out.2.1]; exact infoItA)) rfl ?_
  exact HE.out.1
end Go.Proofs.Ytgkbhhlkaifnoaa
/- The walks through the model's drawing of sets. No statement of the seat is proved here. -/
namespace Go.Proofs.Ytgkbhhlkaifnoaa
open Go.RowKit
theorem grow_below {w w' : World} (g : Nat) (b : Below w.heap.size w w') : w.grownBy w' (some g) := ⟨b.os, b.tape, b.output, b.size, fun k hk _ => b.block k hk⟩
theorem ownsKeep {w w' : World} {B e size g : Nat} {v : Value} {n : Nat} {xs : List Value} (h : w.ownsRow B e size v n xs) (k : w.grownBy w' (some g)) (hg : g < B) : w'.ownsRow B e size v n xs := by
  refine ⟨h.1, ?_⟩
  rcases h.2 with e | ⟨b, cap, cur, h1, h2, h3, h4⟩
  · exact .inl e
  · refine .inr ⟨b, cap, cur, h1, h2, ?_, h4⟩
    have hb : b < w.heap.size := by
      by_cases hb : b < w.heap.size
      · exact hb
      · rw [Array.getElem?_eq_none (by omega)] at h3; cases h3
    rw [k.block b hb (fun e => by simp at e; omega)]
    exact h3
theorem ownsBelow {w w' : World} {B e size : Nat} {v : Value} {n : Nat} {xs : List Value} (h : w.ownsRow B e size v n xs) (k : Below w.heap.size w w') : w'.ownsRow B e size v n xs := by
  refine ⟨h.1, ?_⟩
  rcases h.2 with e | ⟨b, cap, cur, h1, h2, h3, h4⟩
  · exact .inl e
  · refine .inr ⟨b, cap, cur, h1, h2, ?_, h4⟩
    have hb : b < w.heap.size := by
      by_cases hb : b < w.heap.size
      · exact hb
      · rw [Array.getElem?_eq_none (by omega)] at h3; cases h3
    rw [k.block b hb]
    exact h3
set_option maxRecDepth 200000 in
theorem RdP.grown {w W : World} {B q : Nat} {a : Option Addr} {len : Nat} {ps : Sp} {F : List Nat} (h : RdP w a len ps F) (hF : ∀ b ∈ F, B ≤ b) (k : w.grownBy W (some q)) (hq : q < B) : RdP W a len ps F := h.agree (fun b hb => k.block b (h.lt b hb) (fun e => by have := hF b hb; simp at e; omega))
set_option maxRecDepth 200000 in
theorem once_any (g : Nat) (a : Option Addr) (len cap : Nat) (zs : List Int) (i h : Int) (n : Int) (w : World) (C : Cur w g a len cap zs i h) (hlen : len ≤ 1048576) (hn : 0 < n) (hn' : n ≤ 2147483647) :
    Calls Try.prog 60 #[.pointer (some ⟨g, 0, none⟩), .int .i64 n] w fun e w' => ∃ b i' h', e = .returned (.bool b) ∧ Cur w' g a len cap zs i' h' ∧ w.grownBy w' (some g) := by
  have HC : Hid (Cur w g a len cap zs i h) := C
  clear C
  go_enter Try.func60, Try.ntmps60
  go_wp2_with fail
  refine (l1Below_any g a len cap zs i h n _ HC.out hlen hn hn').mono ?_
  rintro e w1 ⟨x, i1, h1, rfl, _, _, C1, g1⟩
  have HC1 : Hid (Cur w1 g a len cap zs i1 h1 ∧ w.grownBy w1 (some g)) := ⟨C1, g1⟩
  clear C1 g1
  go_wp2
  go_ret
  exact ⟨_, i1, h1, rfl, HC1.out.1, HC1.out.2⟩
/-- Midway in a drawing: the set so far, the cursor. -/
structure DrP (w : World) (q : Nat) (a : Option Addr) (len cap : Nat) (zs : List Int) (v : Value) (ps : Sp) (W : World) : Prop where
  own : W.ownsRow w.heap.size 81 2 v ps.length ((flat ps).map (Value.int .i64))
  cur : ∃ i h, Cur W q a len cap zs i h
  grown : w.grownBy W (some q)
  lt : q < w.heap.size
theorem DrP.next {w : World} {q : Nat} {a : Option Addr} {len cap : Nat} {zs : List Int} {v : Value} {ps : Sp} {W W' : World} {i h : Int} (D : DrP w q a len cap zs v ps W) (C : Cur W' q a len cap zs i h) (g : W.grownBy W' (some q)) : DrP w q a len cap zs v ps W' :=
  ⟨ownsKeep D.own g D.lt, ⟨i, h, C⟩, grown_tr D.grown g, D.lt⟩
theorem DrP.below {w : World} {q : Nat} {a : Option Addr} {len cap : Nat} {zs : List Int} {v : Value} {ps : Sp} {W W' : World} (D : DrP w q a len cap zs v ps W) (b : Below W.heap.size W W') : DrP w q a len cap zs v ps W' := by
  obtain ⟨i, h, C⟩ := D.cur
  exact ⟨ownsBelow D.own b, ⟨i, h, C.keep b⟩, grown_tr D.grown (grow_below q b), D.lt⟩
theorem DrP.alloc {w : World} {q : Nat} {a : Option Addr} {len cap : Nat} {zs : List Int} {v : Value} {ps : Sp} {W : World} (D : DrP w q a len cap zs v ps W) (o : Obj) : DrP w q a len cap zs v ps (W.alloc o) := D.below (Below.allocW _ (Below.refl _ _) (Nat.le_refl _))
/-- What a drawing of a set tells. -/
def DrewP (w : World) (q : Nat) (a : Option Addr) (len cap : Nat) (zs : List Int) (n : Nat) (e : Ending) (w' : World) : Prop := ∃ v ps, e = .returned v ∧ DrP w q a len cap zs v ps w' ∧ ps.length ≤ n ∧ v ≠ .slice none 0 0 ∧ ps.fit
theorem fit_of_inb {ps : Sp} (h : ∀ p ∈ ps, InB p) : ps.fit := fun p hp => by
  have q := h p hp
  exact ⟨⟨by have := q.1.1; omega, by have := q.1.2; omega⟩, ⟨by have := q.2.1; have := q.1.1; omega, by have := q.2.2; omega⟩⟩
theorem list3 {x y z u : Int} (h : u ∈ [x, y, z]) : u = x ∨ u = y ∨ u = z := by simpa using h
theorem put_ne (W : World) (B e n : Nat) (v : Value) (xs : List Value) (h : W.ownsRow B e 2 v n xs) (hn : 0 < n) : v ≠ .slice none 0 0 := by
  rcases h.2 with ⟨_, h0⟩ | ⟨b, cap, cur, h1, _⟩
  · omega
  · rw [h1]; intro e; cases e
theorem put_pos : ∀ (ps : Sp) (x : Int × Int), 0 < (put ps x false).length
  | [], x => by simp [put]
  | p :: ps, x => by
    rw [put]
    split
    · simp
    · split
      · simp
      · exact put_pos ps _
set_option maxRecDepth 100000 in
set_option maxHeartbeats 4000000 in
theorem l5Right_any (q : Nat) (a : Option Addr) (len cap : Nat) (zs : List Int) (i h : Int) (w : World) (C : Cur w q a len cap zs i h) (hlen : len ≤ 1048576) :
    Calls Try.prog 109 #[.pointer (some ⟨q, 0, none⟩)] w fun e w' => DrewP w q a len cap zs 7 e w' := by
  have hq : q < w.heap.size := World.block_lt_of_cell? _ _ C.c0
  have HD0 : Hid (DrP w q a len cap zs (.slice (some ⟨w.heap.size, 0, none⟩) 0 0) [] (w.alloc (.cells #[] 81))) := ⟨own_empty2 w _, ⟨i, h, C.alloc _⟩, grow_below q ((Below.refl _ _).alloc (Nat.le_refl _) _), hq⟩
  have HC0 : Hid (Cur (w.alloc (.cells #[] 81)) q a len cap zs i h) := C.alloc _
  clear C
  go_enter Try.func109, Try.ntmps109
  go_wp2_with fail
  refine (l1Below_any q a len cap zs i h 7 _ HC0.out hlen (by omega) (by omega)).mono ?_
  rintro e w1 ⟨m, i1, h1, rfl, m0, m1, C1, g1⟩
  have HD1 : Hid (DrP w q a len cap zs (.slice (some ⟨w.heap.size, 0, none⟩) 0 0) [] w1) := HD0.out.next C1 g1
  clear C1 g1 HD0 HC0
  go_wp2
  go_loopw [3, 5] (fun v i wr => ∃ (k : Nat) (ps : Sp), (k : Int) ≤ m ∧ i = .int .i64 k ∧ ps.length ≤ k ∧ Hid (DrP w q a len cap zs v ps wr ∧ v ≠ .slice none 0 0) ∧ Hid (∀ p ∈ ps, InB p)) (fun _ i _ => (m - intOf i).toNat)
  case atStart => exact ⟨0, [], by omega, rfl, by simp, ⟨HD1.out, fun e => by cases e⟩, by intro p hp; simp at hp⟩
  case round =>
    clear HD1
    obtain ⟨k, ps, hk, rfl, hpl, HD, HIN⟩ := hrel
    by_cases hlt : (k : Int) < m
    · have hcd : decide ((k : Int) < m) = true := decT hlt
      obtain ⟨i2, h2, C2⟩ := HD.out.1.cur
      go_wp2_with fail
      refine (l1Below_any q a len cap zs i2 h2 20 _ C2 hlen (by omega) (by omega)).mono ?_
      rintro e w2 ⟨x1, i3, h3, rfl, x10, x11, C3, g3⟩
      have HD2 : Hid (DrP w q a len cap zs u3 ps w2) := HD.out.1.next C3 g3
      clear g3 C2
      go_wp2_with fail
      refine (l1Below_any q a len cap zs i3 h3 20 _ C3 hlen (by omega) (by omega)).mono ?_
      rintro e w3 ⟨x2, i4, h4, rfl, x20, x21, C4, g4⟩
      have HD3 : Hid (DrP w q a len cap zs u3 ps w3) := HD2.out.next C4 g4
      clear g4 C3 HD2
      go_wp2_with fail
      refine (l1Below_any q a len cap zs i4 h4 10 _ C4 hlen (by omega) (by omega)).mono ?_
      rintro e w4 ⟨x3, i5, h5, rfl, x30, x31, C5, g5⟩
      have HD4 : Hid (DrP w q a len cap zs u3 ps w4) := HD3.out.next C5 g5
      have HC5 : Hid (Cur w4 q a len cap zs i5 h5) := C5
      clear g5 C4 C5 HD3
      go_wp2_with fail
      have hqw4 : q < w4.heap.size := World.block_lt_of_cell? _ _ HC5.out.c0
      refine (pickInt_cur q w4.heap.size 3 a len cap zs i5 h5 [x1, x2, 9990 + x3] _ (HC5.out.alloc _) hlen (fun j hj => lit_ints w4 [x1, x2, 9990 + x3] _ j hj) (by omega) 3 rfl (by omega) (by omega)).mono ?_
      rintro e w5 ⟨y, i6, h6, hy, rfl, C6, g6⟩
      have HD5 : Hid (DrP w q a len cap zs u3 ps w5) := (HD4.out.alloc _).next C6 g6
      have HC6 : Hid (Cur w5 q a len cap zs i6 h6) := C6
      have hy3 := list3 hy
      have y0 : 0 ≤ y := by omega
      have y1 : y ≤ 9999 := by omega
      clear g6 C6 HD4 HC5 hy hy3 x10 x11 x20 x21 x30 x31 hqw4
      go_wp2_with fail
      refine (l1Below_any q a len cap zs i6 h6 3 _ HC6.out hlen (by omega) (by omega)).mono ?_
      rintro e w6 ⟨z, i7, h7, rfl, z0, z1, C7, g7⟩
      have HD6 : Hid (DrP w q a len cap zs u3 ps w6) := HD5.out.next C7 g7
      clear g7 C7 HD5 HC6
      go_wp2_with fail
      refine (l1Min_any _ _ _).mono ?_
      rintro e w7 ⟨rfl, hw7⟩
      have hw7' := hw7.symm
      subst hw7'
      clear hw7
      obtain ⟨t, ht⟩ : ∃ t, t = min (y + z) 9999 := ⟨_, rfl⟩
      rw [← ht]
      have HT : Hid (InB (y, t)) := by rw [ht]; exact ⟨⟨y0, y1⟩, by simp only; omega, by simp only; omega⟩
      clear ht
      obtain ⟨a', c', F', hv, hr, ho, hnn⟩ := rdP_of_own HD6.out.own
      have HV : Hid (u3 = .slice a' ps.length c' ∧ RdP w6 a' ps.length ps F') := ⟨hv, hr⟩
      clear hr ho hnn
      subst hv
      go_wp2_with fail
      refine (l5Put_own a' ps.length c' ps (y, t) F' _ HV.out.2 (by omega) (fun k hk => HIN.out _ (Sp.at_mem hk)) HT.out).mono ?_
      rintro e w8 ⟨v8, rfl, own8, bel8⟩
      have HD8 : Hid (DrP w q a len cap zs v8 (put ps (y, t) false) w8 ∧ v8 ≠ .slice none 0 0) := by
        have := HD6.out.below bel8
        exact ⟨⟨own_mono own8 HD6.out.grown.size, this.cur, this.grown, this.lt⟩, put_ne _ _ _ _ _ _ own8 (put_pos _ _)⟩
      have HIN8 : Hid (∀ p ∈ put ps (y, t) false, InB p) := put_inb HIN.out HT.out
      have hpl8 := put_length ps (y, t) false
      clear own8 bel8 HD6 HV
      go_wp2
      go_roundw
      case rel => exact ⟨k + 1, put ps (y, t) false, by omega, by go_num, by omega, HD8, HIN8⟩
      case measure => simp [intOf]; omega
    · have hcd : decide ((k : Int) < m) = false := decF hlt
      go_wp2
      go_ret
      exact ⟨_, ps, rfl, HD.out.1, by omega, HD.out.2, fit_of_inb HIN.out⟩
end Go.Proofs.Ytgkbhhlkaifnoaa
/- The walk through the model's l7Right. No statement of the seat is proved here. -/
namespace Go.Proofs.Ytgkbhhlkaifnoaa
open Go.RowKit
section
variable {P : Program} {ops : Array Oper} {Q : Exit → Act → World → Prop} {a : Act} {w : World} {o : Oper} {K : Act → World → Prop}
theorem op_call2v (f : FuncId) (x y : Operand) (ts : Array TypeId) (fn : Func) (R : Value → World → Prop) (hw : Region.wanted o (yielded ops a.tmps) = true) (ho : o.op = Op.call { callee := Callee.value (Operand.func f), args := #[x, y], argTypes := ts })
    (hfn : P.funcs[f]? = some fn) (hnm : (fn.name == "runtime.NumGoroutine") = false) (hbd : fn.body.isNone = false) (hc : Calls P f #[a.eval x, a.eval y] w fun e w' => ∃ v, e = .returned v ∧ R v w') (h : ∀ v w', R v w' → ∃ a', a.put o.dst v = a' ∧ K a' w') : if Region.wanted o (yielded ops a.tmps) = true then Oper.wp P o a w K Q else K (a.put o.dst undef) w := by
  rw [if_pos hw]
  have hnm' : ¬ fn.name = "runtime.NumGoroutine" := by simpa using hnm
  have hbd' : ¬ fn.body = none := by intro e; rw [e] at hbd; cases hbd
  unfold Oper.wp
  simp only [execOp, ho, resolve, invoke, Oper.upon, go_sem]
  simp [callFunc, hfn, hnm', hbd', go_sem]
  simp [Act.eval, go_sem] at hc
  refine Calls.mono hc ?_
  rintro e w1 ⟨v, rfl, hR⟩
  obtain ⟨_, rfl, hk⟩ := h v w1 hR
  exact hk
end
theorem wrapD {n : Int} (h0 : -9223372036854775808 ≤ n) (h1 : n ≤ 9223372036854775807) : IntKind.i64.wrap n = n := by
  simp [IntKind.wrap, IntKind.bits, IntKind.signed]
  omega
theorem zero_wideD : It.zero.sk.wide := ⟨by simp [It.zero, Sk.zero], by simp [It.zero, Sk.zero], by simp [It.zero, Sk.zero], by simp [It.zero, Sk.zero]⟩
/-- A frame that is being drawn: the result's place, the cursor, the frame and its set. -/
structure LocF (w : World) (q : Nat) (a : Option Addr) (len cap : Nat) (zs : List Int) (i h : Int) (L : Nat) (fc : Array Value) (b : Option Addr) (l c : Nat) (ps : Sp) (F : List Nat) (W : World) : Prop where
  held : HeldR w q a len cap zs i h #[.int .i64 0, .int .i64 0, .int .i64 0, .int .i64 0, .slice none 0 0, .int .i64 0, .int .i64 0, .int .i64 0, .int .i64 0, .int .i64 0, .int .i64 0, .int .i64 0, .int .i64 0, .slice none 0 0, .slice none 0 0, .slice none 0 0] 38 W
  loc : Blk W L fc 38
  rd : RdP W b l ps F
  own : Own (w.heap.size + 1) W F
  apart : L ∉ F
  gt : w.heap.size < L
  cpd : Capd b l c
section
variable {w W W' : World} {q : Nat} {a : Option Addr} {len cap : Nat} {zs : List Int} {i h i' h' : Int} {L : Nat} {fc : Array Value} {b : Option Addr} {l c : Nat} {ps : Sp} {F : List Nat}
theorem LocF.next (H : LocF w q a len cap zs i h L fc b l c ps F W) (hq : q < w.heap.size) (C : Cur W' q a len cap zs i' h') (g : W.grownBy W' (some q)) : LocF w q a len cap zs i' h' L fc b l c ps F W' := by
  have ag : Agree W W' F := fun x hx => g.block x (H.rd.lt x hx) (fun e => by have := H.own.ge x hx; simp at e; omega)
  have gt := H.gt
  exact ⟨H.held.next hq C g, H.loc.grown g (by omega), H.rd.agree ag, H.own.agree ag, H.apart, H.gt, H.cpd⟩
theorem LocF.below (H : LocF w q a len cap zs i h L fc b l c ps F W) (k : Below W.heap.size W W') : LocF w q a len cap zs i h L fc b l c ps F W' := ⟨H.held.below k, H.loc.below k, H.rd.below k, H.own.below H.rd.lt k, H.apart, H.gt, H.cpd⟩
theorem LocF.drew (H : LocF w q a len cap zs i h L fc b l c ps F W) : LocF w q a len cap zs i h L fc b l c ps F W.drew := H.below (Below.refl _ _).drew
end
def DrewFrame (w : World) (q : Nat) (a : Option Addr) (len cap : Nat) (zs : List Int) (e : Ending) (w' : World) : Prop :=
  ∃ v f F G i' h', e = .returned v ∧ RdFr w' v f F G ∧ f.item.sk.wide ∧ f.taken.length ≤ 20 ∧ Own w.heap.size w' F ∧ Own w.heap.size w' G ∧ (∀ b ∈ F, b ∉ G) ∧ Cur w' q a len cap zs i' h' ∧ w.grownBy w' (some q)
theorem inb_at {ps : Sp} (h : ∀ p ∈ ps, InB p) {len : Nat} (hl : ps.length = len) : ∀ k, k < len → InB (ps.at k) := fun k hk => h _ (Sp.at_mem (by omega))
end Go.Proofs.Ytgkbhhlkaifnoaa
/- What is sent in turn: the mathematics. No statement of the seat is proved here. -/
namespace Go.Proofs.Ytgkbhhlkaifnoaa
open Go.RowKit
theorem waitTo_asc (ps : Sp) : ∀ k, (waitTo ps k).Pairwise (· < ·)
  | 0 => List.Pairwise.nil
  | k + 1 => by
    rw [waitTo, List.pairwise_append]
    refine ⟨waitTo_asc ps k, ?_, fun x hx y hy => ?_⟩
    · split
      · exact List.Pairwise.nil
      · exact List.pairwise_singleton _ _
    · have h := waitTo_mem hx
      split at hy
      · cases hy
      · have e : y = (k : Int) + 1 := by simpa using hy
        show x < y
        omega
theorem waits_asc (x : Ag) : x.waits.Pairwise (· < ·) := by
  unfold Ag.waits
  split
  · exact waitTo_asc _ _
  · exact List.Pairwise.nil
theorem asc_at {zs : List Int} (h : zs.Pairwise (· < ·)) {i j : Nat} (hij : i < j) (hj : j < zs.length) : zs.getD i 0 < zs.getD j 0 := by
  have q := List.pairwise_iff_getElem.1 h i j (by omega) hj hij
  rw [List.getD_eq_getElem?_getD, List.getD_eq_getElem?_getD, List.getElem?_eq_getElem (by omega), List.getElem?_eq_getElem hj]
  exact q
theorem turn_up {zs : List Int} (h : zs.Pairwise (· < ·)) {i : Nat} (hi : i + 1 < zs.length) : turnOf zs (zs.getD i 0) = zs.getD (i + 1) 0 :=
  turnOf_at hi (fun j hj => by
    rcases Nat.lt_or_ge j i with q | q
    · have := asc_at h q (by omega); omega
    · obtain rfl : j = i := by omega
      omega) (asc_at h (by omega) hi)
theorem turn_round {zs : List Int} (h : zs.Pairwise (· < ·)) {i : Nat} (hi : i + 1 = zs.length) : turnOf zs (zs.getD i 0) = zs.getD 0 0 :=
  turnOf_none (fun j hj => by
    rcases Nat.lt_or_ge j i with q | q
    · have := asc_at h q (by omega); omega
    · obtain rfl : j = i := by omega
      omega)
/-- A list from its s-th on, and then what stands ahead of it. -/
def rot (zs : List Int) (s : Nat) : List Int := zs.drop s ++ zs.take s
theorem rot_len (zs : List Int) (s : Nat) : (rot zs s).length = zs.length := by unfold rot; rw [List.length_append, List.length_drop, List.length_take]; omega
theorem rot_lo {zs : List Int} {s j : Nat} (h : s + j < zs.length) : (rot zs s).getD j 0 = zs.getD (s + j) 0 := by
  unfold rot
  rw [List.getD_eq_getElem?_getD, List.getElem?_append_left (by rw [List.length_drop]; omega), List.getElem?_drop, ← List.getD_eq_getElem?_getD]
theorem rot_hi {zs : List Int} {s j : Nat} (h : zs.length ≤ s + j) (hs : s ≤ zs.length) (hj : j < zs.length) : (rot zs s).getD j 0 = zs.getD (s + j - zs.length) 0 := by
  unfold rot
  rw [List.getD_eq_getElem?_getD, List.getElem?_append_right (by rw [List.length_drop]; omega), List.length_drop, List.getElem?_take, if_pos (by omega), show j - (zs.length - s) = s + j - zs.length by omega, ← List.getD_eq_getElem?_getD]
theorem rot_turn {zs : List Int} (h : zs.Pairwise (· < ·)) {s j : Nat} (hs : s < zs.length) (hj : j + 1 < zs.length) : turnOf zs ((rot zs s).getD j 0) = (rot zs s).getD (j + 1) 0 := by
  rcases Nat.lt_trichotomy (s + j + 1) zs.length with q | q | q
  · rw [rot_lo (by omega), rot_lo (by omega), turn_up h (by omega), Nat.add_assoc]
  · rw [rot_lo (by omega), rot_hi (by omega) (by omega) (by omega), turn_round h (by omega), show s + (j + 1) - zs.length = 0 by omega]
  · rw [rot_hi (by omega) (by omega) (by omega), rot_hi (by omega) (by omega) (by omega), turn_up h (by omega), show s + j - zs.length + 1 = s + (j + 1) - zs.length by omega]
theorem rot_count {zs : List Int} (h : zs.Pairwise (· < ·)) (s : Nat) {z : Int} (hz : z ∈ zs) : (rot zs s).count z = 1 := by
  have e : (rot zs s).count z = zs.count z := by
    unfold rot
    rw [List.count_append, Nat.add_comm, ← List.count_append, List.take_append_drop]
  have nd : zs.Nodup := h.imp (fun {a b} q e => by subst e; exact absurd q (Int.lt_irrefl _))
  rw [e, nd.count, if_pos hz]
/-- An agent with another Next. -/
def Ag.at (x : Ag) (m : Int) : Ag := ⟨x.id, x.epoch, x.live, x.granted, x.sealed, x.taken, m⟩
theorem Ag.at_ok {x : Ag} (h : x.ok = true) {m : Int} (hm : 0 ≤ m ∧ m ≤ 60) : (x.at m).ok = true := by
  rw [Ag.ok_prog] at h ⊢
  simp only [Bool.and_eq_true, decide_eq_true_eq] at h
  obtain ⟨⟨⟨⟨⟨h1, h2⟩, h3⟩, h4⟩, h5⟩, h6, h7, h8⟩ := h
  show (decide (0 ≤ x.id ∧ x.id ≤ 2) && decide (0 ≤ x.epoch ∧ x.epoch ≤ 1000) && decide (0 ≤ x.granted ∧ x.granted ≤ 60) && decide (0 ≤ m ∧ m ≤ 60) && (x.live || decide (x.granted ≤ 0)) && (itsOk x.sealed && (x.taken.ok && x.taken.under x.sealed.length))) = true
  rw [decide_eq_true h1, decide_eq_true h2, decide_eq_true h3, decide_eq_true hm, h5, h6, h7, h8]
  rfl
theorem waits_60 {x : Ag} {z : Int} (h : z ∈ x.waits) : 0 ≤ z ∧ z ≤ 60 := by
  have q := waits_mem h
  have k := q.2.2.2.2.1
  rw [Ag.ok_prog] at k
  simp only [Bool.and_eq_true, decide_eq_true_eq] at k
  have := k.1.1.1.2
  omega
theorem Ag.at_waits {x : Ag} {m : Int} (hm : m ∈ x.waits) : (x.at m).waits = x.waits := by
  have q := (waits_mem hm).2.2.2.2
  have k := Ag.at_ok q.1 (waits_60 hm)
  unfold Ag.waits
  rw [if_pos ⟨k, q.2⟩, if_pos q]
  rfl
/-- A send where something waits. -/
theorem Ag.at_send {x : Ag} {m : Int} (hm : m ∈ x.waits) : (x.at m).send = (x.at (turnOf x.waits m), ⟨1, x.id, x.epoch, 0, [], x.sealed.getD (turnOf x.waits m - 1).toNat It.zero⟩) := by
  have q := (waits_mem hm).2.2.2.2
  have k := Ag.at_ok q.1 (waits_60 hm)
  unfold Ag.send
  rw [if_neg (by rw [k]; simp), if_neg (by rw [Ag.at_waits hm]; intro e; rw [e] at hm; cases hm), Ag.at_waits hm]
  rfl
theorem Ag.send_some {x : Ag} (h : x.waits ≠ []) : x.send = (x.at (turnOf x.waits x.next), ⟨1, x.id, x.epoch, 0, [], x.sealed.getD (turnOf x.waits x.next - 1).toNat It.zero⟩) := by
  have hk : x.ok = true := by
    cases e : x.waits with
    | nil => exact absurd e h
    | cons z zs => exact (waits_mem (x := x) (z := z) (by rw [e]; exact List.mem_cons_self)).2.2.2.2.1
  unfold Ag.send
  rw [if_neg (by rw [hk]; simp), if_neg h]
  rfl
theorem Ag.item_of {x : Ag} {z : Int} (h : z ∈ x.waits) : (x.sealed.getD (z - 1).toNat It.zero).seq = z ∧ (x.sealed.getD (z - 1).toNat It.zero).ok = true ∧ x.sealed.getD (z - 1).toNat It.zero ∈ x.sealed := by
  have q := waits_mem h
  have k := q.2.2.2.2.1
  rw [Ag.ok_prog] at k
  simp only [Bool.and_eq_true] at k
  have hl : (z - 1).toNat < x.sealed.length := by omega
  have e : x.sealed[(z - 1).toNat]? = some (x.sealed.getD (z - 1).toNat It.zero) := by rw [List.getD_eq_getElem?_getD, List.getElem?_eq_getElem hl]; rfl
  have a := itsOk_at k.2.1 e
  exact ⟨by rw [a.2]; omega, a.1, List.mem_of_getElem? e⟩
theorem Ag.frame_ok {x : Ag} (h : x.ok = true) {k : Int} {y : It} (hy : (k = 1 ∧ y.ok = true) ∨ (k = 0 ∧ y = It.zero)) : (Fr.mk k x.id x.epoch 0 [] y).ok = true := by
  rw [Ag.ok_prog] at h
  simp only [Bool.and_eq_true, decide_eq_true_eq] at h
  obtain ⟨⟨⟨⟨⟨h1, h2⟩, h3⟩, h4⟩, h5⟩, _⟩ := h
  show (decide (0 ≤ k ∧ k ≤ 3) && decide (0 ≤ x.id ∧ x.id ≤ 2) && decide (0 ≤ x.epoch ∧ x.epoch ≤ 1000) && decide ((0 : Int) ≤ 0 ∧ (0 : Int) ≤ 60) && Sp.ok [] && Sp.taken [] && (if k = 1 then y.ok else decide (y = It.zero))) = true
  rw [decide_eq_true h1, decide_eq_true h2]
  rcases hy with ⟨rfl, e⟩ | ⟨rfl, e⟩
  · rw [if_pos rfl, e]; rfl
  · rw [if_neg (by omega), e, decide_eq_true rfl]; rfl
theorem Ag.send_small (x : Ag) (h : ∀ y ∈ x.sealed, y.sk.wide) : (x.send).2.item.sk.wide ∧ (x.send).2.taken.length ≤ 20 := by
  have hz : It.zero.sk.wide := zero_wideD
  by_cases hk : x.ok = false
  · have e : x.send = (x, Fr.none0) := by unfold Ag.send; rw [if_pos hk]
    rw [e]
    exact ⟨hz, by show ([] : Sp).length ≤ 20; simp⟩
  · by_cases hw : x.waits = []
    · have e : x.send = (x, ⟨0, x.id, x.epoch, 0, [], It.zero⟩) := by unfold Ag.send; rw [if_neg hk, if_pos hw]
      rw [e]
      exact ⟨hz, by show ([] : Sp).length ≤ 20; simp⟩
    · rw [Ag.send_some hw]
      exact ⟨h _ (Ag.item_of (turnOf_mem x.next hw)).2.2, by show ([] : Sp).length ≤ 20; simp⟩
theorem turn_start {zs : List Int} (m : Int) (h : zs ≠ []) : ∃ s, s < zs.length ∧ turnOf zs m = (rot zs s).getD 0 0 := by
  obtain ⟨s, hs, e⟩ := List.getElem_of_mem (turnOf_mem m h)
  refine ⟨s, hs, ?_⟩
  rw [rot_lo (by omega), ← e, Nat.add_zero, List.getD_eq_getElem?_getD, List.getElem?_eq_getElem hs]
  rfl
theorem rot_mem {zs : List Int} {s j : Nat} (hj : j < zs.length) : (rot zs s).getD j 0 ∈ zs := by
  have hm : (rot zs s).getD j 0 ∈ rot zs s := by
    rw [List.getD_eq_getElem?_getD, List.getElem?_eq_getElem (by rw [rot_len]; exact hj)]
    exact List.getElem_mem _
  unfold rot at hm ⊢
  rcases List.mem_append.1 hm with q | q
  · exact List.mem_of_mem_drop q
  · exact List.mem_of_mem_take q
end Go.Proofs.Ytgkbhhlkaifnoaa
/- The walks through the model's drawing of two sets, and of a set and a number. No statement of the seat is proved here. -/
namespace Go.Proofs.Ytgkbhhlkaifnoaa
open Go.RowKit
theorem cur_agree5 {w w' : World} {g : Nat} {a : Option Addr} {len cap : Nat} {zs : List Int} {i h : Int} (C : Cur w g a len cap zs i h) (_hg : g < w.heap.size) (e : w'.heap[g]? = w.heap[g]?) (hb : ∀ b, b < w.heap.size → (∃ off, a = some ⟨b, off, none⟩ ∧ 0 < len) → w'.heap[b]? = w.heap[b]?) : Cur w' g a len cap zs i h := by
  refine ⟨(World.cell?_of_block (w := w) (a := ⟨g, 0, none⟩) e).trans C.c0, (World.cell?_of_block (w := w) (a := ⟨g, 1, none⟩) e).trans C.c1, (World.cell?_of_block (w := w) (a := ⟨g, 2, none⟩) e).trans C.c2, (World.frozen?_of_block (w := w) (a := ⟨g, 1, none⟩) e).trans C.f1, (World.frozen?_of_block (w := w) (a := ⟨g, 2, none⟩) e).trans C.f2, C.i0, C.i1, ?_, C.ap⟩
  refine ⟨C.rd.length, C.rd.range, ?_⟩
  rcases C.rd.cells with h0 | ⟨b, off, ha, hc⟩
  · exact .inl h0
  · by_cases hl : len = 0
    · exact .inl hl
    · have hlt : b < w.heap.size := World.block_lt_of_cell? _ _ (hc 0 (by omega))
      exact .inr ⟨b, off, ha, fun j hj => (World.cell?_of_block (w := w) (a := ⟨b, off + j, none⟩) (hb b hlt ⟨off, ha, by omega⟩)).trans (hc j hj)⟩
theorem cur_lt5 {w : World} {q : Nat} {a : Option Addr} {len cap : Nat} {zs : List Int} {i h : Int} (C : Cur w q a len cap zs i h) (b : Nat) (hb : ∃ off, a = some ⟨b, off, none⟩ ∧ 0 < len) : b < w.heap.size := by
  obtain ⟨off, ha, hp⟩ := hb
  rcases C.rd.cells with h0 | ⟨b', off', ha', hc⟩
  · omega
  · rw [ha] at ha'
    cases ha'
    exact World.block_lt_of_cell? _ _ (hc 0 hp)
theorem DrP.app {w : World} {q : Nat} {a : Option Addr} {len cap : Nat} {zs : List Int} {v v' : Value} {ps : Sp} {W W' : World} {y z : Int} {ob : Obj} (D : DrP w q a len cap zs v ps W) (ha : ∀ b, (∃ off, a = some ⟨b, off, none⟩ ∧ 0 < len) → b < w.heap.size) (hown : W'.ownsRow w.heap.size 81 2 v' (ps.length + 1) ((flat ps).map (Value.int .i64) ++ [.int .i64 y, .int .i64 z])) (hgrow : (W.alloc ob).grownBy W' v.ownBlock) : DrP w q a len cap zs v' (ps ++ [(y, z)]) W' := by
  have D' := D.alloc ob
  obtain ⟨i, h, C⟩ := D'.cur
  have hne : ∀ k, k < w.heap.size → some k ≠ v.ownBlock := fun k hk e => by have := (D'.own.lt k e.symm).1; omega
  have hs := D'.grown.size
  have hq := D'.lt
  refine ⟨?_, ⟨i, h, ?_⟩, ⟨hgrow.os.trans D'.grown.os, hgrow.tape.trans D'.grown.tape, hgrow.output.trans D'.grown.output, Nat.le_trans D'.grown.size hgrow.size, fun k hk hn => (hgrow.block k (by omega) (hne k hk)).trans (D'.grown.block k hk hn)⟩, D.lt⟩
  · rw [flat_append, List.map_append, List.length_append]
    exact hown
  · exact cur_agree5 C (by omega) (hgrow.block q (by omega) (hne q hq)) (fun b hb hx => hgrow.block b hb (hne b (ha b hx)))
set_option maxRecDepth 100000 in
set_option maxHeartbeats 4000000 in
theorem l5Draw_any (q : Nat) (a : Option Addr) (len cap : Nat) (zs : List Int) (i h : Int) (w : World) (C : Cur w q a len cap zs i h) (hlen : len ≤ 1048576) :
    Calls Try.prog 83 #[.pointer (some ⟨q, 0, none⟩)] w fun e w' => DrewP w q a len cap zs 8 e w' := by
  obtain ⟨t0, hi, hz0, hz1, hz2⟩ := info_parts infoSpan
  have HC : Hid (Cur w q a len cap zs i h) := C
  have HA : Hid (∀ b, (∃ off, a = some ⟨b, off, none⟩ ∧ 0 < len) → b < w.heap.size) := cur_lt5 C
  clear C
  go_enter Try.func83, Try.ntmps83
  go_wp2_with fail
  refine (l5Right_any q a len cap zs i h _ HC.out hlen).mono ?_
  rintro e w1 ⟨v, ps, rfl, D1, hl1, hne1, hf1⟩
  have HF1 : Hid ps.fit := hf1
  have HD1 : Hid (DrP w q a len cap zs v ps w1 ∧ v ≠ .slice none 0 0) := ⟨D1, hne1⟩
  clear D1 hne1 hf1 HC
  obtain ⟨i1, h1, C1⟩ := HD1.out.1.cur
  go_wp2_with fail
  refine (once_any q a len cap zs i1 h1 8 _ C1 hlen (by omega) (by omega)).mono ?_
  rintro e w2 ⟨b, i2, h2, rfl, C2, g2⟩
  have HD2 : Hid (DrP w q a len cap zs v ps w2) := HD1.out.1.next C2 g2
  have HC2 : Hid (Cur w2 q a len cap zs i2 h2) := C2
  clear C1 C2 g2
  cases b
  · go_wp2
    go_ret
    exact ⟨_, ps, rfl, HD2.out, by omega, HD1.out.2, HF1.out⟩
  go_wp2_with fail
  have hqw2 : q < w2.heap.size := World.block_lt_of_cell? _ _ HC2.out.c0
  refine (pickInt_cur q w2.heap.size 3 a len cap zs i2 h2 [-1, 3, 10000] _ (HC2.out.alloc _) hlen (fun j hj => lit_ints w2 [-1, 3, 10000] _ j hj) (by omega) 3 rfl (by omega) (by omega)).mono ?_
  rintro e w3 ⟨y, i3, h3, hy, rfl, C3, g3⟩
  have HY : Hid (Fit64 y) := by rcases list3 hy with rfl | rfl | rfl <;> exact ⟨by omega, by omega⟩
  clear hy
  have HD3 : Hid (DrP w q a len cap zs v ps w3) := (HD2.out.alloc _).next C3 g3
  have HC3 : Hid (Cur w3 q a len cap zs i3 h3) := C3
  clear C3 g3 HD2 HC2 hqw2
  go_wp2_with fail
  have hqw3 : q < w3.heap.size := World.block_lt_of_cell? _ _ HC3.out.c0
  refine (pickInt_cur q w3.heap.size 3 a len cap zs i3 h3 [5, 10000, 9223372036854775807] _ (HC3.out.alloc _) hlen (fun j hj => lit_ints w3 [5, 10000, 9223372036854775807] _ j hj) (by omega) 3 rfl (by omega) (by omega)).mono ?_
  rintro e w4 ⟨z, i4, h4, hz, rfl, C4, g4⟩
  have HZ : Hid (Fit64 z) := by rcases list3 hz with rfl | rfl | rfl <;> exact ⟨by omega, by omega⟩
  clear hz
  have HD4 : Hid (DrP w q a len cap zs v ps w4) := (HD3.out.alloc _).next C4 g4
  clear C4 g4 HD3 HC3 hqw3
  have hsz : w.heap.size ≤ w4.heap.size := HD4.out.grown.size
  go_wp2_with (first | go_skip | (with_reducible refine stopAppend2 rfl ?_))
  refine Stop.intro (wpList_append_own _ rfl _ _ 25 rfl w.heap.size 81 t0 (.agg #[.int .i64 0, .int .i64 0]) 2 16 Try.underlying25 hi hz0 hz1 hz2 rfl (by decide) _ ps.length ((flat ps).map (Value.int .i64)) rfl (HD4.out.own.alloc _) ⟨w4.heap.size, 0, none⟩ 1 1 [.int .i64 y, .int .i64 z] rfl rfl (cell_new2 _ _ _ _) (by intro u hu; simp at hu; rcases hu with rfl | rfl <;> rfl) (by unfold maxLen; omega) (by omega) (by simp; omega) ?_)
  intro v5 w5 hown hgrow _
  have HD5 : Hid (DrP w q a len cap zs v5 (ps ++ [(y, z)]) w5 ∧ v5 ≠ .slice none 0 0) := ⟨HD4.out.app HA.out hown hgrow, put_ne _ _ _ _ _ _ hown (by omega)⟩
  clear hown hgrow HD4
  go_wp2
  go_ret
  exact ⟨_, ps ++ [(y, z)], rfl, HD5.out.1, by simp; omega, HD5.out.2, fun p hp => (List.mem_append.1 hp).elim (HF1.out p) (fun hp => by rw [List.mem_singleton.1 hp]; exact ⟨HY.out, HZ.out⟩)⟩
/-- A drawn set, as the law has it. -/
structure SetAt (W : World) (a : Option Addr) (l c : Nat) (ps : Sp) : Prop where
  rd : ∃ F, RdP W a l ps F
  len : l ≤ 8
  cap : l ≤ c
  some : a = none → c = 0
theorem SetAt.below {W W' : World} {a : Option Addr} {l c : Nat} {ps : Sp} (h : SetAt W a l c ps) (b : Below W.heap.size W W') : SetAt W' a l c ps := by
  obtain ⟨F, hF⟩ := h.rd
  exact ⟨⟨F, hF.below b⟩, h.len, h.cap, h.some⟩
theorem DrP.at {w : World} {q : Nat} {a : Option Addr} {len cap : Nat} {zs : List Int} {v : Value} {ps : Sp} {W : World} (D : DrP w q a len cap zs v ps W) (hn : ps.length ≤ 8) (hne : v ≠ .slice none 0 0) : ∃ g c, v = .slice (some ⟨g, 0, none⟩) ps.length c ∧ SetAt W (some ⟨g, 0, none⟩) ps.length c ps ∧ ∃ F, RdP W (some ⟨g, 0, none⟩) ps.length ps F ∧ ∀ b ∈ F, w.heap.size ≤ b := by
  obtain ⟨a', c', F, e, hr, ho, _⟩ := rdP_of_own D.own
  rcases D.own.2 with ⟨e2, _⟩ | ⟨g, cp, cur, e2, h2, h3, h4, _⟩
  · exact absurd e2 hne
  · rw [e2] at e
    cases e
    exact ⟨g, c', e2, ⟨⟨F, hr⟩, hn, h4, fun e => by cases e⟩, F, hr, ho.ge⟩
end Go.Proofs.Ytgkbhhlkaifnoaa
/- What the walks through the model's Seal and the program's share. No statement of the seat is proved here. -/
namespace Go.Proofs.Ytgkbhhlkaifnoaa
open Go.RowKit
def Ag.item (x : Ag) (c k n : Int) (s : Sk) : It := ⟨(x.sealed.length : Int) + 1, c, k, n, s⟩
def Ag.plus (x : Ag) (y : It) : Ag := ⟨x.id, x.epoch, x.live, x.granted, x.sealed ++ [y], x.taken, x.next⟩
/-- An agent behind a Seal, and what it tells. -/
def Ag.seal (x : Ag) (c k n : Int) (s : Sk) : Ag × Int := if x.ok = true ∧ (x.item c k n s).ok = true then (x.plus (x.item c k n s), (x.sealed.length : Int) + 1) else (x, 0)
theorem itsOk_snoc (xs : List It) (y : It) (h : itsOk xs = true) (hs : y.seq = (xs.length : Int) + 1) : itsOk (xs ++ [y]) = y.ok := by
  cases e : y.ok
  · exact itsOk_not (k := xs.length) (y := y) (by simp) (.inl e)
  · refine itsOk_all (fun k z hz => ?_)
    by_cases hk : k < xs.length
    · rw [List.getElem?_append_left hk] at hz
      exact itsOk_at h hz
    · have h1 : k < (xs ++ [y]).length := (List.getElem?_eq_some_iff.1 hz).1
      have h2 : k = xs.length := by rw [List.length_append] at h1; simp at h1; omega
      subst h2
      rw [List.getElem?_append_right (Nat.le_refl _)] at hz
      simp at hz
      subst hz
      exact ⟨e, hs⟩
theorem Sp.under_mono {ps : Sp} {m m' : Int} (h : ps.under m = true) (hm : m ≤ m') : ps.under m' = true := by
  refine Sp.under_all (fun k hk => ?_)
  unfold Sp.under at h
  rw [List.all_eq_true] at h
  have := of_decide_eq_true (h k (List.mem_range.2 hk))
  omega
theorem Ag.plus_ok (x : Ag) (c k n : Int) (s : Sk) (h : x.ok = true) : (x.plus (x.item c k n s)).ok = (x.item c k n s).ok := by
  rw [Ag.ok_prog] at h
  rw [Ag.ok_prog]
  simp only [Bool.and_eq_true] at h
  obtain ⟨⟨⟨⟨⟨h1, h2⟩, h3⟩, h4⟩, h5⟩, h6, h7, h8⟩ := h
  show (decide (0 ≤ x.id ∧ x.id ≤ 2) && decide (0 ≤ x.epoch ∧ x.epoch ≤ 1000) && decide (0 ≤ x.granted ∧ x.granted ≤ 60) && decide (0 ≤ x.next ∧ x.next ≤ 60) && (x.live || decide (x.granted ≤ 0)) && (itsOk (x.sealed ++ [x.item c k n s]) && (x.taken.ok && x.taken.under (x.sealed ++ [x.item c k n s]).length))) = _
  rw [h1, h2, h3, h4, h5, h7, itsOk_snoc _ _ h6 rfl, Sp.under_mono h8 (by rw [List.length_append]; simp; try omega)]
  simp
section
variable {α : Type} {K : ElK α} {e : TypeId} {xs : List α} {lo k : Nat} {v : Value} {vs : List Value} {G : List Nat} {W W' : World}
/-- A list that has all of its elements may get one more. -/
theorem GrowL.extend (h : GrowL K e xs lo k v vs G W) (hk : xs.length = k) (z : α) : GrowL K e (xs ++ [z]) lo k v vs G W :=
  ⟨h.row, by rw [List.take_append_of_le_length (by omega)]; exact h.rd, h.og, h.ap, h.lw⟩
end
section
variable {α : Type} {K : ElK α} {e : TypeId} {xs : List α} {lo k : Nat} {v : Value} {vs : List Value} {G : List Nat} {W W' : World}
theorem GrowL.keep (h : GrowL K e xs lo k v vs G W) (hv : ∀ b, v.ownBlock = some b → W'.heap[b]? = W.heap[b]?) (hG : Agree W W' G) (hs : W.heap.size ≤ W'.heap.size) : GrowL K e xs lo k v vs G W' := by
  refine ⟨⟨h.row.1, ?_⟩, h.rd.agree hG, h.og.agree hG, h.ap, Nat.le_trans h.lw hs⟩
  rcases h.row.2 with q | ⟨g', cap, cur, h1, h2, h3, h4⟩
  · exact .inl q
  · exact .inr ⟨g', cap, cur, h1, h2, by rw [hv g' (by rw [h1]; rfl)]; exact h3, h4⟩
end
/-- A list of items that may get one more; B: its blocks are newer, L: none of them is this, nor of G. -/
def GrA (B L : Nat) (v : Value) (n : Nat) (xs : List It) (G : List Nat) (W : World) : Prop := ∃ lo vs GG, B ≤ lo ∧ GrowL itK 36 xs lo n v vs GG W ∧ xs.length = n ∧ (∀ b, v.ownBlock = some b → b ≠ L ∧ b ∉ G) ∧ (∀ b ∈ GG, b ≠ L ∧ b ∉ G)
section
variable {B L L' B' : Nat} {v : Value} {n : Nat} {xs : List It} {G G' : List Nat} {W W' : World}
theorem GrA.low (h : GrA B L v n xs G W) (hk : ∀ b, B ≤ b → b ≠ L → b < W.heap.size → W'.heap[b]? = W.heap[b]?) (hs : W.heap.size ≤ W'.heap.size) : GrA B L v n xs G W' := by
  obtain ⟨lo, vs, GG, h1, h2, h3, h4, h5⟩ := h
  exact ⟨lo, vs, GG, h1, h2.keep (fun b e => hk b (Nat.le_trans h1 (h2.row.lt b e).1) (h4 b e).1 (h2.row.lt b e).2) (fun b hb => hk b (Nat.le_trans h1 (h2.og.ge b hb)) (h5 b hb).1 (h2.rd.lt b hb)) hs, h3, h4, h5⟩
theorem GrA.below (h : GrA B L v n xs G W) (b : Below W.heap.size W W') : GrA B L v n xs G W' := h.low (fun x _ _ hx => b.block x hx) b.size
theorem GrA.cell (h : GrA B L v n xs G W) {g j : Nat} {u : Value} (hg : g < B ∨ g = L) : GrA B L v n xs G (W.setCell ⟨g, j, none⟩ u) := h.low (fun b h1 h2 _ => Below.heap_setCell W ⟨g, j, none⟩ u b (by show b ≠ g; omega)) (by simp)
theorem GrA.row (h : GrA B L v n xs G W) {g : Nat} {ds : Array Value} (hg : g < B ∨ g = L) : GrA B L v n xs G (W.setRow g ds) := h.low (fun b h1 h2 _ => setRow_other W g b ds (by omega)) (below_setRow (Below.refl 0 W) (Nat.zero_le g) ds).size
theorem GrA.next (h : GrA B L v n xs G W) {q : Nat} (g : W.grownBy W' (some q)) (hq : q < B) : GrA B L v n xs G W' := h.low (fun b h1 _ h3 => g.block b h3 (fun e => by simp at e; omega)) g.size
theorem GrA.at (h : GrA B L v n xs G W) (hL : L' < B ∨ W.heap.size ≤ L') : GrA B L' v n xs G W := by
  obtain ⟨lo, vs, GG, h1, h2, h3, h4, h5⟩ := h
  exact ⟨lo, vs, GG, h1, h2, h3, fun b e => ⟨by have := h2.row.lt b e; omega, (h4 b e).2⟩, fun b hb => ⟨by have := h2.og.ge b hb; have := h2.rd.lt b hb; omega, (h5 b hb).2⟩⟩
theorem GrA.mono (h : GrA B L v n xs G W) (hB : B' ≤ B) : GrA B' L v n xs G W := by
  obtain ⟨lo, vs, GG, h1, h2⟩ := h
  exact ⟨lo, vs, GG, Nat.le_trans hB h1, h2⟩
theorem GrA.fresh (h : GrA B L v n xs G W) (hG : ∀ b ∈ G', W.heap.size ≤ b) : GrA B L v n xs G' W := by
  obtain ⟨lo, vs, GG, h1, h2, h3, h4, h5⟩ := h
  exact ⟨lo, vs, GG, h1, h2, h3, fun b e => ⟨(h4 b e).1, fun hx => by have := h2.row.lt b e; have := hG b hx; omega⟩, fun b hb => ⟨(h5 b hb).1, fun hx => by have := h2.rd.lt b hb; have := hG b hx; omega⟩⟩
theorem GrA.start (hB : B ≤ W.heap.size) : GrA B L (.slice none 0 0) 0 [] G W := ⟨W.heap.size, [], [], hB, GrowL.start (Nat.le_refl _), rfl, (fun b hb => by cases hb), fun b hb => by cases hb⟩
/-- One more item behind it. -/
theorem GrA.add (h : GrA B L v n xs G W) {y : It} {cs : Array Value} {Fk : List Nat} {g4 cp4 M lo : Nat} {vs : List Value} {GG : List Nat} (h1 : B ≤ lo) (h2 : GrowL itK 36 xs lo n v vs GG W) (h4 : ∀ b, v.ownBlock = some b → b ≠ L ∧ b ∉ G) (h5 : ∀ b ∈ GG, b ≠ L ∧ b ∉ G)
    (rk : RdIt W (.agg cs) y Fk) (hn : cs.size = 11) (ok : Own M W Fk) (hM : lo ≤ M ∧ (∀ b, v.ownBlock = some b → b < M) ∧ (∀ b ∈ GG, b < M) ∧ (∀ b ∈ G, b < M) ∧ L < M) (hW : M ≤ W.heap.size)
    (hown : W'.ownsRow lo 36 11 (.slice (some ⟨g4, 0, none⟩) (n + 1) cp4) (n + 1) (vs ++ cs.toList)) (hgrow : W.grownBy W' v.ownBlock) (hat : v.ownBlock = some g4 ∨ g4 = W.heap.size) :
    ∃ F', RdL itK W' (some ⟨g4, 0, none⟩) (n + 1) (xs ++ [y]) F' ∧ Own B W' F' ∧ Capd (some ⟨g4, 0, none⟩) (n + 1) cp4 ∧ (∀ b ∈ F', b ≠ L ∧ b ∉ G) ∧ ∀ b, b < W.heap.size → (b < B ∨ b = L ∨ b ∈ G) → W'.heap[b]? = W.heap[b]? := by
  obtain ⟨_, _, _, _, _, h3, _, _⟩ := h
  have hx : (xs ++ [y])[n]? = some y := by rw [← h3]; simp
  have g1 := (h2.extend h3 y).step hx rk hn ok hM.2.2.1 hM.2.1 hM.1 hown hgrow hat
  obtain ⟨q, cp, F', e, r, o, cpd, pt⟩ := g1.done2 (by rw [List.length_append, h3]; rfl)
  injection e with e1 e2 e3
  subst e1; subst e3
  refine ⟨F', r, o.mono h1, cpd, fun b hb => ?_, fun b hb hc => hgrow.block b hb (fun e => ?_)⟩
  · rcases pt b hb with q | q
    · have hb' : b = g4 := by simpa [Value.ownBlock] using q.symm
      subst hb'
      rcases hat with q | q
      · exact h4 b q
      · exact ⟨by have := hM.2.2.2.2; omega, fun hg => by have := hM.2.2.2.1 b hg; omega⟩
    · rcases List.mem_append.1 q with q | q
      · exact h5 b q
      · exact ⟨fun e => by have := ok.ge b q; have := hM.2.2.2.2; omega, fun hg => by have := ok.ge b q; have := hM.2.2.2.1 b hg; omega⟩
  · have := (h2.row.lt b e.symm).1
    rcases hc with hc | hc | hc
    · omega
    · exact (h4 b e.symm).1 hc
    · exact (h4 b e.symm).2 hc
end
/-- What a Seal tells, with room behind its list. -/
def NewAg2R (w : World) (z : Ag × Int) (e : Ending) (w' : World) : Prop := ∃ cs F G c, e = .returned (.tuple #[.agg cs, .int .i64 c]) ∧ RdAg w' (.agg cs) z.1 F G ∧ c = z.2 ∧ Own w.heap.size w' F ∧ Own w.heap.size w' G ∧ (∀ b ∈ F, b ∉ G) ∧ Below w.heap.size w w' ∧ ∃ v, cs[4]? = some v ∧ GrA w.heap.size w'.heap.size v z.1.sealed.length z.1.sealed G w'
theorem NewAg2R.plain {w : World} {z : Ag × Int} {e : Ending} {w' : World} (h : NewAg2R w z e w') : NewAg2 w z e w' := by
  obtain ⟨cs, F, G, c, e1, r1, r2, r3, r4, r5, r6, _⟩ := h
  exact ⟨_, F, G, c, e1, r1, r2, r3, r4, r5, r6⟩
theorem NewAgH.room {w : World} {x : Ag} {e : Ending} {w' : World} (h : NewAgH w x e w') : ∃ cs F G, e = .returned (.agg cs) ∧ RdAg w' (.agg cs) x F G ∧ Own w.heap.size w' F ∧ Own w.heap.size w' G ∧ (∀ b ∈ F, b ∉ G) ∧ Below w.heap.size w w' ∧ ∃ v, cs[4]? = some v ∧ GrA w.heap.size w'.heap.size v x.sealed.length x.sealed G w' := by
  obtain ⟨q1, k1, q2, l2, k2, F, G, lo, vs, GG, rfl, r1, r2, c1, c2, o1, o2, ap, b, g, hlo, h1, h2⟩ := h
  exact ⟨_, F, G, rfl, ⟨q1, _, k1, q2, l2, k2, rfl, r1, r2, c1, c2⟩, o1, o2, ap, b, _, rfl, lo, vs, GG, hlo, g, rfl, fun y e => ⟨by have := g.lts.2.1 y e; omega, fun hy => h1 y hy e⟩, fun y hy => ⟨by have := g.lts.1 y hy; omega, h2 y hy⟩⟩
theorem NewAgG.apart {w : World} {x : Ag} {e : Ending} {w' : World} (h : NewAgG w x e w') : NewAgH w x e w' := by
  obtain ⟨q1, k1, q2, l2, k2, F, G, lo, vs, GG, he, r1, r2, c1, c2, o1, o2, ap, b, g, hlo, hG⟩ := h
  exact ⟨q1, k1, q2, l2, k2, F, G, lo, vs, GG, he, r1, r2, c1, c2, o1, o2, ap, b, g, hlo, fun y hy e => by have := (g.row.lt y e).1; have := hG y hy; omega, fun y hy hx => by have := g.og.ge y hy; have := hG y hx; omega⟩
/-- A copy of an agent whose list may get one more; L: behind it all is newer. -/
structure SealC (B L lo n1 : Nat) (x : Ag) (q1 : Option Addr) (k1 : Nat) (q2 : Option Addr) (l2 k2 : Nat) (F G GG : List Nat) (vs : List Value) (W : World) : Prop where
  len : x.sealed.length = n1
  rl : RdL itK W q1 n1 x.sealed F
  rp : RdP W q2 l2 x.taken G
  cp1 : Capd q1 n1 k1
  cp2 : Capd q2 l2 k2
  oF : Own B W F
  oG : Own B W G
  ap : ∀ b ∈ F, b ∉ G
  gr : GrowL itK 36 x.sealed lo n1 (.slice q1 n1 k1) vs GG W
  hlo : B ≤ lo
  g1 : ∀ b ∈ G, ¬ (Value.slice q1 n1 k1).ownBlock = some b
  g2 : ∀ b ∈ GG, b ∉ G
  l1 : ∀ b ∈ F, b < L
  l2' : ∀ b ∈ G, b < L
  l3 : ∀ b ∈ GG, b < L
  l4 : ∀ b, (Value.slice q1 n1 k1).ownBlock = some b → b < L
  l5 : lo ≤ L
theorem SealC.below {B L lo n1 : Nat} {x : Ag} {q1 : Option Addr} {k1 : Nat} {q2 : Option Addr} {l2 k2 : Nat} {F G GG : List Nat} {vs : List Value} {W W' : World} (h : SealC B L lo n1 x q1 k1 q2 l2 k2 F G GG vs W) (b : Below W.heap.size W W') : SealC B L lo n1 x q1 k1 q2 l2 k2 F G GG vs W' :=
  ⟨h.len, h.rl.below b, h.rp.below b, h.cp1, h.cp2, h.oF.below h.rl.lt b, h.oG.below h.rp.lt b, h.ap, h.gr.below b, h.hlo, h.g1, h.g2, h.l1, h.l2', h.l3, h.l4, h.l5⟩
theorem NewAgH.at {w : World} {x : Ag} {e : Ending} {w' : World} {n1 : Nat} (h : NewAgH w x e w') (hn : x.sealed.length = n1) : ∃ (q1 : Option Addr) (k1 : Nat) (q2 : Option Addr) (l2 k2 : Nat) (F G GG : List Nat) (lo : Nat) (vs : List Value),
    e = .returned (.agg #[.int .i64 x.id, .int .i64 x.epoch, .bool x.live, .int .i64 x.granted, .slice q1 n1 k1, .slice q2 l2 k2, .int .i64 x.next]) ∧ SealC w.heap.size w'.heap.size lo n1 x q1 k1 q2 l2 k2 F G GG vs w' ∧ Below w.heap.size w w' := by
  subst hn
  obtain ⟨q1, k1, q2, l2, k2, F, G, lo, vs, GG, he, r1, r2, c1, c2, o1, o2, ap, b, g, hlo, h1, h2⟩ := h
  exact ⟨q1, k1, q2, l2, k2, F, G, GG, lo, vs, he, ⟨rfl, r1, r2, c1, c2, o1, o2, ap, g, hlo, h1, h2, r1.lt, r2.lt, g.lts.1, g.lts.2.1, g.lts.2.2⟩, b⟩
/-- What a Seal has before it: the agent, the summary, the result's place. -/
structure SealW (w : World) (A S : Array Value) (W : World) : Prop where
  box : Blk W w.heap.size A 27
  sk : Blk W (w.heap.size + 1) S 34
  res : Blk W (w.heap.size + 1 + 1) #[.int .i64 0, .int .i64 0, .bool false, .int .i64 0, .slice none 0 0, .slice none 0 0, .int .i64 0] 27
  bel : Below w.heap.size w W
theorem SealW.below {w W W' : World} {A S : Array Value} (h : SealW w A S W) (b : Below W.heap.size W W') : SealW w A S W' := ⟨h.box.below b, h.sk.below b, h.res.below b, Below.next h.bel b⟩
theorem SealW.made (w : World) (A S : Array Value) : SealW w A S (((w.alloc (.cells A 27)).alloc (.cells S 34)).alloc (.cells #[.int .i64 0, .int .i64 0, .bool false, .int .i64 0, .slice none 0 0, .slice none 0 0, .int .i64 0] 27)) :=
  ⟨((Blk.made _ _ _).alloc _).alloc _, (Blk.made_eq (by simp)).alloc _, Blk.made_eq (by simp), Below.allocW _ (Below.allocW _ (Below.allocW _ (Below.refl _ _) (Nat.le_refl _)) (Nat.le_refl _)) (Nat.le_refl _)⟩
theorem SealW.kept {w W W' : World} {A S : Array Value} (h : SealW w A S W) (hk : ∀ b, b < w.heap.size + 3 → W'.heap[b]? = W.heap[b]?) (hs : W.heap.size ≤ W'.heap.size) (hb : Below w.heap.size w W') : SealW w A S W' := by
  have _ := hs
  exact ⟨h.box.agree (hk _ (by omega)), h.sk.agree (hk _ (by omega)), h.res.agree (hk _ (by omega)), hb⟩
/-- .. and the copy in a variable at L. -/
structure SealL (w : World) (A S : Array Value) (B L lo n1 : Nat) (x : Ag) (q1 : Option Addr) (k1 : Nat) (q2 : Option Addr) (l2 k2 : Nat) (F G GG : List Nat) (vs : List Value) (W : World) : Prop where
  base : SealW w A S W
  loc : Blk W L #[.int .i64 x.id, .int .i64 x.epoch, .bool x.live, .int .i64 x.granted, .slice q1 n1 k1, .slice q2 l2 k2, .int .i64 x.next] 27
  c : SealC B L lo n1 x q1 k1 q2 l2 k2 F G GG vs W
  gB : w.heap.size + 3 ≤ B
  gL : B ≤ L
theorem SealL.below {w : World} {A S : Array Value} {B L lo n1 : Nat} {x : Ag} {q1 : Option Addr} {k1 : Nat} {q2 : Option Addr} {l2 k2 : Nat} {F G GG : List Nat} {vs : List Value} {W W' : World} (h : SealL w A S B L lo n1 x q1 k1 q2 l2 k2 F G GG vs W) (b : Below W.heap.size W W') : SealL w A S B L lo n1 x q1 k1 q2 l2 k2 F G GG vs W' := ⟨h.base.below b, h.loc.below b, h.c.below b, h.gB, h.gL⟩
/-- .. and behind the append. -/
structure SealD (w : World) (A S : Array Value) (L : Nat) (C : Array Value) (y : Ag) (F G : List Nat) (W : World) : Prop where
  base : SealW w A S W
  loc : Blk W L C 27
  rd : RdAg W (.agg C) y F G
  oF : Own (w.heap.size + 3) W F
  oG : Own (w.heap.size + 3) W G
  ap : ∀ b ∈ F, b ∉ G
  gL : w.heap.size + 3 ≤ L
  rm : ∃ v, C[4]? = some v ∧ GrA (w.heap.size + 3) L v y.sealed.length y.sealed G W
theorem SealD.below {w : World} {A S : Array Value} {L : Nat} {C : Array Value} {y : Ag} {F G : List Nat} {W W' : World} (h : SealD w A S L C y F G W) (b : Below W.heap.size W W') : SealD w A S L C y F G W' :=
  ⟨h.base.below b, h.loc.below b, h.rd.below b, h.oF.below h.rd.lt1 b, h.oG.below h.rd.lt2 b, h.ap, h.gL, let ⟨v, e, g⟩ := h.rm; ⟨v, e, g.below b⟩⟩
theorem SealL.done {w : World} {A S : Array Value} {B L lo n1 : Nat} {x : Ag} {q1 : Option Addr} {k1 : Nat} {q2 : Option Addr} {l2 k2 : Nat} {F G GG : List Nat} {vs : List Value} {W W' : World} (h : SealL w A S B L lo n1 x q1 k1 q2 l2 k2 F G GG vs W) {y : It} {cs : Array Value} {Fk : List Nat} {g4 cp4 : Nat}
    (rk : RdIt W (.agg cs) y Fk) (hn : cs.size = 11) (ok : Own (L + 1) W Fk)
    (hown : W'.ownsRow lo 36 11 (.slice (some ⟨g4, 0, none⟩) (n1 + 1) cp4) (n1 + 1) (vs ++ cs.toList)) (hgrow : W.grownBy W' (Value.slice q1 n1 k1).ownBlock) (hat : (Value.slice q1 n1 k1).ownBlock = some g4 ∨ g4 = W.heap.size) :
    SealW w A S W' ∧ Blk W' L #[.int .i64 x.id, .int .i64 x.epoch, .bool x.live, .int .i64 x.granted, .slice q1 n1 k1, .slice q2 l2 k2, .int .i64 x.next] 27 ∧ ∃ F', SealD w A S L #[.int .i64 x.id, .int .i64 x.epoch, .bool x.live, .int .i64 x.granted, .slice (some ⟨g4, 0, none⟩) (n1 + 1) cp4, .slice q2 l2 k2, .int .i64 x.next] (x.plus y) F' G (W'.setCell ⟨L, 4, none⟩ (.slice (some ⟨g4, 0, none⟩) (n1 + 1) cp4)) := by
  have gB := h.gB; have gL := h.gL; have hlo := h.c.hlo; have l5 := h.c.l5
  have hLW := h.loc.lt
  have hx : (x.sealed ++ [y])[n1]? = some y := by rw [← h.c.len]; simp
  have g0 := h.c.gr.extend h.c.len y
  have g1 := g0.step hx rk hn ok (fun b hb => by have := h.c.l3 b hb; omega) (fun b hb => by have := h.c.l4 b hb; omega) (by omega) hown hgrow hat
  obtain ⟨q, cp, F', e, r, o, cpd, pt⟩ := g1.done2 (by rw [List.length_append, h.c.len]; rfl)
  injection e with e1 e2 e3
  subst e1; subst e3
  have kp : ∀ b, b < W.heap.size → ¬ (Value.slice q1 n1 k1).ownBlock = some b → W'.heap[b]? = W.heap[b]? := fun b hb hq => hgrow.block b hb (fun e => hq e.symm)
  have lw : ∀ b, b < lo → W'.heap[b]? = W.heap[b]? := fun b hb => h.c.gr.other hgrow hb
  have bel : Below w.heap.size w W' := h.base.bel.grown hgrow h.base.bel.size (fun b hb => by have := (h.c.gr.row.lt b hb).1; omega)
  have base : SealW w A S W' := h.base.kept (fun b hb => lw b (by omega)) hgrow.size bel
  have loc : Blk W' L #[.int .i64 x.id, .int .i64 x.epoch, .bool x.live, .int .i64 x.granted, .slice q1 n1 k1, .slice q2 l2 k2, .int .i64 x.next] 27 := h.loc.agree (kp L hLW (fun e => by have := h.c.l4 L e; omega))
  have agG : Agree W W' G := fun b hb => kp b (h.c.rp.lt b hb) (h.c.g1 b hb)
  have hF : ∀ b ∈ F', b ∉ G ∧ b ≠ L := fun b hb => by
    rcases pt b hb with q | q
    · have hb' : b = g4 := by simpa [Value.ownBlock] using q.symm
      subst hb'
      rcases hat with q | q
      · exact ⟨fun hg => h.c.g1 b hg q, fun e => by have := h.c.l4 b q; omega⟩
      · exact ⟨fun hg => by have := h.c.rp.lt b hg; omega, by omega⟩
    · rcases List.mem_append.1 q with q | q
      · exact ⟨h.c.g2 b q, fun e => by have := h.c.l3 b q; omega⟩
      · exact ⟨fun hg => by have := ok.ge b q; have := h.c.l2' b hg; omega, fun e => by have := ok.ge b q; omega⟩
  have nF : L ∉ F' := fun hx => (hF L hx).2 rfl
  have nG : L ∉ G := fun hx => by have := h.c.l2' L hx; omega
  have aF := (Agree.refl W' F').thenSet nF 4 (.slice (some ⟨g4, 0, none⟩) (n1 + 1) cp4)
  have aG := agG.thenSet nG 4 (.slice (some ⟨g4, 0, none⟩) (n1 + 1) cp4)
  refine ⟨base, loc, F', ⟨⟨base.box.setOther (by omega) 4 _, base.sk.setOther (by omega) 4 _, base.res.setOther (by omega) 4 _, bel.setCell (by show w.heap.size ≤ L; omega) _⟩, loc.set 4 _, ?_, (o.agree aF).mono (by omega), (h.c.oG.agree aG).mono (by omega), fun b hb => (hF b hb).1, by omega, ?_⟩⟩
  case refine_2 =>
    have hGG : ∀ b ∈ GG ++ Fk, b ≠ L ∧ b ∉ G := fun b q => by
      rcases List.mem_append.1 q with q | q
      · exact ⟨fun e => by have := h.c.l3 b q; omega, h.c.g2 b q⟩
      · exact ⟨fun e => by have := ok.ge b q; omega, fun hg => by have := ok.ge b q; have := h.c.l2' b hg; omega⟩
    have hOW : ∀ b, (Value.slice (some ⟨g4, 0, none⟩) (n1 + 1) cp4).ownBlock = some b → b ≠ L ∧ b ∉ G := fun b q => by
      have hb' : b = g4 := by simpa [Value.ownBlock] using q.symm
      subst hb'
      rcases hat with q | q
      · exact ⟨fun e => by have := h.c.l4 b q; omega, fun hg => h.c.g1 b hg q⟩
      · exact ⟨by omega, fun hg => by have := h.c.rp.lt b hg; omega⟩
    have gr : GrA (w.heap.size + 3) L (.slice (some ⟨g4, 0, none⟩) (n1 + 1) cp4) (x.sealed ++ [y]).length (x.sealed ++ [y]) G W' := ⟨lo, _, _, by omega, by rw [List.length_append, h.c.len]; exact g1, rfl, hOW, hGG⟩
    exact ⟨_, rfl, gr.cell (.inr rfl)⟩
  exact ⟨_, _, _, _, _, _, rfl, r.agree aF, h.c.rp.agree aG, cpd, h.c.cp2⟩
end Go.Proofs.Ytgkbhhlkaifnoaa
