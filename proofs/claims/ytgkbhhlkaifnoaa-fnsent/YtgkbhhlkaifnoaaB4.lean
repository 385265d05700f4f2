/- Several texts of mine, laid together. No statement of the seat is proved here. -/
import Derived.Test.YtgkbhhlkaifnoaaB3
import Derived.Test.YtgkbhhlkaifnoaaB1
import Derived.Test.YtgkbhhlkaifnoaaB2
import Derived.Test.YtgkbhhlkaifnoaaLstCopy
import Derived.WalkMore
import Derived.ScopeJumps
/- The walk through the model's Seal. No statement of the seat is proved here. -/
namespace Go.Proofs.Ytgkbhhlkaifnoaa
open Go.RowKit
theorem infoAgQSpec : (Try.prog.info? 27).map (·.size) = some 7 := by kernel_rfl
theorem infoSkQSpec : (Try.prog.info? 34).map (·.size) = some 7 := by kernel_rfl
theorem infoItsQSpec : (Try.prog.info? 36).map (fun i => (i.zero, i.size, i.bytes)) = some (some (.agg #[.int .i64 0, .int .i64 0, .int .i64 0, .int .i64 0, .int .i64 0, .int .i64 0, .int .i64 0, .int .i64 0, .slice none 0 0, .slice none 0 0, .slice none 0 0]), 11, 136) := by kernel_rfl
set_option maxRecDepth 200000 in
set_option maxHeartbeats 8000000 in
theorem sealSpec_room (v u : Value) (x : Ag) (c k n : Int) (s : Sk) (F0 G0 H0 : List Nat) (w : World) (h : RdAg w v x F0 G0) (hu : RdSk w u s H0) (hf : ∀ y ∈ x.sealed, y.sk.fits) (hs : x.sealed.length ≤ 1048576) (hl : x.taken.length ≤ 1048576) (hsf : s.fits) :
    Calls Try.prog 22 #[v, .int .i64 c, .int .i64 k, .int .i64 n, u] w fun e w' => NewAg2R w (x.seal c k n s) e w' := by
  obtain ⟨j0, hj, hy0, hy1, hy2⟩ := info_parts infoItsQSpec
  obtain ⟨a1, n1, c1, a2, n2, c2, rfl, hL, hP, hc1, hc2⟩ := h
  obtain ⟨b1, m1, d1, b2, m2, d2, b3, m3, d3, rfl⟩ := hu.cells7
  have HX : Hid (RdAg w (.agg #[.int .i64 x.id, .int .i64 x.epoch, .bool x.live, .int .i64 x.granted, .slice a1 n1 c1, .slice a2 n2 c2, .int .i64 x.next]) x F0 G0 ∧ x.sealed.length = n1) := ⟨⟨a1, n1, c1, a2, n2, c2, rfl, hL, hP, hc1, hc2⟩, hL.length⟩
  have HU : Hid (RdSk w (.agg #[.int .i64 s.count, .int .i64 s.sum, .int .i64 s.min, .int .i64 s.max, .slice b1 m1 d1, .slice b2 m2 d2, .slice b3 m3 d3]) s H0 ∧ s.fits) := ⟨hu, hsf⟩
  have HF : Hid ((∀ y ∈ x.sealed, y.sk.fits) ∧ x.sealed.length ≤ 1048576 ∧ x.taken.length ≤ 1048576) := ⟨hf, hs, hl⟩
  have hn1 : n1 ≤ 1048576 := by rw [← hL.length]; exact hs
  have HI : Hid (x.item c k n s = ⟨(n1 : Int) + 1, c, k, n, s⟩ ∧ (x.sealed.length : Int) + 1 = (n1 : Int) + 1) := ⟨by unfold Ag.item; rw [hL.length], by rw [hL.length]⟩
  clear hL hP hc1 hc2 hu hsf hf hs hl
  have HB0 : Hid (SealW w #[.int .i64 x.id, .int .i64 x.epoch, .bool x.live, .int .i64 x.granted, .slice a1 n1 c1, .slice a2 n2 c2, .int .i64 x.next] #[.int .i64 s.count, .int .i64 s.sum, .int .i64 s.min, .int .i64 s.max, .slice b1 m1 d1, .slice b2 m2 d2, .slice b3 m3 d3] (((w.alloc (.cells #[.int .i64 x.id, .int .i64 x.epoch, .bool x.live, .int .i64 x.granted, .slice a1 n1 c1, .slice a2 n2 c2, .int .i64 x.next] 27)).alloc (.cells #[.int .i64 s.count, .int .i64 s.sum, .int .i64 s.min, .int .i64 s.max, .slice b1 m1 d1, .slice b2 m2 d2, .slice b3 m3 d3] 34)).alloc (.cells #[.int .i64 0, .int .i64 0, .bool false, .int .i64 0, .slice none 0 0, .slice none 0 0, .int .i64 0] 27))) := SealW.made _ _ _
  go_enter Try.func22, Try.ntmps22
  go_wp2_with (first | go_skip | (with_reducible refine stopLoad 27 rfl ?_))
  obtain ⟨W0, hW0⟩ : ∃ W, W = ((w.alloc (.cells #[.int .i64 x.id, .int .i64 x.epoch, .bool x.live, .int .i64 x.granted, .slice a1 n1 c1, .slice a2 n2 c2, .int .i64 x.next] 27)).alloc (.cells #[.int .i64 s.count, .int .i64 s.sum, .int .i64 s.min, .int .i64 s.max, .slice b1 m1 d1, .slice b2 m2 d2, .slice b3 m3 d3] 34)).alloc (.cells #[.int .i64 0, .int .i64 0, .bool false, .int .i64 0, .slice none 0 0, .slice none 0 0, .int .i64 0] 27) := ⟨_, rfl⟩
  rw [← hW0] at HB0 ⊢
  clear hW0
  refine load_known 27 w.heap.size _ 27 _ HB0.out.box rfl rfl rfl Try.underlying27 rfl infoAgQSpec ?_
  go_wp2_with fail
  refine (agentOkSpec_any _ x F0 G0 _ (HX.out.1.below HB0.out.bel) (fun y hy => (HF.out.1 y hy).wide) (by have := HF.out.2.1; omega) (by have := HF.out.2.2; omega)).mono ?_
  rintro e w1 ⟨rfl, hb1⟩
  have HB1 : Hid (SealW w #[.int .i64 x.id, .int .i64 x.epoch, .bool x.live, .int .i64 x.granted, .slice a1 n1 c1, .slice a2 n2 c2, .int .i64 x.next] #[.int .i64 s.count, .int .i64 s.sum, .int .i64 s.min, .int .i64 s.max, .slice b1 m1 d1, .slice b2 m2 d2, .slice b3 m3 d3] w1) := HB0.out.below hb1
  obtain ⟨d, hd⟩ : ∃ d, d = x.ok := ⟨_, rfl⟩
  rw [← hd]
  have HD : Hid (d = x.ok) := hd
  clear hb1 hd HB0
  cases d
  · have HV : Hid (x.seal c k n s = (x, 0)) := by show _ = _; unfold Ag.seal; rw [← HD.out]; rfl
    go_wp2_with (first | go_skip | (with_reducible refine stopLoad 27 rfl ?_))
    refine load_known 27 w.heap.size _ 27 _ HB1.out.box rfl rfl rfl Try.underlying27 rfl infoAgQSpec ?_
    go_wp2_with fail
    refine (l8Copy_grow _ x F0 G0 _ (HX.out.1.below HB1.out.bel) HF.out.1 HF.out.2.1 HF.out.2.2).mono ?_
    intro e w8 hnew
    obtain ⟨cs8, F8, G8, rfl, r8, o8, p8, ap8, hb8, v8, hv8, gr8⟩ := hnew.apart.room
    have hzz := r8.cells
    obtain ⟨cs9, e9, hz8, ho8⟩ := hzz
    injection e9 with e9
    subst e9
    have H8 : Hid (SealW w #[.int .i64 x.id, .int .i64 x.epoch, .bool x.live, .int .i64 x.granted, .slice a1 n1 c1, .slice a2 n2 c2, .int .i64 x.next] #[.int .i64 s.count, .int .i64 s.sum, .int .i64 s.min, .int .i64 s.max, .slice b1 m1 d1, .slice b2 m2 d2, .slice b3 m3 d3] w8 ∧ RdAg w8 (.agg cs8) x F8 G8 ∧ Own (w.heap.size + 3) w8 F8 ∧ Own (w.heap.size + 3) w8 G8 ∧ (∀ b ∈ F8, b ∉ G8) ∧ GrA (w.heap.size + 3) (w.heap.size + 2) v8 x.sealed.length x.sealed G8 w8) := ⟨HB1.out.below hb8, r8, o8.mono (by have := HB1.out.res.lt; omega), p8.mono (by have := HB1.out.res.lt; omega), ap8, (gr8.mono (by have := HB1.out.res.lt; omega)).at (.inl (by omega))⟩
    clear r8 o8 p8 ap8 hb8 gr8 hnew
    go_wp2_with (first | go_skip | (with_reducible refine stopStore 27 rfl ?_))
    refine store_known 27 (w.heap.size + 1 + 1) _ cs8 27 H8.out.1.res rfl rfl rfl rfl (by rw [hz8]; exact infoAgQSpec) (by rw [hz8]; rfl) ho8 ?_
    go_wp2
    refine bodyPost_ret (results_row_tmp Try.results22 _ _ (w.heap.size + 1 + 1) _ _ _ _ rfl H8.out.1.res.setRow Try.underlying27 rfl (by rw [hz8]; exact infoAgQSpec)) rfl ?_
    have nr : w.heap.size + 1 + 1 ∉ F8 := fun hx => by have := H8.out.2.2.1.ge _ hx; omega
    have mr : w.heap.size + 1 + 1 ∉ G8 := fun hx => by have := H8.out.2.2.2.1.ge _ hx; omega
    rw [HV.out]
    exact ⟨_, F8, G8, _, rfl, H8.out.2.1.agree (Agree.row nr _) (Agree.row mr _), rfl, (H8.out.2.2.1.agree (Agree.row nr _)).mono (by omega), (H8.out.2.2.2.1.agree (Agree.row mr _)).mono (by omega), H8.out.2.2.2.2.1, below_setRow H8.out.1.bel (by omega) _, v8, hv8, ((H8.out.2.2.2.2.2.row (.inl (by omega))).at (.inr (Nat.le_refl _))).mono (by omega)⟩
  have HD1 : Hid (x.ok = true) := HD.out.symm
  clear HD
  go_wp2_with (first | go_skip | (with_reducible refine stopLoad 27 rfl ?_))
  refine load_known 27 w.heap.size _ 27 _ HB1.out.box rfl rfl rfl Try.underlying27 rfl infoAgQSpec ?_
  go_wp2_with fail
  refine (l8Copy_grow _ x F0 G0 _ (HX.out.1.below HB1.out.bel) HF.out.1 HF.out.2.1 HF.out.2.2).mono ?_
  intro e w2 hnew
  obtain ⟨q1, k1, q2, l2, k2, F, G, GG, lo, vs, rfl, hsc, hb2⟩ := hnew.apart.at HX.out.2
  have HC2 : Hid (SealW w #[.int .i64 x.id, .int .i64 x.epoch, .bool x.live, .int .i64 x.granted, .slice a1 n1 c1, .slice a2 n2 c2, .int .i64 x.next] #[.int .i64 s.count, .int .i64 s.sum, .int .i64 s.min, .int .i64 s.max, .slice b1 m1 d1, .slice b2 m2 d2, .slice b3 m3 d3] w2 ∧ SealC w1.heap.size w2.heap.size lo n1 x q1 k1 q2 l2 k2 F G GG vs w2 ∧ w.heap.size + 3 ≤ w1.heap.size ∧ w1.heap.size ≤ w2.heap.size) := ⟨HB1.out.below hb2, hsc, HB1.out.res.lt, hb2.size⟩
  obtain ⟨B, hB⟩ : ∃ B, B = w1.heap.size := ⟨_, rfl⟩
  rw [← hB] at HC2
  clear hnew hsc hb2 HB1 hB
  go_wp2_with (first | go_skip | (with_reducible refine stopStore 27 rfl ?_))
  refine store_fresh 27 w2.heap.size rfl #[.int .i64 0, .int .i64 0, .bool false, .int .i64 0, .slice none 0 0, .slice none 0 0, .int .i64 0] #[.int .i64 x.id, .int .i64 x.epoch, .bool x.live, .int .i64 x.granted, .slice q1 n1 k1, .slice q2 l2 k2, .int .i64 x.next] 27 rfl rfl rfl rfl infoAgQSpec rfl (by simp [Value.oneCell']) ?_
  intro w3 hg3 hb3
  have HL3 : Hid (SealL w #[.int .i64 x.id, .int .i64 x.epoch, .bool x.live, .int .i64 x.granted, .slice a1 n1 c1, .slice a2 n2 c2, .int .i64 x.next] #[.int .i64 s.count, .int .i64 s.sum, .int .i64 s.min, .int .i64 s.max, .slice b1 m1 d1, .slice b2 m2 d2, .slice b3 m3 d3] B w2.heap.size lo n1 x q1 k1 q2 l2 k2 F G GG vs w3) := ⟨HC2.out.1.below hb3, hg3, HC2.out.2.1.below hb3, HC2.out.2.2.1, HC2.out.2.2.2⟩
  obtain ⟨L, hL⟩ : ∃ L, L = w2.heap.size := ⟨_, rfl⟩
  rw [← hL] at HL3 ⊢
  clear hg3 hb3 HC2 hL
  go_wp2_with fail
  have HLd : Hid (SealL w #[.int .i64 x.id, .int .i64 x.epoch, .bool x.live, .int .i64 x.granted, .slice a1 n1 c1, .slice a2 n2 c2, .int .i64 x.next] #[.int .i64 s.count, .int .i64 s.sum, .int .i64 s.min, .int .i64 s.max, .slice b1 m1 d1, .slice b2 m2 d2, .slice b3 m3 d3] B L lo n1 x q1 k1 q2 l2 k2 F G GG vs w3.drew) := HL3.out.below (Below.refl _ _).drew
  obtain ⟨Y0, hY0⟩ : ∃ Y, Y = w3.drew := ⟨_, rfl⟩
  rw [← hY0] at HLd
  clear HL3
  refine wp_region_held (S := SealW w #[.int .i64 x.id, .int .i64 x.epoch, .bool x.live, .int .i64 x.granted, .slice a1 n1 c1, .slice a2 n2 c2, .int .i64 x.next] #[.int .i64 s.count, .int .i64 s.sum, .int .i64 s.min, .int .i64 s.max, .slice b1 m1 d1, .slice b2 m2 d2, .slice b3 m3 d3]) (by kernel_rfl) ?_
  change wpAnyH _ _ _ _ _ _ _ _ (World.drew _)
  rw [← hY0]
  clear hY0
  refine takeH (o := ?o1) 0 (.pointer (some ⟨L, 4, none⟩)) ?h1 ?r1
  case h1 => simp only [aT, aZ]; rfl
  refine ⟨_, by simp [Act.put]; rfl, by kernel_rfl, by kernel_rfl, by kernel_rfl, fun _ _ _ h => h, (.inl ⟨rfl, fun W _ => by kernel_rfl⟩), HLd.out.base, ?_⟩
  refine takeH (o := ?o2) 2 (.pointer (some ⟨w.heap.size, 4, none⟩)) ?h2 ?r2
  case h2 => simp only [aT, aS, aZ]; rfl
  refine ⟨_, by simp [Act.put]; rfl, by kernel_rfl, by kernel_rfl, by kernel_rfl, fun _ _ _ h => h, (.inl ⟨rfl, fun W _ => by kernel_rfl⟩), HLd.out.base, ?_⟩
  refine takeH (o := ?o3) 3 (.slice a1 n1 c1) ?h3 ?r3
  case h3 => simp only [aT, aS, aZ]; rfl
  refine ⟨_, by simp [Act.put]; rfl, by kernel_rfl, by kernel_rfl, by kernel_rfl, fun _ _ _ h => h, (.inl ⟨rfl, fun W hW => by have c := hW.box.cell 4; simp only [aT, aS, aZ] at c; go_simp⟩), HLd.out.base, ?_⟩
  refine takeH (o := ?o4) 4 (.int .i64 n1) ?h4 ?r4
  case h4 => simp only [aT, aS, aZ]; rfl
  refine ⟨_, by simp [Act.put]; rfl, by kernel_rfl, by kernel_rfl, by kernel_rfl, fun _ _ _ h => h, (.inl ⟨rfl, fun W _ => by go_simp⟩), HLd.out.base, ?_⟩
  refine takeH (o := ?o5) 5 (.int .i64 ((n1 : Int) + 1)) ?h5 ?r5
  case h5 => simp only [aT, aS, aZ]; rfl
  refine ⟨_, by simp [Act.put]; rfl, by kernel_rfl, by kernel_rfl, by kernel_rfl, fun _ _ _ h => h, (.inl ⟨rfl, fun W _ => by go_simp; exact wrapI (by omega)⟩), HLd.out.base, ?_⟩
  refine takeH (o := ?o6) 6 (.int .i64 c) ?h6 ?r6
  case h6 => simp only [aT, aS, aZ]; rfl
  refine ⟨_, by simp [Act.put]; rfl, by kernel_rfl, by kernel_rfl, by kernel_rfl, fun _ _ _ h => h, (.inl ⟨rfl, fun W _ => by kernel_rfl⟩), HLd.out.base, ?_⟩
  refine takeH (o := ?o7) 7 (.int .i64 k) ?h7 ?r7
  case h7 => simp only [aT, aS, aZ]; rfl
  refine ⟨_, by simp [Act.put]; rfl, by kernel_rfl, by kernel_rfl, by kernel_rfl, fun _ _ _ h => h, (.inl ⟨rfl, fun W _ => by kernel_rfl⟩), HLd.out.base, ?_⟩
  refine takeH (o := ?o8) 8 (.int .i64 n) ?h8 ?r8
  case h8 => simp only [aT, aS, aZ]; rfl
  refine ⟨_, by simp [Act.put]; rfl, by kernel_rfl, by kernel_rfl, by kernel_rfl, fun _ _ _ h => h, (.inl ⟨rfl, fun W _ => by kernel_rfl⟩), HLd.out.base, ?_⟩
  refine takeH (o := ?o9) 9 (.agg #[.int .i64 s.count, .int .i64 s.sum, .int .i64 s.min, .int .i64 s.max, .slice b1 m1 d1, .slice b2 m2 d2, .slice b3 m3 d3]) ?h9 ?r9
  case h9 => simp only [aT, aS, aZ]; rfl
  refine ⟨_, by simp [Act.put]; rfl, by kernel_rfl, by kernel_rfl, by kernel_rfl, fun _ _ _ h => h, (yields_whole 34 (w.heap.size + 1) #[.int .i64 s.count, .int .i64 s.sum, .int .i64 s.min, .int .i64 s.max, .slice b1 m1 d1, .slice b2 m2 d2, .slice b3 m3 d3] 34 _ rfl rfl rfl Try.underlying34 rfl infoSkQSpec (fun W hW => hW.sk)), HLd.out.base, ?_⟩
  refine twoH (o := ?o10) (o' := ?p10) 1 10 (by kernel_rfl) ?h10 ?g10 ?r10 ?s10
  case h10 => simp only [aT, aS, aZ]; rfl
  case g10 => simp only [aT, aS, aZ]; rfl
  case r10 =>
    intro K hK
    have co := HLd.out.loc.cell 4
    simp only [aT, aS, aZ] at co
    refine op_value (.slice q1 n1 k1) rfl (by go_simp) ⟨_, by simp [Act.put]; rfl, hK _ _ ⟨HLd.out.base, ?_⟩⟩
    clear hK co
    refine onlyH (o := ?o11) 10 (by kernel_rfl) ?h11 ?r11
    case h11 => simp only [aT, aS, aZ]; rfl
    intro K hK
    refine op_call1 58 _ _ Try.f58 (fun v w' => ∃ F, RdSk w' v s F ∧ Own Y0.heap.size w' F ∧ Below Y0.heap.size Y0 w') rfl rfl Try.func58 (by kernel_rfl) (by kernel_rfl) ((l3Copy_all (.agg #[.int .i64 s.count, .int .i64 s.sum, .int .i64 s.min, .int .i64 s.max, .slice b1 m1 d1, .slice b2 m2 d2, .slice b3 m3 d3]) s H0 Y0 (HU.out.1.below HLd.out.base.bel) HU.out.2).mono (by rintro e w' ⟨v, F, rfl, k1, k2, k3⟩; exact ⟨_, rfl, F, k1, k2, k3⟩)) ?_
    rintro vr Y1 ⟨Fr, rr, ro, rb⟩
    obtain ⟨u1, v1, y1, u2, v2, y2, u3, v3, y3, rfl⟩ := rr.cells7
    have RR1 : Hid (RdIt Y1 (.agg #[.int .i64 ((n1 : Int) + 1), .int .i64 c, .int .i64 k, .int .i64 n, .int .i64 s.count, .int .i64 s.sum, .int .i64 s.min, .int .i64 s.max, .slice u1 v1 y1, .slice u2 v2 y2, .slice u3 v3 y3]) ⟨(n1 : Int) + 1, c, k, n, s⟩ Fr ∧ Own (L + 1) Y1 Fr) := ⟨⟨u1, v1, y1, u2, v2, y2, u3, v3, y3, rfl, rr⟩, ro.mono HLd.out.loc.lt⟩
    have HL1 : Hid (SealL w #[.int .i64 x.id, .int .i64 x.epoch, .bool x.live, .int .i64 x.granted, .slice a1 n1 c1, .slice a2 n2 c2, .int .i64 x.next] #[.int .i64 s.count, .int .i64 s.sum, .int .i64 s.min, .int .i64 s.max, .slice b1 m1 d1, .slice b2 m2 d2, .slice b3 m3 d3] B L lo n1 x q1 k1 q2 l2 k2 F G GG vs Y1) := HLd.out.below rb
    refine ⟨_, by simp [Act.put]; rfl, hK _ _ ⟨HL1.out.base, ?_⟩⟩
    clear hK rr ro rb
    refine takeH (o := ?o12) 11 (.agg #[.int .i64 ((n1 : Int) + 1), .int .i64 c, .int .i64 k, .int .i64 n, .int .i64 s.count, .int .i64 s.sum, .int .i64 s.min, .int .i64 s.max, .slice u1 v1 y1, .slice u2 v2 y2, .slice u3 v3 y3]) ?h12 ?r12
    case h12 => simp only [aT, aS, aZ]; rfl
    refine ⟨_, by simp [Act.put]; rfl, by kernel_rfl, by kernel_rfl, by kernel_rfl, fun _ _ _ h => h, (.inl ⟨rfl, fun W _ => by kernel_rfl⟩), HL1.out.base, ?_⟩
    refine onlyH (o := ?o13) 12 (by kernel_rfl) ?h13 ?r13
    case h13 => simp only [aT, aS, aZ]; rfl
    intro K hK
    have bl : Below Y1.heap.size Y1 (Y1.alloc (.cells #[.int .i64 ((n1 : Int) + 1), .int .i64 c, .int .i64 k, .int .i64 n, .int .i64 s.count, .int .i64 s.sum, .int .i64 s.min, .int .i64 s.max, .slice u1 v1 y1, .slice u2 v2 y2, .slice u3 v3 y3] 36)) := (Below.refl _ _).alloc (Nat.le_refl _) _
    have HL2 : Hid (SealL w #[.int .i64 x.id, .int .i64 x.epoch, .bool x.live, .int .i64 x.granted, .slice a1 n1 c1, .slice a2 n2 c2, .int .i64 x.next] #[.int .i64 s.count, .int .i64 s.sum, .int .i64 s.min, .int .i64 s.max, .slice b1 m1 d1, .slice b2 m2 d2, .slice b3 m3 d3] B L lo n1 x q1 k1 q2 l2 k2 F G GG vs (Y1.alloc (.cells #[.int .i64 ((n1 : Int) + 1), .int .i64 c, .int .i64 k, .int .i64 n, .int .i64 s.count, .int .i64 s.sum, .int .i64 s.min, .int .i64 s.max, .slice u1 v1 y1, .slice u2 v2 y2, .slice u3 v3 y3] 36))) := HL1.out.below bl
    have RR2 : Hid (RdIt (Y1.alloc (.cells #[.int .i64 ((n1 : Int) + 1), .int .i64 c, .int .i64 k, .int .i64 n, .int .i64 s.count, .int .i64 s.sum, .int .i64 s.min, .int .i64 s.max, .slice u1 v1 y1, .slice u2 v2 y2, .slice u3 v3 y3] 36)) (.agg #[.int .i64 ((n1 : Int) + 1), .int .i64 c, .int .i64 k, .int .i64 n, .int .i64 s.count, .int .i64 s.sum, .int .i64 s.min, .int .i64 s.max, .slice u1 v1 y1, .slice u2 v2 y2, .slice u3 v3 y3]) ⟨(n1 : Int) + 1, c, k, n, s⟩ Fr ∧ Own (L + 1) (Y1.alloc (.cells #[.int .i64 ((n1 : Int) + 1), .int .i64 c, .int .i64 k, .int .i64 n, .int .i64 s.count, .int .i64 s.sum, .int .i64 s.min, .int .i64 s.max, .slice u1 v1 y1, .slice u2 v2 y2, .slice u3 v3 y3] 36)) Fr) := ⟨RR1.out.1.below bl, RR1.out.2.below (RdIt.lt RR1.out.1) bl⟩
    have NW2 : Hid (∀ j u, #[.int .i64 ((n1 : Int) + 1), .int .i64 c, .int .i64 k, .int .i64 n, .int .i64 s.count, .int .i64 s.sum, .int .i64 s.min, .int .i64 s.max, .slice u1 v1 y1, .slice u2 v2 y2, .slice u3 v3 y3].toList[j]? = some u → ((Y1.alloc (.cells #[.int .i64 ((n1 : Int) + 1), .int .i64 c, .int .i64 k, .int .i64 n, .int .i64 s.count, .int .i64 s.sum, .int .i64 s.min, .int .i64 s.max, .slice u1 v1 y1, .slice u2 v2 y2, .slice u3 v3 y3] 36))).cell? ((⟨Y1.heap.size, 0, none⟩ : Addr).add j) = some u) := news_lit _ _ _
    refine op_turn (.slice (some ⟨Y1.heap.size, 0, none⟩) 1 1) (Y1.alloc (.cells #[.int .i64 ((n1 : Int) + 1), .int .i64 c, .int .i64 k, .int .i64 n, .int .i64 s.count, .int .i64 s.sum, .int .i64 s.min, .int .i64 s.max, .slice u1 v1 y1, .slice u2 v2 y2, .slice u3 v3 y3] 36)) rfl (by kernel_rfl) ⟨_, by simp [Act.put]; rfl, hK _ _ ⟨HL2.out.base, ?_⟩⟩
    clear hK bl
    obtain ⟨L2, hL2⟩ : ∃ z, z = Y1.heap.size := ⟨_, rfl⟩
    obtain ⟨Y2, hY2⟩ : ∃ Z, Z = (Y1.alloc (.cells #[.int .i64 ((n1 : Int) + 1), .int .i64 c, .int .i64 k, .int .i64 n, .int .i64 s.count, .int .i64 s.sum, .int .i64 s.min, .int .i64 s.max, .slice u1 v1 y1, .slice u2 v2 y2, .slice u3 v3 y3] 36)) := ⟨_, rfl⟩
    rw [← hY2, ← hL2] at NW2
    rw [← hY2] at HL2 RR2 ⊢
    rw [← hL2]
    clear hY2 hL2
    refine onlyH (o := ?o14) 13 (by kernel_rfl) ?h14 ?r14
    case h14 => simp only [aT, aS, aZ]; rfl
    intro K hK
    refine op_append Y2 rfl _ _ 24 rfl lo 36 j0 (.agg #[.int .i64 0, .int .i64 0, .int .i64 0, .int .i64 0, .int .i64 0, .int .i64 0, .int .i64 0, .int .i64 0, .slice none 0 0, .slice none 0 0, .slice none 0 0]) 11 136 Try.underlying24 hj hy0 hy1 hy2 rfl (by decide) (.slice q1 n1 k1) n1 vs rfl HL2.out.c.gr.row ⟨L2, 0, none⟩ 1 1 #[.int .i64 ((n1 : Int) + 1), .int .i64 c, .int .i64 k, .int .i64 n, .int .i64 s.count, .int .i64 s.sum, .int .i64 s.min, .int .i64 s.max, .slice u1 v1 y1, .slice u2 v2 y2, .slice u3 v3 y3].toList rfl rfl NW2.out (by simp [Value.oneCell']) (by decide) (by unfold maxLen; omega) (by omega) HL2.out.c.gr.lw _ rfl ?_
    intro g4 cp4 Y3 hown hgrow hat _
    obtain ⟨ST1, ST2, F', ST3⟩ := HL2.out.done RR2.out.1 rfl RR2.out.2 hown hgrow hat
    have HL3 : Hid (SealW w #[.int .i64 x.id, .int .i64 x.epoch, .bool x.live, .int .i64 x.granted, .slice a1 n1 c1, .slice a2 n2 c2, .int .i64 x.next] #[.int .i64 s.count, .int .i64 s.sum, .int .i64 s.min, .int .i64 s.max, .slice b1 m1 d1, .slice b2 m2 d2, .slice b3 m3 d3] Y3 ∧ SealD w #[.int .i64 x.id, .int .i64 x.epoch, .bool x.live, .int .i64 x.granted, .slice a1 n1 c1, .slice a2 n2 c2, .int .i64 x.next] #[.int .i64 s.count, .int .i64 s.sum, .int .i64 s.min, .int .i64 s.max, .slice b1 m1 d1, .slice b2 m2 d2, .slice b3 m3 d3] L #[.int .i64 x.id, .int .i64 x.epoch, .bool x.live, .int .i64 x.granted, .slice (some ⟨g4, 0, none⟩) (n1 + 1) cp4, .slice q2 l2 k2, .int .i64 x.next] (x.plus ⟨(n1 : Int) + 1, c, k, n, s⟩) F' G (Y3.setCell ⟨L, 4, none⟩ (.slice (some ⟨g4, 0, none⟩) (n1 + 1) cp4))) := ⟨ST1, ST3⟩
    have co := ST2.cell 4
    have fo := ST2.frozen 4
    simp only [aT, aS, aZ] at co
    refine ⟨_, by simp [Act.put]; rfl, hK _ _ ⟨HL3.out.1, ?_⟩⟩
    clear hK hown hgrow hat ST1 ST2 ST3
    refine takeH (o := ?o15) 14 (.pointer (some ⟨L, 4, none⟩)) ?h15 ?r15
    case h15 => simp only [aT, aS, aZ]; rfl
    refine ⟨_, by simp [Act.put]; rfl, by kernel_rfl, by kernel_rfl, by kernel_rfl, fun _ _ _ h => h, (.inl ⟨rfl, fun W _ => by kernel_rfl⟩), HL3.out.1, ?_⟩
    refine onlyH (o := ?o16) 15 (by kernel_rfl) ?h16 ?r16
    case h16 => simp only [aT, aS, aZ]; rfl
    intro K hK
    refine op_skip (Y3.setCell ⟨L, 4, none⟩ (.slice (some ⟨g4, 0, none⟩) (n1 + 1) cp4)) rfl (by go_simp) ⟨_, by simp [Act.put]; rfl, hK _ _ ⟨HL3.out.2.base, ?_⟩⟩
    clear hK co fo
    refine wpAnyH_done (by kernel_rfl) ?_ _
    obtain ⟨w5, hw5⟩ : ∃ W, W = Y3.setCell ⟨L, 4, none⟩ (.slice (some ⟨g4, 0, none⟩) (n1 + 1) cp4) := ⟨_, rfl⟩
    have H5 : Hid (SealD w #[.int .i64 x.id, .int .i64 x.epoch, .bool x.live, .int .i64 x.granted, .slice a1 n1 c1, .slice a2 n2 c2, .int .i64 x.next] #[.int .i64 s.count, .int .i64 s.sum, .int .i64 s.min, .int .i64 s.max, .slice b1 m1 d1, .slice b2 m2 d2, .slice b3 m3 d3] L #[.int .i64 x.id, .int .i64 x.epoch, .bool x.live, .int .i64 x.granted, .slice (some ⟨g4, 0, none⟩) (n1 + 1) cp4, .slice q2 l2 k2, .int .i64 x.next] (x.plus (x.item c k n s)) F' G w5) := by rw [HI.out.1, hw5]; exact HL3.out.2
    rw [← hw5]
    clear hw5 HL3
    go_wp2_with (first | go_skip | (with_reducible refine stopLoad 27 rfl ?_))
    refine load_known 27 L _ 27 _ H5.out.loc rfl rfl rfl Try.underlying27 rfl infoAgQSpec ?_
    go_wp2_with fail
    refine (agentOkSpec_any _ (x.plus (x.item c k n s)) F' G _ H5.out.rd (fun y hy => (List.mem_append.1 hy).elim (fun h => (HF.out.1 y h).wide) (fun h => by (obtain rfl : y = x.item c k n s := by simpa using h); exact HU.out.2.wide)) (by show (x.sealed ++ [x.item c k n s]).length ≤ _; rw [List.length_append]; have := HF.out.2.1; simp; omega) (by show x.taken.length ≤ _; have := HF.out.2.2; omega)).mono ?_
    rintro e w6 ⟨rfl, hb6⟩
    have H6 : Hid (SealD w #[.int .i64 x.id, .int .i64 x.epoch, .bool x.live, .int .i64 x.granted, .slice a1 n1 c1, .slice a2 n2 c2, .int .i64 x.next] #[.int .i64 s.count, .int .i64 s.sum, .int .i64 s.min, .int .i64 s.max, .slice b1 m1 d1, .slice b2 m2 d2, .slice b3 m3 d3] L #[.int .i64 x.id, .int .i64 x.epoch, .bool x.live, .int .i64 x.granted, .slice (some ⟨g4, 0, none⟩) (n1 + 1) cp4, .slice q2 l2 k2, .int .i64 x.next] (x.plus (x.item c k n s)) F' G w6) := H5.out.below hb6
    obtain ⟨d, hd⟩ : ∃ d, d = (x.plus (x.item c k n s)).ok := ⟨_, rfl⟩
    rw [← hd]
    have HD : Hid (d = (x.item c k n s).ok) := hd.trans (Ag.plus_ok x c k n s HD1.out)
    clear hb6 hd H5
    cases d
    · have HV : Hid (x.seal c k n s = (x, 0)) := by show _ = _; unfold Ag.seal; rw [← HD.out]; simp
      go_wp2_with (first | go_skip | (with_reducible refine stopLoad 27 rfl ?_))
      refine load_known 27 w.heap.size _ 27 _ H6.out.base.box rfl rfl rfl Try.underlying27 rfl infoAgQSpec ?_
      go_wp2_with fail
      refine (l8Copy_grow _ x F0 G0 _ (HX.out.1.below H6.out.base.bel) HF.out.1 HF.out.2.1 HF.out.2.2).mono ?_
      intro e w8 hnew
      obtain ⟨cs8, F8, G8, rfl, r8, o8, p8, ap8, hb8, v8, hv8, gr8⟩ := hnew.apart.room
      have hzz := r8.cells
      obtain ⟨cs9, e9, hz8, ho8⟩ := hzz
      injection e9 with e9
      subst e9
      have H8 : Hid (SealW w #[.int .i64 x.id, .int .i64 x.epoch, .bool x.live, .int .i64 x.granted, .slice a1 n1 c1, .slice a2 n2 c2, .int .i64 x.next] #[.int .i64 s.count, .int .i64 s.sum, .int .i64 s.min, .int .i64 s.max, .slice b1 m1 d1, .slice b2 m2 d2, .slice b3 m3 d3] w8 ∧ RdAg w8 (.agg cs8) x F8 G8 ∧ Own (w.heap.size + 3) w8 F8 ∧ Own (w.heap.size + 3) w8 G8 ∧ (∀ b ∈ F8, b ∉ G8) ∧ GrA (w.heap.size + 3) (w.heap.size + 2) v8 x.sealed.length x.sealed G8 w8) := ⟨H6.out.base.below hb8, r8, o8.mono (by have := H6.out.base.res.lt; omega), p8.mono (by have := H6.out.base.res.lt; omega), ap8, (gr8.mono (by have := H6.out.base.res.lt; omega)).at (.inl (by omega))⟩
      clear r8 o8 p8 ap8 hb8 gr8 hnew
      go_wp2_with (first | go_skip | (with_reducible refine stopStore 27 rfl ?_))
      refine store_known 27 (w.heap.size + 1 + 1) _ cs8 27 H8.out.1.res rfl rfl rfl rfl (by rw [hz8]; exact infoAgQSpec) (by rw [hz8]; rfl) ho8 ?_
      go_wp2
      refine bodyPost_ret (results_row_tmp Try.results22 _ _ (w.heap.size + 1 + 1) _ _ _ _ rfl H8.out.1.res.setRow Try.underlying27 rfl (by rw [hz8]; exact infoAgQSpec)) rfl ?_
      have nr : w.heap.size + 1 + 1 ∉ F8 := fun hx => by have := H8.out.2.2.1.ge _ hx; omega
      have mr : w.heap.size + 1 + 1 ∉ G8 := fun hx => by have := H8.out.2.2.2.1.ge _ hx; omega
      rw [HV.out]
      exact ⟨_, F8, G8, _, rfl, H8.out.2.1.agree (Agree.row nr _) (Agree.row mr _), rfl, (H8.out.2.2.1.agree (Agree.row nr _)).mono (by omega), (H8.out.2.2.2.1.agree (Agree.row mr _)).mono (by omega), H8.out.2.2.2.2.1, below_setRow H8.out.1.bel (by omega) _, v8, hv8, ((H8.out.2.2.2.2.2.row (.inl (by omega))).at (.inr (Nat.le_refl _))).mono (by omega)⟩
    have HV : Hid (x.seal c k n s = (x.plus (x.item c k n s), (n1 : Int) + 1)) := by show _ = _; unfold Ag.seal; rw [if_pos ⟨HD1.out, HD.out.symm⟩, HI.out.2]
    go_wp2_with fail
    have H7 : Hid (SealD w #[.int .i64 x.id, .int .i64 x.epoch, .bool x.live, .int .i64 x.granted, .slice a1 n1 c1, .slice a2 n2 c2, .int .i64 x.next] #[.int .i64 s.count, .int .i64 s.sum, .int .i64 s.min, .int .i64 s.max, .slice b1 m1 d1, .slice b2 m2 d2, .slice b3 m3 d3] L #[.int .i64 x.id, .int .i64 x.epoch, .bool x.live, .int .i64 x.granted, .slice (some ⟨g4, 0, none⟩) (n1 + 1) cp4, .slice q2 l2 k2, .int .i64 x.next] (x.plus (x.item c k n s)) F' G w6.drew) := H6.out.below (Below.refl _ _).drew
    obtain ⟨Z0, hZ0⟩ : ∃ Y, Y = w6.drew := ⟨_, rfl⟩
    rw [← hZ0] at H7
    clear H6 HD
    refine wp_region_held (S := fun W => Blk W L #[.int .i64 x.id, .int .i64 x.epoch, .bool x.live, .int .i64 x.granted, .slice (some ⟨g4, 0, none⟩) (n1 + 1) cp4, .slice q2 l2 k2, .int .i64 x.next] 27) (by kernel_rfl) ?_
    change wpAnyH _ _ _ _ _ _ _ _ (World.drew _)
    rw [← hZ0]
    clear hZ0
    refine takeH (o := ?o27x) 0 (.agg #[.int .i64 x.id, .int .i64 x.epoch, .bool x.live, .int .i64 x.granted, .slice (some ⟨g4, 0, none⟩) (n1 + 1) cp4, .slice q2 l2 k2, .int .i64 x.next]) ?h27x ?r27x
    case h27x => simp only [aT, aZ]; rfl
    refine ⟨_, by simp [Act.put]; rfl, by kernel_rfl, by kernel_rfl, by kernel_rfl, fun _ _ _ h => h, (yields_whole 27 L #[.int .i64 x.id, .int .i64 x.epoch, .bool x.live, .int .i64 x.granted, .slice (some ⟨g4, 0, none⟩) (n1 + 1) cp4, .slice q2 l2 k2, .int .i64 x.next] 27 _ rfl rfl rfl Try.underlying27 rfl infoAgQSpec (fun W hW => hW)), H7.out.loc, ?_⟩
    refine takeH (o := ?o28x) 1 (.pointer (some ⟨L, 4, none⟩)) ?h28x ?r28x
    case h28x => simp only [aT, aS, aZ]; rfl
    refine ⟨_, by simp [Act.put]; rfl, by kernel_rfl, by kernel_rfl, by kernel_rfl, fun _ _ _ h => h, (.inl ⟨rfl, fun W _ => by kernel_rfl⟩), H7.out.loc, ?_⟩
    refine takeH (o := ?o29x) 2 (.slice (some ⟨g4, 0, none⟩) (n1 + 1) cp4) ?h29x ?r29x
    case h29x => simp only [aT, aS, aZ]; rfl
    refine ⟨_, by simp [Act.put]; rfl, by kernel_rfl, by kernel_rfl, by kernel_rfl, fun _ _ _ h => h, (.inl ⟨rfl, fun W hW => by have c := hW.cell 4; simp only [aT, aS, aZ] at c; go_simp⟩), H7.out.loc, ?_⟩
    refine takeH (o := ?o30x) 3 (.int .i64 ((n1 + 1 : Nat) : Int)) ?h30x ?r30x
    case h30x => simp only [aT, aS, aZ]; rfl
    refine ⟨_, by simp [Act.put]; rfl, by kernel_rfl, by kernel_rfl, by kernel_rfl, fun _ _ _ h => h, (.inl ⟨rfl, fun W _ => by go_simp⟩), H7.out.loc, ?_⟩
    refine onlyH (o := ?o31x) 4 (by kernel_rfl) ?h31x ?r31x
    case h31x => simp only [aT, aS, aZ]; rfl
    intro K hK
    have gL := H7.out.gL
    refine op_store 27 (w.heap.size + 1 + 1) #[.int .i64 0, .int .i64 0, .bool false, .int .i64 0, .slice none 0 0, .slice none 0 0, .int .i64 0] #[.int .i64 x.id, .int .i64 x.epoch, .bool x.live, .int .i64 x.granted, .slice (some ⟨g4, 0, none⟩) (n1 + 1) cp4, .slice q2 l2 k2, .int .i64 x.next] 27 rfl rfl rfl rfl H7.out.base.res infoAgQSpec rfl (by simp [Value.oneCell']) ⟨_, by simp [Act.put]; rfl, hK _ _ ⟨H7.out.loc.setRowOther (by omega), ?_⟩⟩
    clear hK
    refine takeH (o := ?o32x) 5 (.int .i64 ((n1 + 1 : Nat) : Int)) ?h32x ?r32x
    case h32x => simp only [aT, aS, aZ]; rfl
    refine ⟨_, by simp [Act.put]; rfl, by kernel_rfl, by kernel_rfl, by kernel_rfl, fun _ _ _ h => h, (.inl ⟨rfl, fun W _ => by kernel_rfl⟩), (H7.out.loc.setRowOther (by omega)), ?_⟩
    refine wpAnyH_done (by kernel_rfl) ?_ _
    go_wp2
    refine bodyPost_ret (results_row_tmp Try.results22 _ _ (w.heap.size + 1 + 1) _ _ _ _ rfl H7.out.base.res.setRow Try.underlying27 rfl infoAgQSpec) rfl ?_
    have nr : w.heap.size + 1 + 1 ∉ F' := fun hx => by have := H7.out.oF.ge _ hx; omega
    have mr : w.heap.size + 1 + 1 ∉ G := fun hx => by have := H7.out.oG.ge _ hx; omega
    rw [HV.out]
    exact ⟨_, F', G, _, rfl, H7.out.rd.agree (Agree.row nr _) (Agree.row mr _), (by show (((n1 + 1 : Nat) : Int)) = (n1 : Int) + 1; omega), (H7.out.oF.agree (Agree.row nr _)).mono (by omega), (H7.out.oG.agree (Agree.row mr _)).mono (by omega), H7.out.ap, below_setRow H7.out.base.bel (by omega) _, (let ⟨v, e, g⟩ := H7.out.rm; ⟨v, e, ((((g.at (.inl (by omega : w.heap.size < w.heap.size + 3))).row (.inl (by omega))).at (.inr (Nat.le_refl _))).mono (by omega))⟩)⟩
  case s10 =>
    intro K hK
    refine op_call1 58 _ _ Try.f58 (fun v w' => ∃ F, RdSk w' v s F ∧ Own Y0.heap.size w' F ∧ Below Y0.heap.size Y0 w') rfl rfl Try.func58 (by kernel_rfl) (by kernel_rfl) ((l3Copy_all (.agg #[.int .i64 s.count, .int .i64 s.sum, .int .i64 s.min, .int .i64 s.max, .slice b1 m1 d1, .slice b2 m2 d2, .slice b3 m3 d3]) s H0 Y0 (HU.out.1.below HLd.out.base.bel) HU.out.2).mono (by rintro e w' ⟨v, F, rfl, k1, k2, k3⟩; exact ⟨_, rfl, F, k1, k2, k3⟩)) ?_
    rintro vr Y4 ⟨Fr, rr, ro, rb⟩
    obtain ⟨u1, v1, y1, u2, v2, y2, u3, v3, y3, rfl⟩ := rr.cells7
    have RR4 : Hid (RdIt Y4 (.agg #[.int .i64 ((n1 : Int) + 1), .int .i64 c, .int .i64 k, .int .i64 n, .int .i64 s.count, .int .i64 s.sum, .int .i64 s.min, .int .i64 s.max, .slice u1 v1 y1, .slice u2 v2 y2, .slice u3 v3 y3]) ⟨(n1 : Int) + 1, c, k, n, s⟩ Fr ∧ Own (L + 1) Y4 Fr) := ⟨⟨u1, v1, y1, u2, v2, y2, u3, v3, y3, rfl, rr⟩, ro.mono HLd.out.loc.lt⟩
    have HL4 : Hid (SealL w #[.int .i64 x.id, .int .i64 x.epoch, .bool x.live, .int .i64 x.granted, .slice a1 n1 c1, .slice a2 n2 c2, .int .i64 x.next] #[.int .i64 s.count, .int .i64 s.sum, .int .i64 s.min, .int .i64 s.max, .slice b1 m1 d1, .slice b2 m2 d2, .slice b3 m3 d3] B L lo n1 x q1 k1 q2 l2 k2 F G GG vs Y4) := HLd.out.below rb
    refine ⟨_, by simp [Act.put]; rfl, hK _ _ ⟨HL4.out.base, ?_⟩⟩
    clear hK rr ro rb
    refine takeH (o := ?o17) 11 (.agg #[.int .i64 ((n1 : Int) + 1), .int .i64 c, .int .i64 k, .int .i64 n, .int .i64 s.count, .int .i64 s.sum, .int .i64 s.min, .int .i64 s.max, .slice u1 v1 y1, .slice u2 v2 y2, .slice u3 v3 y3]) ?h17 ?r17
    case h17 => simp only [aT, aS, aZ]; rfl
    refine ⟨_, by simp [Act.put]; rfl, by kernel_rfl, by kernel_rfl, by kernel_rfl, fun _ _ _ h => h, (.inl ⟨rfl, fun W _ => by kernel_rfl⟩), HL4.out.base, ?_⟩
    refine twoH (o := ?o18) (o' := ?p18) 1 12 (by kernel_rfl) ?h18 ?g18 ?r18 ?s18
    case h18 => simp only [aT, aS, aZ]; rfl
    case g18 => simp only [aT, aS, aZ]; rfl
    case r18 =>
      intro K hK
      have co := HL4.out.loc.cell 4
      simp only [aT, aS, aZ] at co
      refine op_value (.slice q1 n1 k1) rfl (by go_simp) ⟨_, by simp [Act.put]; rfl, hK _ _ ⟨HL4.out.base, ?_⟩⟩
      clear hK co
      refine onlyH (o := ?o19) 12 (by kernel_rfl) ?h19 ?r19
      case h19 => simp only [aT, aS, aZ]; rfl
      intro K hK
      have bl : Below Y4.heap.size Y4 (Y4.alloc (.cells #[.int .i64 ((n1 : Int) + 1), .int .i64 c, .int .i64 k, .int .i64 n, .int .i64 s.count, .int .i64 s.sum, .int .i64 s.min, .int .i64 s.max, .slice u1 v1 y1, .slice u2 v2 y2, .slice u3 v3 y3] 36)) := (Below.refl _ _).alloc (Nat.le_refl _) _
      have HL5 : Hid (SealL w #[.int .i64 x.id, .int .i64 x.epoch, .bool x.live, .int .i64 x.granted, .slice a1 n1 c1, .slice a2 n2 c2, .int .i64 x.next] #[.int .i64 s.count, .int .i64 s.sum, .int .i64 s.min, .int .i64 s.max, .slice b1 m1 d1, .slice b2 m2 d2, .slice b3 m3 d3] B L lo n1 x q1 k1 q2 l2 k2 F G GG vs (Y4.alloc (.cells #[.int .i64 ((n1 : Int) + 1), .int .i64 c, .int .i64 k, .int .i64 n, .int .i64 s.count, .int .i64 s.sum, .int .i64 s.min, .int .i64 s.max, .slice u1 v1 y1, .slice u2 v2 y2, .slice u3 v3 y3] 36))) := HL4.out.below bl
      have RR5 : Hid (RdIt (Y4.alloc (.cells #[.int .i64 ((n1 : Int) + 1), .int .i64 c, .int .i64 k, .int .i64 n, .int .i64 s.count, .int .i64 s.sum, .int .i64 s.min, .int .i64 s.max, .slice u1 v1 y1, .slice u2 v2 y2, .slice u3 v3 y3] 36)) (.agg #[.int .i64 ((n1 : Int) + 1), .int .i64 c, .int .i64 k, .int .i64 n, .int .i64 s.count, .int .i64 s.sum, .int .i64 s.min, .int .i64 s.max, .slice u1 v1 y1, .slice u2 v2 y2, .slice u3 v3 y3]) ⟨(n1 : Int) + 1, c, k, n, s⟩ Fr ∧ Own (L + 1) (Y4.alloc (.cells #[.int .i64 ((n1 : Int) + 1), .int .i64 c, .int .i64 k, .int .i64 n, .int .i64 s.count, .int .i64 s.sum, .int .i64 s.min, .int .i64 s.max, .slice u1 v1 y1, .slice u2 v2 y2, .slice u3 v3 y3] 36)) Fr) := ⟨RR4.out.1.below bl, RR4.out.2.below (RdIt.lt RR4.out.1) bl⟩
      have NW5 : Hid (∀ j u, #[.int .i64 ((n1 : Int) + 1), .int .i64 c, .int .i64 k, .int .i64 n, .int .i64 s.count, .int .i64 s.sum, .int .i64 s.min, .int .i64 s.max, .slice u1 v1 y1, .slice u2 v2 y2, .slice u3 v3 y3].toList[j]? = some u → ((Y4.alloc (.cells #[.int .i64 ((n1 : Int) + 1), .int .i64 c, .int .i64 k, .int .i64 n, .int .i64 s.count, .int .i64 s.sum, .int .i64 s.min, .int .i64 s.max, .slice u1 v1 y1, .slice u2 v2 y2, .slice u3 v3 y3] 36))).cell? ((⟨Y4.heap.size, 0, none⟩ : Addr).add j) = some u) := news_lit _ _ _
      refine op_turn (.slice (some ⟨Y4.heap.size, 0, none⟩) 1 1) (Y4.alloc (.cells #[.int .i64 ((n1 : Int) + 1), .int .i64 c, .int .i64 k, .int .i64 n, .int .i64 s.count, .int .i64 s.sum, .int .i64 s.min, .int .i64 s.max, .slice u1 v1 y1, .slice u2 v2 y2, .slice u3 v3 y3] 36)) rfl (by kernel_rfl) ⟨_, by simp [Act.put]; rfl, hK _ _ ⟨HL5.out.base, ?_⟩⟩
      clear hK bl
      obtain ⟨L5, hL5⟩ : ∃ z, z = Y4.heap.size := ⟨_, rfl⟩
      obtain ⟨Y5, hY5⟩ : ∃ Z, Z = (Y4.alloc (.cells #[.int .i64 ((n1 : Int) + 1), .int .i64 c, .int .i64 k, .int .i64 n, .int .i64 s.count, .int .i64 s.sum, .int .i64 s.min, .int .i64 s.max, .slice u1 v1 y1, .slice u2 v2 y2, .slice u3 v3 y3] 36)) := ⟨_, rfl⟩
      rw [← hY5, ← hL5] at NW5
      rw [← hY5] at HL5 RR5 ⊢
      rw [← hL5]
      clear hY5 hL5
      refine onlyH (o := ?o20) 13 (by kernel_rfl) ?h20 ?r20
      case h20 => simp only [aT, aS, aZ]; rfl
      intro K hK
      refine op_append Y5 rfl _ _ 24 rfl lo 36 j0 (.agg #[.int .i64 0, .int .i64 0, .int .i64 0, .int .i64 0, .int .i64 0, .int .i64 0, .int .i64 0, .int .i64 0, .slice none 0 0, .slice none 0 0, .slice none 0 0]) 11 136 Try.underlying24 hj hy0 hy1 hy2 rfl (by decide) (.slice q1 n1 k1) n1 vs rfl HL5.out.c.gr.row ⟨L5, 0, none⟩ 1 1 #[.int .i64 ((n1 : Int) + 1), .int .i64 c, .int .i64 k, .int .i64 n, .int .i64 s.count, .int .i64 s.sum, .int .i64 s.min, .int .i64 s.max, .slice u1 v1 y1, .slice u2 v2 y2, .slice u3 v3 y3].toList rfl rfl NW5.out (by simp [Value.oneCell']) (by decide) (by unfold maxLen; omega) (by omega) HL5.out.c.gr.lw _ rfl ?_
      intro g4 cp4 Y6 hown hgrow hat _
      obtain ⟨ST1, ST2, F', ST3⟩ := HL5.out.done RR5.out.1 rfl RR5.out.2 hown hgrow hat
      have HL6 : Hid (SealW w #[.int .i64 x.id, .int .i64 x.epoch, .bool x.live, .int .i64 x.granted, .slice a1 n1 c1, .slice a2 n2 c2, .int .i64 x.next] #[.int .i64 s.count, .int .i64 s.sum, .int .i64 s.min, .int .i64 s.max, .slice b1 m1 d1, .slice b2 m2 d2, .slice b3 m3 d3] Y6 ∧ SealD w #[.int .i64 x.id, .int .i64 x.epoch, .bool x.live, .int .i64 x.granted, .slice a1 n1 c1, .slice a2 n2 c2, .int .i64 x.next] #[.int .i64 s.count, .int .i64 s.sum, .int .i64 s.min, .int .i64 s.max, .slice b1 m1 d1, .slice b2 m2 d2, .slice b3 m3 d3] L #[.int .i64 x.id, .int .i64 x.epoch, .bool x.live, .int .i64 x.granted, .slice (some ⟨g4, 0, none⟩) (n1 + 1) cp4, .slice q2 l2 k2, .int .i64 x.next] (x.plus ⟨(n1 : Int) + 1, c, k, n, s⟩) F' G (Y6.setCell ⟨L, 4, none⟩ (.slice (some ⟨g4, 0, none⟩) (n1 + 1) cp4))) := ⟨ST1, ST3⟩
      have co := ST2.cell 4
      have fo := ST2.frozen 4
      simp only [aT, aS, aZ] at co
      refine ⟨_, by simp [Act.put]; rfl, hK _ _ ⟨HL6.out.1, ?_⟩⟩
      clear hK hown hgrow hat ST1 ST2 ST3
      refine takeH (o := ?o21) 14 (.pointer (some ⟨L, 4, none⟩)) ?h21 ?r21
      case h21 => simp only [aT, aS, aZ]; rfl
      refine ⟨_, by simp [Act.put]; rfl, by kernel_rfl, by kernel_rfl, by kernel_rfl, fun _ _ _ h => h, (.inl ⟨rfl, fun W _ => by kernel_rfl⟩), HL6.out.1, ?_⟩
      refine onlyH (o := ?o22) 15 (by kernel_rfl) ?h22 ?r22
      case h22 => simp only [aT, aS, aZ]; rfl
      intro K hK
      refine op_skip (Y6.setCell ⟨L, 4, none⟩ (.slice (some ⟨g4, 0, none⟩) (n1 + 1) cp4)) rfl (by go_simp) ⟨_, by simp [Act.put]; rfl, hK _ _ ⟨HL6.out.2.base, ?_⟩⟩
      clear hK co fo
      refine wpAnyH_done (by kernel_rfl) ?_ _
      obtain ⟨w5, hw5⟩ : ∃ W, W = Y6.setCell ⟨L, 4, none⟩ (.slice (some ⟨g4, 0, none⟩) (n1 + 1) cp4) := ⟨_, rfl⟩
      have H5 : Hid (SealD w #[.int .i64 x.id, .int .i64 x.epoch, .bool x.live, .int .i64 x.granted, .slice a1 n1 c1, .slice a2 n2 c2, .int .i64 x.next] #[.int .i64 s.count, .int .i64 s.sum, .int .i64 s.min, .int .i64 s.max, .slice b1 m1 d1, .slice b2 m2 d2, .slice b3 m3 d3] L #[.int .i64 x.id, .int .i64 x.epoch, .bool x.live, .int .i64 x.granted, .slice (some ⟨g4, 0, none⟩) (n1 + 1) cp4, .slice q2 l2 k2, .int .i64 x.next] (x.plus (x.item c k n s)) F' G w5) := by rw [HI.out.1, hw5]; exact HL6.out.2
      rw [← hw5]
      clear hw5 HL6
      go_wp2_with (first | go_skip | (with_reducible refine stopLoad 27 rfl ?_))
      refine load_known 27 L _ 27 _ H5.out.loc rfl rfl rfl Try.underlying27 rfl infoAgQSpec ?_
      go_wp2_with fail
      refine (agentOkSpec_any _ (x.plus (x.item c k n s)) F' G _ H5.out.rd (fun y hy => (List.mem_append.1 hy).elim (fun h => (HF.out.1 y h).wide) (fun h => by (obtain rfl : y = x.item c k n s := by simpa using h); exact HU.out.2.wide)) (by show (x.sealed ++ [x.item c k n s]).length ≤ _; rw [List.length_append]; have := HF.out.2.1; simp; omega) (by show x.taken.length ≤ _; have := HF.out.2.2; omega)).mono ?_
      rintro e w6 ⟨rfl, hb6⟩
      have H6 : Hid (SealD w #[.int .i64 x.id, .int .i64 x.epoch, .bool x.live, .int .i64 x.granted, .slice a1 n1 c1, .slice a2 n2 c2, .int .i64 x.next] #[.int .i64 s.count, .int .i64 s.sum, .int .i64 s.min, .int .i64 s.max, .slice b1 m1 d1, .slice b2 m2 d2, .slice b3 m3 d3] L #[.int .i64 x.id, .int .i64 x.epoch, .bool x.live, .int .i64 x.granted, .slice (some ⟨g4, 0, none⟩) (n1 + 1) cp4, .slice q2 l2 k2, .int .i64 x.next] (x.plus (x.item c k n s)) F' G w6) := H5.out.below hb6
      obtain ⟨d, hd⟩ : ∃ d, d = (x.plus (x.item c k n s)).ok := ⟨_, rfl⟩
      rw [← hd]
      have HD : Hid (d = (x.item c k n s).ok) := hd.trans (Ag.plus_ok x c k n s HD1.out)
      clear hb6 hd H5
      cases d
      · have HV : Hid (x.seal c k n s = (x, 0)) := by show _ = _; unfold Ag.seal; rw [← HD.out]; simp
        go_wp2_with (first | go_skip | (with_reducible refine stopLoad 27 rfl ?_))
        refine load_known 27 w.heap.size _ 27 _ H6.out.base.box rfl rfl rfl Try.underlying27 rfl infoAgQSpec ?_
        go_wp2_with fail
        refine (l8Copy_grow _ x F0 G0 _ (HX.out.1.below H6.out.base.bel) HF.out.1 HF.out.2.1 HF.out.2.2).mono ?_
        intro e w8 hnew
        obtain ⟨cs8, F8, G8, rfl, r8, o8, p8, ap8, hb8, v8, hv8, gr8⟩ := hnew.apart.room
        have hzz := r8.cells
        obtain ⟨cs9, e9, hz8, ho8⟩ := hzz
        injection e9 with e9
        subst e9
        have H8 : Hid (SealW w #[.int .i64 x.id, .int .i64 x.epoch, .bool x.live, .int .i64 x.granted, .slice a1 n1 c1, .slice a2 n2 c2, .int .i64 x.next] #[.int .i64 s.count, .int .i64 s.sum, .int .i64 s.min, .int .i64 s.max, .slice b1 m1 d1, .slice b2 m2 d2, .slice b3 m3 d3] w8 ∧ RdAg w8 (.agg cs8) x F8 G8 ∧ Own (w.heap.size + 3) w8 F8 ∧ Own (w.heap.size + 3) w8 G8 ∧ (∀ b ∈ F8, b ∉ G8) ∧ GrA (w.heap.size + 3) (w.heap.size + 2) v8 x.sealed.length x.sealed G8 w8) := ⟨H6.out.base.below hb8, r8, o8.mono (by have := H6.out.base.res.lt; omega), p8.mono (by have := H6.out.base.res.lt; omega), ap8, (gr8.mono (by have := H6.out.base.res.lt; omega)).at (.inl (by omega))⟩
        clear r8 o8 p8 ap8 hb8 gr8 hnew
        go_wp2_with (first | go_skip | (with_reducible refine stopStore 27 rfl ?_))
        refine store_known 27 (w.heap.size + 1 + 1) _ cs8 27 H8.out.1.res rfl rfl rfl rfl (by rw [hz8]; exact infoAgQSpec) (by rw [hz8]; rfl) ho8 ?_
        go_wp2
        refine bodyPost_ret (results_row_tmp Try.results22 _ _ (w.heap.size + 1 + 1) _ _ _ _ rfl H8.out.1.res.setRow Try.underlying27 rfl (by rw [hz8]; exact infoAgQSpec)) rfl ?_
        have nr : w.heap.size + 1 + 1 ∉ F8 := fun hx => by have := H8.out.2.2.1.ge _ hx; omega
        have mr : w.heap.size + 1 + 1 ∉ G8 := fun hx => by have := H8.out.2.2.2.1.ge _ hx; omega
        rw [HV.out]
        exact ⟨_, F8, G8, _, rfl, H8.out.2.1.agree (Agree.row nr _) (Agree.row mr _), rfl, (H8.out.2.2.1.agree (Agree.row nr _)).mono (by omega), (H8.out.2.2.2.1.agree (Agree.row mr _)).mono (by omega), H8.out.2.2.2.2.1, below_setRow H8.out.1.bel (by omega) _, v8, hv8, ((H8.out.2.2.2.2.2.row (.inl (by omega))).at (.inr (Nat.le_refl _))).mono (by omega)⟩
      have HV : Hid (x.seal c k n s = (x.plus (x.item c k n s), (n1 : Int) + 1)) := by show _ = _; unfold Ag.seal; rw [if_pos ⟨HD1.out, HD.out.symm⟩, HI.out.2]
      go_wp2_with fail
      have H7 : Hid (SealD w #[.int .i64 x.id, .int .i64 x.epoch, .bool x.live, .int .i64 x.granted, .slice a1 n1 c1, .slice a2 n2 c2, .int .i64 x.next] #[.int .i64 s.count, .int .i64 s.sum, .int .i64 s.min, .int .i64 s.max, .slice b1 m1 d1, .slice b2 m2 d2, .slice b3 m3 d3] L #[.int .i64 x.id, .int .i64 x.epoch, .bool x.live, .int .i64 x.granted, .slice (some ⟨g4, 0, none⟩) (n1 + 1) cp4, .slice q2 l2 k2, .int .i64 x.next] (x.plus (x.item c k n s)) F' G w6.drew) := H6.out.below (Below.refl _ _).drew
      obtain ⟨Z0, hZ0⟩ : ∃ Y, Y = w6.drew := ⟨_, rfl⟩
      rw [← hZ0] at H7
      clear H6 HD
      refine wp_region_held (S := fun W => Blk W L #[.int .i64 x.id, .int .i64 x.epoch, .bool x.live, .int .i64 x.granted, .slice (some ⟨g4, 0, none⟩) (n1 + 1) cp4, .slice q2 l2 k2, .int .i64 x.next] 27) (by kernel_rfl) ?_
      change wpAnyH _ _ _ _ _ _ _ _ (World.drew _)
      rw [← hZ0]
      clear hZ0
      refine takeH (o := ?o27xx) 0 (.agg #[.int .i64 x.id, .int .i64 x.epoch, .bool x.live, .int .i64 x.granted, .slice (some ⟨g4, 0, none⟩) (n1 + 1) cp4, .slice q2 l2 k2, .int .i64 x.next]) ?h27xx ?r27xx
      case h27xx => simp only [aT, aZ]; rfl
      refine ⟨_, by simp [Act.put]; rfl, by kernel_rfl, by kernel_rfl, by kernel_rfl, fun _ _ _ h => h, (yields_whole 27 L #[.int .i64 x.id, .int .i64 x.epoch, .bool x.live, .int .i64 x.granted, .slice (some ⟨g4, 0, none⟩) (n1 + 1) cp4, .slice q2 l2 k2, .int .i64 x.next] 27 _ rfl rfl rfl Try.underlying27 rfl infoAgQSpec (fun W hW => hW)), H7.out.loc, ?_⟩
      refine takeH (o := ?o28xx) 1 (.pointer (some ⟨L, 4, none⟩)) ?h28xx ?r28xx
      case h28xx => simp only [aT, aS, aZ]; rfl
      refine ⟨_, by simp [Act.put]; rfl, by kernel_rfl, by kernel_rfl, by kernel_rfl, fun _ _ _ h => h, (.inl ⟨rfl, fun W _ => by kernel_rfl⟩), H7.out.loc, ?_⟩
      refine takeH (o := ?o29xx) 2 (.slice (some ⟨g4, 0, none⟩) (n1 + 1) cp4) ?h29xx ?r29xx
      case h29xx => simp only [aT, aS, aZ]; rfl
      refine ⟨_, by simp [Act.put]; rfl, by kernel_rfl, by kernel_rfl, by kernel_rfl, fun _ _ _ h => h, (.inl ⟨rfl, fun W hW => by have c := hW.cell 4; simp only [aT, aS, aZ] at c; go_simp⟩), H7.out.loc, ?_⟩
      refine takeH (o := ?o30xx) 3 (.int .i64 ((n1 + 1 : Nat) : Int)) ?h30xx ?r30xx
      case h30xx => simp only [aT, aS, aZ]; rfl
      refine ⟨_, by simp [Act.put]; rfl, by kernel_rfl, by kernel_rfl, by kernel_rfl, fun _ _ _ h => h, (.inl ⟨rfl, fun W _ => by go_simp⟩), H7.out.loc, ?_⟩
      refine onlyH (o := ?o31xx) 4 (by kernel_rfl) ?h31xx ?r31xx
      case h31xx => simp only [aT, aS, aZ]; rfl
      intro K hK
      have gL := H7.out.gL
      refine op_store 27 (w.heap.size + 1 + 1) #[.int .i64 0, .int .i64 0, .bool false, .int .i64 0, .slice none 0 0, .slice none 0 0, .int .i64 0] #[.int .i64 x.id, .int .i64 x.epoch, .bool x.live, .int .i64 x.granted, .slice (some ⟨g4, 0, none⟩) (n1 + 1) cp4, .slice q2 l2 k2, .int .i64 x.next] 27 rfl rfl rfl rfl H7.out.base.res infoAgQSpec rfl (by simp [Value.oneCell']) ⟨_, by simp [Act.put]; rfl, hK _ _ ⟨H7.out.loc.setRowOther (by omega), ?_⟩⟩
      clear hK
      refine takeH (o := ?o32xx) 5 (.int .i64 ((n1 + 1 : Nat) : Int)) ?h32xx ?r32xx
      case h32xx => simp only [aT, aS, aZ]; rfl
      refine ⟨_, by simp [Act.put]; rfl, by kernel_rfl, by kernel_rfl, by kernel_rfl, fun _ _ _ h => h, (.inl ⟨rfl, fun W _ => by kernel_rfl⟩), (H7.out.loc.setRowOther (by omega)), ?_⟩
      refine wpAnyH_done (by kernel_rfl) ?_ _
      go_wp2
      refine bodyPost_ret (results_row_tmp Try.results22 _ _ (w.heap.size + 1 + 1) _ _ _ _ rfl H7.out.base.res.setRow Try.underlying27 rfl infoAgQSpec) rfl ?_
      have nr : w.heap.size + 1 + 1 ∉ F' := fun hx => by have := H7.out.oF.ge _ hx; omega
      have mr : w.heap.size + 1 + 1 ∉ G := fun hx => by have := H7.out.oG.ge _ hx; omega
      rw [HV.out]
      exact ⟨_, F', G, _, rfl, H7.out.rd.agree (Agree.row nr _) (Agree.row mr _), (by show (((n1 + 1 : Nat) : Int)) = (n1 : Int) + 1; omega), (H7.out.oF.agree (Agree.row nr _)).mono (by omega), (H7.out.oG.agree (Agree.row mr _)).mono (by omega), H7.out.ap, below_setRow H7.out.base.bel (by omega) _, (let ⟨v, e, g⟩ := H7.out.rm; ⟨v, e, ((((g.at (.inl (by omega : w.heap.size < w.heap.size + 3))).row (.inl (by omega))).at (.inr (Nat.le_refl _))).mono (by omega))⟩)⟩
    case s18 =>
      intro K hK
      have bl : Below Y4.heap.size Y4 (Y4.alloc (.cells #[.int .i64 ((n1 : Int) + 1), .int .i64 c, .int .i64 k, .int .i64 n, .int .i64 s.count, .int .i64 s.sum, .int .i64 s.min, .int .i64 s.max, .slice u1 v1 y1, .slice u2 v2 y2, .slice u3 v3 y3] 36)) := (Below.refl _ _).alloc (Nat.le_refl _) _
      have HL7 : Hid (SealL w #[.int .i64 x.id, .int .i64 x.epoch, .bool x.live, .int .i64 x.granted, .slice a1 n1 c1, .slice a2 n2 c2, .int .i64 x.next] #[.int .i64 s.count, .int .i64 s.sum, .int .i64 s.min, .int .i64 s.max, .slice b1 m1 d1, .slice b2 m2 d2, .slice b3 m3 d3] B L lo n1 x q1 k1 q2 l2 k2 F G GG vs (Y4.alloc (.cells #[.int .i64 ((n1 : Int) + 1), .int .i64 c, .int .i64 k, .int .i64 n, .int .i64 s.count, .int .i64 s.sum, .int .i64 s.min, .int .i64 s.max, .slice u1 v1 y1, .slice u2 v2 y2, .slice u3 v3 y3] 36))) := HL4.out.below bl
      have RR7 : Hid (RdIt (Y4.alloc (.cells #[.int .i64 ((n1 : Int) + 1), .int .i64 c, .int .i64 k, .int .i64 n, .int .i64 s.count, .int .i64 s.sum, .int .i64 s.min, .int .i64 s.max, .slice u1 v1 y1, .slice u2 v2 y2, .slice u3 v3 y3] 36)) (.agg #[.int .i64 ((n1 : Int) + 1), .int .i64 c, .int .i64 k, .int .i64 n, .int .i64 s.count, .int .i64 s.sum, .int .i64 s.min, .int .i64 s.max, .slice u1 v1 y1, .slice u2 v2 y2, .slice u3 v3 y3]) ⟨(n1 : Int) + 1, c, k, n, s⟩ Fr ∧ Own (L + 1) (Y4.alloc (.cells #[.int .i64 ((n1 : Int) + 1), .int .i64 c, .int .i64 k, .int .i64 n, .int .i64 s.count, .int .i64 s.sum, .int .i64 s.min, .int .i64 s.max, .slice u1 v1 y1, .slice u2 v2 y2, .slice u3 v3 y3] 36)) Fr) := ⟨RR4.out.1.below bl, RR4.out.2.below (RdIt.lt RR4.out.1) bl⟩
      have NW7 : Hid (∀ j u, #[.int .i64 ((n1 : Int) + 1), .int .i64 c, .int .i64 k, .int .i64 n, .int .i64 s.count, .int .i64 s.sum, .int .i64 s.min, .int .i64 s.max, .slice u1 v1 y1, .slice u2 v2 y2, .slice u3 v3 y3].toList[j]? = some u → ((Y4.alloc (.cells #[.int .i64 ((n1 : Int) + 1), .int .i64 c, .int .i64 k, .int .i64 n, .int .i64 s.count, .int .i64 s.sum, .int .i64 s.min, .int .i64 s.max, .slice u1 v1 y1, .slice u2 v2 y2, .slice u3 v3 y3] 36))).cell? ((⟨Y4.heap.size, 0, none⟩ : Addr).add j) = some u) := news_lit _ _ _
      refine op_turn (.slice (some ⟨Y4.heap.size, 0, none⟩) 1 1) (Y4.alloc (.cells #[.int .i64 ((n1 : Int) + 1), .int .i64 c, .int .i64 k, .int .i64 n, .int .i64 s.count, .int .i64 s.sum, .int .i64 s.min, .int .i64 s.max, .slice u1 v1 y1, .slice u2 v2 y2, .slice u3 v3 y3] 36)) rfl (by kernel_rfl) ⟨_, by simp [Act.put]; rfl, hK _ _ ⟨HL7.out.base, ?_⟩⟩
      clear hK bl
      obtain ⟨L7, hL7⟩ : ∃ z, z = Y4.heap.size := ⟨_, rfl⟩
      obtain ⟨Y7, hY7⟩ : ∃ Z, Z = (Y4.alloc (.cells #[.int .i64 ((n1 : Int) + 1), .int .i64 c, .int .i64 k, .int .i64 n, .int .i64 s.count, .int .i64 s.sum, .int .i64 s.min, .int .i64 s.max, .slice u1 v1 y1, .slice u2 v2 y2, .slice u3 v3 y3] 36)) := ⟨_, rfl⟩
      rw [← hY7, ← hL7] at NW7
      rw [← hY7] at HL7 RR7 ⊢
      rw [← hL7]
      clear hY7 hL7
      refine onlyH (o := ?o23) 1 (by kernel_rfl) ?h23 ?r23
      case h23 => simp only [aT, aS, aZ]; rfl
      intro K hK
      have co := HL7.out.loc.cell 4
      simp only [aT, aS, aZ] at co
      refine op_value (.slice q1 n1 k1) rfl (by go_simp) ⟨_, by simp [Act.put]; rfl, hK _ _ ⟨HL7.out.base, ?_⟩⟩
      clear hK co
      refine onlyH (o := ?o24) 13 (by kernel_rfl) ?h24 ?r24
      case h24 => simp only [aT, aS, aZ]; rfl
      intro K hK
      refine op_append Y7 rfl _ _ 24 rfl lo 36 j0 (.agg #[.int .i64 0, .int .i64 0, .int .i64 0, .int .i64 0, .int .i64 0, .int .i64 0, .int .i64 0, .int .i64 0, .slice none 0 0, .slice none 0 0, .slice none 0 0]) 11 136 Try.underlying24 hj hy0 hy1 hy2 rfl (by decide) (.slice q1 n1 k1) n1 vs rfl HL7.out.c.gr.row ⟨L7, 0, none⟩ 1 1 #[.int .i64 ((n1 : Int) + 1), .int .i64 c, .int .i64 k, .int .i64 n, .int .i64 s.count, .int .i64 s.sum, .int .i64 s.min, .int .i64 s.max, .slice u1 v1 y1, .slice u2 v2 y2, .slice u3 v3 y3].toList rfl rfl NW7.out (by simp [Value.oneCell']) (by decide) (by unfold maxLen; omega) (by omega) HL7.out.c.gr.lw _ rfl ?_
      intro g4 cp4 Y8 hown hgrow hat _
      obtain ⟨ST1, ST2, F', ST3⟩ := HL7.out.done RR7.out.1 rfl RR7.out.2 hown hgrow hat
      have HL8 : Hid (SealW w #[.int .i64 x.id, .int .i64 x.epoch, .bool x.live, .int .i64 x.granted, .slice a1 n1 c1, .slice a2 n2 c2, .int .i64 x.next] #[.int .i64 s.count, .int .i64 s.sum, .int .i64 s.min, .int .i64 s.max, .slice b1 m1 d1, .slice b2 m2 d2, .slice b3 m3 d3] Y8 ∧ SealD w #[.int .i64 x.id, .int .i64 x.epoch, .bool x.live, .int .i64 x.granted, .slice a1 n1 c1, .slice a2 n2 c2, .int .i64 x.next] #[.int .i64 s.count, .int .i64 s.sum, .int .i64 s.min, .int .i64 s.max, .slice b1 m1 d1, .slice b2 m2 d2, .slice b3 m3 d3] L #[.int .i64 x.id, .int .i64 x.epoch, .bool x.live, .int .i64 x.granted, .slice (some ⟨g4, 0, none⟩) (n1 + 1) cp4, .slice q2 l2 k2, .int .i64 x.next] (x.plus ⟨(n1 : Int) + 1, c, k, n, s⟩) F' G (Y8.setCell ⟨L, 4, none⟩ (.slice (some ⟨g4, 0, none⟩) (n1 + 1) cp4))) := ⟨ST1, ST3⟩
      have co := ST2.cell 4
      have fo := ST2.frozen 4
      simp only [aT, aS, aZ] at co
      refine ⟨_, by simp [Act.put]; rfl, hK _ _ ⟨HL8.out.1, ?_⟩⟩
      clear hK hown hgrow hat ST1 ST2 ST3
      refine takeH (o := ?o25) 14 (.pointer (some ⟨L, 4, none⟩)) ?h25 ?r25
      case h25 => simp only [aT, aS, aZ]; rfl
      refine ⟨_, by simp [Act.put]; rfl, by kernel_rfl, by kernel_rfl, by kernel_rfl, fun _ _ _ h => h, (.inl ⟨rfl, fun W _ => by kernel_rfl⟩), HL8.out.1, ?_⟩
      refine onlyH (o := ?o26) 15 (by kernel_rfl) ?h26 ?r26
      case h26 => simp only [aT, aS, aZ]; rfl
      intro K hK
      refine op_skip (Y8.setCell ⟨L, 4, none⟩ (.slice (some ⟨g4, 0, none⟩) (n1 + 1) cp4)) rfl (by go_simp) ⟨_, by simp [Act.put]; rfl, hK _ _ ⟨HL8.out.2.base, ?_⟩⟩
      clear hK co fo
      refine wpAnyH_done (by kernel_rfl) ?_ _
      obtain ⟨w5, hw5⟩ : ∃ W, W = Y8.setCell ⟨L, 4, none⟩ (.slice (some ⟨g4, 0, none⟩) (n1 + 1) cp4) := ⟨_, rfl⟩
      have H5 : Hid (SealD w #[.int .i64 x.id, .int .i64 x.epoch, .bool x.live, .int .i64 x.granted, .slice a1 n1 c1, .slice a2 n2 c2, .int .i64 x.next] #[.int .i64 s.count, .int .i64 s.sum, .int .i64 s.min, .int .i64 s.max, .slice b1 m1 d1, .slice b2 m2 d2, .slice b3 m3 d3] L #[.int .i64 x.id, .int .i64 x.epoch, .bool x.live, .int .i64 x.granted, .slice (some ⟨g4, 0, none⟩) (n1 + 1) cp4, .slice q2 l2 k2, .int .i64 x.next] (x.plus (x.item c k n s)) F' G w5) := by rw [HI.out.1, hw5]; exact HL8.out.2
      rw [← hw5]
      clear hw5 HL8
      go_wp2_with (first | go_skip | (with_reducible refine stopLoad 27 rfl ?_))
      refine load_known 27 L _ 27 _ H5.out.loc rfl rfl rfl Try.underlying27 rfl infoAgQSpec ?_
      go_wp2_with fail
      refine (agentOkSpec_any _ (x.plus (x.item c k n s)) F' G _ H5.out.rd (fun y hy => (List.mem_append.1 hy).elim (fun h => (HF.out.1 y h).wide) (fun h => by (obtain rfl : y = x.item c k n s := by simpa using h); exact HU.out.2.wide)) (by show (x.sealed ++ [x.item c k n s]).length ≤ _; rw [List.length_append]; have := HF.out.2.1; simp; omega) (by show x.taken.length ≤ _; have := HF.out.2.2; omega)).mono ?_
      rintro e w6 ⟨rfl, hb6⟩
      have H6 : Hid (SealD w #[.int .i64 x.id, .int .i64 x.epoch, .bool x.live, .int .i64 x.granted, .slice a1 n1 c1, .slice a2 n2 c2, .int .i64 x.next] #[.int .i64 s.count, .int .i64 s.sum, .int .i64 s.min, .int .i64 s.max, .slice b1 m1 d1, .slice b2 m2 d2, .slice b3 m3 d3] L #[.int .i64 x.id, .int .i64 x.epoch, .bool x.live, .int .i64 x.granted, .slice (some ⟨g4, 0, none⟩) (n1 + 1) cp4, .slice q2 l2 k2, .int .i64 x.next] (x.plus (x.item c k n s)) F' G w6) := H5.out.below hb6
      obtain ⟨d, hd⟩ : ∃ d, d = (x.plus (x.item c k n s)).ok := ⟨_, rfl⟩
      rw [← hd]
      have HD : Hid (d = (x.item c k n s).ok) := hd.trans (Ag.plus_ok x c k n s HD1.out)
      clear hb6 hd H5
      cases d
      · have HV : Hid (x.seal c k n s = (x, 0)) := by show _ = _; unfold Ag.seal; rw [← HD.out]; simp
        go_wp2_with (first | go_skip | (with_reducible refine stopLoad 27 rfl ?_))
        refine load_known 27 w.heap.size _ 27 _ H6.out.base.box rfl rfl rfl Try.underlying27 rfl infoAgQSpec ?_
        go_wp2_with fail
        refine (l8Copy_grow _ x F0 G0 _ (HX.out.1.below H6.out.base.bel) HF.out.1 HF.out.2.1 HF.out.2.2).mono ?_
        intro e w8 hnew
        obtain ⟨cs8, F8, G8, rfl, r8, o8, p8, ap8, hb8, v8, hv8, gr8⟩ := hnew.apart.room
        have hzz := r8.cells
        obtain ⟨cs9, e9, hz8, ho8⟩ := hzz
        injection e9 with e9
        subst e9
        have H8 : Hid (SealW w #[.int .i64 x.id, .int .i64 x.epoch, .bool x.live, .int .i64 x.granted, .slice a1 n1 c1, .slice a2 n2 c2, .int .i64 x.next] #[.int .i64 s.count, .int .i64 s.sum, .int .i64 s.min, .int .i64 s.max, .slice b1 m1 d1, .slice b2 m2 d2, .slice b3 m3 d3] w8 ∧ RdAg w8 (.agg cs8) x F8 G8 ∧ Own (w.heap.size + 3) w8 F8 ∧ Own (w.heap.size + 3) w8 G8 ∧ (∀ b ∈ F8, b ∉ G8) ∧ GrA (w.heap.size + 3) (w.heap.size + 2) v8 x.sealed.length x.sealed G8 w8) := ⟨H6.out.base.below hb8, r8, o8.mono (by have := H6.out.base.res.lt; omega), p8.mono (by have := H6.out.base.res.lt; omega), ap8, (gr8.mono (by have := H6.out.base.res.lt; omega)).at (.inl (by omega))⟩
        clear r8 o8 p8 ap8 hb8 gr8 hnew
        go_wp2_with (first | go_skip | (with_reducible refine stopStore 27 rfl ?_))
        refine store_known 27 (w.heap.size + 1 + 1) _ cs8 27 H8.out.1.res rfl rfl rfl rfl (by rw [hz8]; exact infoAgQSpec) (by rw [hz8]; rfl) ho8 ?_
        go_wp2
        refine bodyPost_ret (results_row_tmp Try.results22 _ _ (w.heap.size + 1 + 1) _ _ _ _ rfl H8.out.1.res.setRow Try.underlying27 rfl (by rw [hz8]; exact infoAgQSpec)) rfl ?_
        have nr : w.heap.size + 1 + 1 ∉ F8 := fun hx => by have := H8.out.2.2.1.ge _ hx; omega
        have mr : w.heap.size + 1 + 1 ∉ G8 := fun hx => by have := H8.out.2.2.2.1.ge _ hx; omega
        rw [HV.out]
        exact ⟨_, F8, G8, _, rfl, H8.out.2.1.agree (Agree.row nr _) (Agree.row mr _), rfl, (H8.out.2.2.1.agree (Agree.row nr _)).mono (by omega), (H8.out.2.2.2.1.agree (Agree.row mr _)).mono (by omega), H8.out.2.2.2.2.1, below_setRow H8.out.1.bel (by omega) _, v8, hv8, ((H8.out.2.2.2.2.2.row (.inl (by omega))).at (.inr (Nat.le_refl _))).mono (by omega)⟩
      have HV : Hid (x.seal c k n s = (x.plus (x.item c k n s), (n1 : Int) + 1)) := by show _ = _; unfold Ag.seal; rw [if_pos ⟨HD1.out, HD.out.symm⟩, HI.out.2]
      go_wp2_with fail
      have H7 : Hid (SealD w #[.int .i64 x.id, .int .i64 x.epoch, .bool x.live, .int .i64 x.granted, .slice a1 n1 c1, .slice a2 n2 c2, .int .i64 x.next] #[.int .i64 s.count, .int .i64 s.sum, .int .i64 s.min, .int .i64 s.max, .slice b1 m1 d1, .slice b2 m2 d2, .slice b3 m3 d3] L #[.int .i64 x.id, .int .i64 x.epoch, .bool x.live, .int .i64 x.granted, .slice (some ⟨g4, 0, none⟩) (n1 + 1) cp4, .slice q2 l2 k2, .int .i64 x.next] (x.plus (x.item c k n s)) F' G w6.drew) := H6.out.below (Below.refl _ _).drew
      obtain ⟨Z0, hZ0⟩ : ∃ Y, Y = w6.drew := ⟨_, rfl⟩
      rw [← hZ0] at H7
      clear H6 HD
      refine wp_region_held (S := fun W => Blk W L #[.int .i64 x.id, .int .i64 x.epoch, .bool x.live, .int .i64 x.granted, .slice (some ⟨g4, 0, none⟩) (n1 + 1) cp4, .slice q2 l2 k2, .int .i64 x.next] 27) (by kernel_rfl) ?_
      change wpAnyH _ _ _ _ _ _ _ _ (World.drew _)
      rw [← hZ0]
      clear hZ0
      refine takeH (o := ?o27xxx) 0 (.agg #[.int .i64 x.id, .int .i64 x.epoch, .bool x.live, .int .i64 x.granted, .slice (some ⟨g4, 0, none⟩) (n1 + 1) cp4, .slice q2 l2 k2, .int .i64 x.next]) ?h27xxx ?r27xxx
      case h27xxx => simp only [aT, aZ]; rfl
      refine ⟨_, by simp [Act.put]; rfl, by kernel_rfl, by kernel_rfl, by kernel_rfl, fun _ _ _ h => h, (yields_whole 27 L #[.int .i64 x.id, .int .i64 x.epoch, .bool x.live, .int .i64 x.granted, .slice (some ⟨g4, 0, none⟩) (n1 + 1) cp4, .slice q2 l2 k2, .int .i64 x.next] 27 _ rfl rfl rfl Try.underlying27 rfl infoAgQSpec (fun W hW => hW)), H7.out.loc, ?_⟩
      refine takeH (o := ?o28xxx) 1 (.pointer (some ⟨L, 4, none⟩)) ?h28xxx ?r28xxx
      case h28xxx => simp only [aT, aS, aZ]; rfl
      refine ⟨_, by simp [Act.put]; rfl, by kernel_rfl, by kernel_rfl, by kernel_rfl, fun _ _ _ h => h, (.inl ⟨rfl, fun W _ => by kernel_rfl⟩), H7.out.loc, ?_⟩
      refine takeH (o := ?o29xxx) 2 (.slice (some ⟨g4, 0, none⟩) (n1 + 1) cp4) ?h29xxx ?r29xxx
      case h29xxx => simp only [aT, aS, aZ]; rfl
      refine ⟨_, by simp [Act.put]; rfl, by kernel_rfl, by kernel_rfl, by kernel_rfl, fun _ _ _ h => h, (.inl ⟨rfl, fun W hW => by have c := hW.cell 4; simp only [aT, aS, aZ] at c; go_simp⟩), H7.out.loc, ?_⟩
      refine takeH (o := ?o30xxx) 3 (.int .i64 ((n1 + 1 : Nat) : Int)) ?h30xxx ?r30xxx
      case h30xxx => simp only [aT, aS, aZ]; rfl
      refine ⟨_, by simp [Act.put]; rfl, by kernel_rfl, by kernel_rfl, by kernel_rfl, fun _ _ _ h => h, (.inl ⟨rfl, fun W _ => by go_simp⟩), H7.out.loc, ?_⟩
      refine onlyH (o := ?o31xxx) 4 (by kernel_rfl) ?h31xxx ?r31xxx
      case h31xxx => simp only [aT, aS, aZ]; rfl
      intro K hK
      have gL := H7.out.gL
      refine op_store 27 (w.heap.size + 1 + 1) #[.int .i64 0, .int .i64 0, .bool false, .int .i64 0, .slice none 0 0, .slice none 0 0, .int .i64 0] #[.int .i64 x.id, .int .i64 x.epoch, .bool x.live, .int .i64 x.granted, .slice (some ⟨g4, 0, none⟩) (n1 + 1) cp4, .slice q2 l2 k2, .int .i64 x.next] 27 rfl rfl rfl rfl H7.out.base.res infoAgQSpec rfl (by simp [Value.oneCell']) ⟨_, by simp [Act.put]; rfl, hK _ _ ⟨H7.out.loc.setRowOther (by omega), ?_⟩⟩
      clear hK
      refine takeH (o := ?o32xxx) 5 (.int .i64 ((n1 + 1 : Nat) : Int)) ?h32xxx ?r32xxx
      case h32xxx => simp only [aT, aS, aZ]; rfl
      refine ⟨_, by simp [Act.put]; rfl, by kernel_rfl, by kernel_rfl, by kernel_rfl, fun _ _ _ h => h, (.inl ⟨rfl, fun W _ => by kernel_rfl⟩), (H7.out.loc.setRowOther (by omega)), ?_⟩
      refine wpAnyH_done (by kernel_rfl) ?_ _
      go_wp2
      refine bodyPost_ret (results_row_tmp Try.results22 _ _ (w.heap.size + 1 + 1) _ _ _ _ rfl H7.out.base.res.setRow Try.underlying27 rfl infoAgQSpec) rfl ?_
      have nr : w.heap.size + 1 + 1 ∉ F' := fun hx => by have := H7.out.oF.ge _ hx; omega
      have mr : w.heap.size + 1 + 1 ∉ G := fun hx => by have := H7.out.oG.ge _ hx; omega
      rw [HV.out]
      exact ⟨_, F', G, _, rfl, H7.out.rd.agree (Agree.row nr _) (Agree.row mr _), (by show (((n1 + 1 : Nat) : Int)) = (n1 : Int) + 1; omega), (H7.out.oF.agree (Agree.row nr _)).mono (by omega), (H7.out.oG.agree (Agree.row mr _)).mono (by omega), H7.out.ap, below_setRow H7.out.base.bel (by omega) _, (let ⟨v, e, g⟩ := H7.out.rm; ⟨v, e, ((((g.at (.inl (by omega : w.heap.size < w.heap.size + 3))).row (.inl (by omega))).at (.inr (Nat.le_refl _))).mono (by omega))⟩)⟩
end Go.Proofs.Ytgkbhhlkaifnoaa
/- The walks through the model's drawing of agents. No statement of the seat is proved here. -/
namespace Go.Proofs.Ytgkbhhlkaifnoaa
open Go.RowKit
theorem full_fitsG {s : Sk} (h : s.full) : s.fits := ⟨h.hist.2, h.regs.2, h.rows, fun z hz => (h.row z hz).2⟩
/-- A drawn agent is small. -/
structure Ag.small (x : Ag) (m k : Nat) : Prop where
  full : ∀ y ∈ x.sealed, y.sk.full
  inb : ∀ p ∈ x.taken, InB p
  len : x.sealed.length ≤ m
  tlen : x.taken.length ≤ k
theorem made_small (n : Int) : (Ag.made n).small 0 0 := by
  have q : ∀ k, (Ag.fresh k).small 0 0 := fun k => ⟨(fun y hy => nomatch (show y ∈ ([] : List It) from hy)), (fun y hy => nomatch (show y ∈ ([] : Sp) from hy)), Nat.le_refl _, Nat.le_refl _⟩
  unfold Ag.made
  by_cases h : (Ag.fresh n).ok = true
  · rw [if_pos h]; exact q n
  · rw [if_neg h]; exact q 0
theorem Ag.small.seal {x : Ag} {m k : Nat} (h : x.small m k) (c e n : Int) {s : Sk} (hs : s.full) : (x.seal c e n s).1.small (m + 1) k := by
  unfold Ag.seal
  by_cases hc : x.ok = true ∧ (x.item c e n s).ok = true
  · rw [if_pos hc]
    exact ⟨fun y hy => (List.mem_append.1 (show y ∈ x.sealed ++ [x.item c e n s] from hy)).elim (h.full y) (fun hy => by rw [List.mem_singleton.1 hy]; exact hs), h.inb, by have := h.len; show (x.sealed ++ [x.item c e n s]).length ≤ _; simp; omega, h.tlen⟩
  · rw [if_neg hc]
    exact ⟨h.full, h.inb, by have := h.len; show x.sealed.length ≤ _; omega, h.tlen⟩
theorem RdAg.opened {w : World} {v : Value} {id ep gr nx : Int} {lv : Bool} {xs : List It} {ts : Sp} {F G : List Nat} (h : RdAg w v ⟨id, ep, lv, gr, xs, ts, nx⟩ F G) :
    ∃ b1 n1 c1 b2 n2 c2, v = .agg #[.int .i64 id, .int .i64 ep, .bool lv, .int .i64 gr, .slice b1 n1 c1, .slice b2 n2 c2, .int .i64 nx] ∧ RdL itK w b1 n1 xs F ∧ RdP w b2 n2 ts G ∧ Capd b1 n1 c1 ∧ Capd b2 n2 c2 := h
/-- An agent that is being drawn: the result's place, the cursor, the agent's cells in block L and what they hold. -/
structure LocG (w : World) (q : Nat) (a : Option Addr) (len cap : Nat) (zs : List Int) (i h : Int) (L : Nat) (id ep : Int) (lv : Bool) (gr nx : Int) (xs : List It) (ts : Sp) (b1 : Option Addr) (n1 c1 : Nat) (b2 : Option Addr) (n2 c2 : Nat) (F G : List Nat) (W : World) : Prop where
  held : HeldR w q a len cap zs i h #[.int .i64 0, .int .i64 0, .bool false, .int .i64 0, .slice none 0 0, .slice none 0 0, .int .i64 0] 27 W
  loc : Blk W L #[.int .i64 id, .int .i64 ep, .bool lv, .int .i64 gr, .slice b1 n1 c1, .slice b2 n2 c2, .int .i64 nx] 27
  rl : RdL itK W b1 n1 xs F
  rp : RdP W b2 n2 ts G
  k1 : Capd b1 n1 c1
  k2 : Capd b2 n2 c2
  o1 : Own (w.heap.size + 1) W F
  o2 : Own (w.heap.size + 1) W G
  dj : ∀ b ∈ F, b ∉ G
  a1 : L ∉ F
  a2 : L ∉ G
  gt : w.heap.size < L
  gr : GrA (w.heap.size + 1) L (.slice b1 n1 c1) n1 xs G W
def DrewAg (w : World) (q : Nat) (a : Option Addr) (len cap : Nat) (zs : List Int) (m k : Nat) (e : Ending) (w' : World) : Prop :=
  ∃ v x F G i' h', e = .returned v ∧ RdAg w' v x F G ∧ x.small m k ∧ Own w.heap.size w' F ∧ Own w.heap.size w' G ∧ (∀ b ∈ F, b ∉ G) ∧ Cur w' q a len cap zs i' h' ∧ w.grownBy w' (some q) ∧ ∃ cs z, v = .agg cs ∧ cs[4]? = some z ∧ GrA w.heap.size w'.heap.size z x.sealed.length x.sealed G w'
section
variable {w W W' : World} {q : Nat} {a : Option Addr} {len cap : Nat} {zs : List Int} {i h i' h' : Int} {L : Nat} {id ep : Int} {lv : Bool} {gr nx : Int} {xs : List It} {ts : Sp} {b1 : Option Addr} {n1 c1 : Nat} {b2 : Option Addr} {n2 c2 : Nat} {F G : List Nat}
theorem LocG.rd (H : LocG w q a len cap zs i h L id ep lv gr nx xs ts b1 n1 c1 b2 n2 c2 F G W) : RdAg W (.agg #[.int .i64 id, .int .i64 ep, .bool lv, .int .i64 gr, .slice b1 n1 c1, .slice b2 n2 c2, .int .i64 nx]) ⟨id, ep, lv, gr, xs, ts, nx⟩ F G := ⟨b1, n1, c1, b2, n2, c2, rfl, H.rl, H.rp, H.k1, H.k2⟩
theorem LocG.next (H : LocG w q a len cap zs i h L id ep lv gr nx xs ts b1 n1 c1 b2 n2 c2 F G W) (hq : q < w.heap.size) (C : Cur W' q a len cap zs i' h') (g : W.grownBy W' (some q)) : LocG w q a len cap zs i' h' L id ep lv gr nx xs ts b1 n1 c1 b2 n2 c2 F G W' := by
  have agF : Agree W W' F := fun x hx => g.block x (H.rl.lt x hx) (fun e => by have := H.o1.ge x hx; simp at e; omega)
  have agG : Agree W W' G := fun x hx => g.block x (H.rp.lt x hx) (fun e => by have := H.o2.ge x hx; simp at e; omega)
  have gt := H.gt
  exact ⟨H.held.next hq C g, H.loc.grown g (by omega), H.rl.agree agF, H.rp.agree agG, H.k1, H.k2, H.o1.agree agF, H.o2.agree agG, H.dj, H.a1, H.a2, H.gt, H.gr.next g (by omega)⟩
theorem LocG.below (H : LocG w q a len cap zs i h L id ep lv gr nx xs ts b1 n1 c1 b2 n2 c2 F G W) (k : Below W.heap.size W W') : LocG w q a len cap zs i h L id ep lv gr nx xs ts b1 n1 c1 b2 n2 c2 F G W' :=
  ⟨H.held.below k, H.loc.below k, H.rl.agree (.below k H.rl.lt), H.rp.below k, H.k1, H.k2, H.o1.below H.rl.lt k, H.o2.below H.rp.lt k, H.dj, H.a1, H.a2, H.gt, H.gr.below k⟩
theorem LocG.drew (H : LocG w q a len cap zs i h L id ep lv gr nx xs ts b1 n1 c1 b2 n2 c2 F G W) : LocG w q a len cap zs i h L id ep lv gr nx xs ts b1 n1 c1 b2 n2 c2 F G W.drew := H.below (Below.refl _ _).drew
theorem LocG.set (H : LocG w q a len cap zs i h L id ep lv gr nx xs ts b1 n1 c1 b2 n2 c2 F G W) (hq : q < w.heap.size) (ha : ∀ b, (∃ off, a = some ⟨b, off, none⟩ ∧ 0 < len) → b < w.heap.size) (j : Nat) (v : Value) {id' ep' : Int} {lv' : Bool} {gr' nx' : Int} (hc : (#[.int .i64 id, .int .i64 ep, .bool lv, .int .i64 gr, .slice b1 n1 c1, .slice b2 n2 c2, .int .i64 nx] : Array Value).setIfInBounds j v = #[.int .i64 id', .int .i64 ep', .bool lv', .int .i64 gr', .slice b1 n1 c1, .slice b2 n2 c2, .int .i64 nx']) : LocG w q a len cap zs i h L id' ep' lv' gr' nx' xs ts b1 n1 c1 b2 n2 c2 F G (W.setCell ⟨L, j, none⟩ v) := by
  have hgt := H.gt
  have hl := H.loc.set j v
  rw [hc] at hl
  have agF : Agree W (W.setCell ⟨L, j, none⟩ v) F := .set H.a1 j v
  have agG : Agree W (W.setCell ⟨L, j, none⟩ v) G := .set H.a2 j v
  exact ⟨⟨H.held.res.setOther (by omega) j v, cur_cell H.held.cur (by omega) (fun b hb => by have := ha b hb; omega), grown_cell H.held.grown (by omega)⟩, hl, H.rl.agree agF, H.rp.agree agG, H.k1, H.k2, H.o1.agree agF, H.o2.agree agG, H.dj, H.a1, H.a2, H.gt, H.gr.cell (.inr rfl)⟩
theorem LocG.put (H : LocG w q a len cap zs i h L id ep lv gr nx xs ts b1 n1 c1 b2 n2 c2 F G W) (hq : q < w.heap.size) (ha : ∀ b, (∃ off, a = some ⟨b, off, none⟩ ∧ 0 < len) → b < w.heap.size) {b : Option Addr} {n c : Nat} {us : Sp} {G' : List Nat} (r : RdP W b n us G') (hk : Capd b n c) (ho : Own (w.heap.size + 1) W G') (hd : ∀ b ∈ F, b ∉ G') (hL : L ∉ G') (hr : GrA (w.heap.size + 1) L (.slice b1 n1 c1) n1 xs G' W) : LocG w q a len cap zs i h L id ep lv gr nx xs us b1 n1 c1 b n c F G' (W.setCell ⟨L, 5, none⟩ (.slice b n c)) := by
  have hgt := H.gt
  have agF : Agree W (W.setCell ⟨L, 5, none⟩ (.slice b n c)) F := .set H.a1 5 _
  have agG : Agree W (W.setCell ⟨L, 5, none⟩ (.slice b n c)) G' := .set hL 5 _
  exact ⟨⟨H.held.res.setOther (by omega) _ _, cur_cell H.held.cur (by omega) (fun b hb => by have := ha b hb; omega), grown_cell H.held.grown (by omega)⟩, H.loc.set 5 _, H.rl.agree agF, r.agree agG, H.k1, hk, H.o1.agree agF, ho.agree agG, hd, H.a1, hL, H.gt, hr.cell (.inr rfl)⟩
theorem LocG.whole (H : LocG w q a len cap zs i h L id ep lv gr nx xs ts b1 n1 c1 b2 n2 c2 F G W) (hq : q < w.heap.size) (ha : ∀ b, (∃ off, a = some ⟨b, off, none⟩ ∧ 0 < len) → b < w.heap.size) {id' ep' : Int} {lv' : Bool} {gr' nx' : Int} {ys : List It} {us : Sp} {d1 : Option Addr} {m1 e1 : Nat} {d2 : Option Addr} {m2 e2 : Nat} {F' G' : List Nat}
    (r1 : RdL itK W d1 m1 ys F') (r2 : RdP W d2 m2 us G') (k1 : Capd d1 m1 e1) (k2 : Capd d2 m2 e2) (o1 : Own (w.heap.size + 1) W F') (o2 : Own (w.heap.size + 1) W G') (dj : ∀ b ∈ F', b ∉ G') (a1 : L ∉ F') (a2 : L ∉ G') (hr : GrA (w.heap.size + 1) L (.slice d1 m1 e1) m1 ys G' W) : LocG w q a len cap zs i h L id' ep' lv' gr' nx' ys us d1 m1 e1 d2 m2 e2 F' G' (W.setRow L #[.int .i64 id', .int .i64 ep', .bool lv', .int .i64 gr', .slice d1 m1 e1, .slice d2 m2 e2, .int .i64 nx']) := by
  have hgt := H.gt
  exact ⟨⟨H.held.res.setRowOther (by omega), cur_row H.held.cur (by omega) (fun b hb => by have := ha b hb; omega), grown_row H.held.grown (by omega)⟩, H.loc.setRow, r1.agree (Agree.row a1 _), r2.agree (Agree.row a2 _), k1, k2, o1.agree (Agree.row a1 _), o2.agree (Agree.row a2 _), dj, a1, a2, H.gt, hr.row (.inr rfl)⟩
theorem LocG.done {m k : Nat} (H : LocG w q a len cap zs i h L id ep lv gr nx xs ts b1 n1 c1 b2 n2 c2 F G W) (hs : (Ag.mk id ep lv gr xs ts nx).small m k) (hq : q < w.heap.size) (ha : ∀ b, (∃ off, a = some ⟨b, off, none⟩ ∧ 0 < len) → b < w.heap.size) : DrewAg w q a len cap zs m k (.returned (.agg #[.int .i64 id, .int .i64 ep, .bool lv, .int .i64 gr, .slice b1 n1 c1, .slice b2 n2 c2, .int .i64 nx])) (W.setRow w.heap.size #[.int .i64 id, .int .i64 ep, .bool lv, .int .i64 gr, .slice b1 n1 c1, .slice b2 n2 c2, .int .i64 nx]) := by
  have nF : w.heap.size ∉ F := fun hx => by have := H.o1.ge _ hx; omega
  have nG : w.heap.size ∉ G := fun hx => by have := H.o2.ge _ hx; omega
  exact ⟨_, _, F, G, i, h, rfl, H.rd.agree (Agree.row nF _) (Agree.row nG _), hs, (H.o1.agree (Agree.row nF _)).mono (by omega), (H.o2.agree (Agree.row nG _)).mono (by omega), H.dj, cur_row H.held.cur (by omega) (fun b hb => by have := ha b hb; omega), grown_row H.held.grown (Nat.le_refl _), _, _, rfl, rfl, by have g := H.gr.at (.inl (by omega : w.heap.size < w.heap.size + 1)); have e : n1 = xs.length := H.rl.length.symm; rw [e] at g ⊢; exact ((g.row (.inl (by omega))).at (.inr (Nat.le_refl _))).mono (by omega)⟩
end
theorem infoSkGd : (Try.prog.info? 34).map (·.size) = some 7 := by kernel_rfl
theorem infoItGd : (Try.prog.info? 36).map (·.size) = some 11 := by kernel_rfl
theorem infoAgG : (Try.prog.info? 27).map (·.size) = some 7 := by kernel_rfl
theorem infoAgNL : (Try.prog.info? 27).map (·.size) = some 7 := by kernel_rfl
set_option maxRecDepth 200000 in
set_option maxHeartbeats 2000000 in
theorem agentNewLit_any (n : Int) (w : World) :
    Calls Try.prog 108 #[.int .i64 n] w fun e w' => (∃ u, e = .returned (.tuple #[.agg #[.int .i64 u, .int .i64 0, .bool false, .int .i64 0, .slice none 0 0, .slice none 0 0, .int .i64 0], .bool (Ag.fresh n).ok]) ∧ Ag.made n = Ag.fresh u) ∧ Below w.heap.size w w' := by
  have HT : Hid (Blk (w.alloc (.cells #[.int .i64 0, .int .i64 0, .bool false, .int .i64 0, .slice none 0 0, .slice none 0 0, .int .i64 0] 27)) w.heap.size #[.int .i64 0, .int .i64 0, .bool false, .int .i64 0, .slice none 0 0, .slice none 0 0, .int .i64 0] 27 ∧ Below w.heap.size w (w.alloc (.cells #[.int .i64 0, .int .i64 0, .bool false, .int .i64 0, .slice none 0 0, .slice none 0 0, .int .i64 0] 27))) := ⟨Blk.made _ _ _, (Below.refl _ _).alloc (Nat.le_refl _) _⟩
  go_enter Try.func108, Try.ntmps108
  go_wp2_with (first | go_skip | (with_reducible refine stopStore 27 rfl ?_))
  obtain ⟨W0, hW0⟩ : ∃ W, W = w.alloc (.cells #[.int .i64 0, .int .i64 0, .bool false, .int .i64 0, .slice none 0 0, .slice none 0 0, .int .i64 0] 27) := ⟨_, rfl⟩
  have hs0 : W0.heap.size = w.heap.size + 1 := by rw [hW0]; simp
  rw [← hW0] at HT ⊢
  try rw [← hs0]
  clear hW0
  refine store_fresh 27 W0.heap.size rfl #[.int .i64 0, .int .i64 0, .bool false, .int .i64 0, .slice none 0 0, .slice none 0 0, .int .i64 0] #[.int .i64 n, .int .i64 0, .bool false, .int .i64 0, .slice none 0 0, .slice none 0 0, .int .i64 0] 27 rfl rfl rfl rfl infoAgNL rfl (by simp [Value.oneCell']) ?_
  intro w1 hg hb
  have H1 : Hid (Blk w1 w.heap.size #[.int .i64 0, .int .i64 0, .bool false, .int .i64 0, .slice none 0 0, .slice none 0 0, .int .i64 0] 27 ∧ Blk w1 W0.heap.size #[.int .i64 n, .int .i64 0, .bool false, .int .i64 0, .slice none 0 0, .slice none 0 0, .int .i64 0] 27 ∧ Below w.heap.size w w1) := ⟨HT.out.1.below hb, hg, Below.next HT.out.2 hb⟩
  obtain ⟨L, hL⟩ : ∃ L, L = W0.heap.size := ⟨_, rfl⟩
  rw [← hL] at H1 ⊢
  clear hg hb HT hL hs0
  go_wp2_with (first | go_skip | (with_reducible refine stopLoad 27 rfl ?_))
  refine load_known 27 L _ 27 _ H1.out.2.1 rfl rfl rfl Try.underlying27 rfl infoAgNL ?_
  go_wp2_with fail
  refine (agentOkSpec_any _ (Ag.fresh n) [] [] _ (rdAg_fresh _ n) (by intro y hy; cases hy) (by simp [Ag.fresh]) (by simp [Ag.fresh])).mono ?_
  rintro e w2 ⟨rfl, hb2⟩
  have H2 : Hid (Blk w2 w.heap.size #[.int .i64 0, .int .i64 0, .bool false, .int .i64 0, .slice none 0 0, .slice none 0 0, .int .i64 0] 27 ∧ Blk w2 L #[.int .i64 n, .int .i64 0, .bool false, .int .i64 0, .slice none 0 0, .slice none 0 0, .int .i64 0] 27 ∧ Below w.heap.size w w2) := ⟨H1.out.1.below hb2, H1.out.2.1.below hb2, Below.next H1.out.2.2 hb2⟩
  obtain ⟨d, hd⟩ : ∃ d, d = (Ag.fresh n).ok := ⟨_, rfl⟩
  rw [← hd]
  have HD : Hid (d = (Ag.fresh n).ok) := hd
  clear hb2 hd H1
  cases d
  · have HV : Hid (Ag.made n = Ag.zero) := by show _ = _; unfold Ag.made; rw [← HD.out]; rfl
    go_wp2_with (first | go_skip | (with_reducible refine stopStore 27 rfl ?_))
    refine store_known 27 w.heap.size _ #[.int .i64 0, .int .i64 0, .bool false, .int .i64 0, .slice none 0 0, .slice none 0 0, .int .i64 0] 27 H2.out.1 rfl rfl rfl rfl infoAgNL rfl (by simp [Value.oneCell']) ?_
    go_wp2
    refine bodyPost_ret (results_row_tmp Try.results108 _ _ w.heap.size _ _ _ _ rfl H2.out.1.setRow Try.underlying27 rfl infoAgNL) rfl ?_
    exact ⟨⟨0, by rw [← HD.out]; rfl, HV.out⟩, below_setRow H2.out.2.2 (Nat.le_refl _) _⟩
  · have HV : Hid (Ag.made n = Ag.fresh n) := by show _ = _; unfold Ag.made; rw [← HD.out]; rfl
    go_wp2_with (first | go_skip | (with_reducible refine stopLoad 27 rfl ?_))
    refine load_known 27 L _ 27 _ H2.out.2.1 rfl rfl rfl Try.underlying27 rfl infoAgNL ?_
    go_wp2_with (first | go_skip | (with_reducible refine stopStore 27 rfl ?_))
    refine store_known 27 w.heap.size _ #[.int .i64 n, .int .i64 0, .bool false, .int .i64 0, .slice none 0 0, .slice none 0 0, .int .i64 0] 27 H2.out.1 rfl rfl rfl rfl infoAgNL rfl (by simp [Value.oneCell']) ?_
    go_wp2
    refine bodyPost_ret (results_row_tmp Try.results108 _ _ w.heap.size _ _ _ _ rfl H2.out.1.setRow Try.underlying27 rfl infoAgNL) rfl ?_
    exact ⟨⟨n, by rw [← HD.out]; rfl, HV.out⟩, below_setRow H2.out.2.2 (Nat.le_refl _) _⟩
set_option maxRecDepth 200000 in
theorem infoSpG : (Try.prog.info? 81).map (·.size) = some 2 := by kernel_rfl
set_option maxRecDepth 200000 in
theorem l8One_any (n : Int) (w : World) : Calls Try.prog 62 #[.int .i64 n] w fun e w' => e = .returned (.agg #[.int .i64 n, .int .i64 n]) ∧ Below w.heap.size w w' := by
  have H0 : Hid (Blk (w.alloc (.cells #[.int .i64 0, .int .i64 0] 81)) w.heap.size #[.int .i64 0, .int .i64 0] 81 ∧ Below w.heap.size w (w.alloc (.cells #[.int .i64 0, .int .i64 0] 81))) := ⟨Blk.made _ _ _, (Below.refl _ _).alloc (Nat.le_refl _) _⟩
  go_enter Try.func62, Try.ntmps62
  go_wp2_with (first | go_skip | (with_reducible refine stopStore 81 rfl ?_))
  refine store_known 81 w.heap.size _ #[.int .i64 n, .int .i64 n] 81 H0.out.1 rfl rfl rfl rfl infoSpG rfl (by simp [Value.oneCell']) ?_
  go_wp2
  refine bodyPost_ret (results_cell_row Try.results62 _ _ w.heap.size _ _ (0, 0) _ rfl H0.out.1.setRow Try.underlying81 rfl infoSpG) rfl ?_
  exact ⟨rfl, below_setRow H0.out.2 (Nat.le_refl _) _⟩
set_option maxRecDepth 200000 in
set_option maxHeartbeats 8000000 in
theorem l8Right_any (q : Nat) (a : Option Addr) (len cap : Nat) (zs : List Int) (i h : Int) (w : World) (C : Cur w q a len cap zs i h) (hlen : len ≤ 1048576) :
    Calls Try.prog 82 #[.pointer (some ⟨q, 0, none⟩)] w fun e w' => DrewAg w q a len cap zs 6 2 e w' := by
  have hq : q < w.heap.size := World.block_lt_of_cell? _ _ C.c0
  have HA : Hid (∀ b, (∃ off, a = some ⟨b, off, none⟩ ∧ 0 < len) → b < w.heap.size) := cur_lt C
  have H0 : Hid (HeldR w q a len cap zs i h #[.int .i64 0, .int .i64 0, .bool false, .int .i64 0, .slice none 0 0, .slice none 0 0, .int .i64 0] 27 (w.alloc (.cells #[.int .i64 0, .int .i64 0, .bool false, .int .i64 0, .slice none 0 0, .slice none 0 0, .int .i64 0] 27))) := HeldR.made C _ _
  clear C
  go_enter Try.func82, Try.ntmps82
  go_wp2_with fail
  refine (l1Below_any q a len cap zs i h 3 _ H0.out.cur hlen (by omega) (by omega)).mono ?_
  rintro e w1 ⟨x1, i1, h1, rfl, p1, r1, C1, g1⟩
  have H1 : Hid (HeldR w q a len cap zs i1 h1 #[.int .i64 0, .int .i64 0, .bool false, .int .i64 0, .slice none 0 0, .slice none 0 0, .int .i64 0] 27 w1) := H0.out.next hq C1 g1
  clear C1 g1 H0
  go_wp2_with fail
  refine (agentNewLit_any x1 _).mono ?_
  rintro e w2 ⟨⟨id, rfl, hmade⟩, hb2⟩
  have HS0 : Hid ((Ag.mk id 0 false 0 [] [] 0).small 0 0) := by have := made_small x1; rw [hmade] at this; exact this
  obtain ⟨d, hd⟩ : ∃ d, d = (Ag.fresh x1).ok := ⟨_, rfl⟩
  rw [← hd]
  clear hd hmade
  have H2 : Hid (HeldR w q a len cap zs i1 h1 #[.int .i64 0, .int .i64 0, .bool false, .int .i64 0, .slice none 0 0, .slice none 0 0, .int .i64 0] 27 w2) := H1.out.below hb2
  clear hb2 H1
  go_wp2_with (first | go_skip | (with_reducible refine stopStore 27 rfl ?_))
  refine store_fresh 27 w2.heap.size rfl #[.int .i64 0, .int .i64 0, .bool false, .int .i64 0, .slice none 0 0, .slice none 0 0, .int .i64 0] #[.int .i64 id, .int .i64 0, .bool false, .int .i64 0, .slice none 0 0, .slice none 0 0, .int .i64 0] 27 rfl rfl rfl rfl infoAgG rfl (by simp [Value.oneCell']) ?_
  intro w3 hg3 hb3
  have H3 : Hid (LocG w q a len cap zs i1 h1 w2.heap.size id 0 false 0 0 [] [] none 0 0 none 0 0 [] [] w3) := ⟨H2.out.below hb3, hg3, RdL.nil, RdP.nil, ⟨fun _ => rfl, Nat.le_refl _⟩, ⟨fun _ => rfl, Nat.le_refl _⟩, Own.nil, Own.nil, by simp, by simp, by simp, H2.out.res.lt, GrA.start (by have := H2.out.res.lt; have := hb3.size; omega)⟩
  clear hg3 hb3 H2
  go_wp2_with fail
  refine (l1Below_any q a len cap zs i1 h1 7 _ H3.out.held.cur hlen (by omega) (by omega)).mono ?_
  rintro e w6 ⟨m, i6, h6, rfl, m0, m1, C6, g6⟩
  have H6 : Hid (LocG w q a len cap zs i6 h6 w2.heap.size id 0 false 0 0 [] [] none 0 0 none 0 0 [] [] w6) := H3.out.next hq C6 g6
  obtain ⟨L, hL⟩ : ∃ L, L = w2.heap.size := ⟨_, rfl⟩
  rw [← hL] at H6 ⊢
  clear C6 g6 H3 hL
  go_wp2
  go_loopw [6] (fun i wr => ∃ (k : Nat) (id ep : Int) (lv : Bool) (gr nx : Int) (xs : List It) (ts : Sp) (b1 : Option Addr) (n1 c1 : Nat) (b2 : Option Addr) (n2 c2 : Nat) (F G : List Nat) (i' h' : Int), (k : Int) ≤ m ∧ i = .int .i64 k ∧ Hid (LocG w q a len cap zs i' h' L id ep lv gr nx xs ts b1 n1 c1 b2 n2 c2 F G wr) ∧ Hid ((Ag.mk id ep lv gr xs ts nx).small k 0)) (fun i _ => (m - intOf i).toNat)
  case atStart => exact ⟨0, id, 0, false, 0, 0, [], [], none, 0, 0, none, 0, 0, [], [], i6, h6, by omega, rfl, H6, HS0⟩
  case round =>
    clear H6 HS0
    obtain ⟨k, id, ep, lv, gr, nx, xs, ts, b1, n1, c1, b2, n2, c2, F, G, i7, h7, hk, rfl, HD, HS⟩ := hrel
    by_cases hlt : (k : Int) < m
    · have hcd : decide ((k : Int) < m) = true := decT hlt
      go_wp2_with fail
      refine (l6Right_any q a len cap zs i7 h7 _ HD.out.held.cur hlen).mono ?_
      rintro e w7 ⟨v, x, F5, i8, h8, rfl, r5, s5, o5, C5, g5⟩
      obtain ⟨e1, m1', f1, e2, m2, f2, e3, m3, f3, rfl, rs⟩ := r5
      have H7 : Hid (LocG w q a len cap zs i8 h8 L id ep lv gr nx xs ts b1 n1 c1 b2 n2 c2 F G w7 ∧ RdSk w7 (.agg #[.int .i64 x.sk.count, .int .i64 x.sk.sum, .int .i64 x.sk.min, .int .i64 x.sk.max, .slice e1 m1' f1, .slice e2 m2 f2, .slice e3 m3 f3]) x.sk F5 ∧ x.sk.full) := ⟨HD.out.next hq C5 g5, rs, s5⟩
      clear HD C5 g5 rs s5 o5
      go_wp2_with (first | go_skip | (with_reducible refine stopStore 36 rfl ?_))
      refine store_fresh 36 w7.heap.size rfl #[.int .i64 0, .int .i64 0, .int .i64 0, .int .i64 0, .int .i64 0, .int .i64 0, .int .i64 0, .int .i64 0, .slice none 0 0, .slice none 0 0, .slice none 0 0] #[.int .i64 x.seq, .int .i64 x.cls, .int .i64 x.key, .int .i64 x.window, .int .i64 x.sk.count, .int .i64 x.sk.sum, .int .i64 x.sk.min, .int .i64 x.sk.max, .slice e1 m1' f1, .slice e2 m2 f2, .slice e3 m3 f3] 36 rfl rfl rfl rfl infoItGd rfl (by simp [Value.oneCell']) ?_
      intro w8 hg8 hb8
      have H8 : Hid (LocG w q a len cap zs i8 h8 L id ep lv gr nx xs ts b1 n1 c1 b2 n2 c2 F G w8 ∧ RdSk w8 (.agg #[.int .i64 x.sk.count, .int .i64 x.sk.sum, .int .i64 x.sk.min, .int .i64 x.sk.max, .slice e1 m1' f1, .slice e2 m2 f2, .slice e3 m3 f3]) x.sk F5 ∧ x.sk.full ∧ Blk w8 w7.heap.size #[.int .i64 x.seq, .int .i64 x.cls, .int .i64 x.key, .int .i64 x.window, .int .i64 x.sk.count, .int .i64 x.sk.sum, .int .i64 x.sk.min, .int .i64 x.sk.max, .slice e1 m1' f1, .slice e2 m2 f2, .slice e3 m3 f3] 36) := ⟨H7.out.1.below hb8, H7.out.2.1.below hb8, H7.out.2.2, hg8⟩
      obtain ⟨J, hJ⟩ : ∃ J, J = w7.heap.size := ⟨_, rfl⟩
      rw [← hJ] at H8 ⊢
      clear hg8 hb8 hJ H7
      have d1 := H8.out.2.2.2.cell 1
      have d2 := H8.out.2.2.2.cell 2
      have d3 := H8.out.2.2.2.cell 3
      simp only [aT, aS, aZ] at d1 d2 d3
      go_wp2_with (first | go_skip | (with_reducible refine stopStore 27 rfl ?_) | (with_reducible refine stopLoad 27 rfl ?_) | (with_reducible refine stopLoad 34 rfl ?_))
      refine load_known 27 L _ 27 _ H8.out.1.loc rfl rfl rfl Try.underlying27 rfl infoAgG ?_
      go_wp2_with (first | go_skip | (with_reducible refine stopStore 27 rfl ?_) | (with_reducible refine stopLoad 27 rfl ?_) | (with_reducible refine stopLoad 34 rfl ?_))
      refine load_cut 34 J 4 7 _ #[.int .i64 x.sk.count, .int .i64 x.sk.sum, .int .i64 x.sk.min, .int .i64 x.sk.max, .slice e1 m1' f1, .slice e2 m2 f2, .slice e3 m3 f3] 36 _ H8.out.2.2.2 rfl rfl rfl Try.underlying34 rfl infoSkGd (by simp) rfl ?_
      go_wp2_with fail
      have hlx := HS.out.len
      have hlt' := HS.out.tlen
      refine (sealSpec_room _ _ ⟨id, ep, lv, gr, xs, ts, nx⟩ x.cls x.key x.window x.sk F G F5 _ H8.out.1.rd H8.out.2.1 (fun y hy => full_fitsG (HS.out.full y hy)) (by omega) (by omega) (full_fitsG H8.out.2.2.1)).mono ?_
      rintro e w9 ⟨cs9, F', G', c9, rfl, r9, _, oF, oG, dj9, b9, u9, hu9, gr9⟩
      have HS9 : Hid ((Ag.seal ⟨id, ep, lv, gr, xs, ts, nx⟩ x.cls x.key x.window x.sk).1.small (k + 1) 0) := HS.out.seal _ _ _ H8.out.2.2.1
      generalize (Ag.seal ⟨id, ep, lv, gr, xs, ts, nx⟩ x.cls x.key x.window x.sk).1 = X at r9 HS9 gr9
      obtain ⟨id', ep', lv', gr', ys, us, nx'⟩ := X
      obtain ⟨b1', n1', c1', b2', n2', c2', e9, rL, rP, k1, k2⟩ := r9.opened
      injection e9 with e9
      subst e9
      obtain rfl : Value.slice b1' n1' c1' = u9 := Option.some.inj hu9
      have en9 : ys.length = n1' := rL.length
      have lL : L < w8.heap.size := H8.out.1.loc.lt
      have lw : w.heap.size < w8.heap.size := H8.out.1.held.res.lt
      have H9 : Hid (LocG w q a len cap zs i8 h8 L id ep lv gr nx xs ts b1 n1 c1 b2 n2 c2 F G w9) := H8.out.1.below b9
      have HN : Hid (RdL itK w9 b1' n1' ys F' ∧ RdP w9 b2' n2' us G' ∧ Capd b1' n1' c1' ∧ Capd b2' n2' c2' ∧ Own (w.heap.size + 1) w9 F' ∧ Own (w.heap.size + 1) w9 G' ∧ (∀ b ∈ F', b ∉ G') ∧ L ∉ F' ∧ L ∉ G' ∧ GrA (w.heap.size + 1) L (.slice b1' n1' c1') n1' ys G' w9) := ⟨rL, rP, k1, k2, oF.mono (by omega), oG.mono (by omega), dj9, fun hx => by have := oF.ge _ hx; omega, fun hx => by have := oG.ge _ hx; omega, by have g : GrA (w.heap.size + 1) L (.slice b1' n1' c1') ys.length ys G' w9 := (gr9.at (L' := L) (.inl lL)).mono (by omega); rwa [en9] at g⟩
      clear gr9 hu9 en9 rL rP k1 k2 oF oG dj9 b9 r9 H8 HS d1 d2 d3 hlx hlt' lL lw
      go_wp2_with (first | go_skip | (with_reducible refine stopStore 27 rfl ?_) | (with_reducible refine stopLoad 27 rfl ?_) | (with_reducible refine stopLoad 34 rfl ?_))
      refine store_known 27 L _ #[.int .i64 id', .int .i64 ep', .bool lv', .int .i64 gr', .slice b1' n1' c1', .slice b2' n2' c2', .int .i64 nx'] 27 H9.out.loc rfl rfl rfl rfl infoAgG rfl (by simp [Value.oneCell']) ?_
      have HW : Hid (LocG w q a len cap zs i8 h8 L id' ep' lv' gr' nx' ys us b1' n1' c1' b2' n2' c2' F' G' (w9.setRow L #[.int .i64 id', .int .i64 ep', .bool lv', .int .i64 gr', .slice b1' n1' c1', .slice b2' n2' c2', .int .i64 nx'])) := H9.out.whole hq HA.out HN.out.1 HN.out.2.1 HN.out.2.2.1 HN.out.2.2.2.1 HN.out.2.2.2.2.1 HN.out.2.2.2.2.2.1 HN.out.2.2.2.2.2.2.1 HN.out.2.2.2.2.2.2.2.1 HN.out.2.2.2.2.2.2.2.2.1 HN.out.2.2.2.2.2.2.2.2.2
      obtain ⟨WA, hWA⟩ : ∃ W, W = (w9.setRow L #[.int .i64 id', .int .i64 ep', .bool lv', .int .i64 gr', .slice b1' n1' c1', .slice b2' n2' c2', .int .i64 nx']) := ⟨_, rfl⟩
      rw [← hWA] at HW ⊢
      clear hWA HN H9
      go_wp2
      go_roundw
      case rel => exact ⟨k + 1, id', ep', lv', gr', nx', ys, us, b1', n1', c1', b2', n2', c2', F', G', i8, h8, by omega, by go_num, HW, HS9⟩
      case measure => simp [intOf]; omega
    · have hkm : (k : Int) = m := by omega
      have hcd : decide ((k : Int) < m) = false := dec_false hlt
      have HS6 : Hid ((Ag.mk id ep lv gr xs ts nx).small 6 0) := ⟨HS.out.full, HS.out.inb, by have := HS.out.len; omega, HS.out.tlen⟩
      clear HS
      go_wp2_with fail
      refine (l1Below_any q a len cap zs i7 h7 3 _ HD.out.held.cur hlen (by omega) (by omega)).mono ?_
      rintro e w10 ⟨x10, i10, h10, rfl, _, _, C10, g10⟩
      have HD10 : Hid (LocG w q a len cap zs i10 h10 L id ep lv gr nx xs ts b1 n1 c1 b2 n2 c2 F G w10) := HD.out.next hq C10 g10
      clear C10 g10 HD
      have c1' := HD10.out.loc.cell 1
      have fz1 := HD10.out.loc.frozen 1
      simp only [aT, aS, aZ] at c1'
      go_wp2_with fail
      have HE0 := HD10.out.set hq HA.out 1 (.int .i64 x10) (id' := id) (ep' := x10) (lv' := lv) (gr' := gr) (nx' := nx) rfl
      obtain ⟨WE, hWE⟩ : ∃ W, W = w10.setCell ⟨L, 1, none⟩ (.int .i64 x10) := ⟨_, rfl⟩
      rw [← hWE] at HE0 ⊢
      have HE : Hid (LocG w q a len cap zs i10 h10 L id x10 lv gr nx xs ts b1 n1 c1 b2 n2 c2 F G WE) := HE0
      have HSE : Hid ((Ag.mk id x10 lv gr xs ts nx).small 6 0) := ⟨HS6.out.full, HS6.out.inb, HS6.out.len, HS6.out.tlen⟩
      clear HE0 hWE HD10 HS6 c1' fz1
      refine (l1Once_any q a len cap zs i10 h10 4 _ HE.out.held.cur hlen (by omega) (by omega)).mono ?_
      rintro e w11 ⟨d11, i11, h11, rfl, C11, g11⟩
      have HF : Hid (LocG w q a len cap zs i11 h11 L id x10 lv gr nx xs ts b1 n1 c1 b2 n2 c2 F G w11) := HE.out.next hq C11 g11
      clear C11 g11 HE
      cases d11
      · have c2' := HF.out.loc.cell 2
        have fz2 := HF.out.loc.frozen 2
        simp only [aT, aS, aZ] at c2'
        go_wp2_with fail
        have HE0 := HF.out.set hq HA.out 2 (.bool true) (id' := id) (ep' := x10) (lv' := true) (gr' := gr) (nx' := nx) rfl
        obtain ⟨WE, hWE⟩ : ∃ W, W = w11.setCell ⟨L, 2, none⟩ (.bool true) := ⟨_, rfl⟩
        rw [← hWE] at HE0 ⊢
        have HE : Hid (LocG w q a len cap zs i11 h11 L id x10 true gr nx xs ts b1 n1 c1 b2 n2 c2 F G WE) := HE0
        clear HE0 hWE HF c2' fz2
        refine (l1Below_any q a len cap zs i11 h11 9 _ HE.out.held.cur hlen (by omega) (by omega)).mono ?_
        rintro e w12 ⟨x12, i12, h12, rfl, _, _, C12, g12⟩
        have HF : Hid (LocG w q a len cap zs i12 h12 L id x10 true gr nx xs ts b1 n1 c1 b2 n2 c2 F G w12) := HE.out.next hq C12 g12
        clear C12 g12 HE
        have c3' := HF.out.loc.cell 3
        have fz3 := HF.out.loc.frozen 3
        simp only [aT, aS, aZ] at c3'
        go_wp2_with fail
        have HE0 := HF.out.set hq HA.out 3 (.int .i64 x12) (id' := id) (ep' := x10) (lv' := true) (gr' := x12) (nx' := nx) rfl
        obtain ⟨WE, hWE⟩ : ∃ W, W = w12.setCell ⟨L, 3, none⟩ (.int .i64 x12) := ⟨_, rfl⟩
        rw [← hWE] at HE0 ⊢
        have HE : Hid (LocG w q a len cap zs i12 h12 L id x10 true x12 nx xs ts b1 n1 c1 b2 n2 c2 F G WE) := HE0
        have HSF : Hid ((Ag.mk id x10 true x12 xs ts nx).small 6 0) := ⟨HSE.out.full, HSE.out.inb, HSE.out.len, HSE.out.tlen⟩
        clear HE0 hWE HF c3' fz3 HSE
        refine (l1Below_any q a len cap zs i12 h12 3 _ HE.out.held.cur hlen (by omega) (by omega)).mono ?_
        rintro e w13 ⟨mm, i13, h13, rfl, mm0, mm1, C13, g13⟩
        have HF : Hid (LocG w q a len cap zs i13 h13 L id x10 true x12 nx xs ts b1 n1 c1 b2 n2 c2 F G w13) := HE.out.next hq C13 g13
        clear C13 g13 HE
        go_wp2
        go_loopw [9] (fun i wr => ∃ (k : Nat) (ts : Sp) (b2 : Option Addr) (n2 c2 : Nat) (G : List Nat) (i' h' : Int), (k : Int) ≤ mm ∧ i = .int .i64 k ∧ Hid (LocG w q a len cap zs i' h' L id x10 true x12 nx xs ts b1 n1 c1 b2 n2 c2 F G wr) ∧ Hid ((Ag.mk id x10 true x12 xs ts nx).small 6 k)) (fun i _ => (mm - intOf i).toNat)
        case atStart => exact ⟨0, ts, b2, n2, c2, G, i13, h13, by omega, rfl, HF, HSF⟩
        case round =>
          clear HF HSF
          obtain ⟨kk, ts, b2, n2, c2, G, i14, h14, hkk, rfl, HD, HS⟩ := hrel
          by_cases hgo : (kk : Int) < mm ∧ 0 < m
          · obtain ⟨hlt2, hm0⟩ := hgo
            have hcd2 : decide ((kk : Int) < mm) = true := decT hlt2
            have hcm : decide (m > 0) = true := decT hm0
            go_wp2
            obtain ⟨WD, hWD⟩ : ∃ W, W = wr.drew := ⟨_, rfl⟩
            have HDd0 := HD.out.drew
            rw [← hWD] at HDd0
            have HDd : Hid (LocG w q a len cap zs i14 h14 L id x10 true x12 nx xs ts b1 n1 c1 b2 n2 c2 F G WD) := HDd0
            clear HDd0 HD
            refine wp_region_held (S := fun _ => True) (by kernel_rfl) ?_
            change wpAnyH _ _ _ _ _ _ _ _ (World.drew _)
            rw [← hWD]
            clear hWD
            refine takeH (o := ?o1) 0 (.pointer (some ⟨L, 5, none⟩)) ?h1 ?r1
            case h1 => simp only [aT, aZ]; rfl
            refine ⟨_, by simp [Act.put]; rfl, by kernel_rfl, by kernel_rfl, by kernel_rfl, fun _ _ _ h => h, (.inl ⟨rfl, fun W _ => by kernel_rfl⟩), trivial, ?_⟩
            refine takeH (o := ?o2) 2 (.pointer (some ⟨q, 0, none⟩)) ?h2 ?r2
            case h2 => simp only [aT, aS, aZ]; rfl
            refine ⟨_, by simp [Act.put]; rfl, by kernel_rfl, by kernel_rfl, by kernel_rfl, fun _ _ _ h => h, (.inl ⟨rfl, fun W _ => by kernel_rfl⟩), trivial, ?_⟩
            refine takeH (o := ?o3) 3 (.int .i64 m) ?h3 ?r3
            case h3 => simp only [aT, aS, aZ]; rfl
            refine ⟨_, by simp [Act.put]; rfl, by kernel_rfl, by kernel_rfl, by kernel_rfl, fun _ _ _ h => h, (.inl ⟨rfl, fun W _ => by kernel_rfl⟩), trivial, ?_⟩
            refine twoH (o := ?o4) (o' := ?p4) 1 4 (by kernel_rfl) ?h4 ?g4 ?r4 ?s4
            case h4 => simp only [aT, aS, aZ]; rfl
            case g4 => simp only [aT, aS, aZ]; rfl
            case r4 =>
              intro K hK
              have c5 := HDd.out.loc.cell 5
              simp only [aT, aS, aZ] at c5
              refine op_value (.slice b2 n2 c2) rfl (by go_simp) ⟨_, by simp [Act.put]; rfl, hK _ _ ⟨trivial, ?_⟩⟩
              clear hK c5
              refine onlyH (o := ?o5) 4 (by kernel_rfl) ?h5 ?r5
              case h5 => simp only [aT, aS, aZ]; rfl
              intro K hK
              refine op_call2v 61 _ _ _ Try.f61 (fun v w' => ∃ x i' h', v = .int .i64 x ∧ 0 ≤ x ∧ x < m ∧ Cur w' q a len cap zs i' h' ∧ WD.grownBy w' (some q)) rfl rfl Try.func61 (by kernel_rfl) (by kernel_rfl) ((l1Below_any q a len cap zs i14 h14 m WD HDd.out.held.cur hlen (by omega) (by omega)).mono (by rintro e w' ⟨x, i', h', rfl, r⟩; exact ⟨_, rfl, x, i', h', rfl, r⟩)) ?_
              rintro v wb2 ⟨z, ib2, hb2, rfl, z0, z1, C9, g9⟩
              have HB2 : Hid (LocG w q a len cap zs ib2 hb2 L id x10 true x12 nx xs ts b1 n1 c1 b2 n2 c2 F G wb2) := HDd.out.next hq C9 g9
              obtain ⟨zo, hzo⟩ : ∃ n, n = 1 + z := ⟨_, rfl⟩
              have hwz : IntKind.i64.wrap (1 + z) = zo := by rw [hzo]; exact wrapD (by omega) (by omega)
              have HZ : Hid (InB (zo, zo)) := ⟨⟨by show 0 ≤ zo; omega, by show zo ≤ 9999; omega⟩, by show 0 ≤ zo; omega, by show zo ≤ 9999; omega⟩
              clear C9 g9 HDd
              refine ⟨_, by simp [Act.put]; rfl, hK _ _ ⟨trivial, ?_⟩⟩
              clear hK
              refine takeH (o := ?o6) 5 (.int .i64 zo) ?h6 ?r6
              case h6 => simp only [aT, aS, aZ]; rfl
              refine ⟨_, by simp [Act.put]; rfl, by kernel_rfl, by kernel_rfl, by kernel_rfl, fun _ _ _ h => h, (.inl ⟨rfl, fun W _ => by first | (go_simp; done) | (go_simp; exact hwz)⟩), trivial, ?_⟩
              refine onlyH (o := ?o7) 6 (by kernel_rfl) ?h7 ?r7
              case h7 => simp only [aT, aS, aZ]; rfl
              intro K hK
              refine op_call1 62 _ _ Try.f62 (fun v w' => v = .agg #[.int .i64 zo, .int .i64 zo] ∧ Below wb2.heap.size wb2 w') rfl rfl Try.func62 (by kernel_rfl) (by kernel_rfl) ((l8One_any zo wb2).mono (by rintro e w' ⟨rfl, r⟩; exact ⟨_, rfl, rfl, r⟩)) ?_
              rintro v wb3 ⟨rfl, bz⟩
              have HB3 : Hid (LocG w q a len cap zs ib2 hb2 L id x10 true x12 nx xs ts b1 n1 c1 b2 n2 c2 F G wb3) := HB2.out.below bz
              clear bz HB2
              refine ⟨_, by simp [Act.put]; rfl, hK _ _ ⟨trivial, ?_⟩⟩
              clear hK
              refine onlyH (o := ?o8) 7 (by kernel_rfl) ?h8 ?r8
              case h8 => simp only [aT, aS, aZ]; rfl
              intro K hK
              have htl := HS.out.tlen
              have HTN : Hid (ts.length = n2) := HB3.out.rp.length
              refine op_call2v 101 _ _ _ Try.f101 (fun v w' => ∃ b' l' c' F', v = .slice b' l' c' ∧ RdP w' b' l' (put ts (zo, zo) false) F' ∧ Own wb3.heap.size w' F' ∧ Below wb3.heap.size wb3 w' ∧ Capd b' l' c') rfl rfl Try.func101 (by kernel_rfl) (by kernel_rfl) ((l5Put_any b2 n2 c2 ts (zo, zo) G wb3 HB3.out.rp (by have := HTN.out; have e : ts.length ≤ kk := htl; omega) (inb_at HS.out.inb HTN.out) HZ.out).mono (by intro e w' hh; obtain ⟨b', l', c', F', rfl, r1, r2, r3, r4⟩ := hh; exact ⟨_, rfl, b', l', c', F', rfl, r1, r2, r3, r4⟩)) ?_
              rintro v wb4 ⟨bq, nq, cq, Gq, rfl, r1, r2, r3, r4⟩
              have lL : L < wb3.heap.size := HB3.out.loc.lt
              have lw : w.heap.size < wb3.heap.size := HB3.out.held.res.lt
              have HP : Hid (RdP wb4 bq nq (put ts (zo, zo) false) Gq ∧ Capd bq nq cq ∧ Own (w.heap.size + 1) wb4 Gq ∧ (∀ b ∈ F, b ∉ Gq) ∧ L ∉ Gq ∧ GrA (w.heap.size + 1) L (.slice b1 n1 c1) n1 xs Gq wb4) := ⟨r1, r4, r2.mono (by omega), (fun b hb hx => by have h1 := r2.ge _ hx; have h2 := HB3.out.rl.lt b hb; omega), fun hx => by have h1 := r2.ge _ hx; omega, (HB3.out.gr.fresh (fun b hb => r2.ge b hb)).below r3⟩
              have HB4 : Hid (LocG w q a len cap zs ib2 hb2 L id x10 true x12 nx xs ts b1 n1 c1 b2 n2 c2 F G wb4) := HB3.out.below r3
              clear r1 r2 r3 r4 HB3 lL lw htl HTN
              refine ⟨_, by simp [Act.put]; rfl, hK _ _ ⟨trivial, ?_⟩⟩
              clear hK
              refine takeH (o := ?o9) 8 (.pointer (some ⟨L, 5, none⟩)) ?h9 ?r9
              case h9 => simp only [aT, aS, aZ]; rfl
              refine ⟨_, by simp [Act.put]; rfl, by kernel_rfl, by kernel_rfl, by kernel_rfl, fun _ _ _ h => h, (.inl ⟨rfl, fun W _ => by kernel_rfl⟩), trivial, ?_⟩
              refine onlyH (o := ?o10) 9 (by kernel_rfl) ?h10 ?r10
              case h10 => simp only [aT, aS, aZ]; rfl
              intro K hK
              have c5 := HB4.out.loc.cell 5
              have f5 := HB4.out.loc.frozen 5
              simp only [aT, aS, aZ] at c5
              have HDA : Hid (LocG w q a len cap zs ib2 hb2 L id x10 true x12 nx xs (put ts (zo, zo) false) b1 n1 c1 bq nq cq F Gq (wb4.setCell ⟨L, 5, none⟩ (.slice bq nq cq))) := HB4.out.put hq HA.out HP.out.1 HP.out.2.1 HP.out.2.2.1 HP.out.2.2.2.1 HP.out.2.2.2.2.1 HP.out.2.2.2.2.2
              refine op_skip (wb4.setCell ⟨L, 5, none⟩ (.slice bq nq cq)) rfl (by go_simp) ⟨_, by simp [Act.put]; rfl, hK _ _ ⟨trivial, ?_⟩⟩
              clear hK c5 f5 HB4 HP
              refine wpAnyH_done (by kernel_rfl) ?_ _
              have HI2 : Hid ((Ag.mk id x10 true x12 xs (put ts (zo, zo) false) nx).small 6 (kk + 1)) := ⟨HS.out.full, put_inb HS.out.inb HZ.out, HS.out.len, by have := put_length ts (zo, zo) false; have e9 : ts.length ≤ kk := HS.out.tlen; show (put ts (zo, zo) false).length ≤ _; omega⟩
              obtain ⟨WA, hWA⟩ : ∃ W, W = (wb4.setCell ⟨L, 5, none⟩ (.slice bq nq cq)) := ⟨_, rfl⟩
              rw [← hWA] at HDA ⊢
              clear hWA
              go_wp2
              go_roundw
              case rel => exact ⟨kk + 1, put ts (zo, zo) false, bq, nq, cq, Gq, ib2, hb2, by omega, by go_num, HDA, HI2⟩
              case measure => simp [intOf]; omega
            case s4 =>
              intro K hK
              refine op_call2v 61 _ _ _ Try.f61 (fun v w' => ∃ x i' h', v = .int .i64 x ∧ 0 ≤ x ∧ x < m ∧ Cur w' q a len cap zs i' h' ∧ WD.grownBy w' (some q)) rfl rfl Try.func61 (by kernel_rfl) (by kernel_rfl) ((l1Below_any q a len cap zs i14 h14 m WD HDd.out.held.cur hlen (by omega) (by omega)).mono (by rintro e w' ⟨x, i', h', rfl, r⟩; exact ⟨_, rfl, x, i', h', rfl, r⟩)) ?_
              rintro v wb6 ⟨z, ib6, hb6, rfl, z0, z1, C9, g9⟩
              have HB6 : Hid (LocG w q a len cap zs ib6 hb6 L id x10 true x12 nx xs ts b1 n1 c1 b2 n2 c2 F G wb6) := HDd.out.next hq C9 g9
              obtain ⟨zo, hzo⟩ : ∃ n, n = 1 + z := ⟨_, rfl⟩
              have hwz : IntKind.i64.wrap (1 + z) = zo := by rw [hzo]; exact wrapD (by omega) (by omega)
              have HZ : Hid (InB (zo, zo)) := ⟨⟨by show 0 ≤ zo; omega, by show zo ≤ 9999; omega⟩, by show 0 ≤ zo; omega, by show zo ≤ 9999; omega⟩
              clear C9 g9 HDd
              refine ⟨_, by simp [Act.put]; rfl, hK _ _ ⟨trivial, ?_⟩⟩
              clear hK
              refine takeH (o := ?o11) 5 (.int .i64 zo) ?h11 ?r11
              case h11 => simp only [aT, aS, aZ]; rfl
              refine ⟨_, by simp [Act.put]; rfl, by kernel_rfl, by kernel_rfl, by kernel_rfl, fun _ _ _ h => h, (.inl ⟨rfl, fun W _ => by first | (go_simp; done) | (go_simp; exact hwz)⟩), trivial, ?_⟩
              refine twoH (o := ?o12) (o' := ?p12) 1 6 (by kernel_rfl) ?h12 ?g12 ?r12 ?s12
              case h12 => simp only [aT, aS, aZ]; rfl
              case g12 => simp only [aT, aS, aZ]; rfl
              case r12 =>
                intro K hK
                have c5 := HB6.out.loc.cell 5
                simp only [aT, aS, aZ] at c5
                refine op_value (.slice b2 n2 c2) rfl (by go_simp) ⟨_, by simp [Act.put]; rfl, hK _ _ ⟨trivial, ?_⟩⟩
                clear hK c5
                refine onlyH (o := ?o13) 6 (by kernel_rfl) ?h13 ?r13
                case h13 => simp only [aT, aS, aZ]; rfl
                intro K hK
                refine op_call1 62 _ _ Try.f62 (fun v w' => v = .agg #[.int .i64 zo, .int .i64 zo] ∧ Below wb6.heap.size wb6 w') rfl rfl Try.func62 (by kernel_rfl) (by kernel_rfl) ((l8One_any zo wb6).mono (by rintro e w' ⟨rfl, r⟩; exact ⟨_, rfl, rfl, r⟩)) ?_
                rintro v wb8 ⟨rfl, bz⟩
                have HB8 : Hid (LocG w q a len cap zs ib6 hb6 L id x10 true x12 nx xs ts b1 n1 c1 b2 n2 c2 F G wb8) := HB6.out.below bz
                clear bz HB6
                refine ⟨_, by simp [Act.put]; rfl, hK _ _ ⟨trivial, ?_⟩⟩
                clear hK
                refine onlyH (o := ?o14) 7 (by kernel_rfl) ?h14 ?r14
                case h14 => simp only [aT, aS, aZ]; rfl
                intro K hK
                have htl := HS.out.tlen
                have HTN : Hid (ts.length = n2) := HB8.out.rp.length
                refine op_call2v 101 _ _ _ Try.f101 (fun v w' => ∃ b' l' c' F', v = .slice b' l' c' ∧ RdP w' b' l' (put ts (zo, zo) false) F' ∧ Own wb8.heap.size w' F' ∧ Below wb8.heap.size wb8 w' ∧ Capd b' l' c') rfl rfl Try.func101 (by kernel_rfl) (by kernel_rfl) ((l5Put_any b2 n2 c2 ts (zo, zo) G wb8 HB8.out.rp (by have := HTN.out; have e : ts.length ≤ kk := htl; omega) (inb_at HS.out.inb HTN.out) HZ.out).mono (by intro e w' hh; obtain ⟨b', l', c', F', rfl, r1, r2, r3, r4⟩ := hh; exact ⟨_, rfl, b', l', c', F', rfl, r1, r2, r3, r4⟩)) ?_
                rintro v wb9 ⟨bq, nq, cq, Gq, rfl, r1, r2, r3, r4⟩
                have lL : L < wb8.heap.size := HB8.out.loc.lt
                have lw : w.heap.size < wb8.heap.size := HB8.out.held.res.lt
                have HP : Hid (RdP wb9 bq nq (put ts (zo, zo) false) Gq ∧ Capd bq nq cq ∧ Own (w.heap.size + 1) wb9 Gq ∧ (∀ b ∈ F, b ∉ Gq) ∧ L ∉ Gq ∧ GrA (w.heap.size + 1) L (.slice b1 n1 c1) n1 xs Gq wb9) := ⟨r1, r4, r2.mono (by omega), (fun b hb hx => by have h1 := r2.ge _ hx; have h2 := HB8.out.rl.lt b hb; omega), fun hx => by have h1 := r2.ge _ hx; omega, (HB8.out.gr.fresh (fun b hb => r2.ge b hb)).below r3⟩
                have HB9 : Hid (LocG w q a len cap zs ib6 hb6 L id x10 true x12 nx xs ts b1 n1 c1 b2 n2 c2 F G wb9) := HB8.out.below r3
                clear r1 r2 r3 r4 HB8 lL lw htl HTN
                refine ⟨_, by simp [Act.put]; rfl, hK _ _ ⟨trivial, ?_⟩⟩
                clear hK
                refine takeH (o := ?o15) 8 (.pointer (some ⟨L, 5, none⟩)) ?h15 ?r15
                case h15 => simp only [aT, aS, aZ]; rfl
                refine ⟨_, by simp [Act.put]; rfl, by kernel_rfl, by kernel_rfl, by kernel_rfl, fun _ _ _ h => h, (.inl ⟨rfl, fun W _ => by kernel_rfl⟩), trivial, ?_⟩
                refine onlyH (o := ?o16) 9 (by kernel_rfl) ?h16 ?r16
                case h16 => simp only [aT, aS, aZ]; rfl
                intro K hK
                have c5 := HB9.out.loc.cell 5
                have f5 := HB9.out.loc.frozen 5
                simp only [aT, aS, aZ] at c5
                have HDA : Hid (LocG w q a len cap zs ib6 hb6 L id x10 true x12 nx xs (put ts (zo, zo) false) b1 n1 c1 bq nq cq F Gq (wb9.setCell ⟨L, 5, none⟩ (.slice bq nq cq))) := HB9.out.put hq HA.out HP.out.1 HP.out.2.1 HP.out.2.2.1 HP.out.2.2.2.1 HP.out.2.2.2.2.1 HP.out.2.2.2.2.2
                refine op_skip (wb9.setCell ⟨L, 5, none⟩ (.slice bq nq cq)) rfl (by go_simp) ⟨_, by simp [Act.put]; rfl, hK _ _ ⟨trivial, ?_⟩⟩
                clear hK c5 f5 HB9 HP
                refine wpAnyH_done (by kernel_rfl) ?_ _
                have HI2 : Hid ((Ag.mk id x10 true x12 xs (put ts (zo, zo) false) nx).small 6 (kk + 1)) := ⟨HS.out.full, put_inb HS.out.inb HZ.out, HS.out.len, by have := put_length ts (zo, zo) false; have e9 : ts.length ≤ kk := HS.out.tlen; show (put ts (zo, zo) false).length ≤ _; omega⟩
                obtain ⟨WA, hWA⟩ : ∃ W, W = (wb9.setCell ⟨L, 5, none⟩ (.slice bq nq cq)) := ⟨_, rfl⟩
                rw [← hWA] at HDA ⊢
                clear hWA
                go_wp2
                go_roundw
                case rel => exact ⟨kk + 1, put ts (zo, zo) false, bq, nq, cq, Gq, ib6, hb6, by omega, by go_num, HDA, HI2⟩
                case measure => simp [intOf]; omega
              case s12 =>
                intro K hK
                refine op_call1 62 _ _ Try.f62 (fun v w' => v = .agg #[.int .i64 zo, .int .i64 zo] ∧ Below wb6.heap.size wb6 w') rfl rfl Try.func62 (by kernel_rfl) (by kernel_rfl) ((l8One_any zo wb6).mono (by rintro e w' ⟨rfl, r⟩; exact ⟨_, rfl, rfl, r⟩)) ?_
                rintro v wb11 ⟨rfl, bz⟩
                have HB11 : Hid (LocG w q a len cap zs ib6 hb6 L id x10 true x12 nx xs ts b1 n1 c1 b2 n2 c2 F G wb11) := HB6.out.below bz
                clear bz HB6
                refine ⟨_, by simp [Act.put]; rfl, hK _ _ ⟨trivial, ?_⟩⟩
                clear hK
                refine onlyH (o := ?o17) 1 (by kernel_rfl) ?h17 ?r17
                case h17 => simp only [aT, aS, aZ]; rfl
                intro K hK
                have c5 := HB11.out.loc.cell 5
                simp only [aT, aS, aZ] at c5
                refine op_value (.slice b2 n2 c2) rfl (by go_simp) ⟨_, by simp [Act.put]; rfl, hK _ _ ⟨trivial, ?_⟩⟩
                clear hK c5
                refine onlyH (o := ?o18) 7 (by kernel_rfl) ?h18 ?r18
                case h18 => simp only [aT, aS, aZ]; rfl
                intro K hK
                have htl := HS.out.tlen
                have HTN : Hid (ts.length = n2) := HB11.out.rp.length
                refine op_call2v 101 _ _ _ Try.f101 (fun v w' => ∃ b' l' c' F', v = .slice b' l' c' ∧ RdP w' b' l' (put ts (zo, zo) false) F' ∧ Own wb11.heap.size w' F' ∧ Below wb11.heap.size wb11 w' ∧ Capd b' l' c') rfl rfl Try.func101 (by kernel_rfl) (by kernel_rfl) ((l5Put_any b2 n2 c2 ts (zo, zo) G wb11 HB11.out.rp (by have := HTN.out; have e : ts.length ≤ kk := htl; omega) (inb_at HS.out.inb HTN.out) HZ.out).mono (by intro e w' hh; obtain ⟨b', l', c', F', rfl, r1, r2, r3, r4⟩ := hh; exact ⟨_, rfl, b', l', c', F', rfl, r1, r2, r3, r4⟩)) ?_
                rintro v wb13 ⟨bq, nq, cq, Gq, rfl, r1, r2, r3, r4⟩
                have lL : L < wb11.heap.size := HB11.out.loc.lt
                have lw : w.heap.size < wb11.heap.size := HB11.out.held.res.lt
                have HP : Hid (RdP wb13 bq nq (put ts (zo, zo) false) Gq ∧ Capd bq nq cq ∧ Own (w.heap.size + 1) wb13 Gq ∧ (∀ b ∈ F, b ∉ Gq) ∧ L ∉ Gq ∧ GrA (w.heap.size + 1) L (.slice b1 n1 c1) n1 xs Gq wb13) := ⟨r1, r4, r2.mono (by omega), (fun b hb hx => by have h1 := r2.ge _ hx; have h2 := HB11.out.rl.lt b hb; omega), fun hx => by have h1 := r2.ge _ hx; omega, (HB11.out.gr.fresh (fun b hb => r2.ge b hb)).below r3⟩
                have HB13 : Hid (LocG w q a len cap zs ib6 hb6 L id x10 true x12 nx xs ts b1 n1 c1 b2 n2 c2 F G wb13) := HB11.out.below r3
                clear r1 r2 r3 r4 HB11 lL lw htl HTN
                refine ⟨_, by simp [Act.put]; rfl, hK _ _ ⟨trivial, ?_⟩⟩
                clear hK
                refine takeH (o := ?o19) 8 (.pointer (some ⟨L, 5, none⟩)) ?h19 ?r19
                case h19 => simp only [aT, aS, aZ]; rfl
                refine ⟨_, by simp [Act.put]; rfl, by kernel_rfl, by kernel_rfl, by kernel_rfl, fun _ _ _ h => h, (.inl ⟨rfl, fun W _ => by kernel_rfl⟩), trivial, ?_⟩
                refine onlyH (o := ?o20) 9 (by kernel_rfl) ?h20 ?r20
                case h20 => simp only [aT, aS, aZ]; rfl
                intro K hK
                have c5 := HB13.out.loc.cell 5
                have f5 := HB13.out.loc.frozen 5
                simp only [aT, aS, aZ] at c5
                have HDA : Hid (LocG w q a len cap zs ib6 hb6 L id x10 true x12 nx xs (put ts (zo, zo) false) b1 n1 c1 bq nq cq F Gq (wb13.setCell ⟨L, 5, none⟩ (.slice bq nq cq))) := HB13.out.put hq HA.out HP.out.1 HP.out.2.1 HP.out.2.2.1 HP.out.2.2.2.1 HP.out.2.2.2.2.1 HP.out.2.2.2.2.2
                refine op_skip (wb13.setCell ⟨L, 5, none⟩ (.slice bq nq cq)) rfl (by go_simp) ⟨_, by simp [Act.put]; rfl, hK _ _ ⟨trivial, ?_⟩⟩
                clear hK c5 f5 HB13 HP
                refine wpAnyH_done (by kernel_rfl) ?_ _
                have HI2 : Hid ((Ag.mk id x10 true x12 xs (put ts (zo, zo) false) nx).small 6 (kk + 1)) := ⟨HS.out.full, put_inb HS.out.inb HZ.out, HS.out.len, by have := put_length ts (zo, zo) false; have e9 : ts.length ≤ kk := HS.out.tlen; show (put ts (zo, zo) false).length ≤ _; omega⟩
                obtain ⟨WA, hWA⟩ : ∃ W, W = (wb13.setCell ⟨L, 5, none⟩ (.slice bq nq cq)) := ⟨_, rfl⟩
                rw [← hWA] at HDA ⊢
                clear hWA
                go_wp2
                go_roundw
                case rel => exact ⟨kk + 1, put ts (zo, zo) false, bq, nq, cq, Gq, ib6, hb6, by omega, by go_num, HDA, HI2⟩
                case measure => simp [intOf]; omega
          · have HS2 : Hid ((Ag.mk id x10 true x12 xs ts nx).small 6 2) := ⟨HS.out.full, HS.out.inb, HS.out.len, by have := HS.out.tlen; omega⟩
            have hcc : (decide ((kk : Int) < mm) && decide (m > 0)) = false := by
              by_cases e1 : (kk : Int) < mm
              · have : ¬ m > 0 := fun e2 => hgo ⟨e1, e2⟩
                simp [this]
              · simp [e1]
            by_cases e1 : (kk : Int) < mm
            · have hcd2 : decide ((kk : Int) < mm) = true := decT e1
              have hcm : decide (m > 0) = false := dec_false (fun e2 => hgo ⟨e1, e2⟩)
              clear hcc HS
              go_wp2_with fail
              refine (l1Below_any q a len cap zs i14 h14 8 _ HD.out.held.cur hlen (by omega) (by omega)).mono ?_
              rintro e w15 ⟨x15, i15, h15, rfl, _, _, C15, g15⟩
              have HF : Hid (LocG w q a len cap zs i15 h15 L id x10 true x12 nx xs ts b1 n1 c1 b2 n2 c2 F G w15) := HD.out.next hq C15 g15
              clear C15 g15 HD
              have c6' := HF.out.loc.cell 6
              have fz6 := HF.out.loc.frozen 6
              simp only [aT, aS, aZ] at c6'
              go_wp2_with (first | go_skip | (with_reducible refine stopLoad 27 rfl ?_))
              have HE0 := HF.out.set hq HA.out 6 (.int .i64 x15) (id' := id) (ep' := x10) (lv' := true) (gr' := x12) (nx' := x15) rfl
              obtain ⟨WE, hWE⟩ : ∃ W, W = w15.setCell ⟨L, 6, none⟩ (.int .i64 x15) := ⟨_, rfl⟩
              rw [← hWE] at HE0 ⊢
              have HE : Hid (LocG w q a len cap zs i15 h15 L id x10 true x12 x15 xs ts b1 n1 c1 b2 n2 c2 F G WE) := HE0
              have HS3 : Hid ((Ag.mk id x10 true x12 xs ts x15).small 6 2) := ⟨HS2.out.full, HS2.out.inb, HS2.out.len, HS2.out.tlen⟩
              clear HE0 hWE HF c6' fz6 HS2
              refine load_known 27 L _ 27 _ HE.out.loc rfl rfl rfl Try.underlying27 rfl infoAgG ?_
              go_wp2_with (first | go_skip | (with_reducible refine stopStore 27 rfl ?_))
              refine store_known 27 w.heap.size _ #[.int .i64 id, .int .i64 x10, .bool true, .int .i64 x12, .slice b1 n1 c1, .slice b2 n2 c2, .int .i64 x15] 27 HE.out.held.res rfl rfl rfl rfl infoAgG rfl (by simp [Value.oneCell']) ?_
              go_wp2
              refine bodyPost_ret (results_cell_row Try.results82 _ _ w.heap.size _ _ (0, 0) _ rfl HE.out.held.res.setRow Try.underlying27 rfl infoAgG) rfl ?_
              exact HE.out.done HS3.out hq HA.out
            · have hcd2 : decide ((kk : Int) < mm) = false := dec_false e1
              clear hcc HS
              go_wp2_with fail
              refine (l1Below_any q a len cap zs i14 h14 8 _ HD.out.held.cur hlen (by omega) (by omega)).mono ?_
              rintro e w15 ⟨x15, i15, h15, rfl, _, _, C15, g15⟩
              have HF : Hid (LocG w q a len cap zs i15 h15 L id x10 true x12 nx xs ts b1 n1 c1 b2 n2 c2 F G w15) := HD.out.next hq C15 g15
              clear C15 g15 HD
              have c6' := HF.out.loc.cell 6
              have fz6 := HF.out.loc.frozen 6
              simp only [aT, aS, aZ] at c6'
              go_wp2_with (first | go_skip | (with_reducible refine stopLoad 27 rfl ?_))
              have HE0 := HF.out.set hq HA.out 6 (.int .i64 x15) (id' := id) (ep' := x10) (lv' := true) (gr' := x12) (nx' := x15) rfl
              obtain ⟨WE, hWE⟩ : ∃ W, W = w15.setCell ⟨L, 6, none⟩ (.int .i64 x15) := ⟨_, rfl⟩
              rw [← hWE] at HE0 ⊢
              have HE : Hid (LocG w q a len cap zs i15 h15 L id x10 true x12 x15 xs ts b1 n1 c1 b2 n2 c2 F G WE) := HE0
              have HS3 : Hid ((Ag.mk id x10 true x12 xs ts x15).small 6 2) := ⟨HS2.out.full, HS2.out.inb, HS2.out.len, HS2.out.tlen⟩
              clear HE0 hWE HF c6' fz6 HS2
              refine load_known 27 L _ 27 _ HE.out.loc rfl rfl rfl Try.underlying27 rfl infoAgG ?_
              go_wp2_with (first | go_skip | (with_reducible refine stopStore 27 rfl ?_))
              refine store_known 27 w.heap.size _ #[.int .i64 id, .int .i64 x10, .bool true, .int .i64 x12, .slice b1 n1 c1, .slice b2 n2 c2, .int .i64 x15] 27 HE.out.held.res rfl rfl rfl rfl infoAgG rfl (by simp [Value.oneCell']) ?_
              go_wp2
              refine bodyPost_ret (results_cell_row Try.results82 _ _ w.heap.size _ _ (0, 0) _ rfl HE.out.held.res.setRow Try.underlying27 rfl infoAgG) rfl ?_
              exact HE.out.done HS3.out hq HA.out
      · have HE : Hid (LocG w q a len cap zs i11 h11 L id x10 lv gr nx xs ts b1 n1 c1 b2 n2 c2 F G w11) := HF.out
        have HSF : Hid ((Ag.mk id x10 lv gr xs ts nx).small 6 0) := HSE.out
        clear HF HSE
        go_wp2_with fail
        refine (l1Below_any q a len cap zs i11 h11 3 _ HE.out.held.cur hlen (by omega) (by omega)).mono ?_
        rintro e w13 ⟨mm, i13, h13, rfl, mm0, mm1, C13, g13⟩
        have HF : Hid (LocG w q a len cap zs i13 h13 L id x10 lv gr nx xs ts b1 n1 c1 b2 n2 c2 F G w13) := HE.out.next hq C13 g13
        clear C13 g13 HE
        go_wp2
        go_loopw [9] (fun i wr => ∃ (k : Nat) (ts : Sp) (b2 : Option Addr) (n2 c2 : Nat) (G : List Nat) (i' h' : Int), (k : Int) ≤ mm ∧ i = .int .i64 k ∧ Hid (LocG w q a len cap zs i' h' L id x10 lv gr nx xs ts b1 n1 c1 b2 n2 c2 F G wr) ∧ Hid ((Ag.mk id x10 lv gr xs ts nx).small 6 k)) (fun i _ => (mm - intOf i).toNat)
        case atStart => exact ⟨0, ts, b2, n2, c2, G, i13, h13, by omega, rfl, HF, HSF⟩
        case round =>
          clear HF HSF
          obtain ⟨kk, ts, b2, n2, c2, G, i14, h14, hkk, rfl, HD, HS⟩ := hrel
          by_cases hgo : (kk : Int) < mm ∧ 0 < m
          · obtain ⟨hlt2, hm0⟩ := hgo
            have hcd2 : decide ((kk : Int) < mm) = true := decT hlt2
            have hcm : decide (m > 0) = true := decT hm0
            go_wp2
            obtain ⟨WD, hWD⟩ : ∃ W, W = wr.drew := ⟨_, rfl⟩
            have HDd0 := HD.out.drew
            rw [← hWD] at HDd0
            have HDd : Hid (LocG w q a len cap zs i14 h14 L id x10 lv gr nx xs ts b1 n1 c1 b2 n2 c2 F G WD) := HDd0
            clear HDd0 HD
            refine wp_region_held (S := fun _ => True) (by kernel_rfl) ?_
            change wpAnyH _ _ _ _ _ _ _ _ (World.drew _)
            rw [← hWD]
            clear hWD
            refine takeH (o := ?o21) 0 (.pointer (some ⟨L, 5, none⟩)) ?h21 ?r21
            case h21 => simp only [aT, aZ]; rfl
            refine ⟨_, by simp [Act.put]; rfl, by kernel_rfl, by kernel_rfl, by kernel_rfl, fun _ _ _ h => h, (.inl ⟨rfl, fun W _ => by kernel_rfl⟩), trivial, ?_⟩
            refine takeH (o := ?o22) 2 (.pointer (some ⟨q, 0, none⟩)) ?h22 ?r22
            case h22 => simp only [aT, aS, aZ]; rfl
            refine ⟨_, by simp [Act.put]; rfl, by kernel_rfl, by kernel_rfl, by kernel_rfl, fun _ _ _ h => h, (.inl ⟨rfl, fun W _ => by kernel_rfl⟩), trivial, ?_⟩
            refine takeH (o := ?o23) 3 (.int .i64 m) ?h23 ?r23
            case h23 => simp only [aT, aS, aZ]; rfl
            refine ⟨_, by simp [Act.put]; rfl, by kernel_rfl, by kernel_rfl, by kernel_rfl, fun _ _ _ h => h, (.inl ⟨rfl, fun W _ => by kernel_rfl⟩), trivial, ?_⟩
            refine twoH (o := ?o24) (o' := ?p24) 1 4 (by kernel_rfl) ?h24 ?g24 ?r24 ?s24
            case h24 => simp only [aT, aS, aZ]; rfl
            case g24 => simp only [aT, aS, aZ]; rfl
            case r24 =>
              intro K hK
              have c5 := HDd.out.loc.cell 5
              simp only [aT, aS, aZ] at c5
              refine op_value (.slice b2 n2 c2) rfl (by go_simp) ⟨_, by simp [Act.put]; rfl, hK _ _ ⟨trivial, ?_⟩⟩
              clear hK c5
              refine onlyH (o := ?o25) 4 (by kernel_rfl) ?h25 ?r25
              case h25 => simp only [aT, aS, aZ]; rfl
              intro K hK
              refine op_call2v 61 _ _ _ Try.f61 (fun v w' => ∃ x i' h', v = .int .i64 x ∧ 0 ≤ x ∧ x < m ∧ Cur w' q a len cap zs i' h' ∧ WD.grownBy w' (some q)) rfl rfl Try.func61 (by kernel_rfl) (by kernel_rfl) ((l1Below_any q a len cap zs i14 h14 m WD HDd.out.held.cur hlen (by omega) (by omega)).mono (by rintro e w' ⟨x, i', h', rfl, r⟩; exact ⟨_, rfl, x, i', h', rfl, r⟩)) ?_
              rintro v wb2 ⟨z, ib2, hb2, rfl, z0, z1, C9, g9⟩
              have HB2 : Hid (LocG w q a len cap zs ib2 hb2 L id x10 lv gr nx xs ts b1 n1 c1 b2 n2 c2 F G wb2) := HDd.out.next hq C9 g9
              obtain ⟨zo, hzo⟩ : ∃ n, n = 1 + z := ⟨_, rfl⟩
              have hwz : IntKind.i64.wrap (1 + z) = zo := by rw [hzo]; exact wrapD (by omega) (by omega)
              have HZ : Hid (InB (zo, zo)) := ⟨⟨by show 0 ≤ zo; omega, by show zo ≤ 9999; omega⟩, by show 0 ≤ zo; omega, by show zo ≤ 9999; omega⟩
              clear C9 g9 HDd
              refine ⟨_, by simp [Act.put]; rfl, hK _ _ ⟨trivial, ?_⟩⟩
              clear hK
              refine takeH (o := ?o26) 5 (.int .i64 zo) ?h26 ?r26
              case h26 => simp only [aT, aS, aZ]; rfl
              refine ⟨_, by simp [Act.put]; rfl, by kernel_rfl, by kernel_rfl, by kernel_rfl, fun _ _ _ h => h, (.inl ⟨rfl, fun W _ => by first | (go_simp; done) | (go_simp; exact hwz)⟩), trivial, ?_⟩
              refine onlyH (o := ?o27) 6 (by kernel_rfl) ?h27 ?r27
              case h27 => simp only [aT, aS, aZ]; rfl
              intro K hK
              refine op_call1 62 _ _ Try.f62 (fun v w' => v = .agg #[.int .i64 zo, .int .i64 zo] ∧ Below wb2.heap.size wb2 w') rfl rfl Try.func62 (by kernel_rfl) (by kernel_rfl) ((l8One_any zo wb2).mono (by rintro e w' ⟨rfl, r⟩; exact ⟨_, rfl, rfl, r⟩)) ?_
              rintro v wb3 ⟨rfl, bz⟩
              have HB3 : Hid (LocG w q a len cap zs ib2 hb2 L id x10 lv gr nx xs ts b1 n1 c1 b2 n2 c2 F G wb3) := HB2.out.below bz
              clear bz HB2
              refine ⟨_, by simp [Act.put]; rfl, hK _ _ ⟨trivial, ?_⟩⟩
              clear hK
              refine onlyH (o := ?o28) 7 (by kernel_rfl) ?h28 ?r28
              case h28 => simp only [aT, aS, aZ]; rfl
              intro K hK
              have htl := HS.out.tlen
              have HTN : Hid (ts.length = n2) := HB3.out.rp.length
              refine op_call2v 101 _ _ _ Try.f101 (fun v w' => ∃ b' l' c' F', v = .slice b' l' c' ∧ RdP w' b' l' (put ts (zo, zo) false) F' ∧ Own wb3.heap.size w' F' ∧ Below wb3.heap.size wb3 w' ∧ Capd b' l' c') rfl rfl Try.func101 (by kernel_rfl) (by kernel_rfl) ((l5Put_any b2 n2 c2 ts (zo, zo) G wb3 HB3.out.rp (by have := HTN.out; have e : ts.length ≤ kk := htl; omega) (inb_at HS.out.inb HTN.out) HZ.out).mono (by intro e w' hh; obtain ⟨b', l', c', F', rfl, r1, r2, r3, r4⟩ := hh; exact ⟨_, rfl, b', l', c', F', rfl, r1, r2, r3, r4⟩)) ?_
              rintro v wb4 ⟨bq, nq, cq, Gq, rfl, r1, r2, r3, r4⟩
              have lL : L < wb3.heap.size := HB3.out.loc.lt
              have lw : w.heap.size < wb3.heap.size := HB3.out.held.res.lt
              have HP : Hid (RdP wb4 bq nq (put ts (zo, zo) false) Gq ∧ Capd bq nq cq ∧ Own (w.heap.size + 1) wb4 Gq ∧ (∀ b ∈ F, b ∉ Gq) ∧ L ∉ Gq ∧ GrA (w.heap.size + 1) L (.slice b1 n1 c1) n1 xs Gq wb4) := ⟨r1, r4, r2.mono (by omega), (fun b hb hx => by have h1 := r2.ge _ hx; have h2 := HB3.out.rl.lt b hb; omega), fun hx => by have h1 := r2.ge _ hx; omega, (HB3.out.gr.fresh (fun b hb => r2.ge b hb)).below r3⟩
              have HB4 : Hid (LocG w q a len cap zs ib2 hb2 L id x10 lv gr nx xs ts b1 n1 c1 b2 n2 c2 F G wb4) := HB3.out.below r3
              clear r1 r2 r3 r4 HB3 lL lw htl HTN
              refine ⟨_, by simp [Act.put]; rfl, hK _ _ ⟨trivial, ?_⟩⟩
              clear hK
              refine takeH (o := ?o29) 8 (.pointer (some ⟨L, 5, none⟩)) ?h29 ?r29
              case h29 => simp only [aT, aS, aZ]; rfl
              refine ⟨_, by simp [Act.put]; rfl, by kernel_rfl, by kernel_rfl, by kernel_rfl, fun _ _ _ h => h, (.inl ⟨rfl, fun W _ => by kernel_rfl⟩), trivial, ?_⟩
              refine onlyH (o := ?o30) 9 (by kernel_rfl) ?h30 ?r30
              case h30 => simp only [aT, aS, aZ]; rfl
              intro K hK
              have c5 := HB4.out.loc.cell 5
              have f5 := HB4.out.loc.frozen 5
              simp only [aT, aS, aZ] at c5
              have HDA : Hid (LocG w q a len cap zs ib2 hb2 L id x10 lv gr nx xs (put ts (zo, zo) false) b1 n1 c1 bq nq cq F Gq (wb4.setCell ⟨L, 5, none⟩ (.slice bq nq cq))) := HB4.out.put hq HA.out HP.out.1 HP.out.2.1 HP.out.2.2.1 HP.out.2.2.2.1 HP.out.2.2.2.2.1 HP.out.2.2.2.2.2
              refine op_skip (wb4.setCell ⟨L, 5, none⟩ (.slice bq nq cq)) rfl (by go_simp) ⟨_, by simp [Act.put]; rfl, hK _ _ ⟨trivial, ?_⟩⟩
              clear hK c5 f5 HB4 HP
              refine wpAnyH_done (by kernel_rfl) ?_ _
              have HI2 : Hid ((Ag.mk id x10 lv gr xs (put ts (zo, zo) false) nx).small 6 (kk + 1)) := ⟨HS.out.full, put_inb HS.out.inb HZ.out, HS.out.len, by have := put_length ts (zo, zo) false; have e9 : ts.length ≤ kk := HS.out.tlen; show (put ts (zo, zo) false).length ≤ _; omega⟩
              obtain ⟨WA, hWA⟩ : ∃ W, W = (wb4.setCell ⟨L, 5, none⟩ (.slice bq nq cq)) := ⟨_, rfl⟩
              rw [← hWA] at HDA ⊢
              clear hWA
              go_wp2
              go_roundw
              case rel => exact ⟨kk + 1, put ts (zo, zo) false, bq, nq, cq, Gq, ib2, hb2, by omega, by go_num, HDA, HI2⟩
              case measure => simp [intOf]; omega
            case s24 =>
              intro K hK
              refine op_call2v 61 _ _ _ Try.f61 (fun v w' => ∃ x i' h', v = .int .i64 x ∧ 0 ≤ x ∧ x < m ∧ Cur w' q a len cap zs i' h' ∧ WD.grownBy w' (some q)) rfl rfl Try.func61 (by kernel_rfl) (by kernel_rfl) ((l1Below_any q a len cap zs i14 h14 m WD HDd.out.held.cur hlen (by omega) (by omega)).mono (by rintro e w' ⟨x, i', h', rfl, r⟩; exact ⟨_, rfl, x, i', h', rfl, r⟩)) ?_
              rintro v wb6 ⟨z, ib6, hb6, rfl, z0, z1, C9, g9⟩
              have HB6 : Hid (LocG w q a len cap zs ib6 hb6 L id x10 lv gr nx xs ts b1 n1 c1 b2 n2 c2 F G wb6) := HDd.out.next hq C9 g9
              obtain ⟨zo, hzo⟩ : ∃ n, n = 1 + z := ⟨_, rfl⟩
              have hwz : IntKind.i64.wrap (1 + z) = zo := by rw [hzo]; exact wrapD (by omega) (by omega)
              have HZ : Hid (InB (zo, zo)) := ⟨⟨by show 0 ≤ zo; omega, by show zo ≤ 9999; omega⟩, by show 0 ≤ zo; omega, by show zo ≤ 9999; omega⟩
              clear C9 g9 HDd
              refine ⟨_, by simp [Act.put]; rfl, hK _ _ ⟨trivial, ?_⟩⟩
              clear hK
              refine takeH (o := ?o31) 5 (.int .i64 zo) ?h31 ?r31
              case h31 => simp only [aT, aS, aZ]; rfl
              refine ⟨_, by simp [Act.put]; rfl, by kernel_rfl, by kernel_rfl, by kernel_rfl, fun _ _ _ h => h, (.inl ⟨rfl, fun W _ => by first | (go_simp; done) | (go_simp; exact hwz)⟩), trivial, ?_⟩
              refine twoH (o := ?o32) (o' := ?p32) 1 6 (by kernel_rfl) ?h32 ?g32 ?r32 ?s32
              case h32 => simp only [aT, aS, aZ]; rfl
              case g32 => simp only [aT, aS, aZ]; rfl
              case r32 =>
                intro K hK
                have c5 := HB6.out.loc.cell 5
                simp only [aT, aS, aZ] at c5
                refine op_value (.slice b2 n2 c2) rfl (by go_simp) ⟨_, by simp [Act.put]; rfl, hK _ _ ⟨trivial, ?_⟩⟩
                clear hK c5
                refine onlyH (o := ?o33) 6 (by kernel_rfl) ?h33 ?r33
                case h33 => simp only [aT, aS, aZ]; rfl
                intro K hK
                refine op_call1 62 _ _ Try.f62 (fun v w' => v = .agg #[.int .i64 zo, .int .i64 zo] ∧ Below wb6.heap.size wb6 w') rfl rfl Try.func62 (by kernel_rfl) (by kernel_rfl) ((l8One_any zo wb6).mono (by rintro e w' ⟨rfl, r⟩; exact ⟨_, rfl, rfl, r⟩)) ?_
                rintro v wb8 ⟨rfl, bz⟩
                have HB8 : Hid (LocG w q a len cap zs ib6 hb6 L id x10 lv gr nx xs ts b1 n1 c1 b2 n2 c2 F G wb8) := HB6.out.below bz
                clear bz HB6
                refine ⟨_, by simp [Act.put]; rfl, hK _ _ ⟨trivial, ?_⟩⟩
                clear hK
                refine onlyH (o := ?o34) 7 (by kernel_rfl) ?h34 ?r34
                case h34 => simp only [aT, aS, aZ]; rfl
                intro K hK
                have htl := HS.out.tlen
                have HTN : Hid (ts.length = n2) := HB8.out.rp.length
                refine op_call2v 101 _ _ _ Try.f101 (fun v w' => ∃ b' l' c' F', v = .slice b' l' c' ∧ RdP w' b' l' (put ts (zo, zo) false) F' ∧ Own wb8.heap.size w' F' ∧ Below wb8.heap.size wb8 w' ∧ Capd b' l' c') rfl rfl Try.func101 (by kernel_rfl) (by kernel_rfl) ((l5Put_any b2 n2 c2 ts (zo, zo) G wb8 HB8.out.rp (by have := HTN.out; have e : ts.length ≤ kk := htl; omega) (inb_at HS.out.inb HTN.out) HZ.out).mono (by intro e w' hh; obtain ⟨b', l', c', F', rfl, r1, r2, r3, r4⟩ := hh; exact ⟨_, rfl, b', l', c', F', rfl, r1, r2, r3, r4⟩)) ?_
                rintro v wb9 ⟨bq, nq, cq, Gq, rfl, r1, r2, r3, r4⟩
                have lL : L < wb8.heap.size := HB8.out.loc.lt
                have lw : w.heap.size < wb8.heap.size := HB8.out.held.res.lt
                have HP : Hid (RdP wb9 bq nq (put ts (zo, zo) false) Gq ∧ Capd bq nq cq ∧ Own (w.heap.size + 1) wb9 Gq ∧ (∀ b ∈ F, b ∉ Gq) ∧ L ∉ Gq ∧ GrA (w.heap.size + 1) L (.slice b1 n1 c1) n1 xs Gq wb9) := ⟨r1, r4, r2.mono (by omega), (fun b hb hx => by have h1 := r2.ge _ hx; have h2 := HB8.out.rl.lt b hb; omega), fun hx => by have h1 := r2.ge _ hx; omega, (HB8.out.gr.fresh (fun b hb => r2.ge b hb)).below r3⟩
                have HB9 : Hid (LocG w q a len cap zs ib6 hb6 L id x10 lv gr nx xs ts b1 n1 c1 b2 n2 c2 F G wb9) := HB8.out.below r3
                clear r1 r2 r3 r4 HB8 lL lw htl HTN
                refine ⟨_, by simp [Act.put]; rfl, hK _ _ ⟨trivial, ?_⟩⟩
                clear hK
                refine takeH (o := ?o35) 8 (.pointer (some ⟨L, 5, none⟩)) ?h35 ?r35
                case h35 => simp only [aT, aS, aZ]; rfl
                refine ⟨_, by simp [Act.put]; rfl, by kernel_rfl, by kernel_rfl, by kernel_rfl, fun _ _ _ h => h, (.inl ⟨rfl, fun W _ => by kernel_rfl⟩), trivial, ?_⟩
                refine onlyH (o := ?o36) 9 (by kernel_rfl) ?h36 ?r36
                case h36 => simp only [aT, aS, aZ]; rfl
                intro K hK
                have c5 := HB9.out.loc.cell 5
                have f5 := HB9.out.loc.frozen 5
                simp only [aT, aS, aZ] at c5
                have HDA : Hid (LocG w q a len cap zs ib6 hb6 L id x10 lv gr nx xs (put ts (zo, zo) false) b1 n1 c1 bq nq cq F Gq (wb9.setCell ⟨L, 5, none⟩ (.slice bq nq cq))) := HB9.out.put hq HA.out HP.out.1 HP.out.2.1 HP.out.2.2.1 HP.out.2.2.2.1 HP.out.2.2.2.2.1 HP.out.2.2.2.2.2
                refine op_skip (wb9.setCell ⟨L, 5, none⟩ (.slice bq nq cq)) rfl (by go_simp) ⟨_, by simp [Act.put]; rfl, hK _ _ ⟨trivial, ?_⟩⟩
                clear hK c5 f5 HB9 HP
                refine wpAnyH_done (by kernel_rfl) ?_ _
                have HI2 : Hid ((Ag.mk id x10 lv gr xs (put ts (zo, zo) false) nx).small 6 (kk + 1)) := ⟨HS.out.full, put_inb HS.out.inb HZ.out, HS.out.len, by have := put_length ts (zo, zo) false; have e9 : ts.length ≤ kk := HS.out.tlen; show (put ts (zo, zo) false).length ≤ _; omega⟩
                obtain ⟨WA, hWA⟩ : ∃ W, W = (wb9.setCell ⟨L, 5, none⟩ (.slice bq nq cq)) := ⟨_, rfl⟩
                rw [← hWA] at HDA ⊢
                clear hWA
                go_wp2
                go_roundw
                case rel => exact ⟨kk + 1, put ts (zo, zo) false, bq, nq, cq, Gq, ib6, hb6, by omega, by go_num, HDA, HI2⟩
                case measure => simp [intOf]; omega
              case s32 =>
                intro K hK
                refine op_call1 62 _ _ Try.f62 (fun v w' => v = .agg #[.int .i64 zo, .int .i64 zo] ∧ Below wb6.heap.size wb6 w') rfl rfl Try.func62 (by kernel_rfl) (by kernel_rfl) ((l8One_any zo wb6).mono (by rintro e w' ⟨rfl, r⟩; exact ⟨_, rfl, rfl, r⟩)) ?_
                rintro v wb11 ⟨rfl, bz⟩
                have HB11 : Hid (LocG w q a len cap zs ib6 hb6 L id x10 lv gr nx xs ts b1 n1 c1 b2 n2 c2 F G wb11) := HB6.out.below bz
                clear bz HB6
                refine ⟨_, by simp [Act.put]; rfl, hK _ _ ⟨trivial, ?_⟩⟩
                clear hK
                refine onlyH (o := ?o37) 1 (by kernel_rfl) ?h37 ?r37
                case h37 => simp only [aT, aS, aZ]; rfl
                intro K hK
                have c5 := HB11.out.loc.cell 5
                simp only [aT, aS, aZ] at c5
                refine op_value (.slice b2 n2 c2) rfl (by go_simp) ⟨_, by simp [Act.put]; rfl, hK _ _ ⟨trivial, ?_⟩⟩
                clear hK c5
                refine onlyH (o := ?o38) 7 (by kernel_rfl) ?h38 ?r38
                case h38 => simp only [aT, aS, aZ]; rfl
                intro K hK
                have htl := HS.out.tlen
                have HTN : Hid (ts.length = n2) := HB11.out.rp.length
                refine op_call2v 101 _ _ _ Try.f101 (fun v w' => ∃ b' l' c' F', v = .slice b' l' c' ∧ RdP w' b' l' (put ts (zo, zo) false) F' ∧ Own wb11.heap.size w' F' ∧ Below wb11.heap.size wb11 w' ∧ Capd b' l' c') rfl rfl Try.func101 (by kernel_rfl) (by kernel_rfl) ((l5Put_any b2 n2 c2 ts (zo, zo) G wb11 HB11.out.rp (by have := HTN.out; have e : ts.length ≤ kk := htl; omega) (inb_at HS.out.inb HTN.out) HZ.out).mono (by intro e w' hh; obtain ⟨b', l', c', F', rfl, r1, r2, r3, r4⟩ := hh; exact ⟨_, rfl, b', l', c', F', rfl, r1, r2, r3, r4⟩)) ?_
                rintro v wb13 ⟨bq, nq, cq, Gq, rfl, r1, r2, r3, r4⟩
                have lL : L < wb11.heap.size := HB11.out.loc.lt
                have lw : w.heap.size < wb11.heap.size := HB11.out.held.res.lt
                have HP : Hid (RdP wb13 bq nq (put ts (zo, zo) false) Gq ∧ Capd bq nq cq ∧ Own (w.heap.size + 1) wb13 Gq ∧ (∀ b ∈ F, b ∉ Gq) ∧ L ∉ Gq ∧ GrA (w.heap.size + 1) L (.slice b1 n1 c1) n1 xs Gq wb13) := ⟨r1, r4, r2.mono (by omega), (fun b hb hx => by have h1 := r2.ge _ hx; have h2 := HB11.out.rl.lt b hb; omega), fun hx => by have h1 := r2.ge _ hx; omega, (HB11.out.gr.fresh (fun b hb => r2.ge b hb)).below r3⟩
                have HB13 : Hid (LocG w q a len cap zs ib6 hb6 L id x10 lv gr nx xs ts b1 n1 c1 b2 n2 c2 F G wb13) := HB11.out.below r3
                clear r1 r2 r3 r4 HB11 lL lw htl HTN
                refine ⟨_, by simp [Act.put]; rfl, hK _ _ ⟨trivial, ?_⟩⟩
                clear hK
                refine takeH (o := ?o39) 8 (.pointer (some ⟨L, 5, none⟩)) ?h39 ?r39
                case h39 => simp only [aT, aS, aZ]; rfl
                refine ⟨_, by simp [Act.put]; rfl, by kernel_rfl, by kernel_rfl, by kernel_rfl, fun _ _ _ h => h, (.inl ⟨rfl, fun W _ => by kernel_rfl⟩), trivial, ?_⟩
                refine onlyH (o := ?o40) 9 (by kernel_rfl) ?h40 ?r40
                case h40 => simp only [aT, aS, aZ]; rfl
                intro K hK
                have c5 := HB13.out.loc.cell 5
                have f5 := HB13.out.loc.frozen 5
                simp only [aT, aS, aZ] at c5
                have HDA : Hid (LocG w q a len cap zs ib6 hb6 L id x10 lv gr nx xs (put ts (zo, zo) false) b1 n1 c1 bq nq cq F Gq (wb13.setCell ⟨L, 5, none⟩ (.slice bq nq cq))) := HB13.out.put hq HA.out HP.out.1 HP.out.2.1 HP.out.2.2.1 HP.out.2.2.2.1 HP.out.2.2.2.2.1 HP.out.2.2.2.2.2
                refine op_skip (wb13.setCell ⟨L, 5, none⟩ (.slice bq nq cq)) rfl (by go_simp) ⟨_, by simp [Act.put]; rfl, hK _ _ ⟨trivial, ?_⟩⟩
                clear hK c5 f5 HB13 HP
                refine wpAnyH_done (by kernel_rfl) ?_ _
                have HI2 : Hid ((Ag.mk id x10 lv gr xs (put ts (zo, zo) false) nx).small 6 (kk + 1)) := ⟨HS.out.full, put_inb HS.out.inb HZ.out, HS.out.len, by have := put_length ts (zo, zo) false; have e9 : ts.length ≤ kk := HS.out.tlen; show (put ts (zo, zo) false).length ≤ _; omega⟩
                obtain ⟨WA, hWA⟩ : ∃ W, W = (wb13.setCell ⟨L, 5, none⟩ (.slice bq nq cq)) := ⟨_, rfl⟩
                rw [← hWA] at HDA ⊢
                clear hWA
                go_wp2
                go_roundw
                case rel => exact ⟨kk + 1, put ts (zo, zo) false, bq, nq, cq, Gq, ib6, hb6, by omega, by go_num, HDA, HI2⟩
                case measure => simp [intOf]; omega
          · have HS2 : Hid ((Ag.mk id x10 lv gr xs ts nx).small 6 2) := ⟨HS.out.full, HS.out.inb, HS.out.len, by have := HS.out.tlen; omega⟩
            have hcc : (decide ((kk : Int) < mm) && decide (m > 0)) = false := by
              by_cases e1 : (kk : Int) < mm
              · have : ¬ m > 0 := fun e2 => hgo ⟨e1, e2⟩
                simp [this]
              · simp [e1]
            by_cases e1 : (kk : Int) < mm
            · have hcd2 : decide ((kk : Int) < mm) = true := decT e1
              have hcm : decide (m > 0) = false := dec_false (fun e2 => hgo ⟨e1, e2⟩)
              clear hcc HS
              go_wp2_with fail
              refine (l1Below_any q a len cap zs i14 h14 8 _ HD.out.held.cur hlen (by omega) (by omega)).mono ?_
              rintro e w15 ⟨x15, i15, h15, rfl, _, _, C15, g15⟩
              have HF : Hid (LocG w q a len cap zs i15 h15 L id x10 lv gr nx xs ts b1 n1 c1 b2 n2 c2 F G w15) := HD.out.next hq C15 g15
              clear C15 g15 HD
              have c6' := HF.out.loc.cell 6
              have fz6 := HF.out.loc.frozen 6
              simp only [aT, aS, aZ] at c6'
              go_wp2_with (first | go_skip | (with_reducible refine stopLoad 27 rfl ?_))
              have HE0 := HF.out.set hq HA.out 6 (.int .i64 x15) (id' := id) (ep' := x10) (lv' := lv) (gr' := gr) (nx' := x15) rfl
              obtain ⟨WE, hWE⟩ : ∃ W, W = w15.setCell ⟨L, 6, none⟩ (.int .i64 x15) := ⟨_, rfl⟩
              rw [← hWE] at HE0 ⊢
              have HE : Hid (LocG w q a len cap zs i15 h15 L id x10 lv gr x15 xs ts b1 n1 c1 b2 n2 c2 F G WE) := HE0
              have HS3 : Hid ((Ag.mk id x10 lv gr xs ts x15).small 6 2) := ⟨HS2.out.full, HS2.out.inb, HS2.out.len, HS2.out.tlen⟩
              clear HE0 hWE HF c6' fz6 HS2
              refine load_known 27 L _ 27 _ HE.out.loc rfl rfl rfl Try.underlying27 rfl infoAgG ?_
              go_wp2_with (first | go_skip | (with_reducible refine stopStore 27 rfl ?_))
              refine store_known 27 w.heap.size _ #[.int .i64 id, .int .i64 x10, .bool lv, .int .i64 gr, .slice b1 n1 c1, .slice b2 n2 c2, .int .i64 x15] 27 HE.out.held.res rfl rfl rfl rfl infoAgG rfl (by simp [Value.oneCell']) ?_
              go_wp2
              refine bodyPost_ret (results_cell_row Try.results82 _ _ w.heap.size _ _ (0, 0) _ rfl HE.out.held.res.setRow Try.underlying27 rfl infoAgG) rfl ?_
              exact HE.out.done HS3.out hq HA.out
            · have hcd2 : decide ((kk : Int) < mm) = false := dec_false e1
              clear hcc HS
              go_wp2_with fail
              refine (l1Below_any q a len cap zs i14 h14 8 _ HD.out.held.cur hlen (by omega) (by omega)).mono ?_
              rintro e w15 ⟨x15, i15, h15, rfl, _, _, C15, g15⟩
              have HF : Hid (LocG w q a len cap zs i15 h15 L id x10 lv gr nx xs ts b1 n1 c1 b2 n2 c2 F G w15) := HD.out.next hq C15 g15
              clear C15 g15 HD
              have c6' := HF.out.loc.cell 6
              have fz6 := HF.out.loc.frozen 6
              simp only [aT, aS, aZ] at c6'
              go_wp2_with (first | go_skip | (with_reducible refine stopLoad 27 rfl ?_))
              have HE0 := HF.out.set hq HA.out 6 (.int .i64 x15) (id' := id) (ep' := x10) (lv' := lv) (gr' := gr) (nx' := x15) rfl
              obtain ⟨WE, hWE⟩ : ∃ W, W = w15.setCell ⟨L, 6, none⟩ (.int .i64 x15) := ⟨_, rfl⟩
              rw [← hWE] at HE0 ⊢
              have HE : Hid (LocG w q a len cap zs i15 h15 L id x10 lv gr x15 xs ts b1 n1 c1 b2 n2 c2 F G WE) := HE0
              have HS3 : Hid ((Ag.mk id x10 lv gr xs ts x15).small 6 2) := ⟨HS2.out.full, HS2.out.inb, HS2.out.len, HS2.out.tlen⟩
              clear HE0 hWE HF c6' fz6 HS2
              refine load_known 27 L _ 27 _ HE.out.loc rfl rfl rfl Try.underlying27 rfl infoAgG ?_
              go_wp2_with (first | go_skip | (with_reducible refine stopStore 27 rfl ?_))
              refine store_known 27 w.heap.size _ #[.int .i64 id, .int .i64 x10, .bool lv, .int .i64 gr, .slice b1 n1 c1, .slice b2 n2 c2, .int .i64 x15] 27 HE.out.held.res rfl rfl rfl rfl infoAgG rfl (by simp [Value.oneCell']) ?_
              go_wp2
              refine bodyPost_ret (results_cell_row Try.results82 _ _ w.heap.size _ _ (0, 0) _ rfl HE.out.held.res.setRow Try.underlying27 rfl infoAgG) rfl ?_
              exact HE.out.done HS3.out hq HA.out
end Go.Proofs.Ytgkbhhlkaifnoaa
/- The walk through the model's l7Draw. No statement of the seat is proved here. -/
namespace Go.Proofs.Ytgkbhhlkaifnoaa
open Go.RowKit
/-- A frame that is being worked on. -/
structure LocD (w : World) (q : Nat) (a : Option Addr) (len cap : Nat) (zs : List Int) (i h : Int) (L : Nat) (fc : Array Value) (f : Fr) (F G : List Nat) (W : World) : Prop where
  held : HeldR w q a len cap zs i h #[.int .i64 0, .int .i64 0, .int .i64 0, .int .i64 0, .slice none 0 0, .int .i64 0, .int .i64 0, .int .i64 0, .int .i64 0, .int .i64 0, .int .i64 0, .int .i64 0, .int .i64 0, .slice none 0 0, .slice none 0 0, .slice none 0 0] 38 W
  loc : Blk W L fc 38
  rd : RdFr W (.agg fc) f F G
  ownF : Own (w.heap.size + 1) W F
  ownG : Own (w.heap.size + 1) W G
  ap : ∀ b ∈ F, b ∉ G
  nF : L ∉ F
  nG : L ∉ G
  gt : w.heap.size < L
  wide : f.item.sk.wide
  many : f.taken.length ≤ 20
section
variable {w W W' : World} {q : Nat} {a : Option Addr} {len cap : Nat} {zs : List Int} {i h i' h' : Int} {L : Nat} {fc : Array Value} {f : Fr} {F G : List Nat}
theorem LocD.next (H : LocD w q a len cap zs i h L fc f F G W) (hq : q < w.heap.size) (C : Cur W' q a len cap zs i' h') (g : W.grownBy W' (some q)) : LocD w q a len cap zs i' h' L fc f F G W' := by
  have agF : Agree W W' F := fun x hx => g.block x (H.rd.lt1 x hx) (fun e => by have := H.ownF.ge x hx; simp at e; omega)
  have agG : Agree W W' G := fun x hx => g.block x (H.rd.lt2 x hx) (fun e => by have := H.ownG.ge x hx; simp at e; omega)
  have gt := H.gt
  exact ⟨H.held.next hq C g, H.loc.grown g (by omega), H.rd.agree agF agG, H.ownF.agree agF, H.ownG.agree agG, H.ap, H.nF, H.nG, H.gt, H.wide, H.many⟩
theorem LocD.below (H : LocD w q a len cap zs i h L fc f F G W) (k : Below W.heap.size W W') : LocD w q a len cap zs i h L fc f F G W' := ⟨H.held.below k, H.loc.below k, H.rd.below k, H.ownF.below H.rd.lt1 k, H.ownG.below H.rd.lt2 k, H.ap, H.nF, H.nG, H.gt, H.wide, H.many⟩
theorem LocD.done (H : LocD w q a len cap zs i h L fc f F G W) (hq : q < w.heap.size) (ha : ∀ b, (∃ off, a = some ⟨b, off, none⟩ ∧ 0 < len) → b < w.heap.size) : DrewFrame w q a len cap zs (.returned (.agg fc)) (W.setRow w.heap.size fc) := by
  have nF : w.heap.size ∉ F := fun hx => by have := H.ownF.ge _ hx; omega
  have nG : w.heap.size ∉ G := fun hx => by have := H.ownG.ge _ hx; omega
  exact ⟨_, f, F, G, i, h, rfl, H.rd.agree (Agree.row nF _) (Agree.row nG _), H.wide, H.many, (H.ownF.agree (Agree.row nF _)).mono (by omega), (H.ownG.agree (Agree.row nG _)).mono (by omega), H.ap, cur_row H.held.cur (by omega) (fun b hb => by have := ha b hb; omega), grown_row H.held.grown (Nat.le_refl _)⟩
theorem HeldR.cell {cs : Array Value} {t : TypeId} (H : HeldR w q a len cap zs i h cs t W) (hq : q < w.heap.size) (ha : ∀ b, (∃ off, a = some ⟨b, off, none⟩ ∧ 0 < len) → b < w.heap.size) (hL : w.heap.size < L) (j : Nat) (v : Value) : HeldR w q a len cap zs i h cs t (W.setCell ⟨L, j, none⟩ v) :=
  ⟨H.res.setOther (by omega) _ _, cur_cell H.cur (by omega) (fun x hx => by have := ha x hx; omega), grown_cell H.grown (by omega)⟩
theorem HeldR.row {cs : Array Value} {t : TypeId} (H : HeldR w q a len cap zs i h cs t W) (hq : q < w.heap.size) (ha : ∀ b, (∃ off, a = some ⟨b, off, none⟩ ∧ 0 < len) → b < w.heap.size) (hL : w.heap.size < L) (E : Array Value) : HeldR w q a len cap zs i h cs t (W.setRow L E) :=
  ⟨H.res.setRowOther (by omega), cur_row H.cur (by omega) (fun x hx => by have := ha x hx; omega), grown_row H.grown (by omega)⟩
end
end Go.Proofs.Ytgkbhhlkaifnoaa
/- The walks through the model's drawing of agents, behind l8Right. No statement of the seat is proved here. -/
namespace Go.Proofs.Ytgkbhhlkaifnoaa
open Go.RowKit
/-- A drawn agent's lists are short, its sketches full, its spans 64 bit numbers. -/
def Sm8 (xs : List It) (ts : Sp) : Prop := (∀ y ∈ xs, y.sk.full) ∧ xs.length ≤ 7 ∧ ts.length ≤ 8 ∧ ts.fit
def DrewA8 (w : World) (q : Nat) (a : Option Addr) (len cap : Nat) (zs : List Int) (e : Ending) (w' : World) : Prop :=
  ∃ v x F G i' h', e = .returned v ∧ RdAg w' v x F G ∧ Sm8 x.sealed x.taken ∧ Own w.heap.size w' F ∧ Own w.heap.size w' G ∧ (∀ b ∈ F, b ∉ G) ∧ Cur w' q a len cap zs i' h' ∧ w.grownBy w' (some q)
structure LocE (w : World) (q : Nat) (a : Option Addr) (len cap : Nat) (zs : List Int) (i h : Int) (L : Nat) (id ep : Int) (lv : Bool) (gr nx : Int) (xs : List It) (ts : Sp) (b1 : Option Addr) (n1 c1 : Nat) (b2 : Option Addr) (n2 c2 : Nat) (F G : List Nat) (W : World) : Prop where
  held : HeldR w q a len cap zs i h #[.int .i64 0, .int .i64 0, .bool false, .int .i64 0, .slice none 0 0, .slice none 0 0, .int .i64 0] 27 W
  loc : Blk W L #[.int .i64 id, .int .i64 ep, .bool lv, .int .i64 gr, .slice b1 n1 c1, .slice b2 n2 c2, .int .i64 nx] 27
  rl : RdL itK W b1 n1 xs F
  rp : RdP W b2 n2 ts G
  k1 : Capd b1 n1 c1
  k2 : Capd b2 n2 c2
  o1 : Own (w.heap.size + 1) W F
  o2 : Own (w.heap.size + 1) W G
  dj : ∀ b ∈ F, b ∉ G
section
variable {w W W' : World} {q : Nat} {a : Option Addr} {len cap : Nat} {zs : List Int} {i h i' h' : Int} {L : Nat} {id ep : Int} {lv : Bool} {gr nx : Int} {xs : List It} {ts : Sp} {b1 : Option Addr} {n1 c1 : Nat} {b2 : Option Addr} {n2 c2 : Nat} {F G : List Nat}
theorem LocG.e (H : LocG w q a len cap zs i h L id ep lv gr nx xs ts b1 n1 c1 b2 n2 c2 F G W) : LocE w q a len cap zs i h L id ep lv gr nx xs ts b1 n1 c1 b2 n2 c2 F G W := ⟨H.held, H.loc, H.rl, H.rp, H.k1, H.k2, H.o1, H.o2, H.dj⟩
theorem LocE.done (H : LocE w q a len cap zs i h L id ep lv gr nx xs ts b1 n1 c1 b2 n2 c2 F G W) (hs : Sm8 xs ts) (hq : q < w.heap.size) (ha : ∀ b, (∃ off, a = some ⟨b, off, none⟩ ∧ 0 < len) → b < w.heap.size) : DrewA8 w q a len cap zs (.returned (.agg #[.int .i64 id, .int .i64 ep, .bool lv, .int .i64 gr, .slice b1 n1 c1, .slice b2 n2 c2, .int .i64 nx])) (W.setRow w.heap.size #[.int .i64 id, .int .i64 ep, .bool lv, .int .i64 gr, .slice b1 n1 c1, .slice b2 n2 c2, .int .i64 nx]) := by
  have nF : w.heap.size ∉ F := fun hx => by have := H.o1.ge _ hx; omega
  have nG : w.heap.size ∉ G := fun hx => by have := H.o2.ge _ hx; omega
  exact ⟨_, ⟨id, ep, lv, gr, xs, ts, nx⟩, F, G, i, h, rfl, ⟨b1, n1, c1, b2, n2, c2, rfl, H.rl.agree (Agree.row nF _), H.rp.agree (Agree.row nG _), H.k1, H.k2⟩, hs, (H.o1.agree (Agree.row nF _)).mono (by omega), (H.o2.agree (Agree.row nG _)).mono (by omega), H.dj, cur_row H.held.cur (by omega) (fun b hb => by have := ha b hb; omega), grown_row H.held.grown (Nat.le_refl _)⟩
theorem LocG.list (H : LocG w q a len cap zs i h L id ep lv gr nx xs ts b1 n1 c1 b2 n2 c2 F G W) (hq : q < w.heap.size) (ha : ∀ b, (∃ off, a = some ⟨b, off, none⟩ ∧ 0 < len) → b < w.heap.size) {row : Option Nat} (hgrow : W.grownBy W' row) {g4 : Option Addr} {m c4 : Nat} {ys : List It} {F' : List Nat} (r : RdL itK W' g4 m ys F') (o : Own (w.heap.size + 1) W' F') (cp : Capd g4 m c4) (dj : ∀ b ∈ F', b ≠ L ∧ b ∉ G) (hk : ∀ b, b < W.heap.size → (b < w.heap.size + 1 ∨ b = L ∨ b ∈ G) → W'.heap[b]? = W.heap[b]?) :
    Blk W' L #[.int .i64 id, .int .i64 ep, .bool lv, .int .i64 gr, .slice b1 n1 c1, .slice b2 n2 c2, .int .i64 nx] 27 ∧ LocE w q a len cap zs i h L id ep lv gr nx ys ts g4 m c4 b2 n2 c2 F' G (W'.setCell ⟨L, 4, none⟩ (.slice g4 m c4)) := by
  have hgt := H.gt
  have hr := H.held.res.lt
  have hC := H.held.cur
  have lc : Blk W' L #[.int .i64 id, .int .i64 ep, .bool lv, .int .i64 gr, .slice b1 n1 c1, .slice b2 n2 c2, .int .i64 nx] 27 := H.loc.agree (hk L H.loc.lt (.inr (.inl rfl)))
  have cu : Cur W' q a len cap zs i h := cur_agree hC (World.block_lt_of_cell? _ _ hC.c0) (hk q (by omega) (.inl (by omega))) (fun b _ hx => hk b (by have := ha b hx; omega) (.inl (by have := ha b hx; omega)))
  have gw : w.grownBy W' (some q) := ⟨hgrow.os.trans H.held.grown.os, hgrow.tape.trans H.held.grown.tape, hgrow.output.trans H.held.grown.output, Nat.le_trans H.held.grown.size hgrow.size, fun b hb hn => (hk b (by omega) (.inl (by omega))).trans (H.held.grown.block b hb hn)⟩
  have agF : Agree W' (W'.setCell ⟨L, 4, none⟩ (.slice g4 m c4)) F' := .set (fun hx => (dj L hx).1 rfl) 4 _
  have agG : Agree W W' G := fun b hb => hk b (H.rp.lt b hb) (.inr (.inr hb))
  have agG2 : Agree W' (W'.setCell ⟨L, 4, none⟩ (.slice g4 m c4)) G := .set H.a2 4 _
  exact ⟨lc, ⟨⟨(H.held.res.agree (hk _ hr (.inl (by omega)))).setOther (by omega) _ _, cur_cell cu (by omega) (fun b hb => by have := ha b hb; omega), grown_cell gw (by omega)⟩, lc.set 4 _, r.agree agF, (H.rp.agree agG).agree agG2, cp, H.k2, o.agree agF, (H.o2.agree agG).agree agG2, fun b hb => (dj b hb).2⟩⟩
end
theorem sm8_of {x : Ag} (h : x.small 6 2) : Sm8 x.sealed x.taken := ⟨h.full, by have := h.len; omega, by have := h.tlen; omega, fit_of_inb h.inb⟩
theorem sm8_add {xs : List It} {ts : Sp} (h : Sm8 xs ts) (h6 : xs.length ≤ 6) {y : It} (hy : y.sk.full) : Sm8 (xs ++ [y]) ts :=
  ⟨fun z hz => (List.mem_append.1 hz).elim (h.1 z) (fun hz => by rw [List.mem_singleton.1 hz]; exact hy), by rw [List.length_append]; simp; omega, h.2.2⟩
theorem infoIts8 : (Try.prog.info? 36).map (fun i => (i.zero, i.size, i.bytes)) = some (some (.agg #[.int .i64 0, .int .i64 0, .int .i64 0, .int .i64 0, .int .i64 0, .int .i64 0, .int .i64 0, .int .i64 0, .slice none 0 0, .slice none 0 0, .slice none 0 0]), 11, 136) := by kernel_rfl
set_option maxRecDepth 200000 in
set_option maxHeartbeats 8000000 in
theorem l8Draw_any (q : Nat) (a : Option Addr) (len cap : Nat) (zs : List Int) (i h : Int) (w : World) (C : Cur w q a len cap zs i h) (hlen : len ≤ 1048576) :
    Calls Try.prog 37 #[.pointer (some ⟨q, 0, none⟩)] w fun e w' => DrewA8 w q a len cap zs e w' := by
  obtain ⟨j0, hj, hy0, hy1, hy2⟩ := info_parts infoIts8
  have hq : q < w.heap.size := World.block_lt_of_cell? _ _ C.c0
  have HA : Hid (∀ b, (∃ off, a = some ⟨b, off, none⟩ ∧ 0 < len) → b < w.heap.size) := cur_lt C
  have H0 : Hid (HeldR w q a len cap zs i h #[.int .i64 0, .int .i64 0, .bool false, .int .i64 0, .slice none 0 0, .slice none 0 0, .int .i64 0] 27 (w.alloc (.cells #[.int .i64 0, .int .i64 0, .bool false, .int .i64 0, .slice none 0 0, .slice none 0 0, .int .i64 0] 27))) := HeldR.made C _ _
  clear C
  go_enter Try.func37, Try.ntmps37
  go_wp2_with fail
  refine (l8Right_any q a len cap zs i h _ H0.out.cur hlen).mono ?_
  rintro e w2 ⟨v2, X, F, G, i2, h2, rfl, r2, s2, o2F, o2G, dj2, C2, g2, cs2, z2, ev, ez, gr2⟩
  obtain ⟨id, ep, lv, gr, xs, ts, nx⟩ := X
  obtain ⟨b1, n1, c1, b2, n2, c2, rfl, rL, rP, k1, k2⟩ := r2.opened
  injection ev with ev
  subst ev
  obtain rfl : Value.slice b1 n1 c1 = z2 := Option.some.inj ez
  have en2 : xs.length = n1 := rL.length
  have HG2 : GrA (w.heap.size + 1) w2.heap.size (.slice b1 n1 c1) n1 xs G w2 := by
    have g : GrA (w.heap.size + 1) w2.heap.size (.slice b1 n1 c1) xs.length xs G w2 := gr2.mono (by have := H0.out.res.lt; omega)
    rwa [en2] at g
  have H2 : Hid (HeldR w q a len cap zs i2 h2 #[.int .i64 0, .int .i64 0, .bool false, .int .i64 0, .slice none 0 0, .slice none 0 0, .int .i64 0] 27 w2 ∧ RdL itK w2 b1 n1 xs F ∧ RdP w2 b2 n2 ts G ∧ Capd b1 n1 c1 ∧ Capd b2 n2 c2 ∧ Own (w.heap.size + 1) w2 F ∧ Own (w.heap.size + 1) w2 G ∧ (∀ b ∈ F, b ∉ G) ∧ GrA (w.heap.size + 1) w2.heap.size (.slice b1 n1 c1) n1 xs G w2) := ⟨H0.out.next hq C2 g2, rL, rP, k1, k2, o2F.mono (by have := H0.out.res.lt; omega), o2G.mono (by have := H0.out.res.lt; omega), dj2, HG2⟩
  have HSM : Hid (Sm8 xs ts ∧ xs.length ≤ 6 ∧ xs.length = n1) := ⟨sm8_of s2, s2.len, en2⟩
  clear HG2 en2 gr2 ez r2 rL rP k1 k2 o2F o2G dj2 C2 g2 s2 H0
  go_wp2_with (first | go_skip | (with_reducible refine stopLoad 27 rfl ?_) | (with_reducible refine stopStore 27 rfl ?_))
  refine store_fresh 27 w2.heap.size rfl #[.int .i64 0, .int .i64 0, .bool false, .int .i64 0, .slice none 0 0, .slice none 0 0, .int .i64 0] #[.int .i64 id, .int .i64 ep, .bool lv, .int .i64 gr, .slice b1 n1 c1, .slice b2 n2 c2, .int .i64 nx] 27 rfl rfl rfl rfl infoAgG rfl (by simp [Value.oneCell']) ?_
  intro w3 hg3 hb3
  have H3 : Hid (LocG w q a len cap zs i2 h2 w2.heap.size id ep lv gr nx xs ts b1 n1 c1 b2 n2 c2 F G w3) := ⟨H2.out.1.below hb3, hg3, H2.out.2.1.agree (.below hb3 H2.out.2.1.lt), H2.out.2.2.1.below hb3, H2.out.2.2.2.1, H2.out.2.2.2.2.1, H2.out.2.2.2.2.2.1.below H2.out.2.1.lt hb3, H2.out.2.2.2.2.2.2.1.below H2.out.2.2.1.lt hb3, H2.out.2.2.2.2.2.2.2.1, fun hx => by have := H2.out.2.1.lt _ hx; omega, fun hx => by have := H2.out.2.2.1.lt _ hx; omega, H2.out.1.res.lt, H2.out.2.2.2.2.2.2.2.2.below hb3⟩
  clear hg3 hb3 H2
  go_wp2_with fail
  refine (l1Below_any q a len cap zs i2 h2 14 _ H3.out.held.cur hlen (by omega) (by omega)).mono ?_
  rintro e w6 ⟨m, i6, h6, rfl, m0, m1, C6, g6⟩
  have H6 : Hid (LocG w q a len cap zs i6 h6 w2.heap.size id ep lv gr nx xs ts b1 n1 c1 b2 n2 c2 F G w6) := H3.out.next hq C6 g6
  obtain ⟨L, hL⟩ : ∃ L, L = w2.heap.size := ⟨_, rfl⟩
  rw [← hL] at H6 ⊢
  clear C6 g6 H3 hL
  by_cases hm0 : m = 0
  · subst hm0
    go_wp2_with fail
    have hqw : q < w6.heap.size := World.block_lt_of_cell? _ _ H6.out.held.cur.c0
    refine (pickInt_cur q w6.heap.size 2 a len cap zs i6 h6 [-1, 3] _ (H6.out.held.cur.alloc _) hlen (fun j hj => lit_ints w6 [-1, 3] _ j hj) (by omega) 2 rfl (by omega) (by omega)).mono ?_
    rintro e w7 ⟨y, i7, h7, hy, rfl, C7, g7⟩
    have H7 : Hid (LocG w q a len cap zs i7 h7 L id ep lv gr nx xs ts b1 n1 c1 b2 n2 c2 F G w7) := (H6.out.below ((Below.refl _ _).alloc (Nat.le_refl _) _)).next hq C7 g7
    clear C7 g7 H6 hqw hy
    have c1' := H7.out.loc.cell 0
    have fz1 := H7.out.loc.frozen 0
    simp only [aT, aZ] at c1'
    go_wp2_with (first | go_skip | (with_reducible refine stopLoad 27 rfl ?_) | (with_reducible refine stopStore 27 rfl ?_))
    have HE : Hid (LocG w q a len cap zs i7 h7 L y ep lv gr nx xs ts b1 n1 c1 b2 n2 c2 F G (w7.setCell ⟨L, 0, none⟩ (.int .i64 y))) := H7.out.set hq HA.out 0 (.int .i64 y) (id' := y) (ep' := ep) (lv' := lv) (gr' := gr) (nx' := nx) rfl
    obtain ⟨WE, hWE⟩ : ∃ W, W = w7.setCell ⟨L, 0, none⟩ (.int .i64 y) := ⟨_, rfl⟩
    rw [← hWE] at HE ⊢
    clear hWE H7 c1' fz1
    refine load_known 27 L _ 27 _ HE.out.loc rfl rfl rfl Try.underlying27 rfl infoAgG ?_
    go_wp2_with (first | go_skip | (with_reducible refine stopLoad 27 rfl ?_) | (with_reducible refine stopStore 27 rfl ?_))
    refine store_known 27 w.heap.size _ #[.int .i64 y, .int .i64 ep, .bool lv, .int .i64 gr, .slice b1 n1 c1, .slice b2 n2 c2, .int .i64 nx] 27 HE.out.held.res rfl rfl rfl rfl infoAgG rfl (by simp [Value.oneCell']) ?_
    go_wp2
    refine bodyPost_ret (results_cell_row Try.results37 _ _ w.heap.size _ _ (0, 0) _ rfl HE.out.held.res.setRow Try.underlying27 rfl infoAgG) rfl ?_
    exact HE.out.e.done HSM.out.1 hq HA.out
  have em0 : (m == 0) = false := by simpa using hm0
  by_cases hm1 : m = 1
  · subst hm1
    go_wp2_with fail
    have hqw : q < w6.heap.size := World.block_lt_of_cell? _ _ H6.out.held.cur.c0
    refine (pickInt_cur q w6.heap.size 3 a len cap zs i6 h6 [-1, 60, 61] _ (H6.out.held.cur.alloc _) hlen (fun j hj => lit_ints w6 [-1, 60, 61] _ j hj) (by omega) 3 rfl (by omega) (by omega)).mono ?_
    rintro e w7 ⟨y, i7, h7, hy, rfl, C7, g7⟩
    have H7 : Hid (LocG w q a len cap zs i7 h7 L id ep lv gr nx xs ts b1 n1 c1 b2 n2 c2 F G w7) := (H6.out.below ((Below.refl _ _).alloc (Nat.le_refl _) _)).next hq C7 g7
    clear C7 g7 H6 hqw hy
    have c1' := H7.out.loc.cell 3
    have fz1 := H7.out.loc.frozen 3
    simp only [aT, aS, aZ] at c1'
    go_wp2_with (first | go_skip | (with_reducible refine stopLoad 27 rfl ?_) | (with_reducible refine stopStore 27 rfl ?_))
    have HE : Hid (LocG w q a len cap zs i7 h7 L id ep lv y nx xs ts b1 n1 c1 b2 n2 c2 F G (w7.setCell ⟨L, 3, none⟩ (.int .i64 y))) := H7.out.set hq HA.out 3 (.int .i64 y) (id' := id) (ep' := ep) (lv' := lv) (gr' := y) (nx' := nx) rfl
    obtain ⟨WE, hWE⟩ : ∃ W, W = w7.setCell ⟨L, 3, none⟩ (.int .i64 y) := ⟨_, rfl⟩
    rw [← hWE] at HE ⊢
    clear hWE H7 c1' fz1
    refine load_known 27 L _ 27 _ HE.out.loc rfl rfl rfl Try.underlying27 rfl infoAgG ?_
    go_wp2_with (first | go_skip | (with_reducible refine stopLoad 27 rfl ?_) | (with_reducible refine stopStore 27 rfl ?_))
    refine store_known 27 w.heap.size _ #[.int .i64 id, .int .i64 ep, .bool lv, .int .i64 y, .slice b1 n1 c1, .slice b2 n2 c2, .int .i64 nx] 27 HE.out.held.res rfl rfl rfl rfl infoAgG rfl (by simp [Value.oneCell']) ?_
    go_wp2
    refine bodyPost_ret (results_cell_row Try.results37 _ _ w.heap.size _ _ (0, 0) _ rfl HE.out.held.res.setRow Try.underlying27 rfl infoAgG) rfl ?_
    exact HE.out.e.done HSM.out.1 hq HA.out
  have em1 : (m == 1) = false := by simpa using hm1
  by_cases hm2 : m = 2
  · subst hm2
    go_wp2_with fail
    obtain ⟨WD, hWD⟩ : ∃ W, W = w6.drew := ⟨_, rfl⟩
    have HDd0 := H6.out.drew
    rw [← hWD] at HDd0
    have HDd : Hid (LocG w q a len cap zs i6 h6 L id ep lv gr nx xs ts b1 n1 c1 b2 n2 c2 F G WD) := HDd0
    clear HDd0 H6
    obtain ⟨lo, vs, GG, glo, ggr, _, gow, gGG⟩ := HDd.out.gr
    have HGR : Hid (GrowL itK 36 xs lo n1 (.slice b1 n1 c1) vs GG WD) := ggr
    have HGS : Hid (w.heap.size + 1 ≤ lo ∧ (∀ b, (Value.slice b1 n1 c1).ownBlock = some b → b ≠ L ∧ b ∉ G) ∧ (∀ b ∈ GG, b ≠ L ∧ b ∉ G)) := ⟨glo, gow, gGG⟩
    obtain ⟨M, hM⟩ : ∃ M, M = WD.heap.size := ⟨_, rfl⟩
    have HM : Hid (lo ≤ M ∧ (∀ b, (Value.slice b1 n1 c1).ownBlock = some b → b < M) ∧ (∀ b ∈ GG, b < M) ∧ (∀ b ∈ G, b < M) ∧ L < M) := by rw [hM]; exact ⟨ggr.lts.2.2, ggr.lts.2.1, ggr.lts.1, HDd.out.rp.lt, HDd.out.loc.lt⟩
    have HMW : Hid (M ≤ WD.heap.size) := Nat.le_of_eq hM
    clear glo ggr gow gGG hM
    refine wp_region_held (S := fun _ => True) (by kernel_rfl) ?_
    change wpAnyH _ _ _ _ _ _ _ _ (World.drew _)
    rw [← hWD]
    clear hWD
    refine takeH (o := ?o41) 0 (.pointer (some ⟨L, 4, none⟩)) ?h41 ?r41
    case h41 => simp only [aT, aZ]; rfl
    refine ⟨_, by simp [Act.put]; rfl, by kernel_rfl, by kernel_rfl, by kernel_rfl, fun _ _ _ h => h, (.inl ⟨rfl, fun W _ => by kernel_rfl⟩), trivial, ?_⟩
    refine takeH (o := ?o42) 2 (.pointer (some ⟨q, 0, none⟩)) ?h42 ?r42
    case h42 => simp only [aT, aS, aZ]; rfl
    refine ⟨_, by simp [Act.put]; rfl, by kernel_rfl, by kernel_rfl, by kernel_rfl, fun _ _ _ h => h, (.inl ⟨rfl, fun W _ => by kernel_rfl⟩), trivial, ?_⟩
    refine twoH (o := ?o43) (o' := ?p43) 1 3 (by kernel_rfl) ?h43 ?g43 ?r43 ?s43
    case h43 => simp only [aT, aS, aZ]; rfl
    case g43 => simp only [aT, aS, aZ]; rfl
    case r43 =>
      intro K hK
      have c5 := HDd.out.loc.cell 4
      simp only [aT, aS, aZ] at c5
      refine op_value (.slice b1 n1 c1) rfl (by go_simp) ⟨_, by simp [Act.put]; rfl, hK _ _ ⟨trivial, ?_⟩⟩
      clear hK c5
      refine onlyH (o := ?o44) 3 (by kernel_rfl) ?h44 ?r44
      case h44 => simp only [aT, aS, aZ]; rfl
      intro K hK
      refine op_call1 55 _ _ Try.f55 (fun v w' => DrewItem WD q a len cap zs (.returned v) w') rfl rfl Try.func55 (by kernel_rfl) (by kernel_rfl) ((l6Draw_any q a len cap zs i6 h6 WD HDd.out.held.cur hlen).mono (by intro e w' hh; have hh' := hh; obtain ⟨v, _, _, _, _, rfl, _⟩ := hh'; exact ⟨_, rfl, hh⟩)) ?_
      rintro v wb2 ⟨v', x, Fk, ib2, hb2, ev, r5, s5, o5, C5, g5⟩
      injection ev with ev
      subst ev
      obtain ⟨e1, m1', f1, e2, m2, f2, e3, m3, f3, rfl, rs⟩ := r5
      have HI2 : Hid (RdIt wb2 (.agg #[.int .i64 x.seq, .int .i64 x.cls, .int .i64 x.key, .int .i64 x.window, .int .i64 x.sk.count, .int .i64 x.sk.sum, .int .i64 x.sk.min, .int .i64 x.sk.max, .slice e1 m1' f1, .slice e2 m2 f2, .slice e3 m3 f3]) x Fk ∧ x.sk.full ∧ Own M wb2 Fk) := ⟨⟨e1, m1', f1, e2, m2, f2, e3, m3, f3, rfl, rs⟩, s5, o5.mono HMW.out⟩
      have HB2 : Hid (LocG w q a len cap zs ib2 hb2 L id ep lv gr nx xs ts b1 n1 c1 b2 n2 c2 F G wb2) := HDd.out.next hq C5 g5
      have HQ2 : Hid (GrowL itK 36 xs lo n1 (.slice b1 n1 c1) vs GG wb2) := HGR.out.keep (fun b e => g5.block b (HGR.out.row.lt b e).2 (fun e' => by have := (HGR.out.row.lt b e).1; have := HGS.out.1; simp at e'; omega)) (fun b hb => g5.block b (HGR.out.rd.lt b hb) (fun e' => by have := HGR.out.og.ge b hb; have := HGS.out.1; simp at e'; omega)) g5.size
      have HV2 : Hid (M ≤ wb2.heap.size) := Nat.le_trans HMW.out g5.size
      clear rs s5 o5 C5 g5 HDd HGR HMW
      refine ⟨_, by simp [Act.put]; rfl, hK _ _ ⟨trivial, ?_⟩⟩
      clear hK
      refine onlyH (o := ?o45) 4 (by kernel_rfl) ?h45 ?r45
      case h45 => simp only [aT, aS, aZ]; rfl
      intro K hK
      have bl : Below wb2.heap.size wb2 (wb2.alloc (.cells #[.int .i64 x.seq, .int .i64 x.cls, .int .i64 x.key, .int .i64 x.window, .int .i64 x.sk.count, .int .i64 x.sk.sum, .int .i64 x.sk.min, .int .i64 x.sk.max, .slice e1 m1' f1, .slice e2 m2 f2, .slice e3 m3 f3] 36)) := (Below.refl _ _).alloc (Nat.le_refl _) _
      have HB3 : Hid (LocG w q a len cap zs ib2 hb2 L id ep lv gr nx xs ts b1 n1 c1 b2 n2 c2 F G (wb2.alloc (.cells #[.int .i64 x.seq, .int .i64 x.cls, .int .i64 x.key, .int .i64 x.window, .int .i64 x.sk.count, .int .i64 x.sk.sum, .int .i64 x.sk.min, .int .i64 x.sk.max, .slice e1 m1' f1, .slice e2 m2 f2, .slice e3 m3 f3] 36))) := HB2.out.below bl
      have HI3 : Hid (RdIt (wb2.alloc (.cells #[.int .i64 x.seq, .int .i64 x.cls, .int .i64 x.key, .int .i64 x.window, .int .i64 x.sk.count, .int .i64 x.sk.sum, .int .i64 x.sk.min, .int .i64 x.sk.max, .slice e1 m1' f1, .slice e2 m2 f2, .slice e3 m3 f3] 36)) (.agg #[.int .i64 x.seq, .int .i64 x.cls, .int .i64 x.key, .int .i64 x.window, .int .i64 x.sk.count, .int .i64 x.sk.sum, .int .i64 x.sk.min, .int .i64 x.sk.max, .slice e1 m1' f1, .slice e2 m2 f2, .slice e3 m3 f3]) x Fk ∧ x.sk.full ∧ Own M (wb2.alloc (.cells #[.int .i64 x.seq, .int .i64 x.cls, .int .i64 x.key, .int .i64 x.window, .int .i64 x.sk.count, .int .i64 x.sk.sum, .int .i64 x.sk.min, .int .i64 x.sk.max, .slice e1 m1' f1, .slice e2 m2 f2, .slice e3 m3 f3] 36)) Fk) := ⟨HI2.out.1.below bl, HI2.out.2.1, HI2.out.2.2.below (RdIt.lt HI2.out.1) bl⟩
      have HQ3 : Hid (GrowL itK 36 xs lo n1 (.slice b1 n1 c1) vs GG (wb2.alloc (.cells #[.int .i64 x.seq, .int .i64 x.cls, .int .i64 x.key, .int .i64 x.window, .int .i64 x.sk.count, .int .i64 x.sk.sum, .int .i64 x.sk.min, .int .i64 x.sk.max, .slice e1 m1' f1, .slice e2 m2 f2, .slice e3 m3 f3] 36))) := HQ2.out.below bl
      have HV3 : Hid (M ≤ (wb2.alloc (.cells #[.int .i64 x.seq, .int .i64 x.cls, .int .i64 x.key, .int .i64 x.window, .int .i64 x.sk.count, .int .i64 x.sk.sum, .int .i64 x.sk.min, .int .i64 x.sk.max, .slice e1 m1' f1, .slice e2 m2 f2, .slice e3 m3 f3] 36)).heap.size) := Nat.le_trans HV2.out bl.size
      have NW3 : Hid (∀ j u, (#[.int .i64 x.seq, .int .i64 x.cls, .int .i64 x.key, .int .i64 x.window, .int .i64 x.sk.count, .int .i64 x.sk.sum, .int .i64 x.sk.min, .int .i64 x.sk.max, .slice e1 m1' f1, .slice e2 m2 f2, .slice e3 m3 f3] : Array Value).toList[j]? = some u → ((wb2.alloc (.cells #[.int .i64 x.seq, .int .i64 x.cls, .int .i64 x.key, .int .i64 x.window, .int .i64 x.sk.count, .int .i64 x.sk.sum, .int .i64 x.sk.min, .int .i64 x.sk.max, .slice e1 m1' f1, .slice e2 m2 f2, .slice e3 m3 f3] 36))).cell? ((⟨wb2.heap.size, 0, none⟩ : Addr).add j) = some u) := news_lit _ _ _
      refine op_turn (.slice (some ⟨wb2.heap.size, 0, none⟩) 1 1) (wb2.alloc (.cells #[.int .i64 x.seq, .int .i64 x.cls, .int .i64 x.key, .int .i64 x.window, .int .i64 x.sk.count, .int .i64 x.sk.sum, .int .i64 x.sk.min, .int .i64 x.sk.max, .slice e1 m1' f1, .slice e2 m2 f2, .slice e3 m3 f3] 36)) rfl (by kernel_rfl) ⟨_, by simp [Act.put]; rfl, hK _ _ ⟨trivial, ?_⟩⟩
      clear hK bl HB2 HQ2 HV2 HI2
      obtain ⟨J3, hJ3⟩ : ∃ z, z = wb2.heap.size := ⟨_, rfl⟩
      obtain ⟨wb3, hwb3⟩ : ∃ Z, Z = (wb2.alloc (.cells #[.int .i64 x.seq, .int .i64 x.cls, .int .i64 x.key, .int .i64 x.window, .int .i64 x.sk.count, .int .i64 x.sk.sum, .int .i64 x.sk.min, .int .i64 x.sk.max, .slice e1 m1' f1, .slice e2 m2 f2, .slice e3 m3 f3] 36)) := ⟨_, rfl⟩
      rw [← hwb3, ← hJ3] at NW3
      rw [← hwb3] at HB3 HI3 HQ3 HV3 ⊢
      rw [← hJ3]
      clear hwb3 hJ3
      refine onlyH (o := ?o46) 5 (by kernel_rfl) ?h46 ?r46
      case h46 => simp only [aT, aS, aZ]; rfl
      intro K hK
      have hn1 : n1 ≤ 6 := by have := HSM.out.2.1; have := HSM.out.2.2; omega
      refine op_append wb3 rfl _ _ 24 rfl lo 36 j0 (.agg #[.int .i64 0, .int .i64 0, .int .i64 0, .int .i64 0, .int .i64 0, .int .i64 0, .int .i64 0, .int .i64 0, .slice none 0 0, .slice none 0 0, .slice none 0 0]) 11 136 Try.underlying24 hj hy0 hy1 hy2 rfl (by decide) (.slice b1 n1 c1) n1 vs rfl HQ3.out.row ⟨J3, 0, none⟩ 1 1 (#[.int .i64 x.seq, .int .i64 x.cls, .int .i64 x.key, .int .i64 x.window, .int .i64 x.sk.count, .int .i64 x.sk.sum, .int .i64 x.sk.min, .int .i64 x.sk.max, .slice e1 m1' f1, .slice e2 m2 f2, .slice e3 m3 f3] : Array Value).toList rfl rfl NW3.out (by simp [Value.oneCell']) (by decide) (by unfold maxLen; omega) (by omega) HQ3.out.lw _ rfl ?_
      intro g4 cp4 wb4 hown hgrow hat _
      obtain ⟨F', q1, q2, q3, q4, q5⟩ := GrA.add HB3.out.gr HGS.out.1 HQ3.out HGS.out.2.1 HGS.out.2.2 HI3.out.1 rfl HI3.out.2.2 HM.out HV3.out hown hgrow hat
      have HF0 := HB3.out.list hq HA.out hgrow q1 q2 q3 q4 q5
      have HF : Hid (Blk wb4 L #[.int .i64 id, .int .i64 ep, .bool lv, .int .i64 gr, .slice b1 n1 c1, .slice b2 n2 c2, .int .i64 nx] 27 ∧ LocE w q a len cap zs ib2 hb2 L id ep lv gr nx (xs ++ [x]) ts (some ⟨g4, 0, none⟩) (n1 + 1) cp4 b2 n2 c2 F' G (wb4.setCell ⟨L, 4, none⟩ (.slice (some ⟨g4, 0, none⟩) (n1 + 1) cp4))) := HF0
      have HSX : Hid (Sm8 (xs ++ [x]) ts) := sm8_add HSM.out.1 HSM.out.2.1 HI3.out.2.1
      refine ⟨_, by simp [Act.put]; rfl, hK _ _ ⟨trivial, ?_⟩⟩
      clear hK hown hgrow hat q1 q2 q3 q4 q5 HF0 HB3 HQ3 HI3 HV3 hn1
      refine takeH (o := ?o47) 6 (.pointer (some ⟨L, 4, none⟩)) ?h47 ?r47
      case h47 => simp only [aT, aS, aZ]; rfl
      refine ⟨_, by simp [Act.put]; rfl, by kernel_rfl, by kernel_rfl, by kernel_rfl, fun _ _ _ h => h, (.inl ⟨rfl, fun W _ => by kernel_rfl⟩), trivial, ?_⟩
      refine onlyH (o := ?o48) 7 (by kernel_rfl) ?h48 ?r48
      case h48 => simp only [aT, aS, aZ]; rfl
      intro K hK
      have c5 := HF.out.1.cell 4
      have f5 := HF.out.1.frozen 4
      simp only [aT, aS, aZ] at c5
      have HE40 := HF.out.2
      refine op_skip (wb4.setCell ⟨L, 4, none⟩ (.slice (some ⟨g4, 0, none⟩) (n1 + 1) cp4)) rfl (by go_simp) ⟨_, by simp [Act.put]; rfl, hK _ _ ⟨trivial, ?_⟩⟩
      clear hK c5 f5 HF
      refine wpAnyH_done (by kernel_rfl) ?_ _
      obtain ⟨WE, hWE⟩ : ∃ W, W = (wb4.setCell ⟨L, 4, none⟩ (.slice (some ⟨g4, 0, none⟩) (n1 + 1) cp4)) := ⟨_, rfl⟩
      rw [← hWE] at HE40
      try rw [← hWE]
      have HE4 : Hid (LocE w q a len cap zs ib2 hb2 L id ep lv gr nx (xs ++ [x]) ts (some ⟨g4, 0, none⟩) (n1 + 1) cp4 b2 n2 c2 F' G WE) := HE40
      clear hWE HE40
      go_wp2_with (first | go_skip | (with_reducible refine stopLoad 27 rfl ?_) | (with_reducible refine stopStore 27 rfl ?_))
      refine load_known 27 L _ 27 _ HE4.out.loc rfl rfl rfl Try.underlying27 rfl infoAgG ?_
      go_wp2_with (first | go_skip | (with_reducible refine stopLoad 27 rfl ?_) | (with_reducible refine stopStore 27 rfl ?_))
      refine store_known 27 w.heap.size _ #[.int .i64 id, .int .i64 ep, .bool lv, .int .i64 gr, .slice (some ⟨g4, 0, none⟩) (n1 + 1) cp4, .slice b2 n2 c2, .int .i64 nx] 27 HE4.out.held.res rfl rfl rfl rfl infoAgG rfl (by simp [Value.oneCell']) ?_
      go_wp2
      refine bodyPost_ret (results_cell_row Try.results37 _ _ w.heap.size _ _ (0, 0) _ rfl HE4.out.held.res.setRow Try.underlying27 rfl infoAgG) rfl ?_
      exact HE4.out.done HSX.out hq HA.out
    case s43 =>
      intro K hK
      refine op_call1 55 _ _ Try.f55 (fun v w' => DrewItem WD q a len cap zs (.returned v) w') rfl rfl Try.func55 (by kernel_rfl) (by kernel_rfl) ((l6Draw_any q a len cap zs i6 h6 WD HDd.out.held.cur hlen).mono (by intro e w' hh; have hh' := hh; obtain ⟨v, _, _, _, _, rfl, _⟩ := hh'; exact ⟨_, rfl, hh⟩)) ?_
      rintro v wb5 ⟨v', x, Fk, ib5, hb5, ev, r5, s5, o5, C5, g5⟩
      injection ev with ev
      subst ev
      obtain ⟨e1, m1', f1, e2, m2, f2, e3, m3, f3, rfl, rs⟩ := r5
      have HI5 : Hid (RdIt wb5 (.agg #[.int .i64 x.seq, .int .i64 x.cls, .int .i64 x.key, .int .i64 x.window, .int .i64 x.sk.count, .int .i64 x.sk.sum, .int .i64 x.sk.min, .int .i64 x.sk.max, .slice e1 m1' f1, .slice e2 m2 f2, .slice e3 m3 f3]) x Fk ∧ x.sk.full ∧ Own M wb5 Fk) := ⟨⟨e1, m1', f1, e2, m2, f2, e3, m3, f3, rfl, rs⟩, s5, o5.mono HMW.out⟩
      have HB5 : Hid (LocG w q a len cap zs ib5 hb5 L id ep lv gr nx xs ts b1 n1 c1 b2 n2 c2 F G wb5) := HDd.out.next hq C5 g5
      have HQ5 : Hid (GrowL itK 36 xs lo n1 (.slice b1 n1 c1) vs GG wb5) := HGR.out.keep (fun b e => g5.block b (HGR.out.row.lt b e).2 (fun e' => by have := (HGR.out.row.lt b e).1; have := HGS.out.1; simp at e'; omega)) (fun b hb => g5.block b (HGR.out.rd.lt b hb) (fun e' => by have := HGR.out.og.ge b hb; have := HGS.out.1; simp at e'; omega)) g5.size
      have HV5 : Hid (M ≤ wb5.heap.size) := Nat.le_trans HMW.out g5.size
      clear rs s5 o5 C5 g5 HDd HGR HMW
      refine ⟨_, by simp [Act.put]; rfl, hK _ _ ⟨trivial, ?_⟩⟩
      clear hK
      refine twoH (o := ?o49) (o' := ?p49) 1 4 (by kernel_rfl) ?h49 ?g49 ?r49 ?s49
      case h49 => simp only [aT, aS, aZ]; rfl
      case g49 => simp only [aT, aS, aZ]; rfl
      case r49 =>
        intro K hK
        have c5 := HB5.out.loc.cell 4
        simp only [aT, aS, aZ] at c5
        refine op_value (.slice b1 n1 c1) rfl (by go_simp) ⟨_, by simp [Act.put]; rfl, hK _ _ ⟨trivial, ?_⟩⟩
        clear hK c5
        refine onlyH (o := ?o50) 4 (by kernel_rfl) ?h50 ?r50
        case h50 => simp only [aT, aS, aZ]; rfl
        intro K hK
        have bl : Below wb5.heap.size wb5 (wb5.alloc (.cells #[.int .i64 x.seq, .int .i64 x.cls, .int .i64 x.key, .int .i64 x.window, .int .i64 x.sk.count, .int .i64 x.sk.sum, .int .i64 x.sk.min, .int .i64 x.sk.max, .slice e1 m1' f1, .slice e2 m2 f2, .slice e3 m3 f3] 36)) := (Below.refl _ _).alloc (Nat.le_refl _) _
        have HB7 : Hid (LocG w q a len cap zs ib5 hb5 L id ep lv gr nx xs ts b1 n1 c1 b2 n2 c2 F G (wb5.alloc (.cells #[.int .i64 x.seq, .int .i64 x.cls, .int .i64 x.key, .int .i64 x.window, .int .i64 x.sk.count, .int .i64 x.sk.sum, .int .i64 x.sk.min, .int .i64 x.sk.max, .slice e1 m1' f1, .slice e2 m2 f2, .slice e3 m3 f3] 36))) := HB5.out.below bl
        have HI7 : Hid (RdIt (wb5.alloc (.cells #[.int .i64 x.seq, .int .i64 x.cls, .int .i64 x.key, .int .i64 x.window, .int .i64 x.sk.count, .int .i64 x.sk.sum, .int .i64 x.sk.min, .int .i64 x.sk.max, .slice e1 m1' f1, .slice e2 m2 f2, .slice e3 m3 f3] 36)) (.agg #[.int .i64 x.seq, .int .i64 x.cls, .int .i64 x.key, .int .i64 x.window, .int .i64 x.sk.count, .int .i64 x.sk.sum, .int .i64 x.sk.min, .int .i64 x.sk.max, .slice e1 m1' f1, .slice e2 m2 f2, .slice e3 m3 f3]) x Fk ∧ x.sk.full ∧ Own M (wb5.alloc (.cells #[.int .i64 x.seq, .int .i64 x.cls, .int .i64 x.key, .int .i64 x.window, .int .i64 x.sk.count, .int .i64 x.sk.sum, .int .i64 x.sk.min, .int .i64 x.sk.max, .slice e1 m1' f1, .slice e2 m2 f2, .slice e3 m3 f3] 36)) Fk) := ⟨HI5.out.1.below bl, HI5.out.2.1, HI5.out.2.2.below (RdIt.lt HI5.out.1) bl⟩
        have HQ7 : Hid (GrowL itK 36 xs lo n1 (.slice b1 n1 c1) vs GG (wb5.alloc (.cells #[.int .i64 x.seq, .int .i64 x.cls, .int .i64 x.key, .int .i64 x.window, .int .i64 x.sk.count, .int .i64 x.sk.sum, .int .i64 x.sk.min, .int .i64 x.sk.max, .slice e1 m1' f1, .slice e2 m2 f2, .slice e3 m3 f3] 36))) := HQ5.out.below bl
        have HV7 : Hid (M ≤ (wb5.alloc (.cells #[.int .i64 x.seq, .int .i64 x.cls, .int .i64 x.key, .int .i64 x.window, .int .i64 x.sk.count, .int .i64 x.sk.sum, .int .i64 x.sk.min, .int .i64 x.sk.max, .slice e1 m1' f1, .slice e2 m2 f2, .slice e3 m3 f3] 36)).heap.size) := Nat.le_trans HV5.out bl.size
        have NW7 : Hid (∀ j u, (#[.int .i64 x.seq, .int .i64 x.cls, .int .i64 x.key, .int .i64 x.window, .int .i64 x.sk.count, .int .i64 x.sk.sum, .int .i64 x.sk.min, .int .i64 x.sk.max, .slice e1 m1' f1, .slice e2 m2 f2, .slice e3 m3 f3] : Array Value).toList[j]? = some u → ((wb5.alloc (.cells #[.int .i64 x.seq, .int .i64 x.cls, .int .i64 x.key, .int .i64 x.window, .int .i64 x.sk.count, .int .i64 x.sk.sum, .int .i64 x.sk.min, .int .i64 x.sk.max, .slice e1 m1' f1, .slice e2 m2 f2, .slice e3 m3 f3] 36))).cell? ((⟨wb5.heap.size, 0, none⟩ : Addr).add j) = some u) := news_lit _ _ _
        refine op_turn (.slice (some ⟨wb5.heap.size, 0, none⟩) 1 1) (wb5.alloc (.cells #[.int .i64 x.seq, .int .i64 x.cls, .int .i64 x.key, .int .i64 x.window, .int .i64 x.sk.count, .int .i64 x.sk.sum, .int .i64 x.sk.min, .int .i64 x.sk.max, .slice e1 m1' f1, .slice e2 m2 f2, .slice e3 m3 f3] 36)) rfl (by kernel_rfl) ⟨_, by simp [Act.put]; rfl, hK _ _ ⟨trivial, ?_⟩⟩
        clear hK bl HB5 HQ5 HV5 HI5
        obtain ⟨J7, hJ7⟩ : ∃ z, z = wb5.heap.size := ⟨_, rfl⟩
        obtain ⟨wb7, hwb7⟩ : ∃ Z, Z = (wb5.alloc (.cells #[.int .i64 x.seq, .int .i64 x.cls, .int .i64 x.key, .int .i64 x.window, .int .i64 x.sk.count, .int .i64 x.sk.sum, .int .i64 x.sk.min, .int .i64 x.sk.max, .slice e1 m1' f1, .slice e2 m2 f2, .slice e3 m3 f3] 36)) := ⟨_, rfl⟩
        rw [← hwb7, ← hJ7] at NW7
        rw [← hwb7] at HB7 HI7 HQ7 HV7 ⊢
        rw [← hJ7]
        clear hwb7 hJ7
        refine onlyH (o := ?o51) 5 (by kernel_rfl) ?h51 ?r51
        case h51 => simp only [aT, aS, aZ]; rfl
        intro K hK
        have hn1 : n1 ≤ 6 := by have := HSM.out.2.1; have := HSM.out.2.2; omega
        refine op_append wb7 rfl _ _ 24 rfl lo 36 j0 (.agg #[.int .i64 0, .int .i64 0, .int .i64 0, .int .i64 0, .int .i64 0, .int .i64 0, .int .i64 0, .int .i64 0, .slice none 0 0, .slice none 0 0, .slice none 0 0]) 11 136 Try.underlying24 hj hy0 hy1 hy2 rfl (by decide) (.slice b1 n1 c1) n1 vs rfl HQ7.out.row ⟨J7, 0, none⟩ 1 1 (#[.int .i64 x.seq, .int .i64 x.cls, .int .i64 x.key, .int .i64 x.window, .int .i64 x.sk.count, .int .i64 x.sk.sum, .int .i64 x.sk.min, .int .i64 x.sk.max, .slice e1 m1' f1, .slice e2 m2 f2, .slice e3 m3 f3] : Array Value).toList rfl rfl NW7.out (by simp [Value.oneCell']) (by decide) (by unfold maxLen; omega) (by omega) HQ7.out.lw _ rfl ?_
        intro g4 cp4 wb8 hown hgrow hat _
        obtain ⟨F', q1, q2, q3, q4, q5⟩ := GrA.add HB7.out.gr HGS.out.1 HQ7.out HGS.out.2.1 HGS.out.2.2 HI7.out.1 rfl HI7.out.2.2 HM.out HV7.out hown hgrow hat
        have HF0 := HB7.out.list hq HA.out hgrow q1 q2 q3 q4 q5
        have HF : Hid (Blk wb8 L #[.int .i64 id, .int .i64 ep, .bool lv, .int .i64 gr, .slice b1 n1 c1, .slice b2 n2 c2, .int .i64 nx] 27 ∧ LocE w q a len cap zs ib5 hb5 L id ep lv gr nx (xs ++ [x]) ts (some ⟨g4, 0, none⟩) (n1 + 1) cp4 b2 n2 c2 F' G (wb8.setCell ⟨L, 4, none⟩ (.slice (some ⟨g4, 0, none⟩) (n1 + 1) cp4))) := HF0
        have HSX : Hid (Sm8 (xs ++ [x]) ts) := sm8_add HSM.out.1 HSM.out.2.1 HI7.out.2.1
        refine ⟨_, by simp [Act.put]; rfl, hK _ _ ⟨trivial, ?_⟩⟩
        clear hK hown hgrow hat q1 q2 q3 q4 q5 HF0 HB7 HQ7 HI7 HV7 hn1
        refine takeH (o := ?o52) 6 (.pointer (some ⟨L, 4, none⟩)) ?h52 ?r52
        case h52 => simp only [aT, aS, aZ]; rfl
        refine ⟨_, by simp [Act.put]; rfl, by kernel_rfl, by kernel_rfl, by kernel_rfl, fun _ _ _ h => h, (.inl ⟨rfl, fun W _ => by kernel_rfl⟩), trivial, ?_⟩
        refine onlyH (o := ?o53) 7 (by kernel_rfl) ?h53 ?r53
        case h53 => simp only [aT, aS, aZ]; rfl
        intro K hK
        have c5 := HF.out.1.cell 4
        have f5 := HF.out.1.frozen 4
        simp only [aT, aS, aZ] at c5
        have HE40 := HF.out.2
        refine op_skip (wb8.setCell ⟨L, 4, none⟩ (.slice (some ⟨g4, 0, none⟩) (n1 + 1) cp4)) rfl (by go_simp) ⟨_, by simp [Act.put]; rfl, hK _ _ ⟨trivial, ?_⟩⟩
        clear hK c5 f5 HF
        refine wpAnyH_done (by kernel_rfl) ?_ _
        obtain ⟨WE, hWE⟩ : ∃ W, W = (wb8.setCell ⟨L, 4, none⟩ (.slice (some ⟨g4, 0, none⟩) (n1 + 1) cp4)) := ⟨_, rfl⟩
        rw [← hWE] at HE40
        try rw [← hWE]
        have HE4 : Hid (LocE w q a len cap zs ib5 hb5 L id ep lv gr nx (xs ++ [x]) ts (some ⟨g4, 0, none⟩) (n1 + 1) cp4 b2 n2 c2 F' G WE) := HE40
        clear hWE HE40
        go_wp2_with (first | go_skip | (with_reducible refine stopLoad 27 rfl ?_) | (with_reducible refine stopStore 27 rfl ?_))
        refine load_known 27 L _ 27 _ HE4.out.loc rfl rfl rfl Try.underlying27 rfl infoAgG ?_
        go_wp2_with (first | go_skip | (with_reducible refine stopLoad 27 rfl ?_) | (with_reducible refine stopStore 27 rfl ?_))
        refine store_known 27 w.heap.size _ #[.int .i64 id, .int .i64 ep, .bool lv, .int .i64 gr, .slice (some ⟨g4, 0, none⟩) (n1 + 1) cp4, .slice b2 n2 c2, .int .i64 nx] 27 HE4.out.held.res rfl rfl rfl rfl infoAgG rfl (by simp [Value.oneCell']) ?_
        go_wp2
        refine bodyPost_ret (results_cell_row Try.results37 _ _ w.heap.size _ _ (0, 0) _ rfl HE4.out.held.res.setRow Try.underlying27 rfl infoAgG) rfl ?_
        exact HE4.out.done HSX.out hq HA.out
      case s49 =>
        intro K hK
        have bl : Below wb5.heap.size wb5 (wb5.alloc (.cells #[.int .i64 x.seq, .int .i64 x.cls, .int .i64 x.key, .int .i64 x.window, .int .i64 x.sk.count, .int .i64 x.sk.sum, .int .i64 x.sk.min, .int .i64 x.sk.max, .slice e1 m1' f1, .slice e2 m2 f2, .slice e3 m3 f3] 36)) := (Below.refl _ _).alloc (Nat.le_refl _) _
        have HB9 : Hid (LocG w q a len cap zs ib5 hb5 L id ep lv gr nx xs ts b1 n1 c1 b2 n2 c2 F G (wb5.alloc (.cells #[.int .i64 x.seq, .int .i64 x.cls, .int .i64 x.key, .int .i64 x.window, .int .i64 x.sk.count, .int .i64 x.sk.sum, .int .i64 x.sk.min, .int .i64 x.sk.max, .slice e1 m1' f1, .slice e2 m2 f2, .slice e3 m3 f3] 36))) := HB5.out.below bl
        have HI9 : Hid (RdIt (wb5.alloc (.cells #[.int .i64 x.seq, .int .i64 x.cls, .int .i64 x.key, .int .i64 x.window, .int .i64 x.sk.count, .int .i64 x.sk.sum, .int .i64 x.sk.min, .int .i64 x.sk.max, .slice e1 m1' f1, .slice e2 m2 f2, .slice e3 m3 f3] 36)) (.agg #[.int .i64 x.seq, .int .i64 x.cls, .int .i64 x.key, .int .i64 x.window, .int .i64 x.sk.count, .int .i64 x.sk.sum, .int .i64 x.sk.min, .int .i64 x.sk.max, .slice e1 m1' f1, .slice e2 m2 f2, .slice e3 m3 f3]) x Fk ∧ x.sk.full ∧ Own M (wb5.alloc (.cells #[.int .i64 x.seq, .int .i64 x.cls, .int .i64 x.key, .int .i64 x.window, .int .i64 x.sk.count, .int .i64 x.sk.sum, .int .i64 x.sk.min, .int .i64 x.sk.max, .slice e1 m1' f1, .slice e2 m2 f2, .slice e3 m3 f3] 36)) Fk) := ⟨HI5.out.1.below bl, HI5.out.2.1, HI5.out.2.2.below (RdIt.lt HI5.out.1) bl⟩
        have HQ9 : Hid (GrowL itK 36 xs lo n1 (.slice b1 n1 c1) vs GG (wb5.alloc (.cells #[.int .i64 x.seq, .int .i64 x.cls, .int .i64 x.key, .int .i64 x.window, .int .i64 x.sk.count, .int .i64 x.sk.sum, .int .i64 x.sk.min, .int .i64 x.sk.max, .slice e1 m1' f1, .slice e2 m2 f2, .slice e3 m3 f3] 36))) := HQ5.out.below bl
        have HV9 : Hid (M ≤ (wb5.alloc (.cells #[.int .i64 x.seq, .int .i64 x.cls, .int .i64 x.key, .int .i64 x.window, .int .i64 x.sk.count, .int .i64 x.sk.sum, .int .i64 x.sk.min, .int .i64 x.sk.max, .slice e1 m1' f1, .slice e2 m2 f2, .slice e3 m3 f3] 36)).heap.size) := Nat.le_trans HV5.out bl.size
        have NW9 : Hid (∀ j u, (#[.int .i64 x.seq, .int .i64 x.cls, .int .i64 x.key, .int .i64 x.window, .int .i64 x.sk.count, .int .i64 x.sk.sum, .int .i64 x.sk.min, .int .i64 x.sk.max, .slice e1 m1' f1, .slice e2 m2 f2, .slice e3 m3 f3] : Array Value).toList[j]? = some u → ((wb5.alloc (.cells #[.int .i64 x.seq, .int .i64 x.cls, .int .i64 x.key, .int .i64 x.window, .int .i64 x.sk.count, .int .i64 x.sk.sum, .int .i64 x.sk.min, .int .i64 x.sk.max, .slice e1 m1' f1, .slice e2 m2 f2, .slice e3 m3 f3] 36))).cell? ((⟨wb5.heap.size, 0, none⟩ : Addr).add j) = some u) := news_lit _ _ _
        refine op_turn (.slice (some ⟨wb5.heap.size, 0, none⟩) 1 1) (wb5.alloc (.cells #[.int .i64 x.seq, .int .i64 x.cls, .int .i64 x.key, .int .i64 x.window, .int .i64 x.sk.count, .int .i64 x.sk.sum, .int .i64 x.sk.min, .int .i64 x.sk.max, .slice e1 m1' f1, .slice e2 m2 f2, .slice e3 m3 f3] 36)) rfl (by kernel_rfl) ⟨_, by simp [Act.put]; rfl, hK _ _ ⟨trivial, ?_⟩⟩
        clear hK bl HB5 HQ5 HV5 HI5
        obtain ⟨J9, hJ9⟩ : ∃ z, z = wb5.heap.size := ⟨_, rfl⟩
        obtain ⟨wb9, hwb9⟩ : ∃ Z, Z = (wb5.alloc (.cells #[.int .i64 x.seq, .int .i64 x.cls, .int .i64 x.key, .int .i64 x.window, .int .i64 x.sk.count, .int .i64 x.sk.sum, .int .i64 x.sk.min, .int .i64 x.sk.max, .slice e1 m1' f1, .slice e2 m2 f2, .slice e3 m3 f3] 36)) := ⟨_, rfl⟩
        rw [← hwb9, ← hJ9] at NW9
        rw [← hwb9] at HB9 HI9 HQ9 HV9 ⊢
        rw [← hJ9]
        clear hwb9 hJ9
        refine onlyH (o := ?o54) 1 (by kernel_rfl) ?h54 ?r54
        case h54 => simp only [aT, aS, aZ]; rfl
        intro K hK
        have c5 := HB9.out.loc.cell 4
        simp only [aT, aS, aZ] at c5
        refine op_value (.slice b1 n1 c1) rfl (by go_simp) ⟨_, by simp [Act.put]; rfl, hK _ _ ⟨trivial, ?_⟩⟩
        clear hK c5
        refine onlyH (o := ?o55) 5 (by kernel_rfl) ?h55 ?r55
        case h55 => simp only [aT, aS, aZ]; rfl
        intro K hK
        have hn1 : n1 ≤ 6 := by have := HSM.out.2.1; have := HSM.out.2.2; omega
        refine op_append wb9 rfl _ _ 24 rfl lo 36 j0 (.agg #[.int .i64 0, .int .i64 0, .int .i64 0, .int .i64 0, .int .i64 0, .int .i64 0, .int .i64 0, .int .i64 0, .slice none 0 0, .slice none 0 0, .slice none 0 0]) 11 136 Try.underlying24 hj hy0 hy1 hy2 rfl (by decide) (.slice b1 n1 c1) n1 vs rfl HQ9.out.row ⟨J9, 0, none⟩ 1 1 (#[.int .i64 x.seq, .int .i64 x.cls, .int .i64 x.key, .int .i64 x.window, .int .i64 x.sk.count, .int .i64 x.sk.sum, .int .i64 x.sk.min, .int .i64 x.sk.max, .slice e1 m1' f1, .slice e2 m2 f2, .slice e3 m3 f3] : Array Value).toList rfl rfl NW9.out (by simp [Value.oneCell']) (by decide) (by unfold maxLen; omega) (by omega) HQ9.out.lw _ rfl ?_
        intro g4 cp4 wb11 hown hgrow hat _
        obtain ⟨F', q1, q2, q3, q4, q5⟩ := GrA.add HB9.out.gr HGS.out.1 HQ9.out HGS.out.2.1 HGS.out.2.2 HI9.out.1 rfl HI9.out.2.2 HM.out HV9.out hown hgrow hat
        have HF0 := HB9.out.list hq HA.out hgrow q1 q2 q3 q4 q5
        have HF : Hid (Blk wb11 L #[.int .i64 id, .int .i64 ep, .bool lv, .int .i64 gr, .slice b1 n1 c1, .slice b2 n2 c2, .int .i64 nx] 27 ∧ LocE w q a len cap zs ib5 hb5 L id ep lv gr nx (xs ++ [x]) ts (some ⟨g4, 0, none⟩) (n1 + 1) cp4 b2 n2 c2 F' G (wb11.setCell ⟨L, 4, none⟩ (.slice (some ⟨g4, 0, none⟩) (n1 + 1) cp4))) := HF0
        have HSX : Hid (Sm8 (xs ++ [x]) ts) := sm8_add HSM.out.1 HSM.out.2.1 HI9.out.2.1
        refine ⟨_, by simp [Act.put]; rfl, hK _ _ ⟨trivial, ?_⟩⟩
        clear hK hown hgrow hat q1 q2 q3 q4 q5 HF0 HB9 HQ9 HI9 HV9 hn1
        refine takeH (o := ?o56) 6 (.pointer (some ⟨L, 4, none⟩)) ?h56 ?r56
        case h56 => simp only [aT, aS, aZ]; rfl
        refine ⟨_, by simp [Act.put]; rfl, by kernel_rfl, by kernel_rfl, by kernel_rfl, fun _ _ _ h => h, (.inl ⟨rfl, fun W _ => by kernel_rfl⟩), trivial, ?_⟩
        refine onlyH (o := ?o57) 7 (by kernel_rfl) ?h57 ?r57
        case h57 => simp only [aT, aS, aZ]; rfl
        intro K hK
        have c5 := HF.out.1.cell 4
        have f5 := HF.out.1.frozen 4
        simp only [aT, aS, aZ] at c5
        have HE40 := HF.out.2
        refine op_skip (wb11.setCell ⟨L, 4, none⟩ (.slice (some ⟨g4, 0, none⟩) (n1 + 1) cp4)) rfl (by go_simp) ⟨_, by simp [Act.put]; rfl, hK _ _ ⟨trivial, ?_⟩⟩
        clear hK c5 f5 HF
        refine wpAnyH_done (by kernel_rfl) ?_ _
        obtain ⟨WE, hWE⟩ : ∃ W, W = (wb11.setCell ⟨L, 4, none⟩ (.slice (some ⟨g4, 0, none⟩) (n1 + 1) cp4)) := ⟨_, rfl⟩
        rw [← hWE] at HE40
        try rw [← hWE]
        have HE4 : Hid (LocE w q a len cap zs ib5 hb5 L id ep lv gr nx (xs ++ [x]) ts (some ⟨g4, 0, none⟩) (n1 + 1) cp4 b2 n2 c2 F' G WE) := HE40
        clear hWE HE40
        go_wp2_with (first | go_skip | (with_reducible refine stopLoad 27 rfl ?_) | (with_reducible refine stopStore 27 rfl ?_))
        refine load_known 27 L _ 27 _ HE4.out.loc rfl rfl rfl Try.underlying27 rfl infoAgG ?_
        go_wp2_with (first | go_skip | (with_reducible refine stopLoad 27 rfl ?_) | (with_reducible refine stopStore 27 rfl ?_))
        refine store_known 27 w.heap.size _ #[.int .i64 id, .int .i64 ep, .bool lv, .int .i64 gr, .slice (some ⟨g4, 0, none⟩) (n1 + 1) cp4, .slice b2 n2 c2, .int .i64 nx] 27 HE4.out.held.res rfl rfl rfl rfl infoAgG rfl (by simp [Value.oneCell']) ?_
        go_wp2
        refine bodyPost_ret (results_cell_row Try.results37 _ _ w.heap.size _ _ (0, 0) _ rfl HE4.out.held.res.setRow Try.underlying27 rfl infoAgG) rfl ?_
        exact HE4.out.done HSX.out hq HA.out
  have em2 : (m == 2) = false := by simpa using hm2
  by_cases hm3 : m = 3
  · subst hm3
    go_wp2_with fail
    refine (l5Draw_any q a len cap zs i6 h6 _ H6.out.held.cur hlen).mono ?_
    rintro e w7 ⟨v7, us, rfl, D7, hl7, hne7, hf7⟩
    obtain ⟨i7, h7, C7⟩ := D7.cur
    have H7 : Hid (LocG w q a len cap zs i7 h7 L id ep lv gr nx xs ts b1 n1 c1 b2 n2 c2 F G w7) := H6.out.next hq C7 D7.grown
    obtain ⟨e7, k7, X7, rfl, r7, o7, cp7⟩ := rdP_of_own D7.own
    have HR7 : Hid (RdP w7 e7 us.length us X7 ∧ Capd e7 us.length k7 ∧ Own (w.heap.size + 1) w7 X7 ∧ (∀ b ∈ F, b ∉ X7) ∧ L ∉ X7 ∧ GrA (w.heap.size + 1) L (.slice b1 n1 c1) n1 xs X7 w7) := ⟨r7, cp7, o7.mono (by have := H6.out.held.res.lt; omega), (fun b hb hx => by have h1 := o7.ge _ hx; have h2 := H6.out.rl.lt b hb; omega), (fun hx => by have h1 := o7.ge _ hx; have h2 := H6.out.loc.lt; omega), (H6.out.gr.fresh (fun b hb => o7.ge b hb)).next D7.grown (by omega)⟩
    have HSY : Hid (Sm8 xs us) := ⟨HSM.out.1.1, HSM.out.1.2.1, hl7, hf7⟩
    clear C7 r7 o7 cp7 D7 H6 hne7 hf7
    have c1' := H7.out.loc.cell 5
    have fz1 := H7.out.loc.frozen 5
    simp only [aT, aS, aZ] at c1'
    go_wp2_with (first | go_skip | (with_reducible refine stopLoad 27 rfl ?_) | (with_reducible refine stopStore 27 rfl ?_))
    have HE : Hid (LocG w q a len cap zs i7 h7 L id ep lv gr nx xs us b1 n1 c1 e7 us.length k7 F X7 (w7.setCell ⟨L, 5, none⟩ (.slice e7 us.length k7))) := H7.out.put hq HA.out HR7.out.1 HR7.out.2.1 HR7.out.2.2.1 HR7.out.2.2.2.1 HR7.out.2.2.2.2.1 HR7.out.2.2.2.2.2
    obtain ⟨WE, hWE⟩ : ∃ W, W = w7.setCell ⟨L, 5, none⟩ (.slice e7 us.length k7) := ⟨_, rfl⟩
    rw [← hWE] at HE ⊢
    clear hWE H7 c1' fz1 HR7
    refine load_known 27 L _ 27 _ HE.out.loc rfl rfl rfl Try.underlying27 rfl infoAgG ?_
    go_wp2_with (first | go_skip | (with_reducible refine stopLoad 27 rfl ?_) | (with_reducible refine stopStore 27 rfl ?_))
    refine store_known 27 w.heap.size _ #[.int .i64 id, .int .i64 ep, .bool lv, .int .i64 gr, .slice b1 n1 c1, .slice e7 us.length k7, .int .i64 nx] 27 HE.out.held.res rfl rfl rfl rfl infoAgG rfl (by simp [Value.oneCell']) ?_
    go_wp2
    refine bodyPost_ret (results_cell_row Try.results37 _ _ w.heap.size _ _ (0, 0) _ rfl HE.out.held.res.setRow Try.underlying27 rfl infoAgG) rfl ?_
    exact HE.out.e.done HSY.out hq HA.out
  have em3 : (m == 3) = false := by simpa using hm3
  by_cases hm4 : m = 4
  · subst hm4
    go_wp2_with fail
    have hqw : q < w6.heap.size := World.block_lt_of_cell? _ _ H6.out.held.cur.c0
    refine (pickInt_cur q w6.heap.size 3 a len cap zs i6 h6 [-1, 60, 61] _ (H6.out.held.cur.alloc _) hlen (fun j hj => lit_ints w6 [-1, 60, 61] _ j hj) (by omega) 3 rfl (by omega) (by omega)).mono ?_
    rintro e w7 ⟨y, i7, h7, hy, rfl, C7, g7⟩
    have H7 : Hid (LocG w q a len cap zs i7 h7 L id ep lv gr nx xs ts b1 n1 c1 b2 n2 c2 F G w7) := (H6.out.below ((Below.refl _ _).alloc (Nat.le_refl _) _)).next hq C7 g7
    clear C7 g7 H6 hqw hy
    have c1' := H7.out.loc.cell 6
    have fz1 := H7.out.loc.frozen 6
    simp only [aT, aS, aZ] at c1'
    go_wp2_with (first | go_skip | (with_reducible refine stopLoad 27 rfl ?_) | (with_reducible refine stopStore 27 rfl ?_))
    have HE : Hid (LocG w q a len cap zs i7 h7 L id ep lv gr y xs ts b1 n1 c1 b2 n2 c2 F G (w7.setCell ⟨L, 6, none⟩ (.int .i64 y))) := H7.out.set hq HA.out 6 (.int .i64 y) (id' := id) (ep' := ep) (lv' := lv) (gr' := gr) (nx' := y) rfl
    obtain ⟨WE, hWE⟩ : ∃ W, W = w7.setCell ⟨L, 6, none⟩ (.int .i64 y) := ⟨_, rfl⟩
    rw [← hWE] at HE ⊢
    clear hWE H7 c1' fz1
    refine load_known 27 L _ 27 _ HE.out.loc rfl rfl rfl Try.underlying27 rfl infoAgG ?_
    go_wp2_with (first | go_skip | (with_reducible refine stopLoad 27 rfl ?_) | (with_reducible refine stopStore 27 rfl ?_))
    refine store_known 27 w.heap.size _ #[.int .i64 id, .int .i64 ep, .bool lv, .int .i64 gr, .slice b1 n1 c1, .slice b2 n2 c2, .int .i64 y] 27 HE.out.held.res rfl rfl rfl rfl infoAgG rfl (by simp [Value.oneCell']) ?_
    go_wp2
    refine bodyPost_ret (results_cell_row Try.results37 _ _ w.heap.size _ _ (0, 0) _ rfl HE.out.held.res.setRow Try.underlying27 rfl infoAgG) rfl ?_
    exact HE.out.e.done HSM.out.1 hq HA.out
  have em4 : (m == 4) = false := by simpa using hm4
  by_cases hm5 : m = 5
  · subst hm5
    have c1' := H6.out.loc.cell 2
    have fz1 := H6.out.loc.frozen 2
    simp only [aT, aS, aZ] at c1'
    go_wp2_with (first | go_skip | (with_reducible refine stopLoad 27 rfl ?_) | (with_reducible refine stopStore 27 rfl ?_))
    have HE : Hid (LocG w q a len cap zs i6 h6 L id ep false gr nx xs ts b1 n1 c1 b2 n2 c2 F G (w6.setCell ⟨L, 2, none⟩ (.bool false))) := H6.out.set hq HA.out 2 (.bool false) (id' := id) (ep' := ep) (lv' := false) (gr' := gr) (nx' := nx) rfl
    obtain ⟨WE, hWE⟩ : ∃ W, W = w6.setCell ⟨L, 2, none⟩ (.bool false) := ⟨_, rfl⟩
    rw [← hWE] at HE ⊢
    clear hWE H6 c1' fz1
    refine load_known 27 L _ 27 _ HE.out.loc rfl rfl rfl Try.underlying27 rfl infoAgG ?_
    go_wp2_with (first | go_skip | (with_reducible refine stopLoad 27 rfl ?_) | (with_reducible refine stopStore 27 rfl ?_))
    refine store_known 27 w.heap.size _ #[.int .i64 id, .int .i64 ep, .bool false, .int .i64 gr, .slice b1 n1 c1, .slice b2 n2 c2, .int .i64 nx] 27 HE.out.held.res rfl rfl rfl rfl infoAgG rfl (by simp [Value.oneCell']) ?_
    go_wp2
    refine bodyPost_ret (results_cell_row Try.results37 _ _ w.heap.size _ _ (0, 0) _ rfl HE.out.held.res.setRow Try.underlying27 rfl infoAgG) rfl ?_
    exact HE.out.e.done HSM.out.1 hq HA.out
  have em5 : (m == 5) = false := by simpa using hm5
  clear hm0 hm1 hm2 hm3 hm4 hm5
  go_wp2_with (first | go_skip | (with_reducible refine stopLoad 27 rfl ?_) | (with_reducible refine stopStore 27 rfl ?_))
  refine load_known 27 L _ 27 _ H6.out.loc rfl rfl rfl Try.underlying27 rfl infoAgG ?_
  go_wp2_with (first | go_skip | (with_reducible refine stopLoad 27 rfl ?_) | (with_reducible refine stopStore 27 rfl ?_))
  refine store_known 27 w.heap.size _ #[.int .i64 id, .int .i64 ep, .bool lv, .int .i64 gr, .slice b1 n1 c1, .slice b2 n2 c2, .int .i64 nx] 27 H6.out.held.res rfl rfl rfl rfl infoAgG rfl (by simp [Value.oneCell']) ?_
  go_wp2
  refine bodyPost_ret (results_cell_row Try.results37 _ _ w.heap.size _ _ (0, 0) _ rfl H6.out.held.res.setRow Try.underlying27 rfl infoAgG) rfl ?_
  exact H6.out.e.done HSM.out.1 hq HA.out
end Go.Proofs.Ytgkbhhlkaifnoaa
/- times, sameInts of one list twice, DrawAgentSend. No statement of the seat is proved here. -/
namespace Go.Proofs.Ytgkbhhlkaifnoaa
open Go.RowKit
set_option maxRecDepth 200000 in
set_option maxHeartbeats 2000000 in
theorem times_any (a : Option Addr) (n cap : Nat) (zs : List Int) (x : Int) (F : List Nat) (w : World) (h : RdI w a n zs F) (hn : n ≤ 1048576) :
    Calls Try.prog 17 #[.slice a n cap, .int .i64 x] w fun e w' => e = .returned (.int .i64 ((zs.count x : Nat) : Int)) ∧ Below w.heap.size w w' := by
  have HR : Hid (RdI w a n zs F ∧ zs.length = n) := ⟨h, h.length⟩
  clear h
  go_enter Try.func17, Try.ntmps17
  go_wp2
  go_loopw [5, 6] (fun v i wr => ∃ (k c : Nat), k ≤ n ∧ v = .int .i64 (c : Int) ∧ i = .int .i64 k ∧ Hid (Below w.heap.size w wr ∧ c = (zs.take k).count x)) (fun _ i _ => n - (intOf i).toNat)
  case atStart => exact ⟨0, 0, by omega, rfl, rfl, Below.refl _ _, by simp⟩
  case round =>
    obtain ⟨k, c, hk, rfl, rfl, HB⟩ := hrel
    have hck : c ≤ k := by have h1 := HB.out.2; have h2 : (zs.take k).count x ≤ (zs.take k).length := List.count_le_length; rw [List.length_take] at h2; omega
    by_cases hlt : k < n
    · obtain ⟨b, off, rfl⟩ := HR.out.1.addr (by omega)
      have e := HR.out.1.at k hlt
      have hbw : b < w.heap.size := World.block_lt_of_cell? _ _ e
      obtain ⟨y, hy⟩ : ∃ y, y = zs.getD k 0 := ⟨_, rfl⟩
      rw [← hy] at e
      have d1 : wr.cell? ⟨b, off + k, none⟩ = some (.int .i64 y) := (HB.out.1.cell (by exact hbw)).trans e
      have HT : Hid (zs.take (k + 1) = zs.take k ++ [y]) := take_snoc_at (by rw [hy, List.getD_eq_getElem?_getD, List.getElem?_eq_getElem (by rw [HR.out.2]; exact hlt)]; rfl)
      have hI : (k : Int) < (n : Int) := by omega
      have hI2 : decide ((k : Int) < (n : Int)) = true := decT hI
      clear e hy hbw
      by_cases hx : y = x
      · have hd : (y == x) = true := by simpa using hx
        have HC : Hid (c + 1 = (zs.take (k + 1)).count x) := by show _ = _; rw [HT.out, List.count_append, List.count_singleton, if_pos hd, ← HB.out.2]
        have hwz : IntKind.i64.wrap ((c : Int) + 1) = (c : Int) + 1 := wrapD (by omega) (by omega)
        clear hx
        go_wp2
        go_roundw
        case rel => exact ⟨k + 1, c + 1, by omega, by go_num, by go_num, HB.out.1, HC.out⟩
        case measure => simp [intOf]; omega
      · have hd : (y == x) = false := by simpa using hx
        have HC : Hid (c = (zs.take (k + 1)).count x) := by show _ = _; rw [HT.out, List.count_append, List.count_singleton, if_neg (by rw [hd]; simp), ← HB.out.2]; rfl
        clear hx
        go_wp2
        go_roundw
        case rel => exact ⟨k + 1, c, by omega, rfl, by go_num, HB.out.1, HC.out⟩
        case measure => simp [intOf]; omega
    · have hI2 : decide ((k : Int) < (n : Int)) = false := dec_false (by omega)
      have HV : Hid ((c : Int) = ((zs.count x : Nat) : Int)) := by
        have h1 := HB.out.2
        rw [List.take_of_length_le (by rw [HR.out.2]; omega)] at h1
        show _ = _
        rw [h1]
      go_wp2
      go_ret
      exact ⟨ret_int HV.out, HB.out.1⟩
set_option maxRecDepth 200000 in
set_option maxHeartbeats 2000000 in
theorem sameInts_same (a b : Option Addr) (n c d : Nat) (zs : List Int) (F G : List Nat) (w : World) (h : RdI w a n zs F) (k : RdI w b n zs G) (hn : n ≤ 1048576) :
    Calls Try.prog 10 #[.slice a n c, .slice b n d] w fun e w' => e = .returned (.bool true) ∧ Below w.heap.size w w' := by
  have HR : Hid (RdI w a n zs F ∧ RdI w b n zs G) := ⟨h, k⟩
  clear h k
  go_enter Try.func10, Try.ntmps10
  have hnn : ((n : Int) != (n : Int)) = false := by simp
  go_wp2
  clear hnn
  go_loopw [5] (fun i wr => ∃ (k : Nat), k ≤ n ∧ i = .int .i64 k ∧ Hid (Below w.heap.size w wr)) (fun i _ => n - (intOf i).toNat)
  case atStart => exact ⟨0, by omega, rfl, Below.refl _ _⟩
  case round =>
    obtain ⟨k, hk, rfl, HB⟩ := hrel
    by_cases hlt : k < n
    · obtain ⟨p, o, rfl⟩ := HR.out.1.addr (by omega)
      obtain ⟨q, u, rfl⟩ := HR.out.2.addr (by omega)
      have e := HR.out.1.at k hlt
      have e' := HR.out.2.at k hlt
      obtain ⟨y, hy⟩ : ∃ y, y = zs.getD k 0 := ⟨_, rfl⟩
      rw [← hy] at e e'
      have hI2 : decide ((k : Int) < (n : Int)) = true := decT (by omega)
      go_wp2_with fail
      obtain ⟨Y, hY⟩ : ∃ Y, Y = wr.drew := ⟨_, rfl⟩
      have HY : Hid (Below w.heap.size w Y) := by rw [hY]; exact HB.out.drew
      have HC : Hid (Y.cell? ⟨p, o + k, none⟩ = some (.int .i64 y) ∧ Y.cell? ⟨q, u + k, none⟩ = some (.int .i64 y)) := ⟨(HY.out.cell (by exact World.block_lt_of_cell? _ _ e)).trans e, (HY.out.cell (by exact World.block_lt_of_cell? _ _ e')).trans e'⟩
      clear e e' hy HB hI2
      refine wp_region_held (S := fun W => W.cell? ⟨p, o + k, none⟩ = some (.int .i64 y) ∧ W.cell? ⟨q, u + k, none⟩ = some (.int .i64 y)) (by kernel_rfl) ?_
      change wpAnyH _ _ _ _ _ _ _ _ (World.drew _)
      rw [← hY]
      clear hY
      refine takeH (o := ?o85) 0 (.slice (some ⟨p, o, none⟩) n c) ?h85 ?r85
      case h85 => simp only [aT, aZ]; rfl
      refine ⟨_, by simp [Act.put]; rfl, by kernel_rfl, by kernel_rfl, by kernel_rfl, fun _ _ _ h => h, (.inl ⟨rfl, fun W _ => by kernel_rfl⟩), HC.out, ?_⟩
      refine takeH (o := ?o86) 1 (.int .i64 k) ?h86 ?r86
      case h86 => simp only [aT, aS, aZ]; rfl
      refine ⟨_, by simp [Act.put]; rfl, by kernel_rfl, by kernel_rfl, by kernel_rfl, fun _ _ _ h => h, (.inl ⟨rfl, fun W _ => by kernel_rfl⟩), HC.out, ?_⟩
      refine takeH (o := ?o87) 2 (.pointer (some ⟨p, o + k, none⟩)) ?h87 ?r87
      case h87 => simp only [aT, aS, aZ]; rfl
      refine ⟨_, by simp [Act.put]; rfl, by kernel_rfl, by kernel_rfl, by kernel_rfl, fun _ _ _ h => h, (.inl ⟨rfl, fun W _ => by go_simp; first | done | (intro h; omega) | (rw [if_pos (by omega)]; rfl)⟩), HC.out, ?_⟩
      refine takeH (o := ?o88) 3 (.int .i64 y) ?h88 ?r88
      case h88 => simp only [aT, aS, aZ]; rfl
      refine ⟨_, by simp [Act.put]; rfl, by kernel_rfl, by kernel_rfl, by kernel_rfl, fun _ _ _ h => h, (.inl ⟨rfl, fun W hW => by have c := hW.1; go_simp⟩), HC.out, ?_⟩
      refine takeH (o := ?o89) 4 (.slice (some ⟨q, u, none⟩) n d) ?h89 ?r89
      case h89 => simp only [aT, aS, aZ]; rfl
      refine ⟨_, by simp [Act.put]; rfl, by kernel_rfl, by kernel_rfl, by kernel_rfl, fun _ _ _ h => h, (.inl ⟨rfl, fun W _ => by kernel_rfl⟩), HC.out, ?_⟩
      refine takeH (o := ?o90) 5 (.int .i64 k) ?h90 ?r90
      case h90 => simp only [aT, aS, aZ]; rfl
      refine ⟨_, by simp [Act.put]; rfl, by kernel_rfl, by kernel_rfl, by kernel_rfl, fun _ _ _ h => h, (.inl ⟨rfl, fun W _ => by kernel_rfl⟩), HC.out, ?_⟩
      refine takeH (o := ?o91) 6 (.pointer (some ⟨q, u + k, none⟩)) ?h91 ?r91
      case h91 => simp only [aT, aS, aZ]; rfl
      refine ⟨_, by simp [Act.put]; rfl, by kernel_rfl, by kernel_rfl, by kernel_rfl, fun _ _ _ h => h, (.inl ⟨rfl, fun W _ => by go_simp; first | done | (intro h; omega) | (rw [if_pos (by omega)]; rfl)⟩), HC.out, ?_⟩
      refine takeH (o := ?o92) 7 (.int .i64 y) ?h92 ?r92
      case h92 => simp only [aT, aS, aZ]; rfl
      refine ⟨_, by simp [Act.put]; rfl, by kernel_rfl, by kernel_rfl, by kernel_rfl, fun _ _ _ h => h, (.inl ⟨rfl, fun W hW => by have c := hW.2; go_simp⟩), HC.out, ?_⟩
      refine takeH (o := ?o93) 8 (.bool false) ?h93 ?r93
      case h93 => simp only [aT, aS, aZ]; rfl
      refine ⟨_, by simp [Act.put]; rfl, by kernel_rfl, by kernel_rfl, by kernel_rfl, fun _ _ _ h => h, (.inl ⟨rfl, fun W _ => by go_simp⟩), HC.out, ?_⟩
      refine wpAnyH_done (by kernel_rfl) ?_ _
      clear HC
      go_wp2
      go_roundw
      case rel => exact ⟨k + 1, by omega, by go_num, HY.out⟩
      case measure => simp [intOf]; omega
    · have hI2 : decide ((k : Int) < (n : Int)) = false := dec_false (by omega)
      go_wp2
      go_ret
      exact ⟨rfl, HB.out⟩
theorem infoAgS9 : (Try.prog.info? 27).map (·.size) = some 7 := by kernel_rfl
def DrewAS (w : World) (e : Ending) (w' : World) : Prop := ∃ v x F G, e = .returned v ∧ RdAg w' v x F G ∧ Sm8 x.sealed x.taken ∧ Below w.heap.size w w'
set_option maxRecDepth 200000 in
set_option maxHeartbeats 2000000 in
theorem drawAgentSend_any (a : Option Addr) (len cap : Nat) (zs : List Int) (w : World) (hR : RdB w a len zs) (hlen : len ≤ 1048576) :
    Calls Try.prog 8 #[.slice a len cap] w fun e w' => DrewAS w e w' := by
  have HZ : Hid (Blk (w.alloc (.cells #[.int .i64 0, .int .i64 0, .bool false, .int .i64 0, .slice none 0 0, .slice none 0 0, .int .i64 0] 27)) w.heap.size #[.int .i64 0, .int .i64 0, .bool false, .int .i64 0, .slice none 0 0, .slice none 0 0, .int .i64 0] 27 ∧ Below w.heap.size w (w.alloc (.cells #[.int .i64 0, .int .i64 0, .bool false, .int .i64 0, .slice none 0 0, .slice none 0 0, .int .i64 0] 27))) := ⟨Blk.made _ _ _, (Below.refl _ _).alloc (Nat.le_refl _) _⟩
  have HR : Hid (RdB (w.alloc (.cells #[.int .i64 0, .int .i64 0, .bool false, .int .i64 0, .slice none 0 0, .slice none 0 0, .int .i64 0] 27)) a len zs) := hR.below HZ.out.2
  clear hR
  go_enter Try.func8, Try.ntmps8
  go_wp2_with fail
  obtain ⟨W0, hW0⟩ : ∃ W, W = w.alloc (.cells #[.int .i64 0, .int .i64 0, .bool false, .int .i64 0, .slice none 0 0, .slice none 0 0, .int .i64 0] 27) := ⟨_, rfl⟩
  rw [← hW0] at HZ HR ⊢
  clear hW0
  refine (l1New_any a len cap zs _ HR.out hlen).mono ?_
  rintro e w1 ⟨rfl, ⟨h, C1⟩, b1⟩
  have HZ1 : Hid (Blk w1 w.heap.size #[.int .i64 0, .int .i64 0, .bool false, .int .i64 0, .slice none 0 0, .slice none 0 0, .int .i64 0] 27 ∧ Below w.heap.size w w1 ∧ W0.heap.size < w1.heap.size ∧ w.heap.size < W0.heap.size) := ⟨HZ.out.1.below b1, Below.next HZ.out.2 b1, World.block_lt_of_cell? _ _ C1.c0, HZ.out.1.lt⟩
  obtain ⟨q, hqe⟩ : ∃ q, q = W0.heap.size := ⟨_, rfl⟩
  rw [← hqe] at C1 HZ1 ⊢
  have HC1 : Hid (Cur w1 q a len cap zs 0 h) := C1
  clear C1 b1 HZ HR hqe
  go_wp2_with fail
  refine (l8Draw_any q a len cap zs 0 h _ HC1.out hlen).mono ?_
  rintro e w2 ⟨v, x, F, G, i2, h2, rfl, r2, s2, oF, oG, _, C2, g2⟩
  obtain ⟨cs, rfl, hz, hone⟩ := r2.cells
  have H2 : Hid (Blk w2 w.heap.size #[.int .i64 0, .int .i64 0, .bool false, .int .i64 0, .slice none 0 0, .slice none 0 0, .int .i64 0] 27 ∧ Below w.heap.size w w2 ∧ RdAg w2 (.agg cs) x F G ∧ Sm8 x.sealed x.taken ∧ (∀ b ∈ F, w.heap.size < b) ∧ (∀ b ∈ G, w.heap.size < b)) := ⟨HZ1.out.1.grown g2 (by have := HZ1.out.2.2; omega), HZ1.out.2.1.grown g2 HZ1.out.2.1.size (fun k hk => by simp at hk; have := HZ1.out.2.2; omega), r2, s2, fun b hb => by have := oF.ge b hb; have := HZ1.out.2.2; omega, fun b hb => by have := oG.ge b hb; have := HZ1.out.2.2; omega⟩
  clear r2 s2 oF oG C2 g2 HZ1 HC1
  go_wp2_with (first | go_skip | (with_reducible refine stopStore 27 rfl ?_))
  refine store_known 27 w.heap.size _ cs 27 H2.out.1 rfl rfl rfl rfl (by rw [hz]; exact infoAgS9) (by rw [hz]; rfl) hone ?_
  go_wp2
  refine bodyPost_ret (results_cell_row Try.results8 _ _ w.heap.size _ _ (0, 0) _ rfl H2.out.1.setRow Try.underlying27 rfl (by rw [hz]; exact infoAgS9)) rfl ?_
  exact ⟨_, x, F, G, rfl, H2.out.2.2.1.agree (Agree.row (fun hx => by have := H2.out.2.2.2.2.1 _ hx; omega) _) (Agree.row (fun hx => by have := H2.out.2.2.2.2.2 _ hx; omega) _), H2.out.2.2.2.1, below_setRow H2.out.2.1 (Nat.le_refl _) _⟩
end Go.Proofs.Ytgkbhhlkaifnoaa
/- The walks through the program's numbers, bytesOfNumbers and SketchBytes. No statement of the seat is proved here. -/
namespace Go.Proofs.Ytgkbhhlkaifnoaa
open Go.RowKit
section
variable {P : Program} {ops : Array Oper} {Q : Exit → Act → World → Prop} {a : Act} {w : World} {o : Oper} {K : Act → World → Prop}
end
theorem NumSt.below {w W W' : World} {cs : Array Value} {t : TypeId} {v : Value} {xs : List Int} (h : NumSt w cs t v xs W) (hb : Below W.heap.size W W') : NumSt w cs t v xs W' := ⟨h.box.below hb, ownsRow_below h.own hb, Below.next h.bel hb⟩
end Go.Proofs.Ytgkbhhlkaifnoaa
/- The walk through the program's GetNum: it defers, it calls readNum, it recovers. No statement of the seat is proved here. -/
namespace Go.Proofs.Ytgkbhhlkaifnoaa
open Go.RowKit





end Go.Proofs.Ytgkbhhlkaifnoaa
/- The walk through the program's numbersOfBytes. No statement of the seat is proved here. -/
namespace Go.Proofs.Ytgkbhhlkaifnoaa
open Go.RowKit
end Go.Proofs.Ytgkbhhlkaifnoaa
/- The walks through the program's SketchBytes, numbersOfItem, crcBytes. No statement of the seat is proved here. -/
namespace Go.Proofs.Ytgkbhhlkaifnoaa
open Go.RowKit
theorem ok_shaped {s : Sk} (h : s.ok = true) : s.shaped = true := by
  have l := (Sk.ok_lens h).1
  cases q : s.shaped
  · have e : okT s s.tl = false := by unfold okT; rw [q]; rfl
    rw [okT_ok (fun _ => rfl), h] at e
    cases e
  · rfl
end Go.Proofs.Ytgkbhhlkaifnoaa
/- The walks through the program's sketchOfNumbers and SketchOf. No statement of the seat is proved here. -/
namespace Go.Proofs.Ytgkbhhlkaifnoaa
open Go.RowKit
theorem rdI_own_cap {w : World} {B e n : Nat} {v : Value} {zs : List Int} (h : w.ownsRow B e 1 v n (zs.map (Value.int .i64))) : ∃ a cap F, v = .slice a n cap ∧ RdI w a n zs F ∧ n ≤ cap := by
  obtain ⟨a, cap, F, rfl, hr, _⟩ := rdI_of_own h
  refine ⟨a, cap, F, rfl, hr, ?_⟩
  rcases h.2 with ⟨_, h0⟩ | ⟨g, c, cur, h1, _, _, h2, _⟩
  · omega
  · cases h1; exact h2
end Go.Proofs.Ytgkbhhlkaifnoaa
