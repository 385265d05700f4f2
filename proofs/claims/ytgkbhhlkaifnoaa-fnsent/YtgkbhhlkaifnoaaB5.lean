/- Several texts of mine, laid together. No statement of the seat is proved here. -/
import Derived.Test.YtgkbhhlkaifnoaaB2
import Derived.Test.YtgkbhhlkaifnoaaB4
import Derived.BigQuiet
import Derived.Test.YtgkbhhlkaifnoaaItModel
import Derived.Test.YtgkbhhlkaifnoaaTallyB
import Derived.Test.YtgkbhhlkaifnoaaFrModel
/- The walk through the model's AgentSend. No statement of the seat is proved here. -/
namespace Go.Proofs.Ytgkbhhlkaifnoaa
open Go.RowKit
theorem infoAgDSpec : (Try.prog.info? 27).map (·.size) = some 7 := by kernel_rfl
theorem infoFrDSpec : (Try.prog.info? 38).map (·.size) = some 16 := by kernel_rfl
theorem infoItDSpec : (Try.prog.info? 36).map (·.size) = some 11 := by kernel_rfl
set_option maxRecDepth 200000 in
set_option maxHeartbeats 8000000 in
theorem sendSpec_any (v : Value) (x : Ag) (F0 G0 : List Nat) (w : World) (h : RdAg w v x F0 G0) (hf : ∀ y ∈ x.sealed, y.sk.fits) (hs : x.sealed.length ≤ 1048576) (hl : x.taken.length ≤ 1048576) :
    Calls Try.prog 13 #[v] w fun e w' => NewAgFr w x.send e w' := by
  obtain ⟨a1, n1, c1, a2, n2, c2, rfl, hL, hP, hc1, hc2⟩ := h
  have HX : Hid (RdAg w (.agg #[.int .i64 x.id, .int .i64 x.epoch, .bool x.live, .int .i64 x.granted, .slice a1 n1 c1, .slice a2 n2 c2, .int .i64 x.next]) x F0 G0 ∧ x.sealed.length = n1 ∧ RdL itK w a1 n1 x.sealed F0) := ⟨⟨a1, n1, c1, a2, n2, c2, rfl, hL, hP, hc1, hc2⟩, hL.length, hL⟩
  have HF : Hid ((∀ y ∈ x.sealed, y.sk.fits) ∧ x.sealed.length ≤ 1048576 ∧ x.taken.length ≤ 1048576) := ⟨hf, hs, hl⟩
  have hn1 : n1 ≤ 1048576 := by rw [← hL.length]; exact hs
  clear hL hP hc1 hc2 hf hs hl
  have HB0 : Hid (SendW w #[.int .i64 x.id, .int .i64 x.epoch, .bool x.live, .int .i64 x.granted, .slice a1 n1 c1, .slice a2 n2 c2, .int .i64 x.next] (((w.alloc (.cells #[.int .i64 x.id, .int .i64 x.epoch, .bool x.live, .int .i64 x.granted, .slice a1 n1 c1, .slice a2 n2 c2, .int .i64 x.next] 27)).alloc (.cells #[.int .i64 0, .int .i64 0, .bool false, .int .i64 0, .slice none 0 0, .slice none 0 0, .int .i64 0] 27)).alloc (.cells #[.int .i64 0, .int .i64 0, .int .i64 0, .int .i64 0, .slice none 0 0, .int .i64 0, .int .i64 0, .int .i64 0, .int .i64 0, .int .i64 0, .int .i64 0, .int .i64 0, .int .i64 0, .slice none 0 0, .slice none 0 0, .slice none 0 0] 38))) := SendW.made _ _
  go_enter Try.func13, Try.ntmps13
  go_wp2_with (first | go_skip | (with_reducible refine stopLoad 27 rfl ?_))
  obtain ⟨W0, hW0⟩ : ∃ W, W = ((w.alloc (.cells #[.int .i64 x.id, .int .i64 x.epoch, .bool x.live, .int .i64 x.granted, .slice a1 n1 c1, .slice a2 n2 c2, .int .i64 x.next] 27)).alloc (.cells #[.int .i64 0, .int .i64 0, .bool false, .int .i64 0, .slice none 0 0, .slice none 0 0, .int .i64 0] 27)).alloc (.cells #[.int .i64 0, .int .i64 0, .int .i64 0, .int .i64 0, .slice none 0 0, .int .i64 0, .int .i64 0, .int .i64 0, .int .i64 0, .int .i64 0, .int .i64 0, .int .i64 0, .int .i64 0, .slice none 0 0, .slice none 0 0, .slice none 0 0] 38) := ⟨_, rfl⟩
  rw [← hW0] at HB0 ⊢
  clear hW0
  refine load_known 27 w.heap.size _ 27 _ HB0.out.box rfl rfl rfl Try.underlying27 rfl infoAgDSpec ?_
  go_wp2_with fail
  refine (l8Copy_any _ x F0 G0 _ (HX.out.1.below HB0.out.bel) HF.out.1 HF.out.2.1 HF.out.2.2).mono ?_
  rintro e w2 ⟨v2, F, G, rfl, r2, o2, p2, ap2, hb2⟩
  obtain ⟨q1, r1, k1, q2, r2', k2, rfl, _⟩ := id r2
  have H2 : Hid (SendW w #[.int .i64 x.id, .int .i64 x.epoch, .bool x.live, .int .i64 x.granted, .slice a1 n1 c1, .slice a2 n2 c2, .int .i64 x.next] w2 ∧ RdAg w2 (.agg #[.int .i64 x.id, .int .i64 x.epoch, .bool x.live, .int .i64 x.granted, .slice q1 r1 k1, .slice q2 r2' k2, .int .i64 x.next]) x F G ∧ Own (w.heap.size + 3) w2 F ∧ Own (w.heap.size + 3) w2 G ∧ (∀ b ∈ F, b ∉ G) ∧ w.heap.size + 3 ≤ w2.heap.size) := ⟨HB0.out.below hb2, r2, o2.mono HB0.out.rf.lt, p2.mono HB0.out.rf.lt, ap2, by have := HB0.out.rf.lt; have := hb2.size; omega⟩
  clear r2 o2 p2 ap2 hb2 HB0
  obtain ⟨r2, hr2⟩ : ∃ r, r = r2' := ⟨_, rfl⟩
  rw [← hr2] at H2 ⊢
  clear hr2
  go_wp2_with (first | go_skip | (with_reducible refine stopStore 27 rfl ?_))
  refine store_fresh 27 w2.heap.size rfl #[.int .i64 0, .int .i64 0, .bool false, .int .i64 0, .slice none 0 0, .slice none 0 0, .int .i64 0] #[.int .i64 x.id, .int .i64 x.epoch, .bool x.live, .int .i64 x.granted, .slice q1 r1 k1, .slice q2 r2 k2, .int .i64 x.next] 27 rfl rfl rfl rfl infoAgDSpec rfl (by simp [Value.oneCell']) ?_
  intro w3 hg3 hb3
  have H3 : Hid (SendL w #[.int .i64 x.id, .int .i64 x.epoch, .bool x.live, .int .i64 x.granted, .slice a1 n1 c1, .slice a2 n2 c2, .int .i64 x.next] w2.heap.size #[.int .i64 x.id, .int .i64 x.epoch, .bool x.live, .int .i64 x.granted, .slice q1 r1 k1, .slice q2 r2 k2, .int .i64 x.next] x F G w3) := ⟨H2.out.1.below hb3, hg3, H2.out.2.1.below hb3, H2.out.2.2.1.below H2.out.2.1.lt1 hb3, H2.out.2.2.2.1.below H2.out.2.1.lt2 hb3, H2.out.2.2.2.2.1, H2.out.2.2.2.2.2, H2.out.2.1.lt1, H2.out.2.1.lt2⟩
  obtain ⟨L, hL⟩ : ∃ L, L = w2.heap.size := ⟨_, rfl⟩
  rw [← hL] at H3 ⊢
  clear hg3 hb3 H2 hL
  go_wp2_with (first | go_skip | (with_reducible refine stopLoad 27 rfl ?_))
  refine load_known 27 w.heap.size _ 27 _ H3.out.base.box rfl rfl rfl Try.underlying27 rfl infoAgDSpec ?_
  go_wp2_with fail
  refine (agentOkSpec_any _ x F0 G0 _ (HX.out.1.below H3.out.base.bel) (fun y hy => (HF.out.1 y hy).wide) (by have := HF.out.2.1; omega) (by have := HF.out.2.2; omega)).mono ?_
  rintro e w4 ⟨rfl, hb4⟩
  have H4 : Hid (SendL w #[.int .i64 x.id, .int .i64 x.epoch, .bool x.live, .int .i64 x.granted, .slice a1 n1 c1, .slice a2 n2 c2, .int .i64 x.next] L #[.int .i64 x.id, .int .i64 x.epoch, .bool x.live, .int .i64 x.granted, .slice q1 r1 k1, .slice q2 r2 k2, .int .i64 x.next] x F G w4) := H3.out.below hb4
  obtain ⟨d, hd⟩ : ∃ d, d = x.ok := ⟨_, rfl⟩
  rw [← hd]
  have HD : Hid (d = x.ok) := hd
  clear hb4 hd H3
  cases d
  · have HV : Hid (x.send = (x, Fr.none0)) := by show _ = _; unfold Ag.send; rw [if_pos HD.out.symm]
    go_wp2_with (first | go_skip | (with_reducible refine stopLoad 27 rfl ?_))
    refine load_known 27 L _ 27 _ H4.out.loc rfl rfl rfl Try.underlying27 rfl infoAgDSpec ?_
    go_wp2_with (first | go_skip | (with_reducible refine stopStore 27 rfl ?_))
    refine store_known 27 (w.heap.size + 1) _ #[.int .i64 x.id, .int .i64 x.epoch, .bool x.live, .int .i64 x.granted, .slice q1 r1 k1, .slice q2 r2 k2, .int .i64 x.next] 27 H4.out.base.ra rfl rfl rfl rfl infoAgDSpec rfl (by simp [Value.oneCell']) ?_
    go_wp2_with (first | go_skip | (with_reducible refine stopStore 38 rfl ?_))
    refine store_known 38 (w.heap.size + 1 + 1) _ #[.int .i64 0, .int .i64 0, .int .i64 0, .int .i64 0, .slice none 0 0, .int .i64 0, .int .i64 0, .int .i64 0, .int .i64 0, .int .i64 0, .int .i64 0, .int .i64 0, .int .i64 0, .slice none 0 0, .slice none 0 0, .slice none 0 0] 38 (H4.out.base.rf.setRowOther (by omega)) rfl rfl rfl rfl infoFrDSpec rfl (by simp [Value.oneCell']) ?_
    have HE : Hid (_ ∧ _ ∧ _) := H4.out.put (rdFr_bare w4 0 0 0) Own.nil (by intro b hb; cases hb)
    go_wp2
    refine bodyPost_ret (results_row_two Try.results13 _ _ (w.heap.size + 1) (w.heap.size + 1 + 1) 27 38 #[.int .i64 x.id, .int .i64 x.epoch, .bool x.live, .int .i64 x.granted, .slice q1 r1 k1, .slice q2 r2 k2, .int .i64 x.next] #[.int .i64 0, .int .i64 0, .int .i64 0, .int .i64 0, .slice none 0 0, .int .i64 0, .int .i64 0, .int .i64 0, .int .i64 0, .int .i64 0, .int .i64 0, .int .i64 0, .int .i64 0, .slice none 0 0, .slice none 0 0, .slice none 0 0] _ _ rfl rfl HE.out.2.1 HE.out.2.2 Try.underlying27 rfl infoAgDSpec Try.underlying38 rfl infoFrDSpec) rfl ?_
    rw [HV.out]
    exact HE.out.1
  have HOK : Hid (x.ok = true) := HD.out.symm
  clear HD
  go_wp2_with (first | go_skip | (with_reducible refine stopLoad 27 rfl ?_))
  refine load_known 27 w.heap.size _ 27 _ H4.out.base.box rfl rfl rfl Try.underlying27 rfl infoAgDSpec ?_
  go_wp2_with fail
  refine (waiting_any _ x F0 G0 _ (HX.out.1.below H4.out.base.bel) (fun y hy => (HF.out.1 y hy).wide) HF.out.2.1 HF.out.2.2).mono ?_
  rintro e w5 ⟨⟨u5, rfl, hown⟩, hb5⟩
  obtain ⟨aw, cw, Fw, rfl, rw5, hcw⟩ := rdI_own_cap hown
  obtain ⟨m, hm⟩ : ∃ m, m = x.waits.length := ⟨_, rfl⟩
  rw [← hm] at rw5 ⊢
  have H5 : Hid (SendL w #[.int .i64 x.id, .int .i64 x.epoch, .bool x.live, .int .i64 x.granted, .slice a1 n1 c1, .slice a2 n2 c2, .int .i64 x.next] L #[.int .i64 x.id, .int .i64 x.epoch, .bool x.live, .int .i64 x.granted, .slice q1 r1 k1, .slice q2 r2 k2, .int .i64 x.next] x F G w5 ∧ RdI w5 aw m x.waits Fw ∧ m = x.waits.length) := ⟨H4.out.below hb5, rw5, hm⟩
  clear hown hb5 rw5 hcw H4
  by_cases h0 : m = 0
  · have z0 : ((m : Int) == 0) = true := by simp [h0]
    have z1 : (m == 0) = true := by simp [h0]
    have HV : Hid (x.send = (x, ⟨0, x.id, x.epoch, 0, [], It.zero⟩)) := by
      show _ = _
      unfold Ag.send
      rw [if_neg (by rw [HOK.out]; simp), if_pos (List.eq_nil_of_length_eq_zero (by omega))]
    clear hm h0
    go_wp2_with fail
    have H6 : Hid (SendL w #[.int .i64 x.id, .int .i64 x.epoch, .bool x.live, .int .i64 x.granted, .slice a1 n1 c1, .slice a2 n2 c2, .int .i64 x.next] L #[.int .i64 x.id, .int .i64 x.epoch, .bool x.live, .int .i64 x.granted, .slice q1 r1 k1, .slice q2 r2 k2, .int .i64 x.next] x F G w5.drew) := H5.out.1.below (Below.refl _ _).drew
    obtain ⟨Y0, hY0⟩ : ∃ Y, Y = w5.drew := ⟨_, rfl⟩
    rw [← hY0] at H6
    clear H5
    refine wp_region_held (S := fun W => Blk W w.heap.size #[.int .i64 x.id, .int .i64 x.epoch, .bool x.live, .int .i64 x.granted, .slice a1 n1 c1, .slice a2 n2 c2, .int .i64 x.next] 27 ∧ Blk W L #[.int .i64 x.id, .int .i64 x.epoch, .bool x.live, .int .i64 x.granted, .slice q1 r1 k1, .slice q2 r2 k2, .int .i64 x.next] 27) (by kernel_rfl) ?_
    change wpAnyH _ _ _ _ _ _ _ _ (World.drew _)
    rw [← hY0]
    clear hY0
    refine takeH (o := ?o1) 0 (.agg #[.int .i64 x.id, .int .i64 x.epoch, .bool x.live, .int .i64 x.granted, .slice q1 r1 k1, .slice q2 r2 k2, .int .i64 x.next]) ?h1 ?r1
    case h1 => simp only [aT, aZ]; rfl
    refine ⟨_, by simp [Act.put]; rfl, by kernel_rfl, by kernel_rfl, by kernel_rfl, fun _ _ _ h => h, (yields_whole 27 L #[.int .i64 x.id, .int .i64 x.epoch, .bool x.live, .int .i64 x.granted, .slice q1 r1 k1, .slice q2 r2 k2, .int .i64 x.next] 27 _ rfl rfl rfl Try.underlying27 rfl infoAgDSpec (fun W hW => hW.2)), ⟨H6.out.base.box, H6.out.loc⟩, ?_⟩
    refine takeH (o := ?o2) 1 (.pointer (some ⟨w.heap.size, 0, none⟩)) ?h2 ?r2
    case h2 => simp only [aT, aS, aZ]; rfl
    refine ⟨_, by simp [Act.put]; rfl, by kernel_rfl, by kernel_rfl, by kernel_rfl, fun _ _ _ h => h, (.inl ⟨rfl, fun W _ => by kernel_rfl⟩), ⟨H6.out.base.box, H6.out.loc⟩, ?_⟩
    refine takeH (o := ?o3) 2 (.int .i64 x.id) ?h3 ?r3
    case h3 => simp only [aT, aS, aZ]; rfl
    refine ⟨_, by simp [Act.put]; rfl, by kernel_rfl, by kernel_rfl, by kernel_rfl, fun _ _ _ h => h, (.inl ⟨rfl, fun W hW => by have c := hW.1.cell 0; simp only [aT, aZ] at c; go_simp⟩), ⟨H6.out.base.box, H6.out.loc⟩, ?_⟩
    refine takeH (o := ?o4) 3 (.pointer (some ⟨w.heap.size, 1, none⟩)) ?h4 ?r4
    case h4 => simp only [aT, aS, aZ]; rfl
    refine ⟨_, by simp [Act.put]; rfl, by kernel_rfl, by kernel_rfl, by kernel_rfl, fun _ _ _ h => h, (.inl ⟨rfl, fun W _ => by kernel_rfl⟩), ⟨H6.out.base.box, H6.out.loc⟩, ?_⟩
    refine takeH (o := ?o5) 4 (.int .i64 x.epoch) ?h5 ?r5
    case h5 => simp only [aT, aS, aZ]; rfl
    refine ⟨_, by simp [Act.put]; rfl, by kernel_rfl, by kernel_rfl, by kernel_rfl, fun _ _ _ h => h, (.inl ⟨rfl, fun W hW => by have c := hW.1.cell 1; simp only [aT, aS, aZ] at c; go_simp⟩), ⟨H6.out.base.box, H6.out.loc⟩, ?_⟩
    refine takeH (o := ?o6) 5 (.agg #[.int .i64 0, .int .i64 x.id, .int .i64 x.epoch, .int .i64 0, .slice none 0 0, .int .i64 0, .int .i64 0, .int .i64 0, .int .i64 0, .int .i64 0, .int .i64 0, .int .i64 0, .int .i64 0, .slice none 0 0, .slice none 0 0, .slice none 0 0]) ?h6 ?r6
    case h6 => simp only [aT, aS, aZ]; rfl
    refine ⟨_, by simp [Act.put]; rfl, by kernel_rfl, by kernel_rfl, by kernel_rfl, fun _ _ _ h => h, (.inl ⟨rfl, fun W _ => by kernel_rfl⟩), ⟨H6.out.base.box, H6.out.loc⟩, ?_⟩
    refine onlyH (o := ?o7) 6 (by kernel_rfl) ?h7 ?r7
    case h7 => simp only [aT, aS, aZ]; rfl
    intro K hK
    have gL := H6.out.gL
    refine op_store 27 (w.heap.size + 1) #[.int .i64 0, .int .i64 0, .bool false, .int .i64 0, .slice none 0 0, .slice none 0 0, .int .i64 0] #[.int .i64 x.id, .int .i64 x.epoch, .bool x.live, .int .i64 x.granted, .slice q1 r1 k1, .slice q2 r2 k2, .int .i64 x.next] 27 rfl rfl rfl rfl H6.out.base.ra infoAgDSpec rfl (by simp [Value.oneCell']) ⟨_, by simp [Act.put]; rfl, hK _ _ ⟨⟨H6.out.base.box.setRowOther (by omega), H6.out.loc.setRowOther (by omega)⟩, ?_⟩⟩
    clear hK
    refine onlyH (o := ?o8) 7 (by kernel_rfl) ?h8 ?r8
    case h8 => simp only [aT, aS, aZ]; rfl
    intro K hK
    refine op_store 38 (w.heap.size + 1 + 1) #[.int .i64 0, .int .i64 0, .int .i64 0, .int .i64 0, .slice none 0 0, .int .i64 0, .int .i64 0, .int .i64 0, .int .i64 0, .int .i64 0, .int .i64 0, .int .i64 0, .int .i64 0, .slice none 0 0, .slice none 0 0, .slice none 0 0] #[.int .i64 0, .int .i64 x.id, .int .i64 x.epoch, .int .i64 0, .slice none 0 0, .int .i64 0, .int .i64 0, .int .i64 0, .int .i64 0, .int .i64 0, .int .i64 0, .int .i64 0, .int .i64 0, .slice none 0 0, .slice none 0 0, .slice none 0 0] 38 rfl rfl rfl rfl (H6.out.base.rf.setRowOther (by omega)) infoFrDSpec rfl (by simp [Value.oneCell']) ⟨_, by simp [Act.put]; rfl, hK _ _ ⟨⟨(H6.out.base.box.setRowOther (by omega)).setRowOther (by omega), (H6.out.loc.setRowOther (by omega)).setRowOther (by omega)⟩, ?_⟩⟩
    clear hK
    refine wpAnyH_done (by kernel_rfl) ?_ _
    have HE : Hid (_ ∧ _ ∧ _) := H6.out.put (rdFr_bare Y0 0 x.id x.epoch) Own.nil (by intro b hb; cases hb)
    go_wp2
    refine bodyPost_ret (results_row_two Try.results13 _ _ (w.heap.size + 1) (w.heap.size + 1 + 1) 27 38 #[.int .i64 x.id, .int .i64 x.epoch, .bool x.live, .int .i64 x.granted, .slice q1 r1 k1, .slice q2 r2 k2, .int .i64 x.next] #[.int .i64 0, .int .i64 x.id, .int .i64 x.epoch, .int .i64 0, .slice none 0 0, .int .i64 0, .int .i64 0, .int .i64 0, .int .i64 0, .int .i64 0, .int .i64 0, .int .i64 0, .int .i64 0, .slice none 0 0, .slice none 0 0, .slice none 0 0] _ _ rfl rfl HE.out.2.1 HE.out.2.2 Try.underlying27 rfl infoAgDSpec Try.underlying38 rfl infoFrDSpec) rfl ?_
    rw [HV.out]
    exact HE.out.1
  have hmp : 0 < m := by omega
  have z0 : ((m : Int) == 0) = false := by simp; omega
  have z1 : (m == 0) = false := by simp; omega
  have HNE : Hid (x.waits ≠ []) := fun e => by rw [e] at hm; simp at hm; omega
  obtain ⟨bw, ow, rfl⟩ := H5.out.2.1.addr hmp
  obtain ⟨zs, hzs⟩ : ∃ zs, zs = x.waits := ⟨_, rfl⟩
  have HZ : Hid (RdI w5 (some ⟨bw, ow, none⟩) m zs Fw ∧ m = zs.length ∧ zs = x.waits) := ⟨by rw [hzs]; exact H5.out.2.1, by rw [hzs]; exact hm, hzs⟩
  have H6 : Hid (SendL w #[.int .i64 x.id, .int .i64 x.epoch, .bool x.live, .int .i64 x.granted, .slice a1 n1 c1, .slice a2 n2 c2, .int .i64 x.next] L #[.int .i64 x.id, .int .i64 x.epoch, .bool x.live, .int .i64 x.granted, .slice q1 r1 k1, .slice q2 r2 k2, .int .i64 x.next] x F G w5) := H5.out.1
  have hmM : m ≤ 60 := by
    have q := HZ.out.2.1
    rw [HZ.out.2.2] at q
    have := Ag.ok_granted HOK.out
    unfold Ag.waits at q
    split at q
    · have q2 := waitTo_len x.taken x.upTo
      unfold Ag.upTo at q q2
      omega
    · simp at q; omega
  have d0 : w5.cell? ⟨bw, ow, none⟩ = some (.int .i64 (zs.getD 0 0)) := by
    have := HZ.out.1.at 0 hmp
    rw [Nat.add_zero] at this
    exact this
  obtain ⟨z00, hz00⟩ : ∃ z, z = zs.getD 0 0 := ⟨_, rfl⟩
  rw [← hz00] at d0
  have HZ0 : Hid (z00 = zs.getD 0 0) := hz00
  have hm1 : (0 : Int) < (m : Int) := by omega
  clear hm H5 h0 hzs hz00
  go_wp2_with fail
  clear d0
  go_loopw [6, 7] (fun q i wr => ∃ (k : Nat) (z s : Int), k ≤ m ∧ i = .int .i64 z ∧ q = .int .i64 s ∧ Hid (Below w5.heap.size w5 wr) ∧ Hid (z = (k : Int) - 1) ∧ Hid (s = ((zs.drop k).find? fun z => decide (x.next < z)).getD (zs.getD 0 0))) (fun _ i _ => (intOf i + 1).toNat)
  case atStart => exact ⟨m, _, _, Nat.le_refl _, rfl, rfl, Below.refl _ _, rfl, by show _ = _; rw [HZ.out.2.1, List.drop_length, HZ0.out]; rfl⟩
  case round =>
    obtain ⟨k, z, s, hk, rfl, rfl, HBR, HZK, HS⟩ := hrel
    have H6 : Hid (SendL w #[.int .i64 x.id, .int .i64 x.epoch, .bool x.live, .int .i64 x.granted, .slice a1 n1 c1, .slice a2 n2 c2, .int .i64 x.next] L #[.int .i64 x.id, .int .i64 x.epoch, .bool x.live, .int .i64 x.granted, .slice q1 r1 k1, .slice q2 r2 k2, .int .i64 x.next] x F G wr) := H6.out.below HBR.out
    have e6 := H6.out.base.box.cell 6
    simp only [aT, aS, aZ] at e6
    by_cases hk0 : k = 0
    · subst hk0
      have hz : z = -1 := by have := HZK.out; omega
      subst hz
      have HS2 : Hid (s = turnOf zs x.next) := HS.out
      obtain ⟨sq, hsq⟩ : ∃ sq, sq = s := ⟨_, rfl⟩
      rw [← hsq] at HS2 ⊢
      have HM := turnOf_mem x.next HNE.out
      have HW := waits_mem HM
      have HSQ : Hid (sq = turnOf x.waits x.next) := by show _ = _; rw [HS2.out, HZ.out.2.2]
      rw [← HSQ.out] at HW
      obtain ⟨j, hj⟩ : ∃ j : Nat, sq = (j : Int) + 1 := ⟨(sq - 1).toNat, by omega⟩
      have hjl : j < n1 := by have := HX.out.2.1; omega
      have HV : Hid (x.send = ((⟨x.id, x.epoch, x.live, x.granted, x.sealed, x.taken, sq⟩ : Ag), ⟨1, x.id, x.epoch, 0, [], x.sealed.getD j It.zero⟩)) := by
        show _ = _
        unfold Ag.send
        rw [if_neg (by rw [HOK.out]; simp), if_neg HNE.out, ← HSQ.out, show (sq - 1).toNat = j by omega]
      obtain ⟨b, off, ha, hbF, cs, Fi, hcs, hcc, hr, _⟩ := HX.out.2.2.get j hjl
      have ha' := ha.symm
      subst ha'
      have hbw : b < w.heap.size := HX.out.2.2.lt b hbF
      obtain ⟨y, hy⟩ : ∃ y, x.sealed[j]? = some y := ⟨_, List.getElem?_eq_getElem (by rw [HX.out.2.1]; exact hjl)⟩
      have HY : Hid (x.sealed.getD j It.zero = y ∧ y.sk.fits ∧ cs.size = 11 ∧ RdIt w (.agg cs) y Fi) := ⟨by rw [List.getD_eq_getElem?_getD, hy]; rfl, HF.out.1 y (List.mem_of_getElem? hy), hcs, hr y hy⟩
      have HC : Hid (∀ W, Below w.heap.size w W → ∀ j', j' < 11 → W.cell? ⟨b, off + j * 11 + j', none⟩ = cs[j']?) := fun W hW j' hj' => by
        have q : W.cell? ⟨b, off + j * 11 + j', none⟩ = w.cell? ⟨b, off + j * 11 + j', none⟩ := hW.cell (p := ⟨b, off + j * 11 + j', none⟩) hbw
        exact q.trans (hcc j' hj')
      have hjI : (j : Int) < (n1 : Int) := by omega
      have hsub : sq - 1 = (j : Int) := by omega
      have c6 := H6.out.loc.cell 6
      have f6 := H6.out.loc.frozen 6
      simp only [aT, aS, aZ] at c6
      clear ha hbF hcs hcc hr hy HS HS2 HM HW hsq e6 hk HZK hbw hj
      go_wp2_with fail
      have H7 : Hid (SendL w #[.int .i64 x.id, .int .i64 x.epoch, .bool x.live, .int .i64 x.granted, .slice (some ⟨b, off, none⟩) n1 c1, .slice a2 n2 c2, .int .i64 x.next] L #[.int .i64 x.id, .int .i64 x.epoch, .bool x.live, .int .i64 x.granted, .slice q1 r1 k1, .slice q2 r2 k2, .int .i64 sq] (⟨x.id, x.epoch, x.live, x.granted, x.sealed, x.taken, sq⟩ : Ag) F G (wr.setCell ⟨L, 6, none⟩ (.int .i64 sq))) := H6.out.turn sq
      obtain ⟨w7, hw7⟩ : ∃ W, W = wr.setCell ⟨L, 6, none⟩ (.int .i64 sq) := ⟨_, rfl⟩
      rw [← hw7] at H7
      try rw [← hw7]
      have H8 : Hid (SendL w #[.int .i64 x.id, .int .i64 x.epoch, .bool x.live, .int .i64 x.granted, .slice (some ⟨b, off, none⟩) n1 c1, .slice a2 n2 c2, .int .i64 x.next] L #[.int .i64 x.id, .int .i64 x.epoch, .bool x.live, .int .i64 x.granted, .slice q1 r1 k1, .slice q2 r2 k2, .int .i64 sq] (⟨x.id, x.epoch, x.live, x.granted, x.sealed, x.taken, sq⟩ : Ag) F G w7.drew) := H7.out.below (Below.refl _ _).drew
      obtain ⟨Y0, hY0⟩ : ∃ Y, Y = w7.drew := ⟨_, rfl⟩
      rw [← hY0] at H8
      clear H7 H6 c6 f6 hw7
      refine wp_region_held (S := fun W => Blk W w.heap.size #[.int .i64 x.id, .int .i64 x.epoch, .bool x.live, .int .i64 x.granted, .slice (some ⟨b, off, none⟩) n1 c1, .slice a2 n2 c2, .int .i64 x.next] 27 ∧ Blk W L #[.int .i64 x.id, .int .i64 x.epoch, .bool x.live, .int .i64 x.granted, .slice q1 r1 k1, .slice q2 r2 k2, .int .i64 sq] 27 ∧ Below w.heap.size w W) (by kernel_rfl) ?_
      change wpAnyH _ _ _ _ _ _ _ _ (World.drew _)
      rw [← hY0]
      clear hY0
      refine takeH (o := ?o9) 0 (.agg #[.int .i64 x.id, .int .i64 x.epoch, .bool x.live, .int .i64 x.granted, .slice q1 r1 k1, .slice q2 r2 k2, .int .i64 sq]) ?h9 ?r9
      case h9 => simp only [aT, aZ]; rfl
      refine ⟨_, by simp [Act.put]; rfl, by kernel_rfl, by kernel_rfl, by kernel_rfl, fun _ _ _ h => h, (yields_whole 27 L #[.int .i64 x.id, .int .i64 x.epoch, .bool x.live, .int .i64 x.granted, .slice q1 r1 k1, .slice q2 r2 k2, .int .i64 sq] 27 _ rfl rfl rfl Try.underlying27 rfl infoAgDSpec (fun W hW => hW.2.1)), ⟨H8.out.base.box, H8.out.loc, H8.out.base.bel⟩, ?_⟩
      refine takeH (o := ?o10) 1 (.pointer (some ⟨w.heap.size, 0, none⟩)) ?h10 ?r10
      case h10 => simp only [aT, aS, aZ]; rfl
      refine ⟨_, by simp [Act.put]; rfl, by kernel_rfl, by kernel_rfl, by kernel_rfl, fun _ _ _ h => h, (.inl ⟨rfl, fun W _ => by kernel_rfl⟩), ⟨H8.out.base.box, H8.out.loc, H8.out.base.bel⟩, ?_⟩
      refine takeH (o := ?o11) 2 (.int .i64 x.id) ?h11 ?r11
      case h11 => simp only [aT, aS, aZ]; rfl
      refine ⟨_, by simp [Act.put]; rfl, by kernel_rfl, by kernel_rfl, by kernel_rfl, fun _ _ _ h => h, (.inl ⟨rfl, fun W hW => by have c := hW.1.cell 0; simp only [aT, aZ] at c; go_simp⟩), ⟨H8.out.base.box, H8.out.loc, H8.out.base.bel⟩, ?_⟩
      refine takeH (o := ?o12) 3 (.pointer (some ⟨w.heap.size, 1, none⟩)) ?h12 ?r12
      case h12 => simp only [aT, aS, aZ]; rfl
      refine ⟨_, by simp [Act.put]; rfl, by kernel_rfl, by kernel_rfl, by kernel_rfl, fun _ _ _ h => h, (.inl ⟨rfl, fun W _ => by kernel_rfl⟩), ⟨H8.out.base.box, H8.out.loc, H8.out.base.bel⟩, ?_⟩
      refine takeH (o := ?o13) 4 (.int .i64 x.epoch) ?h13 ?r13
      case h13 => simp only [aT, aS, aZ]; rfl
      refine ⟨_, by simp [Act.put]; rfl, by kernel_rfl, by kernel_rfl, by kernel_rfl, fun _ _ _ h => h, (.inl ⟨rfl, fun W hW => by have c := hW.1.cell 1; simp only [aT, aS, aZ] at c; go_simp⟩), ⟨H8.out.base.box, H8.out.loc, H8.out.base.bel⟩, ?_⟩
      refine takeH (o := ?o14) 5 (.pointer (some ⟨w.heap.size, 4, none⟩)) ?h14 ?r14
      case h14 => simp only [aT, aS, aZ]; rfl
      refine ⟨_, by simp [Act.put]; rfl, by kernel_rfl, by kernel_rfl, by kernel_rfl, fun _ _ _ h => h, (.inl ⟨rfl, fun W _ => by kernel_rfl⟩), ⟨H8.out.base.box, H8.out.loc, H8.out.base.bel⟩, ?_⟩
      refine takeH (o := ?o15) 6 (.slice (some ⟨b, off, none⟩) n1 c1) ?h15 ?r15
      case h15 => simp only [aT, aS, aZ]; rfl
      refine ⟨_, by simp [Act.put]; rfl, by kernel_rfl, by kernel_rfl, by kernel_rfl, fun _ _ _ h => h, (.inl ⟨rfl, fun W hW => by have c := hW.1.cell 4; simp only [aT, aS, aZ] at c; go_simp⟩), ⟨H8.out.base.box, H8.out.loc, H8.out.base.bel⟩, ?_⟩
      refine takeH (o := ?o16) 7 (.int .i64 sq) ?h16 ?r16
      case h16 => simp only [aT, aS, aZ]; rfl
      refine ⟨_, by simp [Act.put]; rfl, by kernel_rfl, by kernel_rfl, by kernel_rfl, fun _ _ _ h => h, (.inl ⟨rfl, fun W _ => by kernel_rfl⟩), ⟨H8.out.base.box, H8.out.loc, H8.out.base.bel⟩, ?_⟩
      refine takeH (o := ?o17) 8 (.int .i64 (j : Int)) ?h17 ?r17
      case h17 => simp only [aT, aS, aZ]; rfl
      refine ⟨_, by simp [Act.put]; rfl, by kernel_rfl, by kernel_rfl, by kernel_rfl, fun _ _ _ h => h, (.inl ⟨rfl, fun W _ => by go_simp; exact wrapI (by omega)⟩), ⟨H8.out.base.box, H8.out.loc, H8.out.base.bel⟩, ?_⟩
      refine takeH (o := ?o18) 9 (.pointer (some ⟨b, off + j * 11, none⟩)) ?h18 ?r18
      case h18 => simp only [aT, aS, aZ]; rfl
      refine ⟨_, by simp [Act.put]; rfl, by kernel_rfl, by kernel_rfl, by kernel_rfl, fun _ _ _ h => h, (.inl ⟨rfl, fun W _ => by go_simp; first | done | (intro h; omega) | (rw [if_pos (by omega)]; rfl)⟩), ⟨H8.out.base.box, H8.out.loc, H8.out.base.bel⟩, ?_⟩
      refine takeH (o := ?o19) 10 (.agg cs) ?h19 ?r19
      case h19 => simp only [aT, aS, aZ]; rfl
      refine ⟨_, by simp [Act.put]; rfl, by kernel_rfl, by kernel_rfl, by kernel_rfl, fun _ _ _ h => h, (yields_at 36 b (off + j * 11) 11 cs _ rfl rfl rfl Try.underlying36 rfl infoItDSpec HY.out.2.2.1 (fun W hW => HC.out W hW.2.2)), ⟨H8.out.base.box, H8.out.loc, H8.out.base.bel⟩, ?_⟩
      refine onlyH (o := ?o20) 11 (by kernel_rfl) ?h20 ?r20
      case h20 => simp only [aT, aS, aZ]; rfl
      intro K hK
      refine op_call1 44 _ _ Try.f44 (fun v w' => ∃ F, RdIt w' v y F ∧ Own Y0.heap.size w' F ∧ Below Y0.heap.size Y0 w') rfl rfl Try.func44 (by kernel_rfl) (by kernel_rfl) ((l6Item_all (.agg cs) y Fi Y0 (HY.out.2.2.2.below H8.out.base.bel) HY.out.2.1).mono (by rintro e w' ⟨v, F, rfl, k1, k2, k3⟩; exact ⟨_, rfl, F, k1, k2, k3⟩)) ?_
      rintro vr w9 ⟨Fr', rr, ro, rb⟩
      obtain ⟨u1, v1, y1, u2, v2, y2, u3, v3, y3, rfl⟩ := RdIt.cells11 rr
      have H9 : Hid (SendL w #[.int .i64 x.id, .int .i64 x.epoch, .bool x.live, .int .i64 x.granted, .slice (some ⟨b, off, none⟩) n1 c1, .slice a2 n2 c2, .int .i64 x.next] L #[.int .i64 x.id, .int .i64 x.epoch, .bool x.live, .int .i64 x.granted, .slice q1 r1 k1, .slice q2 r2 k2, .int .i64 sq] (⟨x.id, x.epoch, x.live, x.granted, x.sealed, x.taken, sq⟩ : Ag) F G w9 ∧ RdIt w9 (.agg #[.int .i64 y.seq, .int .i64 y.cls, .int .i64 y.key, .int .i64 y.window, .int .i64 y.sk.count, .int .i64 y.sk.sum, .int .i64 y.sk.min, .int .i64 y.sk.max, .slice u1 v1 y1, .slice u2 v2 y2, .slice u3 v3 y3]) y Fr' ∧ Own (w.heap.size + 3) w9 Fr' ∧ ∀ b ∈ Fr', L < b) := ⟨H8.out.below rb, rr, ro.mono (by have := H8.out.loc.lt; have := H8.out.gL; omega), fun b hb => by have := ro.ge b hb; have := H8.out.loc.lt; omega⟩
      refine ⟨_, by simp [Act.put]; rfl, hK _ _ ⟨⟨H9.out.1.base.box, H9.out.1.loc, H9.out.1.base.bel⟩, ?_⟩⟩
      clear hK rr ro rb
      refine takeH (o := ?o21) 12 (.agg #[.int .i64 1, .int .i64 x.id, .int .i64 x.epoch, .int .i64 0, .slice none 0 0, .int .i64 y.seq, .int .i64 y.cls, .int .i64 y.key, .int .i64 y.window, .int .i64 y.sk.count, .int .i64 y.sk.sum, .int .i64 y.sk.min, .int .i64 y.sk.max, .slice u1 v1 y1, .slice u2 v2 y2, .slice u3 v3 y3]) ?h21 ?r21
      case h21 => simp only [aT, aS, aZ]; rfl
      refine ⟨_, by simp [Act.put]; rfl, by kernel_rfl, by kernel_rfl, by kernel_rfl, fun _ _ _ h => h, (.inl ⟨rfl, fun W _ => by kernel_rfl⟩), ⟨H9.out.1.base.box, H9.out.1.loc, H9.out.1.base.bel⟩, ?_⟩
      refine onlyH (o := ?o22) 13 (by kernel_rfl) ?h22 ?r22
      case h22 => simp only [aT, aS, aZ]; rfl
      intro K hK
      have gL := H9.out.1.gL
      refine op_store 27 (w.heap.size + 1) #[.int .i64 0, .int .i64 0, .bool false, .int .i64 0, .slice none 0 0, .slice none 0 0, .int .i64 0] #[.int .i64 x.id, .int .i64 x.epoch, .bool x.live, .int .i64 x.granted, .slice q1 r1 k1, .slice q2 r2 k2, .int .i64 sq] 27 rfl rfl rfl rfl H9.out.1.base.ra infoAgDSpec rfl (by simp [Value.oneCell']) ⟨_, by simp [Act.put]; rfl, hK _ _ ⟨⟨H9.out.1.base.box.setRowOther (by omega), H9.out.1.loc.setRowOther (by omega), below_setRow H9.out.1.base.bel (by omega) _⟩, ?_⟩⟩
      clear hK
      refine onlyH (o := ?o23) 14 (by kernel_rfl) ?h23 ?r23
      case h23 => simp only [aT, aS, aZ]; rfl
      intro K hK
      refine op_store 38 (w.heap.size + 1 + 1) #[.int .i64 0, .int .i64 0, .int .i64 0, .int .i64 0, .slice none 0 0, .int .i64 0, .int .i64 0, .int .i64 0, .int .i64 0, .int .i64 0, .int .i64 0, .int .i64 0, .int .i64 0, .slice none 0 0, .slice none 0 0, .slice none 0 0] #[.int .i64 1, .int .i64 x.id, .int .i64 x.epoch, .int .i64 0, .slice none 0 0, .int .i64 y.seq, .int .i64 y.cls, .int .i64 y.key, .int .i64 y.window, .int .i64 y.sk.count, .int .i64 y.sk.sum, .int .i64 y.sk.min, .int .i64 y.sk.max, .slice u1 v1 y1, .slice u2 v2 y2, .slice u3 v3 y3] 38 rfl rfl rfl rfl (H9.out.1.base.rf.setRowOther (by omega)) infoFrDSpec rfl (by simp [Value.oneCell']) ⟨_, by simp [Act.put]; rfl, hK _ _ ⟨⟨(H9.out.1.base.box.setRowOther (by omega)).setRowOther (by omega), (H9.out.1.loc.setRowOther (by omega)).setRowOther (by omega), below_setRow (below_setRow H9.out.1.base.bel (by omega) _) (by omega) _⟩, ?_⟩⟩
      clear hK
      refine wpAnyH_done (by kernel_rfl) ?_ _
      have HE : Hid (_ ∧ _ ∧ _) := H9.out.1.put (rdFr_item (a := x.id) (b := x.epoch) H9.out.2.1) H9.out.2.2.1 H9.out.2.2.2
      go_wp2
      refine bodyPost_ret (results_row_two Try.results13 _ _ (w.heap.size + 1) (w.heap.size + 1 + 1) 27 38 #[.int .i64 x.id, .int .i64 x.epoch, .bool x.live, .int .i64 x.granted, .slice q1 r1 k1, .slice q2 r2 k2, .int .i64 sq] #[.int .i64 1, .int .i64 x.id, .int .i64 x.epoch, .int .i64 0, .slice none 0 0, .int .i64 y.seq, .int .i64 y.cls, .int .i64 y.key, .int .i64 y.window, .int .i64 y.sk.count, .int .i64 y.sk.sum, .int .i64 y.sk.min, .int .i64 y.sk.max, .slice u1 v1 y1, .slice u2 v2 y2, .slice u3 v3 y3] _ _ rfl rfl HE.out.2.1 HE.out.2.2 Try.underlying27 rfl infoAgDSpec Try.underlying38 rfl infoFrDSpec) rfl ?_
      rw [HV.out, HY.out.1]
      exact HE.out.1
    · obtain ⟨j, rfl⟩ : ∃ j, k = j + 1 := ⟨k - 1, by omega⟩
      have hz : z = (j : Int) := by have := HZK.out; omega
      subst hz
      have hjm : (j : Int) < (m : Int) := by omega
      obtain ⟨u, hu⟩ : ∃ u, u = zs.getD j 0 := ⟨_, rfl⟩
      have d1 : wr.cell? ⟨bw, ow + j, none⟩ = some (.int .i64 u) := by rw [hu]; exact (HZ.out.1.below HBR.out).at j (by omega)
      have HFD := find_drop (zs := zs) (j := j) (by have := HZ.out.2.1; omega) (fun z => decide (x.next < z))
      rw [← hu] at HFD
      have HFD' : Hid ((zs.drop j).find? (fun z => decide (x.next < z)) = if decide (x.next < u) = true then some u else (zs.drop (j + 1)).find? (fun z => decide (x.next < z))) := HFD
      clear HFD hu HZK hk0
      by_cases hc : x.next < u
      · have hcd : decide (x.next < u) = true := dec_true hc
        have HS2 : Hid (u = ((zs.drop j).find? fun z => decide (x.next < z)).getD (zs.getD 0 0)) := by show _ = _; rw [HFD'.out, if_pos hcd]; rfl
        clear HFD' HS
        go_wp2_with fail
        go_quiet (fail)
        go_wp2
        go_roundw
        case rel => exact ⟨j, _, _, by omega, rfl, rfl, Below.next HBR.out (quiet_below ⟨_, rfl⟩), by show _ = _; omega, HS2⟩
        case measure => (first | done | (simp [intOf]; done) | (simp [intOf]; omega))
      · have hcd : decide (x.next < u) = false := dec_false hc
        have HS2 : Hid (s = ((zs.drop j).find? fun z => decide (x.next < z)).getD (zs.getD 0 0)) := by show _ = _; rw [HFD'.out, if_neg (by rw [hcd]; simp)]; exact HS.out
        clear HFD' HS
        go_wp2_with fail
        go_quiet (fail)
        go_wp2
        go_roundw
        case rel => exact ⟨j, _, _, by omega, rfl, rfl, Below.next HBR.out (quiet_below ⟨_, rfl⟩), by show _ = _; omega, HS2⟩
        case measure => (first | done | (simp [intOf]; done) | (simp [intOf]; omega))
end Go.Proofs.Ytgkbhhlkaifnoaa
/- The walk through the program's AgentSend. No statement of the seat is proved here. -/
namespace Go.Proofs.Ytgkbhhlkaifnoaa
open Go.RowKit
theorem infoAgDImpl : (Try.prog.info? 27).map (·.size) = some 7 := by kernel_rfl
theorem infoFrDImpl : (Try.prog.info? 38).map (·.size) = some 16 := by kernel_rfl
theorem infoItDImpl : (Try.prog.info? 36).map (·.size) = some 11 := by kernel_rfl
set_option maxRecDepth 200000 in
set_option maxHeartbeats 8000000 in
theorem sendImpl_any (v : Value) (x : Ag) (F0 G0 : List Nat) (w : World) (h : RdAg w v x F0 G0) (hf : ∀ y ∈ x.sealed, y.sk.fits) (hs : x.sealed.length ≤ 1048576) (hl : x.taken.length ≤ 1048576) :
    Calls Try.prog 12 #[v] w fun e w' => NewAgFr w x.send e w' := by
  obtain ⟨a1, n1, c1, a2, n2, c2, rfl, hL, hP, hc1, hc2⟩ := h
  have HX : Hid (RdAg w (.agg #[.int .i64 x.id, .int .i64 x.epoch, .bool x.live, .int .i64 x.granted, .slice a1 n1 c1, .slice a2 n2 c2, .int .i64 x.next]) x F0 G0 ∧ x.sealed.length = n1 ∧ RdL itK w a1 n1 x.sealed F0) := ⟨⟨a1, n1, c1, a2, n2, c2, rfl, hL, hP, hc1, hc2⟩, hL.length, hL⟩
  have HF : Hid ((∀ y ∈ x.sealed, y.sk.fits) ∧ x.sealed.length ≤ 1048576 ∧ x.taken.length ≤ 1048576) := ⟨hf, hs, hl⟩
  have hn1 : n1 ≤ 1048576 := by rw [← hL.length]; exact hs
  clear hL hP hc1 hc2 hf hs hl
  have HB0 : Hid (SendW w #[.int .i64 x.id, .int .i64 x.epoch, .bool x.live, .int .i64 x.granted, .slice a1 n1 c1, .slice a2 n2 c2, .int .i64 x.next] (((w.alloc (.cells #[.int .i64 x.id, .int .i64 x.epoch, .bool x.live, .int .i64 x.granted, .slice a1 n1 c1, .slice a2 n2 c2, .int .i64 x.next] 27)).alloc (.cells #[.int .i64 0, .int .i64 0, .bool false, .int .i64 0, .slice none 0 0, .slice none 0 0, .int .i64 0] 27)).alloc (.cells #[.int .i64 0, .int .i64 0, .int .i64 0, .int .i64 0, .slice none 0 0, .int .i64 0, .int .i64 0, .int .i64 0, .int .i64 0, .int .i64 0, .int .i64 0, .int .i64 0, .int .i64 0, .slice none 0 0, .slice none 0 0, .slice none 0 0] 38))) := SendW.made _ _
  go_enter Try.func12, Try.ntmps12
  go_wp2_with (first | go_skip | (with_reducible refine stopLoad 27 rfl ?_))
  obtain ⟨W0, hW0⟩ : ∃ W, W = ((w.alloc (.cells #[.int .i64 x.id, .int .i64 x.epoch, .bool x.live, .int .i64 x.granted, .slice a1 n1 c1, .slice a2 n2 c2, .int .i64 x.next] 27)).alloc (.cells #[.int .i64 0, .int .i64 0, .bool false, .int .i64 0, .slice none 0 0, .slice none 0 0, .int .i64 0] 27)).alloc (.cells #[.int .i64 0, .int .i64 0, .int .i64 0, .int .i64 0, .slice none 0 0, .int .i64 0, .int .i64 0, .int .i64 0, .int .i64 0, .int .i64 0, .int .i64 0, .int .i64 0, .int .i64 0, .slice none 0 0, .slice none 0 0, .slice none 0 0] 38) := ⟨_, rfl⟩
  rw [← hW0] at HB0 ⊢
  clear hW0
  refine load_known 27 w.heap.size _ 27 _ HB0.out.box rfl rfl rfl Try.underlying27 rfl infoAgDImpl ?_
  go_wp2_with fail
  refine (copiedAgent_any _ x F0 G0 _ (HX.out.1.below HB0.out.bel) HF.out.1 HF.out.2.1 HF.out.2.2).mono ?_
  rintro e w2 ⟨v2, F, G, rfl, r2, o2, p2, ap2, hb2⟩
  obtain ⟨q1, r1, k1, q2, r2', k2, rfl, _⟩ := id r2
  have H2 : Hid (SendW w #[.int .i64 x.id, .int .i64 x.epoch, .bool x.live, .int .i64 x.granted, .slice a1 n1 c1, .slice a2 n2 c2, .int .i64 x.next] w2 ∧ RdAg w2 (.agg #[.int .i64 x.id, .int .i64 x.epoch, .bool x.live, .int .i64 x.granted, .slice q1 r1 k1, .slice q2 r2' k2, .int .i64 x.next]) x F G ∧ Own (w.heap.size + 3) w2 F ∧ Own (w.heap.size + 3) w2 G ∧ (∀ b ∈ F, b ∉ G) ∧ w.heap.size + 3 ≤ w2.heap.size) := ⟨HB0.out.below hb2, r2, o2.mono HB0.out.rf.lt, p2.mono HB0.out.rf.lt, ap2, by have := HB0.out.rf.lt; have := hb2.size; omega⟩
  clear r2 o2 p2 ap2 hb2 HB0
  obtain ⟨r2, hr2⟩ : ∃ r, r = r2' := ⟨_, rfl⟩
  rw [← hr2] at H2 ⊢
  clear hr2
  go_wp2_with (first | go_skip | (with_reducible refine stopStore 27 rfl ?_))
  refine store_fresh 27 w2.heap.size rfl #[.int .i64 0, .int .i64 0, .bool false, .int .i64 0, .slice none 0 0, .slice none 0 0, .int .i64 0] #[.int .i64 x.id, .int .i64 x.epoch, .bool x.live, .int .i64 x.granted, .slice q1 r1 k1, .slice q2 r2 k2, .int .i64 x.next] 27 rfl rfl rfl rfl infoAgDImpl rfl (by simp [Value.oneCell']) ?_
  intro w3 hg3 hb3
  have H3 : Hid (SendL w #[.int .i64 x.id, .int .i64 x.epoch, .bool x.live, .int .i64 x.granted, .slice a1 n1 c1, .slice a2 n2 c2, .int .i64 x.next] w2.heap.size #[.int .i64 x.id, .int .i64 x.epoch, .bool x.live, .int .i64 x.granted, .slice q1 r1 k1, .slice q2 r2 k2, .int .i64 x.next] x F G w3) := ⟨H2.out.1.below hb3, hg3, H2.out.2.1.below hb3, H2.out.2.2.1.below H2.out.2.1.lt1 hb3, H2.out.2.2.2.1.below H2.out.2.1.lt2 hb3, H2.out.2.2.2.2.1, H2.out.2.2.2.2.2, H2.out.2.1.lt1, H2.out.2.1.lt2⟩
  obtain ⟨L, hL⟩ : ∃ L, L = w2.heap.size := ⟨_, rfl⟩
  rw [← hL] at H3 ⊢
  clear hg3 hb3 H2 hL
  go_wp2_with (first | go_skip | (with_reducible refine stopLoad 27 rfl ?_))
  refine load_known 27 w.heap.size _ 27 _ H3.out.base.box rfl rfl rfl Try.underlying27 rfl infoAgDImpl ?_
  go_wp2_with fail
  refine (agentOkImpl_any _ x F0 G0 _ (HX.out.1.below H3.out.base.bel) (fun y hy => (HF.out.1 y hy).wide) (by have := HF.out.2.1; omega) (by have := HF.out.2.2; omega)).mono ?_
  rintro e w4 ⟨rfl, hb4⟩
  have H4 : Hid (SendL w #[.int .i64 x.id, .int .i64 x.epoch, .bool x.live, .int .i64 x.granted, .slice a1 n1 c1, .slice a2 n2 c2, .int .i64 x.next] L #[.int .i64 x.id, .int .i64 x.epoch, .bool x.live, .int .i64 x.granted, .slice q1 r1 k1, .slice q2 r2 k2, .int .i64 x.next] x F G w4) := H3.out.below hb4
  obtain ⟨d, hd⟩ : ∃ d, d = x.ok := ⟨_, rfl⟩
  rw [← hd]
  have HD : Hid (d = x.ok) := hd
  clear hb4 hd H3
  cases d
  · have HV : Hid (x.send = (x, Fr.none0)) := by show _ = _; unfold Ag.send; rw [if_pos HD.out.symm]
    go_wp2_with (first | go_skip | (with_reducible refine stopLoad 27 rfl ?_))
    refine load_known 27 L _ 27 _ H4.out.loc rfl rfl rfl Try.underlying27 rfl infoAgDImpl ?_
    go_wp2_with (first | go_skip | (with_reducible refine stopStore 27 rfl ?_))
    refine store_known 27 (w.heap.size + 1) _ #[.int .i64 x.id, .int .i64 x.epoch, .bool x.live, .int .i64 x.granted, .slice q1 r1 k1, .slice q2 r2 k2, .int .i64 x.next] 27 H4.out.base.ra rfl rfl rfl rfl infoAgDImpl rfl (by simp [Value.oneCell']) ?_
    go_wp2_with (first | go_skip | (with_reducible refine stopStore 38 rfl ?_))
    refine store_known 38 (w.heap.size + 1 + 1) _ #[.int .i64 0, .int .i64 0, .int .i64 0, .int .i64 0, .slice none 0 0, .int .i64 0, .int .i64 0, .int .i64 0, .int .i64 0, .int .i64 0, .int .i64 0, .int .i64 0, .int .i64 0, .slice none 0 0, .slice none 0 0, .slice none 0 0] 38 (H4.out.base.rf.setRowOther (by omega)) rfl rfl rfl rfl infoFrDImpl rfl (by simp [Value.oneCell']) ?_
    have HE : Hid (_ ∧ _ ∧ _) := H4.out.put (rdFr_bare w4 0 0 0) Own.nil (by intro b hb; cases hb)
    go_wp2
    refine bodyPost_ret (results_row_two Try.results12 _ _ (w.heap.size + 1) (w.heap.size + 1 + 1) 27 38 #[.int .i64 x.id, .int .i64 x.epoch, .bool x.live, .int .i64 x.granted, .slice q1 r1 k1, .slice q2 r2 k2, .int .i64 x.next] #[.int .i64 0, .int .i64 0, .int .i64 0, .int .i64 0, .slice none 0 0, .int .i64 0, .int .i64 0, .int .i64 0, .int .i64 0, .int .i64 0, .int .i64 0, .int .i64 0, .int .i64 0, .slice none 0 0, .slice none 0 0, .slice none 0 0] _ _ rfl rfl HE.out.2.1 HE.out.2.2 Try.underlying27 rfl infoAgDImpl Try.underlying38 rfl infoFrDImpl) rfl ?_
    rw [HV.out]
    exact HE.out.1
  have HOK : Hid (x.ok = true) := HD.out.symm
  clear HD
  have e0 := H4.out.base.box.cell 0
  have e1 := H4.out.base.box.cell 1
  simp only [aT, aS, aZ] at e0 e1
  go_wp2_with (first | go_skip | (with_reducible refine stopStore 38 rfl ?_))
  refine store_fresh 38 w4.heap.size rfl #[.int .i64 0, .int .i64 0, .int .i64 0, .int .i64 0, .slice none 0 0, .int .i64 0, .int .i64 0, .int .i64 0, .int .i64 0, .int .i64 0, .int .i64 0, .int .i64 0, .int .i64 0, .slice none 0 0, .slice none 0 0, .slice none 0 0] #[.int .i64 0, .int .i64 x.id, .int .i64 x.epoch, .int .i64 0, .slice none 0 0, .int .i64 0, .int .i64 0, .int .i64 0, .int .i64 0, .int .i64 0, .int .i64 0, .int .i64 0, .int .i64 0, .slice none 0 0, .slice none 0 0, .slice none 0 0] 38 rfl rfl rfl rfl infoFrDImpl rfl (by simp [Value.oneCell']) ?_
  intro w6 hg6 hb6
  have H6 : Hid (SendL w #[.int .i64 x.id, .int .i64 x.epoch, .bool x.live, .int .i64 x.granted, .slice a1 n1 c1, .slice a2 n2 c2, .int .i64 x.next] L #[.int .i64 x.id, .int .i64 x.epoch, .bool x.live, .int .i64 x.granted, .slice q1 r1 k1, .slice q2 r2 k2, .int .i64 x.next] x F G w6 ∧ Blk w6 w4.heap.size #[.int .i64 0, .int .i64 x.id, .int .i64 x.epoch, .int .i64 0, .slice none 0 0, .int .i64 0, .int .i64 0, .int .i64 0, .int .i64 0, .int .i64 0, .int .i64 0, .int .i64 0, .int .i64 0, .slice none 0 0, .slice none 0 0, .slice none 0 0] 38 ∧ L < w4.heap.size) := ⟨H4.out.below hb6, hg6, H4.out.loc.lt⟩
  obtain ⟨M, hM⟩ : ∃ M, M = w4.heap.size := ⟨_, rfl⟩
  rw [← hM] at H6 ⊢
  clear hg6 hb6 H4 hM e0 e1
  go_wp2_with (first | go_skip | (with_reducible refine stopLoad 27 rfl ?_))
  refine load_known 27 w.heap.size _ 27 _ H6.out.1.base.box rfl rfl rfl Try.underlying27 rfl infoAgDImpl ?_
  go_wp2_with fail
  refine (waitingImpl_any _ x F0 G0 _ (HX.out.1.below H6.out.1.base.bel) (fun y hy => (HF.out.1 y hy).wide) HF.out.2.1 HF.out.2.2).mono ?_
  rintro e w5 ⟨⟨u5, rfl, hown⟩, hb5⟩
  obtain ⟨aw, cw, Fw, rfl, rw5, hcw⟩ := rdI_own_cap hown
  obtain ⟨m, hm⟩ : ∃ m, m = x.waits.length := ⟨_, rfl⟩
  rw [← hm] at rw5 ⊢
  have H7 : Hid (SendL w #[.int .i64 x.id, .int .i64 x.epoch, .bool x.live, .int .i64 x.granted, .slice a1 n1 c1, .slice a2 n2 c2, .int .i64 x.next] L #[.int .i64 x.id, .int .i64 x.epoch, .bool x.live, .int .i64 x.granted, .slice q1 r1 k1, .slice q2 r2 k2, .int .i64 x.next] x F G w5 ∧ Blk w5 M #[.int .i64 0, .int .i64 x.id, .int .i64 x.epoch, .int .i64 0, .slice none 0 0, .int .i64 0, .int .i64 0, .int .i64 0, .int .i64 0, .int .i64 0, .int .i64 0, .int .i64 0, .int .i64 0, .slice none 0 0, .slice none 0 0, .slice none 0 0] 38 ∧ L < M ∧ RdI w5 aw m x.waits Fw ∧ m = x.waits.length) := ⟨H6.out.1.below hb5, H6.out.2.1.below hb5, H6.out.2.2, rw5, hm⟩
  clear hown hb5 rw5 hcw H6
  by_cases h0 : m = 0
  · have z0 : decide ((0 : Int) < (m : Int)) = false := dec_false (by omega)
    have z1 : decide (0 < m) = false := dec_false (by omega)
    have HV : Hid (x.send = (x, ⟨0, x.id, x.epoch, 0, [], It.zero⟩)) := by
      show _ = _
      unfold Ag.send
      rw [if_neg (by rw [HOK.out]; simp), if_pos (List.eq_nil_of_length_eq_zero (by omega))]
    clear hm h0
    go_wp2_with fail
    have H8 : Hid (SendL w #[.int .i64 x.id, .int .i64 x.epoch, .bool x.live, .int .i64 x.granted, .slice a1 n1 c1, .slice a2 n2 c2, .int .i64 x.next] L #[.int .i64 x.id, .int .i64 x.epoch, .bool x.live, .int .i64 x.granted, .slice q1 r1 k1, .slice q2 r2 k2, .int .i64 x.next] x F G w5.drew ∧ Blk w5.drew M #[.int .i64 0, .int .i64 x.id, .int .i64 x.epoch, .int .i64 0, .slice none 0 0, .int .i64 0, .int .i64 0, .int .i64 0, .int .i64 0, .int .i64 0, .int .i64 0, .int .i64 0, .int .i64 0, .slice none 0 0, .slice none 0 0, .slice none 0 0] 38 ∧ L < M) := ⟨H7.out.1.below (Below.refl _ _).drew, H7.out.2.1.below (Below.refl _ _).drew, H7.out.2.2.1⟩
    obtain ⟨Y0, hY0⟩ : ∃ Y, Y = w5.drew := ⟨_, rfl⟩
    rw [← hY0] at H8
    clear H7
    refine wp_region_held (S := fun W => Blk W L #[.int .i64 x.id, .int .i64 x.epoch, .bool x.live, .int .i64 x.granted, .slice q1 r1 k1, .slice q2 r2 k2, .int .i64 x.next] 27 ∧ Blk W M #[.int .i64 0, .int .i64 x.id, .int .i64 x.epoch, .int .i64 0, .slice none 0 0, .int .i64 0, .int .i64 0, .int .i64 0, .int .i64 0, .int .i64 0, .int .i64 0, .int .i64 0, .int .i64 0, .slice none 0 0, .slice none 0 0, .slice none 0 0] 38) (by kernel_rfl) ?_
    change wpAnyH _ _ _ _ _ _ _ _ (World.drew _)
    rw [← hY0]
    clear hY0
    refine takeH (o := ?o24) 0 (.agg #[.int .i64 x.id, .int .i64 x.epoch, .bool x.live, .int .i64 x.granted, .slice q1 r1 k1, .slice q2 r2 k2, .int .i64 x.next]) ?h24 ?r24
    case h24 => simp only [aT, aZ]; rfl
    refine ⟨_, by simp [Act.put]; rfl, by kernel_rfl, by kernel_rfl, by kernel_rfl, fun _ _ _ h => h, (yields_whole 27 L #[.int .i64 x.id, .int .i64 x.epoch, .bool x.live, .int .i64 x.granted, .slice q1 r1 k1, .slice q2 r2 k2, .int .i64 x.next] 27 _ rfl rfl rfl Try.underlying27 rfl infoAgDImpl (fun W hW => hW.1)), ⟨H8.out.1.loc, H8.out.2.1⟩, ?_⟩
    refine takeH (o := ?o25) 1 (.agg #[.int .i64 0, .int .i64 x.id, .int .i64 x.epoch, .int .i64 0, .slice none 0 0, .int .i64 0, .int .i64 0, .int .i64 0, .int .i64 0, .int .i64 0, .int .i64 0, .int .i64 0, .int .i64 0, .slice none 0 0, .slice none 0 0, .slice none 0 0]) ?h25 ?r25
    case h25 => simp only [aT, aS, aZ]; rfl
    refine ⟨_, by simp [Act.put]; rfl, by kernel_rfl, by kernel_rfl, by kernel_rfl, fun _ _ _ h => h, (yields_whole 38 M #[.int .i64 0, .int .i64 x.id, .int .i64 x.epoch, .int .i64 0, .slice none 0 0, .int .i64 0, .int .i64 0, .int .i64 0, .int .i64 0, .int .i64 0, .int .i64 0, .int .i64 0, .int .i64 0, .slice none 0 0, .slice none 0 0, .slice none 0 0] 38 _ rfl rfl rfl Try.underlying38 rfl infoFrDImpl (fun W hW => hW.2)), ⟨H8.out.1.loc, H8.out.2.1⟩, ?_⟩
    have gM := H8.out.2.2
    have gL0 := H8.out.1.gL
    refine onlyH (o := ?o26) 2 (by kernel_rfl) ?h26 ?r26
    case h26 => simp only [aT, aS, aZ]; rfl
    intro K hK
    have gL := H8.out.1.gL
    refine op_store 27 (w.heap.size + 1) #[.int .i64 0, .int .i64 0, .bool false, .int .i64 0, .slice none 0 0, .slice none 0 0, .int .i64 0] #[.int .i64 x.id, .int .i64 x.epoch, .bool x.live, .int .i64 x.granted, .slice q1 r1 k1, .slice q2 r2 k2, .int .i64 x.next] 27 rfl rfl rfl rfl H8.out.1.base.ra infoAgDImpl rfl (by simp [Value.oneCell']) ⟨_, by simp [Act.put]; rfl, hK _ _ ⟨⟨H8.out.1.loc.setRowOther (by omega), H8.out.2.1.setRowOther (by omega)⟩, ?_⟩⟩
    clear hK
    refine onlyH (o := ?o27) 3 (by kernel_rfl) ?h27 ?r27
    case h27 => simp only [aT, aS, aZ]; rfl
    intro K hK
    refine op_store 38 (w.heap.size + 1 + 1) #[.int .i64 0, .int .i64 0, .int .i64 0, .int .i64 0, .slice none 0 0, .int .i64 0, .int .i64 0, .int .i64 0, .int .i64 0, .int .i64 0, .int .i64 0, .int .i64 0, .int .i64 0, .slice none 0 0, .slice none 0 0, .slice none 0 0] #[.int .i64 0, .int .i64 x.id, .int .i64 x.epoch, .int .i64 0, .slice none 0 0, .int .i64 0, .int .i64 0, .int .i64 0, .int .i64 0, .int .i64 0, .int .i64 0, .int .i64 0, .int .i64 0, .slice none 0 0, .slice none 0 0, .slice none 0 0] 38 rfl rfl rfl rfl (H8.out.1.base.rf.setRowOther (by omega)) infoFrDImpl rfl (by simp [Value.oneCell']) ⟨_, by simp [Act.put]; rfl, hK _ _ ⟨⟨(H8.out.1.loc.setRowOther (by omega)).setRowOther (by omega), (H8.out.2.1.setRowOther (by omega)).setRowOther (by omega)⟩, ?_⟩⟩
    clear hK
    refine wpAnyH_done (by kernel_rfl) ?_ _
    have HE : Hid (_ ∧ _ ∧ _) := H8.out.1.put (rdFr_bare Y0 0 x.id x.epoch) Own.nil (by intro b hb; cases hb)
    go_wp2
    refine bodyPost_ret (results_row_two Try.results12 _ _ (w.heap.size + 1) (w.heap.size + 1 + 1) 27 38 #[.int .i64 x.id, .int .i64 x.epoch, .bool x.live, .int .i64 x.granted, .slice q1 r1 k1, .slice q2 r2 k2, .int .i64 x.next] #[.int .i64 0, .int .i64 x.id, .int .i64 x.epoch, .int .i64 0, .slice none 0 0, .int .i64 0, .int .i64 0, .int .i64 0, .int .i64 0, .int .i64 0, .int .i64 0, .int .i64 0, .int .i64 0, .slice none 0 0, .slice none 0 0, .slice none 0 0] _ _ rfl rfl HE.out.2.1 HE.out.2.2 Try.underlying27 rfl infoAgDImpl Try.underlying38 rfl infoFrDImpl) rfl ?_
    rw [HV.out]
    exact HE.out.1
  have hmp : 0 < m := by omega
  have z0 : decide ((0 : Int) < (m : Int)) = true := dec_true (by omega)
  have z1 : decide (0 < m) = true := dec_true hmp
  have HNE : Hid (x.waits ≠ []) := fun e => by rw [e] at hm; simp at hm; omega
  have hmM : m ≤ 60 := by
    have := Ag.ok_granted HOK.out
    have q := hm
    unfold Ag.waits at q
    split at q
    · have q2 := waitTo_len x.taken x.upTo
      unfold Ag.upTo at q q2
      omega
    · simp at q; omega
  have e6 := H7.out.1.base.box.cell 6
  simp only [aT, aS, aZ] at e6
  clear hm h0
  go_wp2_with fail
  refine (seqInTurn_any aw m cw x.waits x.next Fw _ H7.out.2.2.2.1 hmp (by omega)).mono ?_
  rintro e w8 ⟨rfl, hw8⟩
  have hw8' := hw8.symm
  subst hw8'
  clear hw8
  obtain ⟨sq, hsq⟩ : ∃ sq, sq = turnOf x.waits x.next := ⟨_, rfl⟩
  rw [← hsq]
  have HW := waits_mem (turnOf_mem x.next HNE.out)
  rw [← hsq] at HW
  obtain ⟨j, hj⟩ : ∃ j : Nat, sq = (j : Int) + 1 := ⟨(sq - 1).toNat, by omega⟩
  have hjl : j < n1 := by have := HX.out.2.1; omega
  have HV : Hid (x.send = ((⟨x.id, x.epoch, x.live, x.granted, x.sealed, x.taken, sq⟩ : Ag), ⟨1, x.id, x.epoch, 0, [], x.sealed.getD j It.zero⟩)) := by
    show _ = _
    unfold Ag.send
    rw [if_neg (by rw [HOK.out]; simp), if_neg HNE.out, ← hsq, show (sq - 1).toNat = j by omega]
  obtain ⟨b, off, ha, hbF, cs, Fi, hcs, hcc, hr, _⟩ := HX.out.2.2.get j hjl
  have ha' := ha.symm
  subst ha'
  have hbw : b < w.heap.size := HX.out.2.2.lt b hbF
  obtain ⟨y, hy⟩ : ∃ y, x.sealed[j]? = some y := ⟨_, List.getElem?_eq_getElem (by rw [HX.out.2.1]; exact hjl)⟩
  have HY : Hid (x.sealed.getD j It.zero = y ∧ y.sk.fits ∧ cs.size = 11 ∧ RdIt w (.agg cs) y Fi) := ⟨by rw [List.getD_eq_getElem?_getD, hy]; rfl, HF.out.1 y (List.mem_of_getElem? hy), hcs, hr y hy⟩
  have HC : Hid (∀ W, Below w.heap.size w W → ∀ j', j' < 11 → W.cell? ⟨b, off + j * 11 + j', none⟩ = cs[j']?) := fun W hW j' hj' => by
    have q : W.cell? ⟨b, off + j * 11 + j', none⟩ = w.cell? ⟨b, off + j * 11 + j', none⟩ := hW.cell (p := ⟨b, off + j * 11 + j', none⟩) hbw
    exact q.trans (hcc j' hj')
  have hjI : (j : Int) < (n1 : Int) := by omega
  have hsub : sq - 1 = (j : Int) := by omega
  have HSQ : Hid (sq = (j : Int) + 1) := hj
  have H8 : Hid (SendL w #[.int .i64 x.id, .int .i64 x.epoch, .bool x.live, .int .i64 x.granted, .slice (some ⟨b, off, none⟩) n1 c1, .slice a2 n2 c2, .int .i64 x.next] L #[.int .i64 x.id, .int .i64 x.epoch, .bool x.live, .int .i64 x.granted, .slice q1 r1 k1, .slice q2 r2 k2, .int .i64 sq] (⟨x.id, x.epoch, x.live, x.granted, x.sealed, x.taken, sq⟩ : Ag) F G (w5.setCell ⟨L, 6, none⟩ (.int .i64 sq)) ∧ Blk (w5.setCell ⟨L, 6, none⟩ (.int .i64 sq)) M #[.int .i64 0, .int .i64 x.id, .int .i64 x.epoch, .int .i64 0, .slice none 0 0, .int .i64 0, .int .i64 0, .int .i64 0, .int .i64 0, .int .i64 0, .int .i64 0, .int .i64 0, .int .i64 0, .slice none 0 0, .slice none 0 0, .slice none 0 0] 38 ∧ L < M) := ⟨H7.out.1.turn sq, H7.out.2.1.setOther (by have := H7.out.2.2.1; omega) 6 _, H7.out.2.2.1⟩
  have c6 := H7.out.1.loc.cell 6
  have f6 := H7.out.1.loc.frozen 6
  simp only [aT, aS, aZ] at c6
  have d6 := H8.out.1.loc.cell 6
  have d4 := H8.out.1.base.box.cell 4
  simp only [aT, aS, aZ] at d6 d4
  clear ha hbF hcs hcc hr hy hsq HW hbw hj
  go_wp2_with (first | go_skip | (with_reducible refine stopLoad 36 rfl ?_))
  obtain ⟨w7, hw7⟩ : ∃ W, W = w5.setCell ⟨L, 6, none⟩ (.int .i64 sq) := ⟨_, rfl⟩
  rw [← hw7] at H8 ⊢
  clear hw7 H7 c6 f6 d6 d4 e6
  refine load_at 36 b (off + j * 11) 11 cs _ (HC.out _ H8.out.1.base.bel) HY.out.2.2.1 rfl rfl rfl Try.underlying36 rfl infoItDImpl ?_
  go_wp2_with fail
  refine (copiedItem_any _ y Fi _ (HY.out.2.2.2.below H8.out.1.base.bel) HY.out.2.1).mono ?_
  rintro e w9 ⟨v9, G', rfl, r9, o9, hb9⟩
  obtain ⟨u1, v1, y1, u2, v2, y2, u3, v3, y3, rfl⟩ := RdIt.cells11 r9
  have H9 : Hid (SendL w #[.int .i64 x.id, .int .i64 x.epoch, .bool x.live, .int .i64 x.granted, .slice (some ⟨b, off, none⟩) n1 c1, .slice a2 n2 c2, .int .i64 x.next] L #[.int .i64 x.id, .int .i64 x.epoch, .bool x.live, .int .i64 x.granted, .slice q1 r1 k1, .slice q2 r2 k2, .int .i64 sq] (⟨x.id, x.epoch, x.live, x.granted, x.sealed, x.taken, sq⟩ : Ag) F G w9 ∧ Blk w9 M #[.int .i64 0, .int .i64 x.id, .int .i64 x.epoch, .int .i64 0, .slice none 0 0, .int .i64 0, .int .i64 0, .int .i64 0, .int .i64 0, .int .i64 0, .int .i64 0, .int .i64 0, .int .i64 0, .slice none 0 0, .slice none 0 0, .slice none 0 0] 38 ∧ L < M ∧ RdIt w9 (.agg #[.int .i64 y.seq, .int .i64 y.cls, .int .i64 y.key, .int .i64 y.window, .int .i64 y.sk.count, .int .i64 y.sk.sum, .int .i64 y.sk.min, .int .i64 y.sk.max, .slice u1 v1 y1, .slice u2 v2 y2, .slice u3 v3 y3]) y G' ∧ Own (M + 1) w9 G') := ⟨H8.out.1.below hb9, H8.out.2.1.below hb9, H8.out.2.2, r9, o9.mono H8.out.2.1.lt⟩
  have f0 := H9.out.2.1.frozen 0
  have c0 := H9.out.2.1.cell 0
  simp only [aT, aZ] at c0
  clear r9 o9 hb9 H8
  go_wp2_with (first | go_skip | (with_reducible refine stopStore 36 rfl ?_))
  have nG : M ∉ G' := fun hx => by have := H9.out.2.2.2.2.ge _ hx; omega
  have kF : M ∉ F := fun hx => by have := H9.out.1.lF _ hx; have := H9.out.2.2.1; omega
  have kG : M ∉ G := fun hx => by have := H9.out.1.lG _ hx; have := H9.out.2.2.1; omega
  have H10 : Hid (SendL w #[.int .i64 x.id, .int .i64 x.epoch, .bool x.live, .int .i64 x.granted, .slice (some ⟨b, off, none⟩) n1 c1, .slice a2 n2 c2, .int .i64 x.next] L #[.int .i64 x.id, .int .i64 x.epoch, .bool x.live, .int .i64 x.granted, .slice q1 r1 k1, .slice q2 r2 k2, .int .i64 sq] (⟨x.id, x.epoch, x.live, x.granted, x.sealed, x.taken, sq⟩ : Ag) F G (w9.setCell ⟨M, 0, none⟩ (.int .i64 1)) ∧ Blk (w9.setCell ⟨M, 0, none⟩ (.int .i64 1)) M #[.int .i64 1, .int .i64 x.id, .int .i64 x.epoch, .int .i64 0, .slice none 0 0, .int .i64 0, .int .i64 0, .int .i64 0, .int .i64 0, .int .i64 0, .int .i64 0, .int .i64 0, .int .i64 0, .slice none 0 0, .slice none 0 0, .slice none 0 0] 38 ∧ L < M ∧ RdIt (w9.setCell ⟨M, 0, none⟩ (.int .i64 1)) (.agg #[.int .i64 y.seq, .int .i64 y.cls, .int .i64 y.key, .int .i64 y.window, .int .i64 y.sk.count, .int .i64 y.sk.sum, .int .i64 y.sk.min, .int .i64 y.sk.max, .slice u1 v1 y1, .slice u2 v2 y2, .slice u3 v3 y3]) y G' ∧ Own (M + 1) (w9.setCell ⟨M, 0, none⟩ (.int .i64 1)) G') := by
    have gL := H9.out.1.gL
    have gM := H9.out.2.2.1
    exact ⟨⟨⟨H9.out.1.base.box.setOther (by omega) 0 _, H9.out.1.base.ra.setOther (by omega) 0 _, H9.out.1.base.rf.setOther (by omega) 0 _, H9.out.1.base.bel.setCell (by show w.heap.size ≤ M; omega) _⟩, H9.out.1.loc.setOther (by omega) 0 _, H9.out.1.rd.agree (.set kF 0 _) (.set kG 0 _), H9.out.1.oF.agree (.set kF 0 _), H9.out.1.oG.agree (.set kG 0 _), H9.out.1.ap, gL, H9.out.1.lF, H9.out.1.lG⟩, H9.out.2.1.set 0 _, gM, RdIt.agree H9.out.2.2.2.1 (.set nG 0 _), H9.out.2.2.2.2.agree (.set nG 0 _)⟩
  obtain ⟨w10, hw10⟩ : ∃ W, W = w9.setCell ⟨M, 0, none⟩ (.int .i64 1) := ⟨_, rfl⟩
  rw [← hw10] at H10 ⊢
  clear hw10 H9 f0 c0
  refine store_cut 36 M 5 _ #[.int .i64 y.seq, .int .i64 y.cls, .int .i64 y.key, .int .i64 y.window, .int .i64 y.sk.count, .int .i64 y.sk.sum, .int .i64 y.sk.min, .int .i64 y.sk.max, .slice u1 v1 y1, .slice u2 v2 y2, .slice u3 v3 y3] #[.int .i64 1, .int .i64 x.id, .int .i64 x.epoch, .int .i64 0, .slice none 0 0, .int .i64 y.seq, .int .i64 y.cls, .int .i64 y.key, .int .i64 y.window, .int .i64 y.sk.count, .int .i64 y.sk.sum, .int .i64 y.sk.min, .int .i64 y.sk.max, .slice u1 v1 y1, .slice u2 v2 y2, .slice u3 v3 y3] 38 H10.out.2.1 rfl rfl rfl rfl infoItDImpl (by exact Nat.le_refl 16) (by simp [Value.oneCell']) rfl ?_
  have H11 : Hid (SendL w #[.int .i64 x.id, .int .i64 x.epoch, .bool x.live, .int .i64 x.granted, .slice (some ⟨b, off, none⟩) n1 c1, .slice a2 n2 c2, .int .i64 x.next] L #[.int .i64 x.id, .int .i64 x.epoch, .bool x.live, .int .i64 x.granted, .slice q1 r1 k1, .slice q2 r2 k2, .int .i64 sq] (⟨x.id, x.epoch, x.live, x.granted, x.sealed, x.taken, sq⟩ : Ag) F G (w10.setRow M #[.int .i64 1, .int .i64 x.id, .int .i64 x.epoch, .int .i64 0, .slice none 0 0, .int .i64 y.seq, .int .i64 y.cls, .int .i64 y.key, .int .i64 y.window, .int .i64 y.sk.count, .int .i64 y.sk.sum, .int .i64 y.sk.min, .int .i64 y.sk.max, .slice u1 v1 y1, .slice u2 v2 y2, .slice u3 v3 y3]) ∧ Blk (w10.setRow M #[.int .i64 1, .int .i64 x.id, .int .i64 x.epoch, .int .i64 0, .slice none 0 0, .int .i64 y.seq, .int .i64 y.cls, .int .i64 y.key, .int .i64 y.window, .int .i64 y.sk.count, .int .i64 y.sk.sum, .int .i64 y.sk.min, .int .i64 y.sk.max, .slice u1 v1 y1, .slice u2 v2 y2, .slice u3 v3 y3]) M #[.int .i64 1, .int .i64 x.id, .int .i64 x.epoch, .int .i64 0, .slice none 0 0, .int .i64 y.seq, .int .i64 y.cls, .int .i64 y.key, .int .i64 y.window, .int .i64 y.sk.count, .int .i64 y.sk.sum, .int .i64 y.sk.min, .int .i64 y.sk.max, .slice u1 v1 y1, .slice u2 v2 y2, .slice u3 v3 y3] 38 ∧ L < M ∧ RdIt (w10.setRow M #[.int .i64 1, .int .i64 x.id, .int .i64 x.epoch, .int .i64 0, .slice none 0 0, .int .i64 y.seq, .int .i64 y.cls, .int .i64 y.key, .int .i64 y.window, .int .i64 y.sk.count, .int .i64 y.sk.sum, .int .i64 y.sk.min, .int .i64 y.sk.max, .slice u1 v1 y1, .slice u2 v2 y2, .slice u3 v3 y3]) (.agg #[.int .i64 y.seq, .int .i64 y.cls, .int .i64 y.key, .int .i64 y.window, .int .i64 y.sk.count, .int .i64 y.sk.sum, .int .i64 y.sk.min, .int .i64 y.sk.max, .slice u1 v1 y1, .slice u2 v2 y2, .slice u3 v3 y3]) y G' ∧ Own (M + 1) (w10.setRow M #[.int .i64 1, .int .i64 x.id, .int .i64 x.epoch, .int .i64 0, .slice none 0 0, .int .i64 y.seq, .int .i64 y.cls, .int .i64 y.key, .int .i64 y.window, .int .i64 y.sk.count, .int .i64 y.sk.sum, .int .i64 y.sk.min, .int .i64 y.sk.max, .slice u1 v1 y1, .slice u2 v2 y2, .slice u3 v3 y3]) G') := by
    have gL := H10.out.1.gL
    have gM := H10.out.2.2.1
    exact ⟨⟨⟨H10.out.1.base.box.setRowOther (by omega), H10.out.1.base.ra.setRowOther (by omega), H10.out.1.base.rf.setRowOther (by omega), below_setRow H10.out.1.base.bel (by omega) _⟩, H10.out.1.loc.setRowOther (by omega), H10.out.1.rd.agree (Agree.row kF _) (Agree.row kG _), H10.out.1.oF.agree (Agree.row kF _), H10.out.1.oG.agree (Agree.row kG _), H10.out.1.ap, gL, H10.out.1.lF, H10.out.1.lG⟩, H10.out.2.1.setRow, gM, RdIt.agree H10.out.2.2.2.1 (Agree.row nG _), H10.out.2.2.2.2.agree (Agree.row nG _)⟩
  obtain ⟨w11, hw11⟩ : ∃ W, W = w10.setRow M #[.int .i64 1, .int .i64 x.id, .int .i64 x.epoch, .int .i64 0, .slice none 0 0, .int .i64 y.seq, .int .i64 y.cls, .int .i64 y.key, .int .i64 y.window, .int .i64 y.sk.count, .int .i64 y.sk.sum, .int .i64 y.sk.min, .int .i64 y.sk.max, .slice u1 v1 y1, .slice u2 v2 y2, .slice u3 v3 y3] := ⟨_, rfl⟩
  rw [← hw11] at H11 ⊢
  clear hw11 H10 nG kF kG
  go_wp2_with fail
  have H12 : Hid (SendL w #[.int .i64 x.id, .int .i64 x.epoch, .bool x.live, .int .i64 x.granted, .slice (some ⟨b, off, none⟩) n1 c1, .slice a2 n2 c2, .int .i64 x.next] L #[.int .i64 x.id, .int .i64 x.epoch, .bool x.live, .int .i64 x.granted, .slice q1 r1 k1, .slice q2 r2 k2, .int .i64 sq] (⟨x.id, x.epoch, x.live, x.granted, x.sealed, x.taken, sq⟩ : Ag) F G w11.drew ∧ Blk w11.drew M #[.int .i64 1, .int .i64 x.id, .int .i64 x.epoch, .int .i64 0, .slice none 0 0, .int .i64 y.seq, .int .i64 y.cls, .int .i64 y.key, .int .i64 y.window, .int .i64 y.sk.count, .int .i64 y.sk.sum, .int .i64 y.sk.min, .int .i64 y.sk.max, .slice u1 v1 y1, .slice u2 v2 y2, .slice u3 v3 y3] 38 ∧ L < M ∧ RdIt w11.drew (.agg #[.int .i64 y.seq, .int .i64 y.cls, .int .i64 y.key, .int .i64 y.window, .int .i64 y.sk.count, .int .i64 y.sk.sum, .int .i64 y.sk.min, .int .i64 y.sk.max, .slice u1 v1 y1, .slice u2 v2 y2, .slice u3 v3 y3]) y G' ∧ Own (M + 1) w11.drew G') := by
    have bd := (Below.refl w11.heap.size w11).drew
    exact ⟨H11.out.1.below bd, H11.out.2.1.below bd, H11.out.2.2.1, RdIt.below H11.out.2.2.2.1 bd, H11.out.2.2.2.2.below (RdIt.lt H11.out.2.2.2.1) bd⟩
  obtain ⟨Y0, hY0⟩ : ∃ Y, Y = w11.drew := ⟨_, rfl⟩
  rw [← hY0] at H12
  clear H11
  refine wp_region_held (S := fun W => Blk W L #[.int .i64 x.id, .int .i64 x.epoch, .bool x.live, .int .i64 x.granted, .slice q1 r1 k1, .slice q2 r2 k2, .int .i64 sq] 27 ∧ Blk W M #[.int .i64 1, .int .i64 x.id, .int .i64 x.epoch, .int .i64 0, .slice none 0 0, .int .i64 y.seq, .int .i64 y.cls, .int .i64 y.key, .int .i64 y.window, .int .i64 y.sk.count, .int .i64 y.sk.sum, .int .i64 y.sk.min, .int .i64 y.sk.max, .slice u1 v1 y1, .slice u2 v2 y2, .slice u3 v3 y3] 38) (by kernel_rfl) ?_
  change wpAnyH _ _ _ _ _ _ _ _ (World.drew _)
  rw [← hY0]
  clear hY0
  refine takeH (o := ?o28) 0 (.agg #[.int .i64 x.id, .int .i64 x.epoch, .bool x.live, .int .i64 x.granted, .slice q1 r1 k1, .slice q2 r2 k2, .int .i64 sq]) ?h28 ?r28
  case h28 => simp only [aT, aZ]; rfl
  refine ⟨_, by simp [Act.put]; rfl, by kernel_rfl, by kernel_rfl, by kernel_rfl, fun _ _ _ h => h, (yields_whole 27 L #[.int .i64 x.id, .int .i64 x.epoch, .bool x.live, .int .i64 x.granted, .slice q1 r1 k1, .slice q2 r2 k2, .int .i64 sq] 27 _ rfl rfl rfl Try.underlying27 rfl infoAgDImpl (fun W hW => hW.1)), ⟨H12.out.1.loc, H12.out.2.1⟩, ?_⟩
  refine takeH (o := ?o29) 1 (.agg #[.int .i64 1, .int .i64 x.id, .int .i64 x.epoch, .int .i64 0, .slice none 0 0, .int .i64 y.seq, .int .i64 y.cls, .int .i64 y.key, .int .i64 y.window, .int .i64 y.sk.count, .int .i64 y.sk.sum, .int .i64 y.sk.min, .int .i64 y.sk.max, .slice u1 v1 y1, .slice u2 v2 y2, .slice u3 v3 y3]) ?h29 ?r29
  case h29 => simp only [aT, aS, aZ]; rfl
  refine ⟨_, by simp [Act.put]; rfl, by kernel_rfl, by kernel_rfl, by kernel_rfl, fun _ _ _ h => h, (yields_whole 38 M #[.int .i64 1, .int .i64 x.id, .int .i64 x.epoch, .int .i64 0, .slice none 0 0, .int .i64 y.seq, .int .i64 y.cls, .int .i64 y.key, .int .i64 y.window, .int .i64 y.sk.count, .int .i64 y.sk.sum, .int .i64 y.sk.min, .int .i64 y.sk.max, .slice u1 v1 y1, .slice u2 v2 y2, .slice u3 v3 y3] 38 _ rfl rfl rfl Try.underlying38 rfl infoFrDImpl (fun W hW => hW.2)), ⟨H12.out.1.loc, H12.out.2.1⟩, ?_⟩
  have gM := H12.out.2.2.1
  have gL0 := H12.out.1.gL
  refine onlyH (o := ?o30) 2 (by kernel_rfl) ?h30 ?r30
  case h30 => simp only [aT, aS, aZ]; rfl
  intro K hK
  have gL := H12.out.1.gL
  refine op_store 27 (w.heap.size + 1) #[.int .i64 0, .int .i64 0, .bool false, .int .i64 0, .slice none 0 0, .slice none 0 0, .int .i64 0] #[.int .i64 x.id, .int .i64 x.epoch, .bool x.live, .int .i64 x.granted, .slice q1 r1 k1, .slice q2 r2 k2, .int .i64 sq] 27 rfl rfl rfl rfl H12.out.1.base.ra infoAgDImpl rfl (by simp [Value.oneCell']) ⟨_, by simp [Act.put]; rfl, hK _ _ ⟨⟨H12.out.1.loc.setRowOther (by omega), H12.out.2.1.setRowOther (by omega)⟩, ?_⟩⟩
  clear hK
  refine onlyH (o := ?o31) 3 (by kernel_rfl) ?h31 ?r31
  case h31 => simp only [aT, aS, aZ]; rfl
  intro K hK
  refine op_store 38 (w.heap.size + 1 + 1) #[.int .i64 0, .int .i64 0, .int .i64 0, .int .i64 0, .slice none 0 0, .int .i64 0, .int .i64 0, .int .i64 0, .int .i64 0, .int .i64 0, .int .i64 0, .int .i64 0, .int .i64 0, .slice none 0 0, .slice none 0 0, .slice none 0 0] #[.int .i64 1, .int .i64 x.id, .int .i64 x.epoch, .int .i64 0, .slice none 0 0, .int .i64 y.seq, .int .i64 y.cls, .int .i64 y.key, .int .i64 y.window, .int .i64 y.sk.count, .int .i64 y.sk.sum, .int .i64 y.sk.min, .int .i64 y.sk.max, .slice u1 v1 y1, .slice u2 v2 y2, .slice u3 v3 y3] 38 rfl rfl rfl rfl (H12.out.1.base.rf.setRowOther (by omega)) infoFrDImpl rfl (by simp [Value.oneCell']) ⟨_, by simp [Act.put]; rfl, hK _ _ ⟨⟨(H12.out.1.loc.setRowOther (by omega)).setRowOther (by omega), (H12.out.2.1.setRowOther (by omega)).setRowOther (by omega)⟩, ?_⟩⟩
  clear hK
  refine wpAnyH_done (by kernel_rfl) ?_ _
  have HE : Hid (_ ∧ _ ∧ _) := H12.out.1.put (rdFr_item (a := x.id) (b := x.epoch) H12.out.2.2.2.1) (H12.out.2.2.2.2.mono (by have := H12.out.1.gL; omega)) (fun b hb => by have := H12.out.2.2.2.2.ge b hb; omega)
  go_wp2
  refine bodyPost_ret (results_row_two Try.results12 _ _ (w.heap.size + 1) (w.heap.size + 1 + 1) 27 38 #[.int .i64 x.id, .int .i64 x.epoch, .bool x.live, .int .i64 x.granted, .slice q1 r1 k1, .slice q2 r2 k2, .int .i64 sq] #[.int .i64 1, .int .i64 x.id, .int .i64 x.epoch, .int .i64 0, .slice none 0 0, .int .i64 y.seq, .int .i64 y.cls, .int .i64 y.key, .int .i64 y.window, .int .i64 y.sk.count, .int .i64 y.sk.sum, .int .i64 y.sk.min, .int .i64 y.sk.max, .slice u1 v1 y1, .slice u2 v2 y2, .slice u3 v3 y3] _ _ rfl rfl HE.out.2.1 HE.out.2.2 Try.underlying27 rfl infoAgDImpl Try.underlying38 rfl infoFrDImpl) rfl ?_
  rw [HV.out, HY.out.1]
  exact HE.out.1
end Go.Proofs.Ytgkbhhlkaifnoaa
/- The walk through EntrySame. No statement of the seat is proved here. -/
namespace Go.Proofs.Ytgkbhhlkaifnoaa
open Go.RowKit
set_option maxRecDepth 200000 in
set_option maxHeartbeats 2000000 in
theorem l5Same_any (a b : Option Addr) (la lb ca cb : Nat) (xs ys : Sp) (F G : List Nat) (w : World) (ha : RdP w a la xs F) (hb : RdP w b lb ys G) (hla : la ≤ 140737488355328) (hlb : lb ≤ 140737488355328) :
    Calls Try.prog 45 #[.slice a la ca, .slice b lb cb] w fun e w' => e = .returned (.bool (decide (xs = ys))) ∧ QuietTo w w' := by
  have Hx : Hid (xs.length = la) := ha.length
  have Hy : Hid (ys.length = lb) := hb.length
  by_cases hl : la = lb
  · subst hl
    have hbne : ((la : Int) != (la : Int)) = false := by simp
    have HCA : Hid (la = 0 ∨ ∃ b1 o1, a = some ⟨b1, o1, none⟩ ∧ b1 < w.heap.size ∧ SpCells w b1 o1 la xs) := cells_of ha
    have HCB : Hid (la = 0 ∨ ∃ b1 o1, b = some ⟨b1, o1, none⟩ ∧ b1 < w.heap.size ∧ SpCells w b1 o1 la ys) := cells_of hb
    clear ha hb
    go_enter Try.func45, Try.ntmps45
    go_wp2
    go_loopw [5] (fun i wr => ∃ k : Nat, k ≤ la ∧ i = .int .i64 k ∧ Hid (xs.take k = ys.take k) ∧ Hid (QuietTo w wr)) (fun i _ => la - (intOf i).toNat)
    case atStart => exact ⟨0, by omega, rfl, rfl, QuietTo.refl _⟩
    case round =>
      obtain ⟨k, hk, rfl, HT, HQ⟩ := hrel
      by_cases hlt : k < la
      · rcases HCA.out with h0 | ⟨b1, o1, rfl, hbw1, hc1⟩
        · omega
        rcases HCB.out with h0 | ⟨b2, o2, rfl, hbw2, hc2⟩
        · omega
        obtain ⟨x, hx⟩ : ∃ x, x = (xs.at k).1 := ⟨_, rfl⟩
        obtain ⟨y, hy⟩ : ∃ x, x = (xs.at k).2 := ⟨_, rfl⟩
        obtain ⟨x', hx'⟩ : ∃ x, x = (ys.at k).1 := ⟨_, rfl⟩
        obtain ⟨y', hy'⟩ : ∃ x, x = (ys.at k).2 := ⟨_, rfl⟩
        have e1 := hc1 k hlt
        have e2 := hc2 k hlt
        rw [← hx, ← hy] at e1
        rw [← hx', ← hy'] at e2
        have d1 : wr.cell? ⟨b1, o1 + k * 2, none⟩ = some (.int .i64 x) := (HQ.out.cell _).trans e1.1
        have d2 : wr.cell? ⟨b1, o1 + k * 2 + 1, none⟩ = some (.int .i64 y) := (HQ.out.cell _).trans e1.2
        have d3 : wr.cell? ⟨b2, o2 + k * 2, none⟩ = some (.int .i64 x') := (HQ.out.cell _).trans e2.1
        have d4 : wr.cell? ⟨b2, o2 + k * 2 + 1, none⟩ = some (.int .i64 y') := (HQ.out.cell _).trans e2.2
        have HE : Hid ((x = x' ∧ y = y') ↔ xs[k]?.getD (0, 0) = ys[k]?.getD (0, 0)) := by rw [hx, hy, hx', hy']; exact Prod.ext_iff.symm
        have hI : (k : Int) < (la : Int) := by omega
        clear e1 e2 hx hy hx' hy' hc1 hc2
        by_cases c : x = x' ∧ y = y'
        · have e1 : (x == x') = true := by simp [c.1]
          have e2 : (y == y') = true := by simp [c.2]
          have HT2 : Hid (xs.take (k + 1) = ys.take (k + 1)) := eqP_step (by rw [Hx.out, Hy.out]) (by rw [Hx.out]; exact hlt) HT.out (HE.out.1 c)
          clear c
          go_wp2
          go_quiet (fail)
          go_wp2
          go_roundw
          case rel => exact ⟨k + 1, by omega, by go_num, HT2, HQ.out.drewN _⟩
          case measure => simp [intOf]; omega
        have HV : Hid (decide (xs = ys) = false) := neP_of_at (fun e => c (HE.out.2 e))
        by_cases c1 : x = x'
        · have e1 : (x == x') = true := by simp [c1]
          have e2 : (y == y') = false := by simpa using (fun e => c ⟨c1, e⟩)
          clear c c1
          go_wp2
          go_quiet (fail)
          go_wp2
          go_ret
          exact ⟨ret_bool HV.out.symm, HQ.out.drewN _⟩
        · have e1 : (x == x') = false := by simpa using c1
          clear c c1
          go_wp2
          go_quiet (fail)
          go_wp2
          go_ret
          exact ⟨ret_bool HV.out.symm, HQ.out.drewN _⟩
      · obtain rfl : k = la := by omega
        go_wp2
        go_ret
        exact ⟨ret_bool (eqP_end Hx.out Hy.out HT.out).symm, HQ.out⟩
  · have hbne : ((la : Int) != (lb : Int)) = true := by simp; omega
    have e : decide (xs = ys) = false := by
      rw [decide_eq_false_iff_not]; intro e; subst e; exact hl (Hx.out.symm.trans Hy.out)
    clear ha hb
    go_enter Try.func45, Try.ntmps45
    go_wp2
    go_ret
    exact ⟨ret_bool e.symm, QuietTo.refl _⟩
end Go.Proofs.Ytgkbhhlkaifnoaa
/- The walks through the model's l7Item and FrameSame. No statement of the seat is proved here. -/
namespace Go.Proofs.Ytgkbhhlkaifnoaa
open Go.RowKit
set_option maxRecDepth 200000 in
set_option maxHeartbeats 4000000 in
theorem l7Item_any (v u : Value) (x y : It) (F G : List Nat) (w : World) (h : RdIt w v x F) (k : RdIt w u y G) (hx : x.sk.wide) (hy : y.sk.wide) :
    Calls Try.prog 46 #[v, u] w fun e w' => e = .returned (.bool (decide (x = y))) ∧ Below w.heap.size w w' := by
  obtain ⟨a1, n1, nc1, a2, n2, nc2, a3, n3, nc3, rfl, sx⟩ := h
  obtain ⟨b1, m1, mc1, b2, m2, mc2, b3, m3, mc3, rfl, sy⟩ := k
  have HX : Hid (RdSk w (.agg #[.int .i64 x.sk.count, .int .i64 x.sk.sum, .int .i64 x.sk.min, .int .i64 x.sk.max, .slice a1 n1 nc1, .slice a2 n2 nc2, .slice a3 n3 nc3]) x.sk F ∧ RdSk w (.agg #[.int .i64 y.sk.count, .int .i64 y.sk.sum, .int .i64 y.sk.min, .int .i64 y.sk.max, .slice b1 m1 mc1, .slice b2 m2 mc2, .slice b3 m3 mc3]) y.sk G ∧ x.sk.wide ∧ y.sk.wide) := ⟨sx, sy, hx, hy⟩
  have HT : Hid (_ ∧ _ ∧ _) := two_made w #[.int .i64 x.seq, .int .i64 x.cls, .int .i64 x.key, .int .i64 x.window, .int .i64 x.sk.count, .int .i64 x.sk.sum, .int .i64 x.sk.min, .int .i64 x.sk.max, .slice a1 n1 nc1, .slice a2 n2 nc2, .slice a3 n3 nc3] #[.int .i64 y.seq, .int .i64 y.cls, .int .i64 y.key, .int .i64 y.window, .int .i64 y.sk.count, .int .i64 y.sk.sum, .int .i64 y.sk.min, .int .i64 y.sk.max, .slice b1 m1 mc1, .slice b2 m2 mc2, .slice b3 m3 mc3] 36 36
  obtain ⟨d, hd⟩ : ∃ d, d = decide (x = y) := ⟨_, rfl⟩
  rw [← hd]
  have HD : Hid (d = decide (x = y)) := hd
  clear sx sy hx hy hd
  have k0 := HT.out.1.cell 0
  have j0 := HT.out.2.1.cell 0
  have k1 := HT.out.1.cell 1
  have j1 := HT.out.2.1.cell 1
  have k2 := HT.out.1.cell 2
  have j2 := HT.out.2.1.cell 2
  have k3 := HT.out.1.cell 3
  have j3 := HT.out.2.1.cell 3
  simp only [aT, aS, aZ] at k0 j0 k1 j1 k2 j2 k3 j3
  by_cases c1 : x.seq = y.seq
  rotate_left
  · have HV : Hid (d = false) := by show d = _; rw [HD.out]; exact dec_false (fun e => c1 (by rw [e]))
    have z1 : (x.seq == y.seq) = false := by simpa using c1
    clear c1
    go_enter Try.func46, Try.ntmps46
    go_wp2
    go_ret
    exact ⟨ret_bool HV.out.symm, HT.out.2.2⟩
  have z1 : (x.seq == y.seq) = true := by simpa using c1
  by_cases c2 : x.cls = y.cls
  rotate_left
  · have HV : Hid (d = false) := by show d = _; rw [HD.out]; exact dec_false (fun e => c2 (by rw [e]))
    have z2 : (x.cls == y.cls) = false := by simpa using c2
    clear c1 c2
    go_enter Try.func46, Try.ntmps46
    go_wp2
    go_ret
    exact ⟨ret_bool HV.out.symm, HT.out.2.2⟩
  have z2 : (x.cls == y.cls) = true := by simpa using c2
  by_cases c3 : x.key = y.key
  rotate_left
  · have HV : Hid (d = false) := by show d = _; rw [HD.out]; exact dec_false (fun e => c3 (by rw [e]))
    have z3 : (x.key == y.key) = false := by simpa using c3
    clear c1 c2 c3
    go_enter Try.func46, Try.ntmps46
    go_wp2
    go_ret
    exact ⟨ret_bool HV.out.symm, HT.out.2.2⟩
  have z3 : (x.key == y.key) = true := by simpa using c3
  by_cases c4 : x.window = y.window
  rotate_left
  · have HV : Hid (d = false) := by show d = _; rw [HD.out]; exact dec_false (fun e => c4 (by rw [e]))
    have z4 : (x.window == y.window) = false := by simpa using c4
    clear c1 c2 c3 c4
    go_enter Try.func46, Try.ntmps46
    go_wp2
    go_ret
    exact ⟨ret_bool HV.out.symm, HT.out.2.2⟩
  have z4 : (x.window == y.window) = true := by simpa using c4
  have HC : Hid (x.seq = y.seq ∧ x.cls = y.cls ∧ x.key = y.key ∧ x.window = y.window) := ⟨c1, c2, c3, c4⟩
  clear c1 c2 c3 c4
  go_enter Try.func46, Try.ntmps46
  go_wp2_with (first | go_skip | (with_reducible refine stopLoad 34 rfl ?_))
  refine load_cutw 34 w.heap.size 4 7 _ #[.int .i64 x.sk.count, .int .i64 x.sk.sum, .int .i64 x.sk.min, .int .i64 x.sk.max, .slice a1 n1 nc1, .slice a2 n2 nc2, .slice a3 n3 nc3] 36 _ HT.out.1 rfl rfl rfl Try.underlying34 rfl infoSkI (by simp) rfl ?_
  go_wp2_with (first | go_skip | (with_reducible refine stopLoad 34 rfl ?_))
  refine load_cutw 34 (w.heap.size + 1) 4 7 _ #[.int .i64 y.sk.count, .int .i64 y.sk.sum, .int .i64 y.sk.min, .int .i64 y.sk.max, .slice b1 m1 mc1, .slice b2 m2 mc2, .slice b3 m3 mc3] 36 _ HT.out.2.1 rfl rfl rfl Try.underlying34 rfl infoSkI (by simp) rfl ?_
  go_wp2_with fail
  refine (sameSpec_any _ _ x.sk y.sk F G _ (HX.out.1.below HT.out.2.2) (HX.out.2.1.below HT.out.2.2) HX.out.2.2.1 HX.out.2.2.2).mono ?_
  rintro e w2 ⟨rfl, b2⟩
  have HB2 : Hid (Below w.heap.size w w2) := Below.next HT.out.2.2 b2
  clear b2
  obtain ⟨d2, hd2⟩ : ∃ d, d = decide (x.sk = y.sk) := ⟨_, rfl⟩
  rw [← hd2]
  have HV : Hid (d2 = d) := by
    show _ = _
    rw [hd2, HD.out]
    by_cases e : x.sk = y.sk
    · rw [dec_true e, dec_true (It.eq_of HC.out.1 HC.out.2.1 HC.out.2.2.1 HC.out.2.2.2 e)]
    · rw [dec_false e, dec_false (fun q => e (by rw [q]))]
  clear hd2
  go_wp2
  go_ret
  exact ⟨ret_bool HV.out, HB2.out⟩
set_option maxRecDepth 200000 in
set_option maxHeartbeats 4000000 in
theorem frameSameSpec_any (v u : Value) (x y : Fr) (F F' G G' : List Nat) (w : World) (h : RdFr w v x F F') (k : RdFr w u y G G') (hx : x.item.sk.wide) (hy : y.item.sk.wide) (hlx : x.taken.length ≤ 2097152) (hly : y.taken.length ≤ 2097152) :
    Calls Try.prog 14 #[v, u] w fun e w' => e = .returned (.bool (decide (x = y))) ∧ Below w.heap.size w w' := by
  obtain ⟨p, l, g, a1, n1, nc1, a2, n2, nc2, a3, n3, nc3, rfl, px, sx, _⟩ := h
  obtain ⟨q, k, j, b1, m1, mc1, b2, m2, mc2, b3, m3, mc3, rfl, py, sy, _⟩ := k
  have HX : Hid (RdIt w (.agg #[.int .i64 x.item.seq, .int .i64 x.item.cls, .int .i64 x.item.key, .int .i64 x.item.window, .int .i64 x.item.sk.count, .int .i64 x.item.sk.sum, .int .i64 x.item.sk.min, .int .i64 x.item.sk.max, .slice a1 n1 nc1, .slice a2 n2 nc2, .slice a3 n3 nc3]) x.item F' ∧ RdIt w (.agg #[.int .i64 y.item.seq, .int .i64 y.item.cls, .int .i64 y.item.key, .int .i64 y.item.window, .int .i64 y.item.sk.count, .int .i64 y.item.sk.sum, .int .i64 y.item.sk.min, .int .i64 y.item.sk.max, .slice b1 m1 mc1, .slice b2 m2 mc2, .slice b3 m3 mc3]) y.item G' ∧ x.item.sk.wide ∧ y.item.sk.wide) := ⟨sx, sy, hx, hy⟩
  have HP : Hid (RdP w p l x.taken F ∧ RdP w q k y.taken G ∧ l ≤ 2097152 ∧ k ≤ 2097152) := ⟨px, py, by rw [← px.length]; exact hlx, by rw [← py.length]; exact hly⟩
  have HT : Hid (_ ∧ _ ∧ _) := two_made w #[.int .i64 x.kind, .int .i64 x.agent, .int .i64 x.epoch, .int .i64 x.granted, .slice p l g, .int .i64 x.item.seq, .int .i64 x.item.cls, .int .i64 x.item.key, .int .i64 x.item.window, .int .i64 x.item.sk.count, .int .i64 x.item.sk.sum, .int .i64 x.item.sk.min, .int .i64 x.item.sk.max, .slice a1 n1 nc1, .slice a2 n2 nc2, .slice a3 n3 nc3] #[.int .i64 y.kind, .int .i64 y.agent, .int .i64 y.epoch, .int .i64 y.granted, .slice q k j, .int .i64 y.item.seq, .int .i64 y.item.cls, .int .i64 y.item.key, .int .i64 y.item.window, .int .i64 y.item.sk.count, .int .i64 y.item.sk.sum, .int .i64 y.item.sk.min, .int .i64 y.item.sk.max, .slice b1 m1 mc1, .slice b2 m2 mc2, .slice b3 m3 mc3] 38 38
  obtain ⟨d, hd⟩ : ∃ d, d = decide (x = y) := ⟨_, rfl⟩
  rw [← hd]
  have HD : Hid (d = decide (x = y)) := hd
  clear px py sx sy hx hy hlx hly hd
  have k0 := HT.out.1.cell 0
  have j0 := HT.out.2.1.cell 0
  have k1 := HT.out.1.cell 1
  have j1 := HT.out.2.1.cell 1
  have k2 := HT.out.1.cell 2
  have j2 := HT.out.2.1.cell 2
  have k3 := HT.out.1.cell 3
  have j3 := HT.out.2.1.cell 3
  have k4 := HT.out.1.cell 4
  have j4 := HT.out.2.1.cell 4
  simp only [aT, aS, aZ] at k0 j0 k1 j1 k2 j2 k3 j3 k4 j4
  by_cases c1 : x.kind = y.kind
  rotate_left
  · have HV : Hid (d = false) := by show d = _; rw [HD.out]; exact dec_false (fun e => c1 (by rw [e]))
    have z1 : (x.kind == y.kind) = false := by simpa using c1
    clear c1
    go_enter Try.func14, Try.ntmps14
    go_wp2
    go_ret
    exact ⟨ret_bool HV.out.symm, HT.out.2.2⟩
  have z1 : (x.kind == y.kind) = true := by simpa using c1
  by_cases c2 : x.agent = y.agent
  rotate_left
  · have HV : Hid (d = false) := by show d = _; rw [HD.out]; exact dec_false (fun e => c2 (by rw [e]))
    have z2 : (x.agent == y.agent) = false := by simpa using c2
    clear c1 c2
    go_enter Try.func14, Try.ntmps14
    go_wp2
    go_ret
    exact ⟨ret_bool HV.out.symm, HT.out.2.2⟩
  have z2 : (x.agent == y.agent) = true := by simpa using c2
  by_cases c3 : x.epoch = y.epoch
  rotate_left
  · have HV : Hid (d = false) := by show d = _; rw [HD.out]; exact dec_false (fun e => c3 (by rw [e]))
    have z3 : (x.epoch == y.epoch) = false := by simpa using c3
    clear c1 c2 c3
    go_enter Try.func14, Try.ntmps14
    go_wp2
    go_ret
    exact ⟨ret_bool HV.out.symm, HT.out.2.2⟩
  have z3 : (x.epoch == y.epoch) = true := by simpa using c3
  by_cases c4 : x.granted = y.granted
  rotate_left
  · have HV : Hid (d = false) := by show d = _; rw [HD.out]; exact dec_false (fun e => c4 (by rw [e]))
    have z4 : (x.granted == y.granted) = false := by simpa using c4
    clear c1 c2 c3 c4
    go_enter Try.func14, Try.ntmps14
    go_wp2
    go_ret
    exact ⟨ret_bool HV.out.symm, HT.out.2.2⟩
  have z4 : (x.granted == y.granted) = true := by simpa using c4
  have HC : Hid (x.kind = y.kind ∧ x.agent = y.agent ∧ x.epoch = y.epoch ∧ x.granted = y.granted) := ⟨c1, c2, c3, c4⟩
  clear c1 c2 c3 c4
  go_enter Try.func14, Try.ntmps14
  go_wp2_with fail
  refine (l5Same_any p q l k g j x.taken y.taken F G _ (HP.out.1.below HT.out.2.2) (HP.out.2.1.below HT.out.2.2) (by have := HP.out.2.2; omega) (by have := HP.out.2.2; omega)).mono ?_
  rintro e w1 ⟨rfl, hq⟩
  have HB1 : Hid (Blk w1 w.heap.size #[.int .i64 x.kind, .int .i64 x.agent, .int .i64 x.epoch, .int .i64 x.granted, .slice p l g, .int .i64 x.item.seq, .int .i64 x.item.cls, .int .i64 x.item.key, .int .i64 x.item.window, .int .i64 x.item.sk.count, .int .i64 x.item.sk.sum, .int .i64 x.item.sk.min, .int .i64 x.item.sk.max, .slice a1 n1 nc1, .slice a2 n2 nc2, .slice a3 n3 nc3] 38 ∧ Blk w1 (w.heap.size + 1) #[.int .i64 y.kind, .int .i64 y.agent, .int .i64 y.epoch, .int .i64 y.granted, .slice q k j, .int .i64 y.item.seq, .int .i64 y.item.cls, .int .i64 y.item.key, .int .i64 y.item.window, .int .i64 y.item.sk.count, .int .i64 y.item.sk.sum, .int .i64 y.item.sk.min, .int .i64 y.item.sk.max, .slice b1 m1 mc1, .slice b2 m2 mc2, .slice b3 m3 mc3] 38 ∧ Below w.heap.size w w1) := ⟨HT.out.1.below (quiet_below hq), HT.out.2.1.below (quiet_below hq), Below.next HT.out.2.2 (quiet_below hq)⟩
  clear hq HT k0 k1 k2 k3 k4 j0 j1 j2 j3 j4 z1 z2 z3 z4
  by_cases c5 : x.taken = y.taken
  rotate_left
  · rw [dec_false c5]
    have HV : Hid (d = false) := by show d = _; rw [HD.out]; exact dec_false (fun e => c5 (by rw [e]))
    clear c5
    go_wp2
    go_ret
    exact ⟨ret_bool HV.out.symm, HB1.out.2.2⟩
  rw [dec_true c5]
  have HC5 : Hid (x.taken = y.taken) := c5
  clear c5
  go_wp2_with (first | go_skip | (with_reducible refine stopLoad 36 rfl ?_))
  refine load_cutw 36 w.heap.size 5 11 _ #[.int .i64 x.item.seq, .int .i64 x.item.cls, .int .i64 x.item.key, .int .i64 x.item.window, .int .i64 x.item.sk.count, .int .i64 x.item.sk.sum, .int .i64 x.item.sk.min, .int .i64 x.item.sk.max, .slice a1 n1 nc1, .slice a2 n2 nc2, .slice a3 n3 nc3] 38 _ HB1.out.1 rfl rfl rfl Try.underlying36 rfl infoItA7 (by simp) rfl ?_
  go_wp2_with (first | go_skip | (with_reducible refine stopLoad 36 rfl ?_))
  refine load_cutw 36 (w.heap.size + 1) 5 11 _ #[.int .i64 y.item.seq, .int .i64 y.item.cls, .int .i64 y.item.key, .int .i64 y.item.window, .int .i64 y.item.sk.count, .int .i64 y.item.sk.sum, .int .i64 y.item.sk.min, .int .i64 y.item.sk.max, .slice b1 m1 mc1, .slice b2 m2 mc2, .slice b3 m3 mc3] 38 _ HB1.out.2.1 rfl rfl rfl Try.underlying36 rfl infoItA7 (by simp) rfl ?_
  go_wp2_with fail
  refine (l7Item_any _ _ x.item y.item F' G' _ (HX.out.1.below HB1.out.2.2) (HX.out.2.1.below HB1.out.2.2) HX.out.2.2.1 HX.out.2.2.2).mono ?_
  rintro e w2 ⟨rfl, b2⟩
  have HB2 : Hid (Below w.heap.size w w2) := Below.next HB1.out.2.2 b2
  clear b2
  obtain ⟨d2, hd2⟩ : ∃ d, d = decide (x.item = y.item) := ⟨_, rfl⟩
  rw [← hd2]
  have HV : Hid (d2 = d) := by
    show _ = _
    rw [hd2, HD.out]
    by_cases e : x.item = y.item
    · rw [dec_true e, dec_true (Fr.eq_of HC.out.1 HC.out.2.1 HC.out.2.2.1 HC.out.2.2.2 HC5.out e)]
    · rw [dec_false e, dec_false (fun q => e (by rw [q]))]
  clear hd2
  go_wp2
  go_ret
  exact ⟨ret_bool HV.out, HB2.out⟩
end Go.Proofs.Ytgkbhhlkaifnoaa
