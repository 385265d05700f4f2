/- Several texts of mine, laid together. No statement of the seat is proved here. -/
import Derived.Test.YtjndcfamfminkarB3
import Derived.BigQuiet
import Derived.Test.YtjndcfamfminkarB2
import Derived.StillTactics
import Derived.Test.YtjndcfamfminkarB1
import Derived.Test.YtjndcfamfminkarSkLaw
import Derived.Test.YtjndcfamfminkarAgVar
/- The walk through the model's AgentSend. No statement of the seat is proved here. -/
namespace Go.Proofs.Ytjndcfamfminkar
open Go.RowKit
theorem infoAgDSpec : (Try.prog.info? 25).map (·.size) = some 7 := by kernel_rfl
theorem infoFrDSpec : (Try.prog.info? 56).map (·.size) = some 16 := by kernel_rfl
theorem infoItDSpec : (Try.prog.info? 54).map (·.size) = some 11 := by kernel_rfl
set_option maxRecDepth 200000 in
set_option maxHeartbeats 8000000 in
theorem sendSpec_any (v : Value) (x : Ag) (F0 G0 : List Nat) (w : World) (h : RdAg w v x F0 G0) (hf : ∀ y ∈ x.sealed, y.sk.fits) (hs : x.sealed.length ≤ 1048576) (hl : x.taken.length ≤ 1048576) :
    Calls Try.prog 26 #[v] w fun e w' => NewAgFr w x.send e w' := by
  obtain ⟨a1, n1, c1, a2, n2, c2, rfl, hL, hP, hc1, hc2⟩ := h
  have HX : Hid (RdAg w (.agg #[.int .i64 x.id, .int .i64 x.epoch, .bool x.live, .int .i64 x.granted, .slice a1 n1 c1, .slice a2 n2 c2, .int .i64 x.next]) x F0 G0 ∧ x.sealed.length = n1 ∧ RdL itK w a1 n1 x.sealed F0) := ⟨⟨a1, n1, c1, a2, n2, c2, rfl, hL, hP, hc1, hc2⟩, hL.length, hL⟩
  have HF : Hid ((∀ y ∈ x.sealed, y.sk.fits) ∧ x.sealed.length ≤ 1048576 ∧ x.taken.length ≤ 1048576) := ⟨hf, hs, hl⟩
  have hn1 : n1 ≤ 1048576 := by rw [← hL.length]; exact hs
  clear hL hP hc1 hc2 hf hs hl
  have HB0 : Hid (SendW w #[.int .i64 x.id, .int .i64 x.epoch, .bool x.live, .int .i64 x.granted, .slice a1 n1 c1, .slice a2 n2 c2, .int .i64 x.next] (((w.alloc (.cells #[.int .i64 x.id, .int .i64 x.epoch, .bool x.live, .int .i64 x.granted, .slice a1 n1 c1, .slice a2 n2 c2, .int .i64 x.next] 25)).alloc (.cells #[.int .i64 0, .int .i64 0, .bool false, .int .i64 0, .slice none 0 0, .slice none 0 0, .int .i64 0] 25)).alloc (.cells #[.int .i64 0, .int .i64 0, .int .i64 0, .int .i64 0, .slice none 0 0, .int .i64 0, .int .i64 0, .int .i64 0, .int .i64 0, .int .i64 0, .int .i64 0, .int .i64 0, .int .i64 0, .slice none 0 0, .slice none 0 0, .slice none 0 0] 56))) := SendW.made _ _
  go_enter Try.func26, Try.ntmps26
  go_wp2_with (first | go_skip | (with_reducible refine stopLoad 25 rfl ?_))
  obtain ⟨W0, hW0⟩ : ∃ W, W = ((w.alloc (.cells #[.int .i64 x.id, .int .i64 x.epoch, .bool x.live, .int .i64 x.granted, .slice a1 n1 c1, .slice a2 n2 c2, .int .i64 x.next] 25)).alloc (.cells #[.int .i64 0, .int .i64 0, .bool false, .int .i64 0, .slice none 0 0, .slice none 0 0, .int .i64 0] 25)).alloc (.cells #[.int .i64 0, .int .i64 0, .int .i64 0, .int .i64 0, .slice none 0 0, .int .i64 0, .int .i64 0, .int .i64 0, .int .i64 0, .int .i64 0, .int .i64 0, .int .i64 0, .int .i64 0, .slice none 0 0, .slice none 0 0, .slice none 0 0] 56) := ⟨_, rfl⟩
  rw [← hW0] at HB0 ⊢
  clear hW0
  refine load_known 25 w.heap.size _ 25 _ HB0.out.box rfl rfl rfl Try.underlying25 rfl infoAgDSpec ?_
  go_wp2_with fail
  refine (l8Copy_any _ x F0 G0 _ (HX.out.1.below HB0.out.bel) HF.out.1 HF.out.2.1 HF.out.2.2).mono ?_
  rintro e w2 ⟨v2, F, G, rfl, r2, o2, p2, ap2, hb2⟩
  obtain ⟨q1, r1, k1, q2, r2', k2, rfl, _⟩ := id r2
  have H2 : Hid (SendW w #[.int .i64 x.id, .int .i64 x.epoch, .bool x.live, .int .i64 x.granted, .slice a1 n1 c1, .slice a2 n2 c2, .int .i64 x.next] w2 ∧ RdAg w2 (.agg #[.int .i64 x.id, .int .i64 x.epoch, .bool x.live, .int .i64 x.granted, .slice q1 r1 k1, .slice q2 r2' k2, .int .i64 x.next]) x F G ∧ Own (w.heap.size + 3) w2 F ∧ Own (w.heap.size + 3) w2 G ∧ (∀ b ∈ F, b ∉ G) ∧ w.heap.size + 3 ≤ w2.heap.size) := ⟨HB0.out.below hb2, r2, o2.mono HB0.out.rf.lt, p2.mono HB0.out.rf.lt, ap2, by have := HB0.out.rf.lt; have := hb2.size; omega⟩
  clear r2 o2 p2 ap2 hb2 HB0
  obtain ⟨r2, hr2⟩ : ∃ r, r = r2' := ⟨_, rfl⟩
  rw [← hr2] at H2 ⊢
  clear hr2
  go_wp2_with (first | go_skip | (with_reducible refine stopStore 25 rfl ?_))
  refine store_fresh 25 w2.heap.size rfl #[.int .i64 0, .int .i64 0, .bool false, .int .i64 0, .slice none 0 0, .slice none 0 0, .int .i64 0] #[.int .i64 x.id, .int .i64 x.epoch, .bool x.live, .int .i64 x.granted, .slice q1 r1 k1, .slice q2 r2 k2, .int .i64 x.next] 25 rfl rfl rfl rfl infoAgDSpec rfl (by simp [Value.oneCell']) ?_
  intro w3 hg3 hb3
  have H3 : Hid (SendL w #[.int .i64 x.id, .int .i64 x.epoch, .bool x.live, .int .i64 x.granted, .slice a1 n1 c1, .slice a2 n2 c2, .int .i64 x.next] w2.heap.size #[.int .i64 x.id, .int .i64 x.epoch, .bool x.live, .int .i64 x.granted, .slice q1 r1 k1, .slice q2 r2 k2, .int .i64 x.next] x F G w3) := ⟨H2.out.1.below hb3, hg3, H2.out.2.1.below hb3, H2.out.2.2.1.below H2.out.2.1.lt1 hb3, H2.out.2.2.2.1.below H2.out.2.1.lt2 hb3, H2.out.2.2.2.2.1, H2.out.2.2.2.2.2, H2.out.2.1.lt1, H2.out.2.1.lt2⟩
  obtain ⟨L, hL⟩ : ∃ L, L = w2.heap.size := ⟨_, rfl⟩
  rw [← hL] at H3 ⊢
  clear hg3 hb3 H2 hL
  go_wp2_with (first | go_skip | (with_reducible refine stopLoad 25 rfl ?_))
  refine load_known 25 w.heap.size _ 25 _ H3.out.base.box rfl rfl rfl Try.underlying25 rfl infoAgDSpec ?_
  go_wp2_with fail
  refine (agentOkSpec_any _ x F0 G0 _ (HX.out.1.below H3.out.base.bel) (fun y hy => (HF.out.1 y hy).wide) (by have := HF.out.2.1; omega) (by have := HF.out.2.2; omega)).mono ?_
  rintro e w4 ⟨rfl, hb4⟩
  have H4 : Hid (SendL w #[.int .i64 x.id, .int .i64 x.epoch, .bool x.live, .int .i64 x.granted, .slice a1 n1 c1, .slice a2 n2 c2, .int .i64 x.next] L #[.int .i64 x.id, .int .i64 x.epoch, .bool x.live, .int .i64 x.granted, .slice q1 r1 k1, .slice q2 r2 k2, .int .i64 x.next] x F G w4) := H3.out.below hb4
  obtain ⟨d, hd⟩ : ∃ d, d = x.ok := ⟨_, rfl⟩
  rw [← hd]
  have HD : Hid (d = x.ok) := hd
  clear hb4 hd H3
  cases d
  · have HV : Hid (x.send = (x, Fr.none0)) := by show _ = _; unfold Ag.send; rw [if_pos HD.out.symm]
    go_wp2_with (first | go_skip | (with_reducible refine stopLoad 25 rfl ?_))
    refine load_known 25 L _ 25 _ H4.out.loc rfl rfl rfl Try.underlying25 rfl infoAgDSpec ?_
    go_wp2_with (first | go_skip | (with_reducible refine stopStore 25 rfl ?_))
    refine store_known 25 (w.heap.size + 1) _ #[.int .i64 x.id, .int .i64 x.epoch, .bool x.live, .int .i64 x.granted, .slice q1 r1 k1, .slice q2 r2 k2, .int .i64 x.next] 25 H4.out.base.ra rfl rfl rfl rfl infoAgDSpec rfl (by simp [Value.oneCell']) ?_
    go_wp2_with (first | go_skip | (with_reducible refine stopStore 56 rfl ?_))
    refine store_known 56 (w.heap.size + 1 + 1) _ #[.int .i64 0, .int .i64 0, .int .i64 0, .int .i64 0, .slice none 0 0, .int .i64 0, .int .i64 0, .int .i64 0, .int .i64 0, .int .i64 0, .int .i64 0, .int .i64 0, .int .i64 0, .slice none 0 0, .slice none 0 0, .slice none 0 0] 56 (H4.out.base.rf.setRowOther (by omega)) rfl rfl rfl rfl infoFrDSpec rfl (by simp [Value.oneCell']) ?_
    have HE : Hid (_ ∧ _ ∧ _) := H4.out.put (rdFr_bare w4 0 0 0) Own.nil (by intro b hb; cases hb)
    go_wp2
    refine bodyPost_ret (results_row_two Try.results26 _ _ (w.heap.size + 1) (w.heap.size + 1 + 1) 25 56 #[.int .i64 x.id, .int .i64 x.epoch, .bool x.live, .int .i64 x.granted, .slice q1 r1 k1, .slice q2 r2 k2, .int .i64 x.next] #[.int .i64 0, .int .i64 0, .int .i64 0, .int .i64 0, .slice none 0 0, .int .i64 0, .int .i64 0, .int .i64 0, .int .i64 0, .int .i64 0, .int .i64 0, .int .i64 0, .int .i64 0, .slice none 0 0, .slice none 0 0, .slice none 0 0] _ _ rfl rfl HE.out.2.1 HE.out.2.2 Try.underlying25 rfl infoAgDSpec Try.underlying56 rfl infoFrDSpec) rfl ?_
    rw [HV.out]
    exact HE.out.1
  have HOK : Hid (x.ok = true) := HD.out.symm
  clear HD
  go_wp2_with (first | go_skip | (with_reducible refine stopLoad 25 rfl ?_))
  refine load_known 25 w.heap.size _ 25 _ H4.out.base.box rfl rfl rfl Try.underlying25 rfl infoAgDSpec ?_
  go_wp2_with fail
  refine (waiting_any _ x F0 G0 _ (HX.out.1.below H4.out.base.bel) (fun y hy => (HF.out.1 y hy).wide) HF.out.2.1 HF.out.2.2).mono ?_
  rintro e w5 ⟨⟨u5, rfl, hown⟩, hb5⟩
  obtain ⟨aw, cw, Fw, rfl, rw5, hcw⟩ := rdI_own_cap hown
  obtain ⟨m, hm⟩ : ∃ m, m = x.waits.length := ⟨_, rfl⟩
  rw [← hm] at rw5 ⊢
  have H5 : Hid (SendL w #[.int .i64 x.id, .int .i64 x.epoch, .bool x.live, .int .i64 x.granted, .slice a1 n1 c1, .slice a2 n2 c2, .int .i64 x.next] L #[.int .i64 x.id, .int .i64 x.epoch, .bool x.live, .int .i64 x.granted, .slice q1 r1 k1, .slice q2 r2 k2, .int .i64 x.next] x F G w5 ∧ RdI w5 aw m x.waits Fw ∧ m = x.waits.length) := ⟨H4.out.below hb5, rw5, hm⟩
  clear hown hb5 rw5 hcw H4
  by_cases h0 : m = 0
  · have z0 : ((m : Int) == 0) = true := by simp [h0]
    have z1 : (m == 0) = true := by simp [h0]
    have HV : Hid (x.send = (x, ⟨0, x.id, x.epoch, 0, [], It.zero⟩)) := by
      show _ = _
      unfold Ag.send
      rw [if_neg (by rw [HOK.out]; simp), if_pos (List.eq_nil_of_length_eq_zero (by omega))]
    clear hm h0
    go_wp2_with fail
    have H6 : Hid (SendL w #[.int .i64 x.id, .int .i64 x.epoch, .bool x.live, .int .i64 x.granted, .slice a1 n1 c1, .slice a2 n2 c2, .int .i64 x.next] L #[.int .i64 x.id, .int .i64 x.epoch, .bool x.live, .int .i64 x.granted, .slice q1 r1 k1, .slice q2 r2 k2, .int .i64 x.next] x F G w5.drew) := H5.out.1.below (Below.refl _ _).drew
    obtain ⟨Y0, hY0⟩ : ∃ Y, Y = w5.drew := ⟨_, rfl⟩
    rw [← hY0] at H6
    clear H5
    refine wp_region_held (S := fun W => Blk W w.heap.size #[.int .i64 x.id, .int .i64 x.epoch, .bool x.live, .int .i64 x.granted, .slice a1 n1 c1, .slice a2 n2 c2, .int .i64 x.next] 25 ∧ Blk W L #[.int .i64 x.id, .int .i64 x.epoch, .bool x.live, .int .i64 x.granted, .slice q1 r1 k1, .slice q2 r2 k2, .int .i64 x.next] 25) (by kernel_rfl) ?_
    change wpAnyH _ _ _ _ _ _ _ _ (World.drew _)
    rw [← hY0]
    clear hY0
    refine takeH (o := ?o1) 0 (.agg #[.int .i64 x.id, .int .i64 x.epoch, .bool x.live, .int .i64 x.granted, .slice q1 r1 k1, .slice q2 r2 k2, .int .i64 x.next]) ?h1 ?r1
    case h1 => simp only [aT, aZ]; rfl
    refine ⟨_, by simp [Act.put]; rfl, by kernel_rfl, by kernel_rfl, by kernel_rfl, fun _ _ _ h => h, (yields_whole 25 L #[.int .i64 x.id, .int .i64 x.epoch, .bool x.live, .int .i64 x.granted, .slice q1 r1 k1, .slice q2 r2 k2, .int .i64 x.next] 25 _ rfl rfl rfl Try.underlying25 rfl infoAgDSpec (fun W hW => hW.2)), ⟨H6.out.base.box, H6.out.loc⟩, ?_⟩
    refine takeH (o := ?o2) 1 (.pointer (some ⟨w.heap.size, 0, none⟩)) ?h2 ?r2
    case h2 => simp only [aT, aS, aZ]; rfl
    refine ⟨_, by simp [Act.put]; rfl, by kernel_rfl, by kernel_rfl, by kernel_rfl, fun _ _ _ h => h, (.inl ⟨rfl, fun W _ => by kernel_rfl⟩), ⟨H6.out.base.box, H6.out.loc⟩, ?_⟩
    refine takeH (o := ?o3) 2 (.int .i64 x.id) ?h3 ?r3
    case h3 => simp only [aT, aS, aZ]; rfl
    refine ⟨_, by simp [Act.put]; rfl, by kernel_rfl, by kernel_rfl, by kernel_rfl, fun _ _ _ h => h, (.inl ⟨rfl, fun W hW => by have c := hW.1.cell 0; simp only [aT, aZ] at c; go_simp⟩), ⟨H6.out.base.box, H6.out.loc⟩, ?_⟩
    refine takeH (o := ?o4) 3 (.pointer (some ⟨w.heap.size, 1, none⟩)) ?h4 ?r4
    case h4 => simp only [aT, aS, aZ]; rfl
    refine ⟨_, by simp [Act.put]; rfl, by kernel_rfl, by kernel_rfl, by kernel_rfl, fun _ _ _ h => h, (.inl ⟨rfl, fun W _ => by kernel_rfl⟩), ⟨H6.out.base.box, H6.out.loc⟩, ?_⟩
    refine takeH (o := ?o5) 4 (.int .i64 x.epoch) ?h5 ?r5
    case h5 => simp only [aT, aS, aZ]; rfl
    refine ⟨_, by simp [Act.put]; rfl, by kernel_rfl, by kernel_rfl, by kernel_rfl, fun _ _ _ h => h, (.inl ⟨rfl, fun W hW => by have c := hW.1.cell 1; simp only [aT, aS, aZ] at c; go_simp⟩), ⟨H6.out.base.box, H6.out.loc⟩, ?_⟩
    refine takeH (o := ?o6) 5 (.agg #[.int .i64 0, .int .i64 x.id, .int .i64 x.epoch, .int .i64 0, .slice none 0 0, .int .i64 0, .int .i64 0, .int .i64 0, .int .i64 0, .int .i64 0, .int .i64 0, .int .i64 0, .int .i64 0, .slice none 0 0, .slice none 0 0, .slice none 0 0]) ?h6 ?r6
    case h6 => simp only [aT, aS, aZ]; rfl
    refine ⟨_, by simp [Act.put]; rfl, by kernel_rfl, by kernel_rfl, by kernel_rfl, fun _ _ _ h => h, (.inl ⟨rfl, fun W _ => by kernel_rfl⟩), ⟨H6.out.base.box, H6.out.loc⟩, ?_⟩
    refine onlyH (o := ?o7) 6 (by kernel_rfl) ?h7 ?r7
    case h7 => simp only [aT, aS, aZ]; rfl
    intro K hK
    have gL := H6.out.gL
    refine op_store 25 (w.heap.size + 1) #[.int .i64 0, .int .i64 0, .bool false, .int .i64 0, .slice none 0 0, .slice none 0 0, .int .i64 0] #[.int .i64 x.id, .int .i64 x.epoch, .bool x.live, .int .i64 x.granted, .slice q1 r1 k1, .slice q2 r2 k2, .int .i64 x.next] 25 rfl rfl rfl rfl H6.out.base.ra infoAgDSpec rfl (by simp [Value.oneCell']) ⟨_, by simp [Act.put]; rfl, hK _ _ ⟨⟨H6.out.base.box.setRowOther (by omega), H6.out.loc.setRowOther (by omega)⟩, ?_⟩⟩
    clear hK
    refine onlyH (o := ?o8) 7 (by kernel_rfl) ?h8 ?r8
    case h8 => simp only [aT, aS, aZ]; rfl
    intro K hK
    refine op_store 56 (w.heap.size + 1 + 1) #[.int .i64 0, .int .i64 0, .int .i64 0, .int .i64 0, .slice none 0 0, .int .i64 0, .int .i64 0, .int .i64 0, .int .i64 0, .int .i64 0, .int .i64 0, .int .i64 0, .int .i64 0, .slice none 0 0, .slice none 0 0, .slice none 0 0] #[.int .i64 0, .int .i64 x.id, .int .i64 x.epoch, .int .i64 0, .slice none 0 0, .int .i64 0, .int .i64 0, .int .i64 0, .int .i64 0, .int .i64 0, .int .i64 0, .int .i64 0, .int .i64 0, .slice none 0 0, .slice none 0 0, .slice none 0 0] 56 rfl rfl rfl rfl (H6.out.base.rf.setRowOther (by omega)) infoFrDSpec rfl (by simp [Value.oneCell']) ⟨_, by simp [Act.put]; rfl, hK _ _ ⟨⟨(H6.out.base.box.setRowOther (by omega)).setRowOther (by omega), (H6.out.loc.setRowOther (by omega)).setRowOther (by omega)⟩, ?_⟩⟩
    clear hK
    refine wpAnyH_done (by kernel_rfl) ?_ _
    have HE : Hid (_ ∧ _ ∧ _) := H6.out.put (rdFr_bare Y0 0 x.id x.epoch) Own.nil (by intro b hb; cases hb)
    go_wp2
    refine bodyPost_ret (results_row_two Try.results26 _ _ (w.heap.size + 1) (w.heap.size + 1 + 1) 25 56 #[.int .i64 x.id, .int .i64 x.epoch, .bool x.live, .int .i64 x.granted, .slice q1 r1 k1, .slice q2 r2 k2, .int .i64 x.next] #[.int .i64 0, .int .i64 x.id, .int .i64 x.epoch, .int .i64 0, .slice none 0 0, .int .i64 0, .int .i64 0, .int .i64 0, .int .i64 0, .int .i64 0, .int .i64 0, .int .i64 0, .int .i64 0, .slice none 0 0, .slice none 0 0, .slice none 0 0] _ _ rfl rfl HE.out.2.1 HE.out.2.2 Try.underlying25 rfl infoAgDSpec Try.underlying56 rfl infoFrDSpec) rfl ?_
    rw [HV.out]
    exact HE.out.1
  have hmp : 0 < m := by omega
  have z0 : ((m : Int) == 0) = false := by simp; omega
  have z1 : (m == 0) = false := by simp; omega
  have HNE : Hid (x.waits ≠ []) := fun e => by rw [e] at hm; simp at hm; omega
  obtain ⟨bw, ow, rfl⟩ := H5.out.2.1.addr hmp
  obtain ⟨zs, hzs⟩ : ∃ zs, zs = x.waits := ⟨_, rfl⟩
  have HZ : Hid (RdI w5 (some ⟨bw, ow, none⟩) m zs Fw ∧ m = zs.length ∧ zs = x.waits) := ⟨by rw [hzs]; exact H5.out.2.1, by rw [hzs]; exact hm, hzs⟩
  have H6 : Hid (SendL w #[.int .i64 x.id, .int .i64 x.epoch, .bool x.live, .int .i64 x.granted, .slice a1 n1 c1, .slice a2 n2 c2, .int .i64 x.next] L #[.int .i64 x.id, .int .i64 x.epoch, .bool x.live, .int .i64 x.granted, .slice q1 r1 k1, .slice q2 r2 k2, .int .i64 x.next] x F G w5) := H5.out.1
  have hmM : m ≤ 60 := by
    have q := HZ.out.2.1
    rw [HZ.out.2.2] at q
    have := Ag.ok_granted HOK.out
    unfold Ag.waits at q
    split at q
    · have q2 := waitTo_len x.taken x.upTo
      unfold Ag.upTo at q q2
      omega
    · simp at q; omega
  have d0 : w5.cell? ⟨bw, ow, none⟩ = some (.int .i64 (zs.getD 0 0)) := by
    have := HZ.out.1.at 0 hmp
    rw [Nat.add_zero] at this
    exact this
  obtain ⟨z00, hz00⟩ : ∃ z, z = zs.getD 0 0 := ⟨_, rfl⟩
  rw [← hz00] at d0
  have HZ0 : Hid (z00 = zs.getD 0 0) := hz00
  have hm1 : (0 : Int) < (m : Int) := by omega
  clear hm H5 h0 hzs hz00
  go_wp2_with fail
  clear d0
  go_loopw [6, 7] (fun q i wr => ∃ (k : Nat) (z s : Int), k ≤ m ∧ i = .int .i64 z ∧ q = .int .i64 s ∧ Hid (Below w5.heap.size w5 wr) ∧ Hid (z = (k : Int) - 1) ∧ Hid (s = ((zs.drop k).find? fun z => decide (x.next < z)).getD (zs.getD 0 0))) (fun _ i _ => (intOf i + 1).toNat)
  case atStart => exact ⟨m, _, _, Nat.le_refl _, rfl, rfl, Below.refl _ _, rfl, by show _ = _; rw [HZ.out.2.1, List.drop_length, HZ0.out]; rfl⟩
  case round =>
    obtain ⟨k, z, s, hk, rfl, rfl, HBR, HZK, HS⟩ := hrel
    have H6 : Hid (SendL w #[.int .i64 x.id, .int .i64 x.epoch, .bool x.live, .int .i64 x.granted, .slice a1 n1 c1, .slice a2 n2 c2, .int .i64 x.next] L #[.int .i64 x.id, .int .i64 x.epoch, .bool x.live, .int .i64 x.granted, .slice q1 r1 k1, .slice q2 r2 k2, .int .i64 x.next] x F G wr) := H6.out.below HBR.out
    have e6 := H6.out.base.box.cell 6
    simp only [aT, aS, aZ] at e6
    by_cases hk0 : k = 0
    · subst hk0
      have hz : z = -1 := by have := HZK.out; omega
      subst hz
      have HS2 : Hid (s = turnOf zs x.next) := HS.out
      obtain ⟨sq, hsq⟩ : ∃ sq, sq = s := ⟨_, rfl⟩
      rw [← hsq] at HS2 ⊢
      have HM := turnOf_mem x.next HNE.out
      have HW := waits_mem HM
      have HSQ : Hid (sq = turnOf x.waits x.next) := by show _ = _; rw [HS2.out, HZ.out.2.2]
      rw [← HSQ.out] at HW
      obtain ⟨j, hj⟩ : ∃ j : Nat, sq = (j : Int) + 1 := ⟨(sq - 1).toNat, by omega⟩
      have hjl : j < n1 := by have := HX.out.2.1; omega
      have HV : Hid (x.send = ((⟨x.id, x.epoch, x.live, x.granted, x.sealed, x.taken, sq⟩ : Ag), ⟨1, x.id, x.epoch, 0, [], x.sealed.getD j It.zero⟩)) := by
        show _ = _
        unfold Ag.send
        rw [if_neg (by rw [HOK.out]; simp), if_neg HNE.out, ← HSQ.out, show (sq - 1).toNat = j by omega]
      obtain ⟨b, off, ha, hbF, cs, Fi, hcs, hcc, hr, _⟩ := HX.out.2.2.get j hjl
      have ha' := ha.symm
      subst ha'
      have hbw : b < w.heap.size := HX.out.2.2.lt b hbF
      obtain ⟨y, hy⟩ : ∃ y, x.sealed[j]? = some y := ⟨_, List.getElem?_eq_getElem (by rw [HX.out.2.1]; exact hjl)⟩
      have HY : Hid (x.sealed.getD j It.zero = y ∧ y.sk.fits ∧ cs.size = 11 ∧ RdIt w (.agg cs) y Fi) := ⟨by rw [List.getD_eq_getElem?_getD, hy]; rfl, HF.out.1 y (List.mem_of_getElem? hy), hcs, hr y hy⟩
      have HC : Hid (∀ W, Below w.heap.size w W → ∀ j', j' < 11 → W.cell? ⟨b, off + j * 11 + j', none⟩ = cs[j']?) := fun W hW j' hj' => by
        have q : W.cell? ⟨b, off + j * 11 + j', none⟩ = w.cell? ⟨b, off + j * 11 + j', none⟩ := hW.cell (p := ⟨b, off + j * 11 + j', none⟩) hbw
        exact q.trans (hcc j' hj')
      have hjI : (j : Int) < (n1 : Int) := by omega
      have hsub : sq - 1 = (j : Int) := by omega
      have c6 := H6.out.loc.cell 6
      have f6 := H6.out.loc.frozen 6
      simp only [aT, aS, aZ] at c6
      clear ha hbF hcs hcc hr hy HS HS2 HM HW hsq e6 hk HZK hbw hj
      go_wp2_with fail
      have H7 : Hid (SendL w #[.int .i64 x.id, .int .i64 x.epoch, .bool x.live, .int .i64 x.granted, .slice (some ⟨b, off, none⟩) n1 c1, .slice a2 n2 c2, .int .i64 x.next] L #[.int .i64 x.id, .int .i64 x.epoch, .bool x.live, .int .i64 x.granted, .slice q1 r1 k1, .slice q2 r2 k2, .int .i64 sq] (⟨x.id, x.epoch, x.live, x.granted, x.sealed, x.taken, sq⟩ : Ag) F G (wr.setCell ⟨L, 6, none⟩ (.int .i64 sq))) := H6.out.turn sq
      obtain ⟨w7, hw7⟩ : ∃ W, W = wr.setCell ⟨L, 6, none⟩ (.int .i64 sq) := ⟨_, rfl⟩
      rw [← hw7] at H7
      try rw [← hw7]
      have H8 : Hid (SendL w #[.int .i64 x.id, .int .i64 x.epoch, .bool x.live, .int .i64 x.granted, .slice (some ⟨b, off, none⟩) n1 c1, .slice a2 n2 c2, .int .i64 x.next] L #[.int .i64 x.id, .int .i64 x.epoch, .bool x.live, .int .i64 x.granted, .slice q1 r1 k1, .slice q2 r2 k2, .int .i64 sq] (⟨x.id, x.epoch, x.live, x.granted, x.sealed, x.taken, sq⟩ : Ag) F G w7.drew) := H7.out.below (Below.refl _ _).drew
      obtain ⟨Y0, hY0⟩ : ∃ Y, Y = w7.drew := ⟨_, rfl⟩
      rw [← hY0] at H8
      clear H7 H6 c6 f6 hw7
      refine wp_region_held (S := fun W => Blk W w.heap.size #[.int .i64 x.id, .int .i64 x.epoch, .bool x.live, .int .i64 x.granted, .slice (some ⟨b, off, none⟩) n1 c1, .slice a2 n2 c2, .int .i64 x.next] 25 ∧ Blk W L #[.int .i64 x.id, .int .i64 x.epoch, .bool x.live, .int .i64 x.granted, .slice q1 r1 k1, .slice q2 r2 k2, .int .i64 sq] 25 ∧ Below w.heap.size w W) (by kernel_rfl) ?_
      change wpAnyH _ _ _ _ _ _ _ _ (World.drew _)
      rw [← hY0]
      clear hY0
      refine takeH (o := ?o9) 0 (.agg #[.int .i64 x.id, .int .i64 x.epoch, .bool x.live, .int .i64 x.granted, .slice q1 r1 k1, .slice q2 r2 k2, .int .i64 sq]) ?h9 ?r9
      case h9 => simp only [aT, aZ]; rfl
      refine ⟨_, by simp [Act.put]; rfl, by kernel_rfl, by kernel_rfl, by kernel_rfl, fun _ _ _ h => h, (yields_whole 25 L #[.int .i64 x.id, .int .i64 x.epoch, .bool x.live, .int .i64 x.granted, .slice q1 r1 k1, .slice q2 r2 k2, .int .i64 sq] 25 _ rfl rfl rfl Try.underlying25 rfl infoAgDSpec (fun W hW => hW.2.1)), ⟨H8.out.base.box, H8.out.loc, H8.out.base.bel⟩, ?_⟩
      refine takeH (o := ?o10) 1 (.pointer (some ⟨w.heap.size, 0, none⟩)) ?h10 ?r10
      case h10 => simp only [aT, aS, aZ]; rfl
      refine ⟨_, by simp [Act.put]; rfl, by kernel_rfl, by kernel_rfl, by kernel_rfl, fun _ _ _ h => h, (.inl ⟨rfl, fun W _ => by kernel_rfl⟩), ⟨H8.out.base.box, H8.out.loc, H8.out.base.bel⟩, ?_⟩
      refine takeH (o := ?o11) 2 (.int .i64 x.id) ?h11 ?r11
      case h11 => simp only [aT, aS, aZ]; rfl
      refine ⟨_, by simp [Act.put]; rfl, by kernel_rfl, by kernel_rfl, by kernel_rfl, fun _ _ _ h => h, (.inl ⟨rfl, fun W hW => by have c := hW.1.cell 0; simp only [aT, aZ] at c; go_simp⟩), ⟨H8.out.base.box, H8.out.loc, H8.out.base.bel⟩, ?_⟩
      refine takeH (o := ?o12) 3 (.pointer (some ⟨w.heap.size, 1, none⟩)) ?h12 ?r12
      case h12 => simp only [aT, aS, aZ]; rfl
      refine ⟨_, by simp [Act.put]; rfl, by kernel_rfl, by kernel_rfl, by kernel_rfl, fun _ _ _ h => h, (.inl ⟨rfl, fun W _ => by kernel_rfl⟩), ⟨H8.out.base.box, H8.out.loc, H8.out.base.bel⟩, ?_⟩
      refine takeH (o := ?o13) 4 (.int .i64 x.epoch) ?h13 ?r13
      case h13 => simp only [aT, aS, aZ]; rfl
      refine ⟨_, by simp [Act.put]; rfl, by kernel_rfl, by kernel_rfl, by kernel_rfl, fun _ _ _ h => h, (.inl ⟨rfl, fun W hW => by have c := hW.1.cell 1; simp only [aT, aS, aZ] at c; go_simp⟩), ⟨H8.out.base.box, H8.out.loc, H8.out.base.bel⟩, ?_⟩
      refine takeH (o := ?o14) 5 (.pointer (some ⟨w.heap.size, 4, none⟩)) ?h14 ?r14
      case h14 => simp only [aT, aS, aZ]; rfl
      refine ⟨_, by simp [Act.put]; rfl, by kernel_rfl, by kernel_rfl, by kernel_rfl, fun _ _ _ h => h, (.inl ⟨rfl, fun W _ => by kernel_rfl⟩), ⟨H8.out.base.box, H8.out.loc, H8.out.base.bel⟩, ?_⟩
      refine takeH (o := ?o15) 6 (.slice (some ⟨b, off, none⟩) n1 c1) ?h15 ?r15
      case h15 => simp only [aT, aS, aZ]; rfl
      refine ⟨_, by simp [Act.put]; rfl, by kernel_rfl, by kernel_rfl, by kernel_rfl, fun _ _ _ h => h, (.inl ⟨rfl, fun W hW => by have c := hW.1.cell 4; simp only [aT, aS, aZ] at c; go_simp⟩), ⟨H8.out.base.box, H8.out.loc, H8.out.base.bel⟩, ?_⟩
      refine takeH (o := ?o16) 7 (.int .i64 sq) ?h16 ?r16
      case h16 => simp only [aT, aS, aZ]; rfl
      refine ⟨_, by simp [Act.put]; rfl, by kernel_rfl, by kernel_rfl, by kernel_rfl, fun _ _ _ h => h, (.inl ⟨rfl, fun W _ => by kernel_rfl⟩), ⟨H8.out.base.box, H8.out.loc, H8.out.base.bel⟩, ?_⟩
      refine takeH (o := ?o17) 8 (.int .i64 (j : Int)) ?h17 ?r17
      case h17 => simp only [aT, aS, aZ]; rfl
      refine ⟨_, by simp [Act.put]; rfl, by kernel_rfl, by kernel_rfl, by kernel_rfl, fun _ _ _ h => h, (.inl ⟨rfl, fun W _ => by go_simp; exact wrapI (by omega)⟩), ⟨H8.out.base.box, H8.out.loc, H8.out.base.bel⟩, ?_⟩
      refine takeH (o := ?o18) 9 (.pointer (some ⟨b, off + j * 11, none⟩)) ?h18 ?r18
      case h18 => simp only [aT, aS, aZ]; rfl
      refine ⟨_, by simp [Act.put]; rfl, by kernel_rfl, by kernel_rfl, by kernel_rfl, fun _ _ _ h => h, (.inl ⟨rfl, fun W _ => by go_simp; first | done | (intro h; omega) | (rw [if_pos (by omega)]; rfl)⟩), ⟨H8.out.base.box, H8.out.loc, H8.out.base.bel⟩, ?_⟩
      refine takeH (o := ?o19) 10 (.agg cs) ?h19 ?r19
      case h19 => simp only [aT, aS, aZ]; rfl
      refine ⟨_, by simp [Act.put]; rfl, by kernel_rfl, by kernel_rfl, by kernel_rfl, fun _ _ _ h => h, (yields_at 54 b (off + j * 11) 11 cs _ rfl rfl rfl Try.underlying54 rfl infoItDSpec HY.out.2.2.1 (fun W hW => HC.out W hW.2.2)), ⟨H8.out.base.box, H8.out.loc, H8.out.base.bel⟩, ?_⟩
      refine onlyH (o := ?o20) 11 (by kernel_rfl) ?h20 ?r20
      case h20 => simp only [aT, aS, aZ]; rfl
      intro K hK
      refine op_call1 60 _ _ Try.f60 (fun v w' => ∃ F, RdIt w' v y F ∧ Own Y0.heap.size w' F ∧ Below Y0.heap.size Y0 w') rfl rfl Try.func60 (by kernel_rfl) (by kernel_rfl) ((l6Item_all (.agg cs) y Fi Y0 (HY.out.2.2.2.below H8.out.base.bel) HY.out.2.1).mono (by rintro e w' ⟨v, F, rfl, k1, k2, k3⟩; exact ⟨_, rfl, F, k1, k2, k3⟩)) ?_
      rintro vr w9 ⟨Fr', rr, ro, rb⟩
      obtain ⟨u1, v1, y1, u2, v2, y2, u3, v3, y3, rfl⟩ := RdIt.cells11 rr
      have H9 : Hid (SendL w #[.int .i64 x.id, .int .i64 x.epoch, .bool x.live, .int .i64 x.granted, .slice (some ⟨b, off, none⟩) n1 c1, .slice a2 n2 c2, .int .i64 x.next] L #[.int .i64 x.id, .int .i64 x.epoch, .bool x.live, .int .i64 x.granted, .slice q1 r1 k1, .slice q2 r2 k2, .int .i64 sq] (⟨x.id, x.epoch, x.live, x.granted, x.sealed, x.taken, sq⟩ : Ag) F G w9 ∧ RdIt w9 (.agg #[.int .i64 y.seq, .int .i64 y.cls, .int .i64 y.key, .int .i64 y.window, .int .i64 y.sk.count, .int .i64 y.sk.sum, .int .i64 y.sk.min, .int .i64 y.sk.max, .slice u1 v1 y1, .slice u2 v2 y2, .slice u3 v3 y3]) y Fr' ∧ Own (w.heap.size + 3) w9 Fr' ∧ ∀ b ∈ Fr', L < b) := ⟨H8.out.below rb, rr, ro.mono (by have := H8.out.loc.lt; have := H8.out.gL; omega), fun b hb => by have := ro.ge b hb; have := H8.out.loc.lt; omega⟩
      refine ⟨_, by simp [Act.put]; rfl, hK _ _ ⟨⟨H9.out.1.base.box, H9.out.1.loc, H9.out.1.base.bel⟩, ?_⟩⟩
      clear hK rr ro rb
      refine takeH (o := ?o21) 12 (.agg #[.int .i64 1, .int .i64 x.id, .int .i64 x.epoch, .int .i64 0, .slice none 0 0, .int .i64 y.seq, .int .i64 y.cls, .int .i64 y.key, .int .i64 y.window, .int .i64 y.sk.count, .int .i64 y.sk.sum, .int .i64 y.sk.min, .int .i64 y.sk.max, .slice u1 v1 y1, .slice u2 v2 y2, .slice u3 v3 y3]) ?h21 ?r21
      case h21 => simp only [aT, aS, aZ]; rfl
      refine ⟨_, by simp [Act.put]; rfl, by kernel_rfl, by kernel_rfl, by kernel_rfl, fun _ _ _ h => h, (.inl ⟨rfl, fun W _ => by kernel_rfl⟩), ⟨H9.out.1.base.box, H9.out.1.loc, H9.out.1.base.bel⟩, ?_⟩
      refine onlyH (o := ?o22) 13 (by kernel_rfl) ?h22 ?r22
      case h22 => simp only [aT, aS, aZ]; rfl
      intro K hK
      have gL := H9.out.1.gL
      refine op_store 25 (w.heap.size + 1) #[.int .i64 0, .int .i64 0, .bool false, .int .i64 0, .slice none 0 0, .slice none 0 0, .int .i64 0] #[.int .i64 x.id, .int .i64 x.epoch, .bool x.live, .int .i64 x.granted, .slice q1 r1 k1, .slice q2 r2 k2, .int .i64 sq] 25 rfl rfl rfl rfl H9.out.1.base.ra infoAgDSpec rfl (by simp [Value.oneCell']) ⟨_, by simp [Act.put]; rfl, hK _ _ ⟨⟨H9.out.1.base.box.setRowOther (by omega), H9.out.1.loc.setRowOther (by omega), below_setRow H9.out.1.base.bel (by omega) _⟩, ?_⟩⟩
      clear hK
      refine onlyH (o := ?o23) 14 (by kernel_rfl) ?h23 ?r23
      case h23 => simp only [aT, aS, aZ]; rfl
      intro K hK
      refine op_store 56 (w.heap.size + 1 + 1) #[.int .i64 0, .int .i64 0, .int .i64 0, .int .i64 0, .slice none 0 0, .int .i64 0, .int .i64 0, .int .i64 0, .int .i64 0, .int .i64 0, .int .i64 0, .int .i64 0, .int .i64 0, .slice none 0 0, .slice none 0 0, .slice none 0 0] #[.int .i64 1, .int .i64 x.id, .int .i64 x.epoch, .int .i64 0, .slice none 0 0, .int .i64 y.seq, .int .i64 y.cls, .int .i64 y.key, .int .i64 y.window, .int .i64 y.sk.count, .int .i64 y.sk.sum, .int .i64 y.sk.min, .int .i64 y.sk.max, .slice u1 v1 y1, .slice u2 v2 y2, .slice u3 v3 y3] 56 rfl rfl rfl rfl (H9.out.1.base.rf.setRowOther (by omega)) infoFrDSpec rfl (by simp [Value.oneCell']) ⟨_, by simp [Act.put]; rfl, hK _ _ ⟨⟨(H9.out.1.base.box.setRowOther (by omega)).setRowOther (by omega), (H9.out.1.loc.setRowOther (by omega)).setRowOther (by omega), below_setRow (below_setRow H9.out.1.base.bel (by omega) _) (by omega) _⟩, ?_⟩⟩
      clear hK
      refine wpAnyH_done (by kernel_rfl) ?_ _
      have HE : Hid (_ ∧ _ ∧ _) := H9.out.1.put (rdFr_item (a := x.id) (b := x.epoch) H9.out.2.1) H9.out.2.2.1 H9.out.2.2.2
      go_wp2
      refine bodyPost_ret (results_row_two Try.results26 _ _ (w.heap.size + 1) (w.heap.size + 1 + 1) 25 56 #[.int .i64 x.id, .int .i64 x.epoch, .bool x.live, .int .i64 x.granted, .slice q1 r1 k1, .slice q2 r2 k2, .int .i64 sq] #[.int .i64 1, .int .i64 x.id, .int .i64 x.epoch, .int .i64 0, .slice none 0 0, .int .i64 y.seq, .int .i64 y.cls, .int .i64 y.key, .int .i64 y.window, .int .i64 y.sk.count, .int .i64 y.sk.sum, .int .i64 y.sk.min, .int .i64 y.sk.max, .slice u1 v1 y1, .slice u2 v2 y2, .slice u3 v3 y3] _ _ rfl rfl HE.out.2.1 HE.out.2.2 Try.underlying25 rfl infoAgDSpec Try.underlying56 rfl infoFrDSpec) rfl ?_
      rw [HV.out, HY.out.1]
      exact HE.out.1
    · obtain ⟨j, rfl⟩ : ∃ j, k = j + 1 := ⟨k - 1, by omega⟩
      have hz : z = (j : Int) := by have := HZK.out; omega
      subst hz
      have hjm : (j : Int) < (m : Int) := by omega
      obtain ⟨u, hu⟩ : ∃ u, u = zs.getD j 0 := ⟨_, rfl⟩
      have d1 : wr.cell? ⟨bw, ow + j, none⟩ = some (.int .i64 u) := by rw [hu]; exact (HZ.out.1.below HBR.out).at j (by omega)
      have HFD := find_drop (zs := zs) (j := j) (by have := HZ.out.2.1; omega) (fun z => decide (x.next < z))
      rw [← hu] at HFD
      have HFD' : Hid ((zs.drop j).find? (fun z => decide (x.next < z)) = if decide (x.next < u) = true then some u else (zs.drop (j + 1)).find? (fun z => decide (x.next < z))) := HFD
      clear HFD hu HZK hk0
      by_cases hc : x.next < u
      · have hcd : decide (x.next < u) = true := dec_true hc
        have HS2 : Hid (u = ((zs.drop j).find? fun z => decide (x.next < z)).getD (zs.getD 0 0)) := by show _ = _; rw [HFD'.out, if_pos hcd]; rfl
        clear HFD' HS
        go_wp2_with fail
        go_quiet (fail)
        go_wp2
        go_roundw
        case rel => exact ⟨j, _, _, by omega, rfl, rfl, Below.next HBR.out (quiet_below ⟨_, rfl⟩), by show _ = _; omega, HS2⟩
        case measure => (first | done | (simp [intOf]; done) | (simp [intOf]; omega))
      · have hcd : decide (x.next < u) = false := dec_false hc
        have HS2 : Hid (s = ((zs.drop j).find? fun z => decide (x.next < z)).getD (zs.getD 0 0)) := by show _ = _; rw [HFD'.out, if_neg (by rw [hcd]; simp)]; exact HS.out
        clear HFD' HS
        go_wp2_with fail
        go_quiet (fail)
        go_wp2
        go_roundw
        case rel => exact ⟨j, _, _, by omega, rfl, rfl, Below.next HBR.out (quiet_below ⟨_, rfl⟩), by show _ = _; omega, HS2⟩
        case measure => (first | done | (simp [intOf]; done) | (simp [intOf]; omega))
end Go.Proofs.Ytjndcfamfminkar
/- The walk through the program's AgentSend. No statement of the seat is proved here. -/
namespace Go.Proofs.Ytjndcfamfminkar
open Go.RowKit
theorem infoAgDImpl : (Try.prog.info? 25).map (·.size) = some 7 := by kernel_rfl
theorem infoFrDImpl : (Try.prog.info? 56).map (·.size) = some 16 := by kernel_rfl
theorem infoItDImpl : (Try.prog.info? 54).map (·.size) = some 11 := by kernel_rfl
set_option maxRecDepth 200000 in
set_option maxHeartbeats 8000000 in
theorem sendImpl_any (v : Value) (x : Ag) (F0 G0 : List Nat) (w : World) (h : RdAg w v x F0 G0) (hf : ∀ y ∈ x.sealed, y.sk.fits) (hs : x.sealed.length ≤ 1048576) (hl : x.taken.length ≤ 1048576) :
    Calls Try.prog 27 #[v] w fun e w' => NewAgFr w x.send e w' := by
  obtain ⟨a1, n1, c1, a2, n2, c2, rfl, hL, hP, hc1, hc2⟩ := h
  have HX : Hid (RdAg w (.agg #[.int .i64 x.id, .int .i64 x.epoch, .bool x.live, .int .i64 x.granted, .slice a1 n1 c1, .slice a2 n2 c2, .int .i64 x.next]) x F0 G0 ∧ x.sealed.length = n1 ∧ RdL itK w a1 n1 x.sealed F0) := ⟨⟨a1, n1, c1, a2, n2, c2, rfl, hL, hP, hc1, hc2⟩, hL.length, hL⟩
  have HF : Hid ((∀ y ∈ x.sealed, y.sk.fits) ∧ x.sealed.length ≤ 1048576 ∧ x.taken.length ≤ 1048576) := ⟨hf, hs, hl⟩
  have hn1 : n1 ≤ 1048576 := by rw [← hL.length]; exact hs
  clear hL hP hc1 hc2 hf hs hl
  have HB0 : Hid (SendW w #[.int .i64 x.id, .int .i64 x.epoch, .bool x.live, .int .i64 x.granted, .slice a1 n1 c1, .slice a2 n2 c2, .int .i64 x.next] (((w.alloc (.cells #[.int .i64 x.id, .int .i64 x.epoch, .bool x.live, .int .i64 x.granted, .slice a1 n1 c1, .slice a2 n2 c2, .int .i64 x.next] 25)).alloc (.cells #[.int .i64 0, .int .i64 0, .bool false, .int .i64 0, .slice none 0 0, .slice none 0 0, .int .i64 0] 25)).alloc (.cells #[.int .i64 0, .int .i64 0, .int .i64 0, .int .i64 0, .slice none 0 0, .int .i64 0, .int .i64 0, .int .i64 0, .int .i64 0, .int .i64 0, .int .i64 0, .int .i64 0, .int .i64 0, .slice none 0 0, .slice none 0 0, .slice none 0 0] 56))) := SendW.made _ _
  go_enter Try.func27, Try.ntmps27
  go_wp2_with (first | go_skip | (with_reducible refine stopLoad 25 rfl ?_))
  obtain ⟨W0, hW0⟩ : ∃ W, W = ((w.alloc (.cells #[.int .i64 x.id, .int .i64 x.epoch, .bool x.live, .int .i64 x.granted, .slice a1 n1 c1, .slice a2 n2 c2, .int .i64 x.next] 25)).alloc (.cells #[.int .i64 0, .int .i64 0, .bool false, .int .i64 0, .slice none 0 0, .slice none 0 0, .int .i64 0] 25)).alloc (.cells #[.int .i64 0, .int .i64 0, .int .i64 0, .int .i64 0, .slice none 0 0, .int .i64 0, .int .i64 0, .int .i64 0, .int .i64 0, .int .i64 0, .int .i64 0, .int .i64 0, .int .i64 0, .slice none 0 0, .slice none 0 0, .slice none 0 0] 56) := ⟨_, rfl⟩
  rw [← hW0] at HB0 ⊢
  clear hW0
  refine load_known 25 w.heap.size _ 25 _ HB0.out.box rfl rfl rfl Try.underlying25 rfl infoAgDImpl ?_
  go_wp2_with fail
  refine (copiedAgent_any _ x F0 G0 _ (HX.out.1.below HB0.out.bel) HF.out.1 HF.out.2.1 HF.out.2.2).mono ?_
  rintro e w2 ⟨v2, F, G, rfl, r2, o2, p2, ap2, hb2⟩
  obtain ⟨q1, r1, k1, q2, r2', k2, rfl, _⟩ := id r2
  have H2 : Hid (SendW w #[.int .i64 x.id, .int .i64 x.epoch, .bool x.live, .int .i64 x.granted, .slice a1 n1 c1, .slice a2 n2 c2, .int .i64 x.next] w2 ∧ RdAg w2 (.agg #[.int .i64 x.id, .int .i64 x.epoch, .bool x.live, .int .i64 x.granted, .slice q1 r1 k1, .slice q2 r2' k2, .int .i64 x.next]) x F G ∧ Own (w.heap.size + 3) w2 F ∧ Own (w.heap.size + 3) w2 G ∧ (∀ b ∈ F, b ∉ G) ∧ w.heap.size + 3 ≤ w2.heap.size) := ⟨HB0.out.below hb2, r2, o2.mono HB0.out.rf.lt, p2.mono HB0.out.rf.lt, ap2, by have := HB0.out.rf.lt; have := hb2.size; omega⟩
  clear r2 o2 p2 ap2 hb2 HB0
  obtain ⟨r2, hr2⟩ : ∃ r, r = r2' := ⟨_, rfl⟩
  rw [← hr2] at H2 ⊢
  clear hr2
  go_wp2_with (first | go_skip | (with_reducible refine stopStore 25 rfl ?_))
  refine store_fresh 25 w2.heap.size rfl #[.int .i64 0, .int .i64 0, .bool false, .int .i64 0, .slice none 0 0, .slice none 0 0, .int .i64 0] #[.int .i64 x.id, .int .i64 x.epoch, .bool x.live, .int .i64 x.granted, .slice q1 r1 k1, .slice q2 r2 k2, .int .i64 x.next] 25 rfl rfl rfl rfl infoAgDImpl rfl (by simp [Value.oneCell']) ?_
  intro w3 hg3 hb3
  have H3 : Hid (SendL w #[.int .i64 x.id, .int .i64 x.epoch, .bool x.live, .int .i64 x.granted, .slice a1 n1 c1, .slice a2 n2 c2, .int .i64 x.next] w2.heap.size #[.int .i64 x.id, .int .i64 x.epoch, .bool x.live, .int .i64 x.granted, .slice q1 r1 k1, .slice q2 r2 k2, .int .i64 x.next] x F G w3) := ⟨H2.out.1.below hb3, hg3, H2.out.2.1.below hb3, H2.out.2.2.1.below H2.out.2.1.lt1 hb3, H2.out.2.2.2.1.below H2.out.2.1.lt2 hb3, H2.out.2.2.2.2.1, H2.out.2.2.2.2.2, H2.out.2.1.lt1, H2.out.2.1.lt2⟩
  obtain ⟨L, hL⟩ : ∃ L, L = w2.heap.size := ⟨_, rfl⟩
  rw [← hL] at H3 ⊢
  clear hg3 hb3 H2 hL
  go_wp2_with (first | go_skip | (with_reducible refine stopLoad 25 rfl ?_))
  refine load_known 25 w.heap.size _ 25 _ H3.out.base.box rfl rfl rfl Try.underlying25 rfl infoAgDImpl ?_
  go_wp2_with fail
  refine (agentOkImpl_any _ x F0 G0 _ (HX.out.1.below H3.out.base.bel) (fun y hy => (HF.out.1 y hy).wide) (by have := HF.out.2.1; omega) (by have := HF.out.2.2; omega)).mono ?_
  rintro e w4 ⟨rfl, hb4⟩
  have H4 : Hid (SendL w #[.int .i64 x.id, .int .i64 x.epoch, .bool x.live, .int .i64 x.granted, .slice a1 n1 c1, .slice a2 n2 c2, .int .i64 x.next] L #[.int .i64 x.id, .int .i64 x.epoch, .bool x.live, .int .i64 x.granted, .slice q1 r1 k1, .slice q2 r2 k2, .int .i64 x.next] x F G w4) := H3.out.below hb4
  obtain ⟨d, hd⟩ : ∃ d, d = x.ok := ⟨_, rfl⟩
  rw [← hd]
  have HD : Hid (d = x.ok) := hd
  clear hb4 hd H3
  cases d
  · have HV : Hid (x.send = (x, Fr.none0)) := by show _ = _; unfold Ag.send; rw [if_pos HD.out.symm]
    go_wp2_with (first | go_skip | (with_reducible refine stopLoad 25 rfl ?_))
    refine load_known 25 L _ 25 _ H4.out.loc rfl rfl rfl Try.underlying25 rfl infoAgDImpl ?_
    go_wp2_with (first | go_skip | (with_reducible refine stopStore 25 rfl ?_))
    refine store_known 25 (w.heap.size + 1) _ #[.int .i64 x.id, .int .i64 x.epoch, .bool x.live, .int .i64 x.granted, .slice q1 r1 k1, .slice q2 r2 k2, .int .i64 x.next] 25 H4.out.base.ra rfl rfl rfl rfl infoAgDImpl rfl (by simp [Value.oneCell']) ?_
    go_wp2_with (first | go_skip | (with_reducible refine stopStore 56 rfl ?_))
    refine store_known 56 (w.heap.size + 1 + 1) _ #[.int .i64 0, .int .i64 0, .int .i64 0, .int .i64 0, .slice none 0 0, .int .i64 0, .int .i64 0, .int .i64 0, .int .i64 0, .int .i64 0, .int .i64 0, .int .i64 0, .int .i64 0, .slice none 0 0, .slice none 0 0, .slice none 0 0] 56 (H4.out.base.rf.setRowOther (by omega)) rfl rfl rfl rfl infoFrDImpl rfl (by simp [Value.oneCell']) ?_
    have HE : Hid (_ ∧ _ ∧ _) := H4.out.put (rdFr_bare w4 0 0 0) Own.nil (by intro b hb; cases hb)
    go_wp2
    refine bodyPost_ret (results_row_two Try.results27 _ _ (w.heap.size + 1) (w.heap.size + 1 + 1) 25 56 #[.int .i64 x.id, .int .i64 x.epoch, .bool x.live, .int .i64 x.granted, .slice q1 r1 k1, .slice q2 r2 k2, .int .i64 x.next] #[.int .i64 0, .int .i64 0, .int .i64 0, .int .i64 0, .slice none 0 0, .int .i64 0, .int .i64 0, .int .i64 0, .int .i64 0, .int .i64 0, .int .i64 0, .int .i64 0, .int .i64 0, .slice none 0 0, .slice none 0 0, .slice none 0 0] _ _ rfl rfl HE.out.2.1 HE.out.2.2 Try.underlying25 rfl infoAgDImpl Try.underlying56 rfl infoFrDImpl) rfl ?_
    rw [HV.out]
    exact HE.out.1
  have HOK : Hid (x.ok = true) := HD.out.symm
  clear HD
  have e0 := H4.out.base.box.cell 0
  have e1 := H4.out.base.box.cell 1
  simp only [aT, aS, aZ] at e0 e1
  go_wp2_with (first | go_skip | (with_reducible refine stopStore 56 rfl ?_))
  refine store_fresh 56 w4.heap.size rfl #[.int .i64 0, .int .i64 0, .int .i64 0, .int .i64 0, .slice none 0 0, .int .i64 0, .int .i64 0, .int .i64 0, .int .i64 0, .int .i64 0, .int .i64 0, .int .i64 0, .int .i64 0, .slice none 0 0, .slice none 0 0, .slice none 0 0] #[.int .i64 0, .int .i64 x.id, .int .i64 x.epoch, .int .i64 0, .slice none 0 0, .int .i64 0, .int .i64 0, .int .i64 0, .int .i64 0, .int .i64 0, .int .i64 0, .int .i64 0, .int .i64 0, .slice none 0 0, .slice none 0 0, .slice none 0 0] 56 rfl rfl rfl rfl infoFrDImpl rfl (by simp [Value.oneCell']) ?_
  intro w6 hg6 hb6
  have H6 : Hid (SendL w #[.int .i64 x.id, .int .i64 x.epoch, .bool x.live, .int .i64 x.granted, .slice a1 n1 c1, .slice a2 n2 c2, .int .i64 x.next] L #[.int .i64 x.id, .int .i64 x.epoch, .bool x.live, .int .i64 x.granted, .slice q1 r1 k1, .slice q2 r2 k2, .int .i64 x.next] x F G w6 ∧ Blk w6 w4.heap.size #[.int .i64 0, .int .i64 x.id, .int .i64 x.epoch, .int .i64 0, .slice none 0 0, .int .i64 0, .int .i64 0, .int .i64 0, .int .i64 0, .int .i64 0, .int .i64 0, .int .i64 0, .int .i64 0, .slice none 0 0, .slice none 0 0, .slice none 0 0] 56 ∧ L < w4.heap.size) := ⟨H4.out.below hb6, hg6, H4.out.loc.lt⟩
  obtain ⟨M, hM⟩ : ∃ M, M = w4.heap.size := ⟨_, rfl⟩
  rw [← hM] at H6 ⊢
  clear hg6 hb6 H4 hM e0 e1
  go_wp2_with (first | go_skip | (with_reducible refine stopLoad 25 rfl ?_))
  refine load_known 25 w.heap.size _ 25 _ H6.out.1.base.box rfl rfl rfl Try.underlying25 rfl infoAgDImpl ?_
  go_wp2_with fail
  refine (waitingImpl_any _ x F0 G0 _ (HX.out.1.below H6.out.1.base.bel) (fun y hy => (HF.out.1 y hy).wide) HF.out.2.1 HF.out.2.2).mono ?_
  rintro e w5 ⟨⟨u5, rfl, hown⟩, hb5⟩
  obtain ⟨aw, cw, Fw, rfl, rw5, hcw⟩ := rdI_own_cap hown
  obtain ⟨m, hm⟩ : ∃ m, m = x.waits.length := ⟨_, rfl⟩
  rw [← hm] at rw5 ⊢
  have H7 : Hid (SendL w #[.int .i64 x.id, .int .i64 x.epoch, .bool x.live, .int .i64 x.granted, .slice a1 n1 c1, .slice a2 n2 c2, .int .i64 x.next] L #[.int .i64 x.id, .int .i64 x.epoch, .bool x.live, .int .i64 x.granted, .slice q1 r1 k1, .slice q2 r2 k2, .int .i64 x.next] x F G w5 ∧ Blk w5 M #[.int .i64 0, .int .i64 x.id, .int .i64 x.epoch, .int .i64 0, .slice none 0 0, .int .i64 0, .int .i64 0, .int .i64 0, .int .i64 0, .int .i64 0, .int .i64 0, .int .i64 0, .int .i64 0, .slice none 0 0, .slice none 0 0, .slice none 0 0] 56 ∧ L < M ∧ RdI w5 aw m x.waits Fw ∧ m = x.waits.length) := ⟨H6.out.1.below hb5, H6.out.2.1.below hb5, H6.out.2.2, rw5, hm⟩
  clear hown hb5 rw5 hcw H6
  by_cases h0 : m = 0
  · have z0 : decide ((0 : Int) < (m : Int)) = false := dec_false (by omega)
    have z1 : decide (0 < m) = false := dec_false (by omega)
    have HV : Hid (x.send = (x, ⟨0, x.id, x.epoch, 0, [], It.zero⟩)) := by
      show _ = _
      unfold Ag.send
      rw [if_neg (by rw [HOK.out]; simp), if_pos (List.eq_nil_of_length_eq_zero (by omega))]
    clear hm h0
    go_wp2_with fail
    have H8 : Hid (SendL w #[.int .i64 x.id, .int .i64 x.epoch, .bool x.live, .int .i64 x.granted, .slice a1 n1 c1, .slice a2 n2 c2, .int .i64 x.next] L #[.int .i64 x.id, .int .i64 x.epoch, .bool x.live, .int .i64 x.granted, .slice q1 r1 k1, .slice q2 r2 k2, .int .i64 x.next] x F G w5.drew ∧ Blk w5.drew M #[.int .i64 0, .int .i64 x.id, .int .i64 x.epoch, .int .i64 0, .slice none 0 0, .int .i64 0, .int .i64 0, .int .i64 0, .int .i64 0, .int .i64 0, .int .i64 0, .int .i64 0, .int .i64 0, .slice none 0 0, .slice none 0 0, .slice none 0 0] 56 ∧ L < M) := ⟨H7.out.1.below (Below.refl _ _).drew, H7.out.2.1.below (Below.refl _ _).drew, H7.out.2.2.1⟩
    obtain ⟨Y0, hY0⟩ : ∃ Y, Y = w5.drew := ⟨_, rfl⟩
    rw [← hY0] at H8
    clear H7
    refine wp_region_held (S := fun W => Blk W L #[.int .i64 x.id, .int .i64 x.epoch, .bool x.live, .int .i64 x.granted, .slice q1 r1 k1, .slice q2 r2 k2, .int .i64 x.next] 25 ∧ Blk W M #[.int .i64 0, .int .i64 x.id, .int .i64 x.epoch, .int .i64 0, .slice none 0 0, .int .i64 0, .int .i64 0, .int .i64 0, .int .i64 0, .int .i64 0, .int .i64 0, .int .i64 0, .int .i64 0, .slice none 0 0, .slice none 0 0, .slice none 0 0] 56) (by kernel_rfl) ?_
    change wpAnyH _ _ _ _ _ _ _ _ (World.drew _)
    rw [← hY0]
    clear hY0
    refine takeH (o := ?o24) 0 (.agg #[.int .i64 x.id, .int .i64 x.epoch, .bool x.live, .int .i64 x.granted, .slice q1 r1 k1, .slice q2 r2 k2, .int .i64 x.next]) ?h24 ?r24
    case h24 => simp only [aT, aZ]; rfl
    refine ⟨_, by simp [Act.put]; rfl, by kernel_rfl, by kernel_rfl, by kernel_rfl, fun _ _ _ h => h, (yields_whole 25 L #[.int .i64 x.id, .int .i64 x.epoch, .bool x.live, .int .i64 x.granted, .slice q1 r1 k1, .slice q2 r2 k2, .int .i64 x.next] 25 _ rfl rfl rfl Try.underlying25 rfl infoAgDImpl (fun W hW => hW.1)), ⟨H8.out.1.loc, H8.out.2.1⟩, ?_⟩
    refine takeH (o := ?o25) 1 (.agg #[.int .i64 0, .int .i64 x.id, .int .i64 x.epoch, .int .i64 0, .slice none 0 0, .int .i64 0, .int .i64 0, .int .i64 0, .int .i64 0, .int .i64 0, .int .i64 0, .int .i64 0, .int .i64 0, .slice none 0 0, .slice none 0 0, .slice none 0 0]) ?h25 ?r25
    case h25 => simp only [aT, aS, aZ]; rfl
    refine ⟨_, by simp [Act.put]; rfl, by kernel_rfl, by kernel_rfl, by kernel_rfl, fun _ _ _ h => h, (yields_whole 56 M #[.int .i64 0, .int .i64 x.id, .int .i64 x.epoch, .int .i64 0, .slice none 0 0, .int .i64 0, .int .i64 0, .int .i64 0, .int .i64 0, .int .i64 0, .int .i64 0, .int .i64 0, .int .i64 0, .slice none 0 0, .slice none 0 0, .slice none 0 0] 56 _ rfl rfl rfl Try.underlying56 rfl infoFrDImpl (fun W hW => hW.2)), ⟨H8.out.1.loc, H8.out.2.1⟩, ?_⟩
    have gM := H8.out.2.2
    have gL0 := H8.out.1.gL
    refine onlyH (o := ?o26) 2 (by kernel_rfl) ?h26 ?r26
    case h26 => simp only [aT, aS, aZ]; rfl
    intro K hK
    have gL := H8.out.1.gL
    refine op_store 25 (w.heap.size + 1) #[.int .i64 0, .int .i64 0, .bool false, .int .i64 0, .slice none 0 0, .slice none 0 0, .int .i64 0] #[.int .i64 x.id, .int .i64 x.epoch, .bool x.live, .int .i64 x.granted, .slice q1 r1 k1, .slice q2 r2 k2, .int .i64 x.next] 25 rfl rfl rfl rfl H8.out.1.base.ra infoAgDImpl rfl (by simp [Value.oneCell']) ⟨_, by simp [Act.put]; rfl, hK _ _ ⟨⟨H8.out.1.loc.setRowOther (by omega), H8.out.2.1.setRowOther (by omega)⟩, ?_⟩⟩
    clear hK
    refine onlyH (o := ?o27) 3 (by kernel_rfl) ?h27 ?r27
    case h27 => simp only [aT, aS, aZ]; rfl
    intro K hK
    refine op_store 56 (w.heap.size + 1 + 1) #[.int .i64 0, .int .i64 0, .int .i64 0, .int .i64 0, .slice none 0 0, .int .i64 0, .int .i64 0, .int .i64 0, .int .i64 0, .int .i64 0, .int .i64 0, .int .i64 0, .int .i64 0, .slice none 0 0, .slice none 0 0, .slice none 0 0] #[.int .i64 0, .int .i64 x.id, .int .i64 x.epoch, .int .i64 0, .slice none 0 0, .int .i64 0, .int .i64 0, .int .i64 0, .int .i64 0, .int .i64 0, .int .i64 0, .int .i64 0, .int .i64 0, .slice none 0 0, .slice none 0 0, .slice none 0 0] 56 rfl rfl rfl rfl (H8.out.1.base.rf.setRowOther (by omega)) infoFrDImpl rfl (by simp [Value.oneCell']) ⟨_, by simp [Act.put]; rfl, hK _ _ ⟨⟨(H8.out.1.loc.setRowOther (by omega)).setRowOther (by omega), (H8.out.2.1.setRowOther (by omega)).setRowOther (by omega)⟩, ?_⟩⟩
    clear hK
    refine wpAnyH_done (by kernel_rfl) ?_ _
    have HE : Hid (_ ∧ _ ∧ _) := H8.out.1.put (rdFr_bare Y0 0 x.id x.epoch) Own.nil (by intro b hb; cases hb)
    go_wp2
    refine bodyPost_ret (results_row_two Try.results27 _ _ (w.heap.size + 1) (w.heap.size + 1 + 1) 25 56 #[.int .i64 x.id, .int .i64 x.epoch, .bool x.live, .int .i64 x.granted, .slice q1 r1 k1, .slice q2 r2 k2, .int .i64 x.next] #[.int .i64 0, .int .i64 x.id, .int .i64 x.epoch, .int .i64 0, .slice none 0 0, .int .i64 0, .int .i64 0, .int .i64 0, .int .i64 0, .int .i64 0, .int .i64 0, .int .i64 0, .int .i64 0, .slice none 0 0, .slice none 0 0, .slice none 0 0] _ _ rfl rfl HE.out.2.1 HE.out.2.2 Try.underlying25 rfl infoAgDImpl Try.underlying56 rfl infoFrDImpl) rfl ?_
    rw [HV.out]
    exact HE.out.1
  have hmp : 0 < m := by omega
  have z0 : decide ((0 : Int) < (m : Int)) = true := dec_true (by omega)
  have z1 : decide (0 < m) = true := dec_true hmp
  have HNE : Hid (x.waits ≠ []) := fun e => by rw [e] at hm; simp at hm; omega
  have hmM : m ≤ 60 := by
    have := Ag.ok_granted HOK.out
    have q := hm
    unfold Ag.waits at q
    split at q
    · have q2 := waitTo_len x.taken x.upTo
      unfold Ag.upTo at q q2
      omega
    · simp at q; omega
  have e6 := H7.out.1.base.box.cell 6
  simp only [aT, aS, aZ] at e6
  clear hm h0
  go_wp2_with fail
  refine (seqInTurn_any aw m cw x.waits x.next Fw _ H7.out.2.2.2.1 hmp (by omega)).mono ?_
  rintro e w8 ⟨rfl, hw8⟩
  have hw8' := hw8.symm
  subst hw8'
  clear hw8
  obtain ⟨sq, hsq⟩ : ∃ sq, sq = turnOf x.waits x.next := ⟨_, rfl⟩
  rw [← hsq]
  have HW := waits_mem (turnOf_mem x.next HNE.out)
  rw [← hsq] at HW
  obtain ⟨j, hj⟩ : ∃ j : Nat, sq = (j : Int) + 1 := ⟨(sq - 1).toNat, by omega⟩
  have hjl : j < n1 := by have := HX.out.2.1; omega
  have HV : Hid (x.send = ((⟨x.id, x.epoch, x.live, x.granted, x.sealed, x.taken, sq⟩ : Ag), ⟨1, x.id, x.epoch, 0, [], x.sealed.getD j It.zero⟩)) := by
    show _ = _
    unfold Ag.send
    rw [if_neg (by rw [HOK.out]; simp), if_neg HNE.out, ← hsq, show (sq - 1).toNat = j by omega]
  obtain ⟨b, off, ha, hbF, cs, Fi, hcs, hcc, hr, _⟩ := HX.out.2.2.get j hjl
  have ha' := ha.symm
  subst ha'
  have hbw : b < w.heap.size := HX.out.2.2.lt b hbF
  obtain ⟨y, hy⟩ : ∃ y, x.sealed[j]? = some y := ⟨_, List.getElem?_eq_getElem (by rw [HX.out.2.1]; exact hjl)⟩
  have HY : Hid (x.sealed.getD j It.zero = y ∧ y.sk.fits ∧ cs.size = 11 ∧ RdIt w (.agg cs) y Fi) := ⟨by rw [List.getD_eq_getElem?_getD, hy]; rfl, HF.out.1 y (List.mem_of_getElem? hy), hcs, hr y hy⟩
  have HC : Hid (∀ W, Below w.heap.size w W → ∀ j', j' < 11 → W.cell? ⟨b, off + j * 11 + j', none⟩ = cs[j']?) := fun W hW j' hj' => by
    have q : W.cell? ⟨b, off + j * 11 + j', none⟩ = w.cell? ⟨b, off + j * 11 + j', none⟩ := hW.cell (p := ⟨b, off + j * 11 + j', none⟩) hbw
    exact q.trans (hcc j' hj')
  have hjI : (j : Int) < (n1 : Int) := by omega
  have hsub : sq - 1 = (j : Int) := by omega
  have HSQ : Hid (sq = (j : Int) + 1) := hj
  have H8 : Hid (SendL w #[.int .i64 x.id, .int .i64 x.epoch, .bool x.live, .int .i64 x.granted, .slice (some ⟨b, off, none⟩) n1 c1, .slice a2 n2 c2, .int .i64 x.next] L #[.int .i64 x.id, .int .i64 x.epoch, .bool x.live, .int .i64 x.granted, .slice q1 r1 k1, .slice q2 r2 k2, .int .i64 sq] (⟨x.id, x.epoch, x.live, x.granted, x.sealed, x.taken, sq⟩ : Ag) F G (w5.setCell ⟨L, 6, none⟩ (.int .i64 sq)) ∧ Blk (w5.setCell ⟨L, 6, none⟩ (.int .i64 sq)) M #[.int .i64 0, .int .i64 x.id, .int .i64 x.epoch, .int .i64 0, .slice none 0 0, .int .i64 0, .int .i64 0, .int .i64 0, .int .i64 0, .int .i64 0, .int .i64 0, .int .i64 0, .int .i64 0, .slice none 0 0, .slice none 0 0, .slice none 0 0] 56 ∧ L < M) := ⟨H7.out.1.turn sq, H7.out.2.1.setOther (by have := H7.out.2.2.1; omega) 6 _, H7.out.2.2.1⟩
  have c6 := H7.out.1.loc.cell 6
  have f6 := H7.out.1.loc.frozen 6
  simp only [aT, aS, aZ] at c6
  have d6 := H8.out.1.loc.cell 6
  have d4 := H8.out.1.base.box.cell 4
  simp only [aT, aS, aZ] at d6 d4
  clear ha hbF hcs hcc hr hy hsq HW hbw hj
  go_wp2_with (first | go_skip | (with_reducible refine stopLoad 54 rfl ?_))
  obtain ⟨w7, hw7⟩ : ∃ W, W = w5.setCell ⟨L, 6, none⟩ (.int .i64 sq) := ⟨_, rfl⟩
  rw [← hw7] at H8 ⊢
  clear hw7 H7 c6 f6 d6 d4 e6
  refine load_at 54 b (off + j * 11) 11 cs _ (HC.out _ H8.out.1.base.bel) HY.out.2.2.1 rfl rfl rfl Try.underlying54 rfl infoItDImpl ?_
  go_wp2_with fail
  refine (copiedItem_any _ y Fi _ (HY.out.2.2.2.below H8.out.1.base.bel) HY.out.2.1).mono ?_
  rintro e w9 ⟨v9, G', rfl, r9, o9, hb9⟩
  obtain ⟨u1, v1, y1, u2, v2, y2, u3, v3, y3, rfl⟩ := RdIt.cells11 r9
  have H9 : Hid (SendL w #[.int .i64 x.id, .int .i64 x.epoch, .bool x.live, .int .i64 x.granted, .slice (some ⟨b, off, none⟩) n1 c1, .slice a2 n2 c2, .int .i64 x.next] L #[.int .i64 x.id, .int .i64 x.epoch, .bool x.live, .int .i64 x.granted, .slice q1 r1 k1, .slice q2 r2 k2, .int .i64 sq] (⟨x.id, x.epoch, x.live, x.granted, x.sealed, x.taken, sq⟩ : Ag) F G w9 ∧ Blk w9 M #[.int .i64 0, .int .i64 x.id, .int .i64 x.epoch, .int .i64 0, .slice none 0 0, .int .i64 0, .int .i64 0, .int .i64 0, .int .i64 0, .int .i64 0, .int .i64 0, .int .i64 0, .int .i64 0, .slice none 0 0, .slice none 0 0, .slice none 0 0] 56 ∧ L < M ∧ RdIt w9 (.agg #[.int .i64 y.seq, .int .i64 y.cls, .int .i64 y.key, .int .i64 y.window, .int .i64 y.sk.count, .int .i64 y.sk.sum, .int .i64 y.sk.min, .int .i64 y.sk.max, .slice u1 v1 y1, .slice u2 v2 y2, .slice u3 v3 y3]) y G' ∧ Own (M + 1) w9 G') := ⟨H8.out.1.below hb9, H8.out.2.1.below hb9, H8.out.2.2, r9, o9.mono H8.out.2.1.lt⟩
  have f0 := H9.out.2.1.frozen 0
  have c0 := H9.out.2.1.cell 0
  simp only [aT, aZ] at c0
  clear r9 o9 hb9 H8
  go_wp2_with (first | go_skip | (with_reducible refine stopStore 54 rfl ?_))
  have nG : M ∉ G' := fun hx => by have := H9.out.2.2.2.2.ge _ hx; omega
  have kF : M ∉ F := fun hx => by have := H9.out.1.lF _ hx; have := H9.out.2.2.1; omega
  have kG : M ∉ G := fun hx => by have := H9.out.1.lG _ hx; have := H9.out.2.2.1; omega
  have H10 : Hid (SendL w #[.int .i64 x.id, .int .i64 x.epoch, .bool x.live, .int .i64 x.granted, .slice (some ⟨b, off, none⟩) n1 c1, .slice a2 n2 c2, .int .i64 x.next] L #[.int .i64 x.id, .int .i64 x.epoch, .bool x.live, .int .i64 x.granted, .slice q1 r1 k1, .slice q2 r2 k2, .int .i64 sq] (⟨x.id, x.epoch, x.live, x.granted, x.sealed, x.taken, sq⟩ : Ag) F G (w9.setCell ⟨M, 0, none⟩ (.int .i64 1)) ∧ Blk (w9.setCell ⟨M, 0, none⟩ (.int .i64 1)) M #[.int .i64 1, .int .i64 x.id, .int .i64 x.epoch, .int .i64 0, .slice none 0 0, .int .i64 0, .int .i64 0, .int .i64 0, .int .i64 0, .int .i64 0, .int .i64 0, .int .i64 0, .int .i64 0, .slice none 0 0, .slice none 0 0, .slice none 0 0] 56 ∧ L < M ∧ RdIt (w9.setCell ⟨M, 0, none⟩ (.int .i64 1)) (.agg #[.int .i64 y.seq, .int .i64 y.cls, .int .i64 y.key, .int .i64 y.window, .int .i64 y.sk.count, .int .i64 y.sk.sum, .int .i64 y.sk.min, .int .i64 y.sk.max, .slice u1 v1 y1, .slice u2 v2 y2, .slice u3 v3 y3]) y G' ∧ Own (M + 1) (w9.setCell ⟨M, 0, none⟩ (.int .i64 1)) G') := by
    have gL := H9.out.1.gL
    have gM := H9.out.2.2.1
    exact ⟨⟨⟨H9.out.1.base.box.setOther (by omega) 0 _, H9.out.1.base.ra.setOther (by omega) 0 _, H9.out.1.base.rf.setOther (by omega) 0 _, H9.out.1.base.bel.setCell (by show w.heap.size ≤ M; omega) _⟩, H9.out.1.loc.setOther (by omega) 0 _, H9.out.1.rd.agree (.set kF 0 _) (.set kG 0 _), H9.out.1.oF.agree (.set kF 0 _), H9.out.1.oG.agree (.set kG 0 _), H9.out.1.ap, gL, H9.out.1.lF, H9.out.1.lG⟩, H9.out.2.1.set 0 _, gM, RdIt.agree H9.out.2.2.2.1 (.set nG 0 _), H9.out.2.2.2.2.agree (.set nG 0 _)⟩
  obtain ⟨w10, hw10⟩ : ∃ W, W = w9.setCell ⟨M, 0, none⟩ (.int .i64 1) := ⟨_, rfl⟩
  rw [← hw10] at H10 ⊢
  clear hw10 H9 f0 c0
  refine store_cut 54 M 5 _ #[.int .i64 y.seq, .int .i64 y.cls, .int .i64 y.key, .int .i64 y.window, .int .i64 y.sk.count, .int .i64 y.sk.sum, .int .i64 y.sk.min, .int .i64 y.sk.max, .slice u1 v1 y1, .slice u2 v2 y2, .slice u3 v3 y3] #[.int .i64 1, .int .i64 x.id, .int .i64 x.epoch, .int .i64 0, .slice none 0 0, .int .i64 y.seq, .int .i64 y.cls, .int .i64 y.key, .int .i64 y.window, .int .i64 y.sk.count, .int .i64 y.sk.sum, .int .i64 y.sk.min, .int .i64 y.sk.max, .slice u1 v1 y1, .slice u2 v2 y2, .slice u3 v3 y3] 56 H10.out.2.1 rfl rfl rfl rfl infoItDImpl (by exact Nat.le_refl 16) (by simp [Value.oneCell']) rfl ?_
  have H11 : Hid (SendL w #[.int .i64 x.id, .int .i64 x.epoch, .bool x.live, .int .i64 x.granted, .slice (some ⟨b, off, none⟩) n1 c1, .slice a2 n2 c2, .int .i64 x.next] L #[.int .i64 x.id, .int .i64 x.epoch, .bool x.live, .int .i64 x.granted, .slice q1 r1 k1, .slice q2 r2 k2, .int .i64 sq] (⟨x.id, x.epoch, x.live, x.granted, x.sealed, x.taken, sq⟩ : Ag) F G (w10.setRow M #[.int .i64 1, .int .i64 x.id, .int .i64 x.epoch, .int .i64 0, .slice none 0 0, .int .i64 y.seq, .int .i64 y.cls, .int .i64 y.key, .int .i64 y.window, .int .i64 y.sk.count, .int .i64 y.sk.sum, .int .i64 y.sk.min, .int .i64 y.sk.max, .slice u1 v1 y1, .slice u2 v2 y2, .slice u3 v3 y3]) ∧ Blk (w10.setRow M #[.int .i64 1, .int .i64 x.id, .int .i64 x.epoch, .int .i64 0, .slice none 0 0, .int .i64 y.seq, .int .i64 y.cls, .int .i64 y.key, .int .i64 y.window, .int .i64 y.sk.count, .int .i64 y.sk.sum, .int .i64 y.sk.min, .int .i64 y.sk.max, .slice u1 v1 y1, .slice u2 v2 y2, .slice u3 v3 y3]) M #[.int .i64 1, .int .i64 x.id, .int .i64 x.epoch, .int .i64 0, .slice none 0 0, .int .i64 y.seq, .int .i64 y.cls, .int .i64 y.key, .int .i64 y.window, .int .i64 y.sk.count, .int .i64 y.sk.sum, .int .i64 y.sk.min, .int .i64 y.sk.max, .slice u1 v1 y1, .slice u2 v2 y2, .slice u3 v3 y3] 56 ∧ L < M ∧ RdIt (w10.setRow M #[.int .i64 1, .int .i64 x.id, .int .i64 x.epoch, .int .i64 0, .slice none 0 0, .int .i64 y.seq, .int .i64 y.cls, .int .i64 y.key, .int .i64 y.window, .int .i64 y.sk.count, .int .i64 y.sk.sum, .int .i64 y.sk.min, .int .i64 y.sk.max, .slice u1 v1 y1, .slice u2 v2 y2, .slice u3 v3 y3]) (.agg #[.int .i64 y.seq, .int .i64 y.cls, .int .i64 y.key, .int .i64 y.window, .int .i64 y.sk.count, .int .i64 y.sk.sum, .int .i64 y.sk.min, .int .i64 y.sk.max, .slice u1 v1 y1, .slice u2 v2 y2, .slice u3 v3 y3]) y G' ∧ Own (M + 1) (w10.setRow M #[.int .i64 1, .int .i64 x.id, .int .i64 x.epoch, .int .i64 0, .slice none 0 0, .int .i64 y.seq, .int .i64 y.cls, .int .i64 y.key, .int .i64 y.window, .int .i64 y.sk.count, .int .i64 y.sk.sum, .int .i64 y.sk.min, .int .i64 y.sk.max, .slice u1 v1 y1, .slice u2 v2 y2, .slice u3 v3 y3]) G') := by
    have gL := H10.out.1.gL
    have gM := H10.out.2.2.1
    exact ⟨⟨⟨H10.out.1.base.box.setRowOther (by omega), H10.out.1.base.ra.setRowOther (by omega), H10.out.1.base.rf.setRowOther (by omega), below_setRow H10.out.1.base.bel (by omega) _⟩, H10.out.1.loc.setRowOther (by omega), H10.out.1.rd.agree (Agree.row kF _) (Agree.row kG _), H10.out.1.oF.agree (Agree.row kF _), H10.out.1.oG.agree (Agree.row kG _), H10.out.1.ap, gL, H10.out.1.lF, H10.out.1.lG⟩, H10.out.2.1.setRow, gM, RdIt.agree H10.out.2.2.2.1 (Agree.row nG _), H10.out.2.2.2.2.agree (Agree.row nG _)⟩
  obtain ⟨w11, hw11⟩ : ∃ W, W = w10.setRow M #[.int .i64 1, .int .i64 x.id, .int .i64 x.epoch, .int .i64 0, .slice none 0 0, .int .i64 y.seq, .int .i64 y.cls, .int .i64 y.key, .int .i64 y.window, .int .i64 y.sk.count, .int .i64 y.sk.sum, .int .i64 y.sk.min, .int .i64 y.sk.max, .slice u1 v1 y1, .slice u2 v2 y2, .slice u3 v3 y3] := ⟨_, rfl⟩
  rw [← hw11] at H11 ⊢
  clear hw11 H10 nG kF kG
  go_wp2_with fail
  have H12 : Hid (SendL w #[.int .i64 x.id, .int .i64 x.epoch, .bool x.live, .int .i64 x.granted, .slice (some ⟨b, off, none⟩) n1 c1, .slice a2 n2 c2, .int .i64 x.next] L #[.int .i64 x.id, .int .i64 x.epoch, .bool x.live, .int .i64 x.granted, .slice q1 r1 k1, .slice q2 r2 k2, .int .i64 sq] (⟨x.id, x.epoch, x.live, x.granted, x.sealed, x.taken, sq⟩ : Ag) F G w11.drew ∧ Blk w11.drew M #[.int .i64 1, .int .i64 x.id, .int .i64 x.epoch, .int .i64 0, .slice none 0 0, .int .i64 y.seq, .int .i64 y.cls, .int .i64 y.key, .int .i64 y.window, .int .i64 y.sk.count, .int .i64 y.sk.sum, .int .i64 y.sk.min, .int .i64 y.sk.max, .slice u1 v1 y1, .slice u2 v2 y2, .slice u3 v3 y3] 56 ∧ L < M ∧ RdIt w11.drew (.agg #[.int .i64 y.seq, .int .i64 y.cls, .int .i64 y.key, .int .i64 y.window, .int .i64 y.sk.count, .int .i64 y.sk.sum, .int .i64 y.sk.min, .int .i64 y.sk.max, .slice u1 v1 y1, .slice u2 v2 y2, .slice u3 v3 y3]) y G' ∧ Own (M + 1) w11.drew G') := by
    have bd := (Below.refl w11.heap.size w11).drew
    exact ⟨H11.out.1.below bd, H11.out.2.1.below bd, H11.out.2.2.1, RdIt.below H11.out.2.2.2.1 bd, H11.out.2.2.2.2.below (RdIt.lt H11.out.2.2.2.1) bd⟩
  obtain ⟨Y0, hY0⟩ : ∃ Y, Y = w11.drew := ⟨_, rfl⟩
  rw [← hY0] at H12
  clear H11
  refine wp_region_held (S := fun W => Blk W L #[.int .i64 x.id, .int .i64 x.epoch, .bool x.live, .int .i64 x.granted, .slice q1 r1 k1, .slice q2 r2 k2, .int .i64 sq] 25 ∧ Blk W M #[.int .i64 1, .int .i64 x.id, .int .i64 x.epoch, .int .i64 0, .slice none 0 0, .int .i64 y.seq, .int .i64 y.cls, .int .i64 y.key, .int .i64 y.window, .int .i64 y.sk.count, .int .i64 y.sk.sum, .int .i64 y.sk.min, .int .i64 y.sk.max, .slice u1 v1 y1, .slice u2 v2 y2, .slice u3 v3 y3] 56) (by kernel_rfl) ?_
  change wpAnyH _ _ _ _ _ _ _ _ (World.drew _)
  rw [← hY0]
  clear hY0
  refine takeH (o := ?o28) 0 (.agg #[.int .i64 x.id, .int .i64 x.epoch, .bool x.live, .int .i64 x.granted, .slice q1 r1 k1, .slice q2 r2 k2, .int .i64 sq]) ?h28 ?r28
  case h28 => simp only [aT, aZ]; rfl
  refine ⟨_, by simp [Act.put]; rfl, by kernel_rfl, by kernel_rfl, by kernel_rfl, fun _ _ _ h => h, (yields_whole 25 L #[.int .i64 x.id, .int .i64 x.epoch, .bool x.live, .int .i64 x.granted, .slice q1 r1 k1, .slice q2 r2 k2, .int .i64 sq] 25 _ rfl rfl rfl Try.underlying25 rfl infoAgDImpl (fun W hW => hW.1)), ⟨H12.out.1.loc, H12.out.2.1⟩, ?_⟩
  refine takeH (o := ?o29) 1 (.agg #[.int .i64 1, .int .i64 x.id, .int .i64 x.epoch, .int .i64 0, .slice none 0 0, .int .i64 y.seq, .int .i64 y.cls, .int .i64 y.key, .int .i64 y.window, .int .i64 y.sk.count, .int .i64 y.sk.sum, .int .i64 y.sk.min, .int .i64 y.sk.max, .slice u1 v1 y1, .slice u2 v2 y2, .slice u3 v3 y3]) ?h29 ?r29
  case h29 => simp only [aT, aS, aZ]; rfl
  refine ⟨_, by simp [Act.put]; rfl, by kernel_rfl, by kernel_rfl, by kernel_rfl, fun _ _ _ h => h, (yields_whole 56 M #[.int .i64 1, .int .i64 x.id, .int .i64 x.epoch, .int .i64 0, .slice none 0 0, .int .i64 y.seq, .int .i64 y.cls, .int .i64 y.key, .int .i64 y.window, .int .i64 y.sk.count, .int .i64 y.sk.sum, .int .i64 y.sk.min, .int .i64 y.sk.max, .slice u1 v1 y1, .slice u2 v2 y2, .slice u3 v3 y3] 56 _ rfl rfl rfl Try.underlying56 rfl infoFrDImpl (fun W hW => hW.2)), ⟨H12.out.1.loc, H12.out.2.1⟩, ?_⟩
  have gM := H12.out.2.2.1
  have gL0 := H12.out.1.gL
  refine onlyH (o := ?o30) 2 (by kernel_rfl) ?h30 ?r30
  case h30 => simp only [aT, aS, aZ]; rfl
  intro K hK
  have gL := H12.out.1.gL
  refine op_store 25 (w.heap.size + 1) #[.int .i64 0, .int .i64 0, .bool false, .int .i64 0, .slice none 0 0, .slice none 0 0, .int .i64 0] #[.int .i64 x.id, .int .i64 x.epoch, .bool x.live, .int .i64 x.granted, .slice q1 r1 k1, .slice q2 r2 k2, .int .i64 sq] 25 rfl rfl rfl rfl H12.out.1.base.ra infoAgDImpl rfl (by simp [Value.oneCell']) ⟨_, by simp [Act.put]; rfl, hK _ _ ⟨⟨H12.out.1.loc.setRowOther (by omega), H12.out.2.1.setRowOther (by omega)⟩, ?_⟩⟩
  clear hK
  refine onlyH (o := ?o31) 3 (by kernel_rfl) ?h31 ?r31
  case h31 => simp only [aT, aS, aZ]; rfl
  intro K hK
  refine op_store 56 (w.heap.size + 1 + 1) #[.int .i64 0, .int .i64 0, .int .i64 0, .int .i64 0, .slice none 0 0, .int .i64 0, .int .i64 0, .int .i64 0, .int .i64 0, .int .i64 0, .int .i64 0, .int .i64 0, .int .i64 0, .slice none 0 0, .slice none 0 0, .slice none 0 0] #[.int .i64 1, .int .i64 x.id, .int .i64 x.epoch, .int .i64 0, .slice none 0 0, .int .i64 y.seq, .int .i64 y.cls, .int .i64 y.key, .int .i64 y.window, .int .i64 y.sk.count, .int .i64 y.sk.sum, .int .i64 y.sk.min, .int .i64 y.sk.max, .slice u1 v1 y1, .slice u2 v2 y2, .slice u3 v3 y3] 56 rfl rfl rfl rfl (H12.out.1.base.rf.setRowOther (by omega)) infoFrDImpl rfl (by simp [Value.oneCell']) ⟨_, by simp [Act.put]; rfl, hK _ _ ⟨⟨(H12.out.1.loc.setRowOther (by omega)).setRowOther (by omega), (H12.out.2.1.setRowOther (by omega)).setRowOther (by omega)⟩, ?_⟩⟩
  clear hK
  refine wpAnyH_done (by kernel_rfl) ?_ _
  have HE : Hid (_ ∧ _ ∧ _) := H12.out.1.put (rdFr_item (a := x.id) (b := x.epoch) H12.out.2.2.2.1) (H12.out.2.2.2.2.mono (by have := H12.out.1.gL; omega)) (fun b hb => by have := H12.out.2.2.2.2.ge b hb; omega)
  go_wp2
  refine bodyPost_ret (results_row_two Try.results27 _ _ (w.heap.size + 1) (w.heap.size + 1 + 1) 25 56 #[.int .i64 x.id, .int .i64 x.epoch, .bool x.live, .int .i64 x.granted, .slice q1 r1 k1, .slice q2 r2 k2, .int .i64 sq] #[.int .i64 1, .int .i64 x.id, .int .i64 x.epoch, .int .i64 0, .slice none 0 0, .int .i64 y.seq, .int .i64 y.cls, .int .i64 y.key, .int .i64 y.window, .int .i64 y.sk.count, .int .i64 y.sk.sum, .int .i64 y.sk.min, .int .i64 y.sk.max, .slice u1 v1 y1, .slice u2 v2 y2, .slice u3 v3 y3] _ _ rfl rfl HE.out.2.1 HE.out.2.2 Try.underlying25 rfl infoAgDImpl Try.underlying56 rfl infoFrDImpl) rfl ?_
  rw [HV.out, HY.out.1]
  exact HE.out.1
end Go.Proofs.Ytjndcfamfminkar
/- The walks through the program's SetAdd and SetJoin. No statement of the seat is proved here. -/
namespace Go.Proofs.Ytjndcfamfminkar
open Go.RowKit
theorem inb_ok {ps : Sp} (h : ps.ok = true) : ∀ p ∈ ps, InB p := inb_iff.1 (ok_inb h)
set_option maxRecDepth 200000 in
set_option maxHeartbeats 4000000 in
theorem joinImpl_any (a b : Option Addr) (la lb ca cb : Nat) (ps qs : Sp) (F G : List Nat) (w : World) (h : RdP w a la ps F) (k : RdP w b lb qs G) (hlen : la + lb ≤ 2097152) (hca : la ≤ ca) :
    Calls Try.prog 73 #[.slice a la ca, .slice b lb cb] w fun e w' => NewP2 w (ps.join qs) (ps.ok && qs.ok) e w' := by
  have HR : Hid (RdP w a la ps F ∧ RdP w b lb qs G) := ⟨h, k⟩
  clear h k
  go_enter Try.func73, Try.ntmps73
  go_wp2_with fail
  refine (setOkImpl_any a la ca ps F _ HR.out.1 (by omega)).mono ?_
  rintro e w1 ⟨rfl, hb⟩
  have HB0 : Hid (Below w.heap.size w w1) := hb
  clear hb
  obtain ⟨d, hd⟩ : ∃ d, d = ps.ok := ⟨_, rfl⟩
  rw [← hd]
  have HD : Hid (d = ps.ok) := hd
  clear hd
  cases d
  · have HV : Hid (ps.join qs = [] ∧ (ps.ok && qs.ok) = false) := ⟨Sp.join_not (by rw [← HD.out]; rfl), by rw [← HD.out]; rfl⟩
    go_wp2
    go_ret2
    rw [HV.out.1, HV.out.2]
    exact ⟨_, 0, 0, [], rfl, RdP.nil, Own.nil, HB0.out, fun _ => rfl, Nat.le_refl _⟩
  go_wp2_with fail
  refine (setOkImpl_any b lb cb qs G _ (HR.out.2.below HB0.out) (by omega)).mono ?_
  rintro e w2 ⟨rfl, hb⟩
  have HB1 : Hid (Below w.heap.size w w2) := Below.next HB0.out hb
  clear hb HB0
  obtain ⟨d, hd⟩ : ∃ d, d = qs.ok := ⟨_, rfl⟩
  rw [← hd]
  have HE : Hid (d = qs.ok) := hd
  clear hd
  cases d
  · have HV : Hid (ps.join qs = [] ∧ (ps.ok && qs.ok) = false) := ⟨Sp.join_not (by rw [← HD.out, ← HE.out]; rfl), by rw [← HD.out, ← HE.out]; rfl⟩
    go_wp2
    go_ret2
    rw [HV.out.1, HV.out.2]
    exact ⟨_, 0, 0, [], rfl, RdP.nil, Own.nil, HB1.out, fun _ => rfl, Nat.le_refl _⟩
  have HV : Hid (both ps qs [] = ps.join qs ∧ (ps.ok && qs.ok) = true) := ⟨both_join HD.out.symm HE.out.symm, by rw [← HD.out, ← HE.out]; rfl⟩
  go_wp2_with fail
  refine (spansOfBoth_any a b la lb ca cb ps qs F G _ (HR.out.1.below HB1.out) (HR.out.2.below HB1.out) (by omega) hca (inb_ok HD.out.symm) (inb_ok HE.out.symm)).mono ?_
  rintro e w3 ⟨a', l', c', F', rfl, g1, g2, g3, g4⟩
  have HN : Hid (RdP w3 a' l' (ps.join qs) F' ∧ Own w.heap.size w3 F' ∧ Below w.heap.size w w3 ∧ Capd a' l' c') := ⟨by rw [← HV.out.1]; exact g1, g2.mono HB1.out.size, Below.next HB1.out g3, g4⟩
  clear g1 g2 g3 g4
  go_wp2
  go_ret2
  rw [HV.out.2]
  exact ⟨a', l', c', F', rfl, HN.out⟩
end Go.Proofs.Ytjndcfamfminkar
/- The walks through the program's newsFor, turnedBy and AgentHear. No statement of the seat is proved here. -/
namespace Go.Proofs.Ytjndcfamfminkar
open Go.RowKit
section
variable {P : Program} {ops : Array Oper} {Q : Exit → Act → World → Prop} {a : Act} {w : World} {o : Oper} {K : Act → World → Prop}
/-- A method called on an interface value whose type is known. -/
theorem op_invoke0 (x : Operand) (name : String) (T : TypeId) (rv : Value) (f : FuncId) (fn : Func) (R : Value → World → Prop) (hw : Region.wanted o (yielded ops a.tmps) = true) (ho : o.op = Op.call { callee := Callee.invoke x name, args := #[], argTypes := #[] })
    (hx : a.eval x = .iface T rv) (hm : ∀ w k, (method (k + 1) T rv name).run P w = .ok (f, rv) w)
    (hfn : P.funcs[f]? = some fn) (hnm : (fn.name == "runtime.NumGoroutine") = false) (hbd : fn.body.isNone = false) (hc : Calls P f #[rv] w fun e w' => ∃ v, e = .returned v ∧ R v w') (h : ∀ v w', R v w' → ∃ a', a.put o.dst v = a' ∧ K a' w') : if Region.wanted o (yielded ops a.tmps) = true then Oper.wp P o a w K Q else K (a.put o.dst undef) w := by
  rw [if_pos hw]
  have hnm' : ¬ fn.name = "runtime.NumGoroutine" := by simpa using hnm
  have hbd' : ¬ fn.body = none := by intro e; rw [e] at hbd; cases hbd
  unfold Oper.wp
  simp [Act.eval, go_sem] at hx
  simp only [execOp, ho, resolve, invoke, Oper.upon, go_sem]
  simp [hx, hm, callFunc, hfn, hnm', hbd', go_sem]
  refine Calls.mono hc ?_
  rintro e w1 ⟨v, rfl, hR⟩
  obtain ⟨_, rfl, hk⟩ := h v w1 hR
  exact hk
end
set_option maxRecDepth 200000 in
theorem ackOf_any (e g : Int) (w : World) : Calls Try.prog 131 #[.agg #[.int .i64 e, .int .i64 g]] w fun r w' => r = .returned (.int .i64 e) ∧ Below w.heap.size w w' := by
  have HB : Hid (Below w.heap.size w (w.alloc (.cells #[.int .i64 e, .int .i64 g] 118))) := Below.allocW _ (Below.refl _ _) (Nat.le_refl _)
  go_enter Try.func131, Try.ntmps131
  go_wp2
  go_ret
  exact ⟨rfl, HB.out⟩
set_option maxRecDepth 200000 in
theorem resetOf_any (e : Int) (w : World) : Calls Try.prog 132 #[.agg #[.int .i64 e]] w fun r w' => r = .returned (.int .i64 e) ∧ Below w.heap.size w w' := by
  have HB : Hid (Below w.heap.size w (w.alloc (.cells #[.int .i64 e] 120))) := Below.allocW _ (Below.refl _ _) (Nat.le_refl _)
  go_enter Try.func132, Try.ntmps132
  go_wp2
  go_ret
  exact ⟨rfl, HB.out⟩
theorem assertAA (e g : Int) (w : World) : (Instr.typeAssert (.iface 118 (.agg #[.int .i64 e, .int .i64 g])) 95 118 true).run Try.prog w = .ok (.tuple #[.agg #[.int .i64 e, .int .i64 g], .bool true]) w := by kernel_rfl
theorem assertRA (e : Int) (w : World) : (Instr.typeAssert (.iface 120 (.agg #[.int .i64 e])) 95 118 true).run Try.prog w = .ok (.tuple #[.agg #[.int .i64 0, .int .i64 0], .bool false]) w := by kernel_rfl
theorem assertRR (e : Int) (w : World) : (Instr.typeAssert (.iface 120 (.agg #[.int .i64 e])) 95 120 true).run Try.prog w = .ok (.tuple #[.agg #[.int .i64 e], .bool true]) w := by kernel_rfl
theorem methodA (e g : Int) (w : World) (k : Nat) : (method (k + 1) 118 (.agg #[.int .i64 e, .int .i64 g]) "loop.example/g00491/impl.of").run Try.prog w = .ok (131, .agg #[.int .i64 e, .int .i64 g]) w := by kernel_rfl
theorem methodR (e : Int) (w : World) (k : Nat) : (method (k + 1) 120 (.agg #[.int .i64 e]) "loop.example/g00491/impl.of").run Try.prog w = .ok (132, .agg #[.int .i64 e]) w := by kernel_rfl
theorem infoAgT : (Try.prog.info? 25).map (·.size) = some 7 := by kernel_rfl
theorem infoFrT : (Try.prog.info? 56).map (·.size) = some 16 := by kernel_rfl
set_option maxRecDepth 200000 in
set_option maxHeartbeats 2000000 in
theorem turnedAck1 (i ep gr nx e g : Int) (lv : Bool) (a1 a2 : Option Addr) (n1 c1 n2 c2 : Nat) (w : World) (h : ep < e) :
    Calls Try.prog 74 #[.agg #[.int .i64 i, .int .i64 ep, .bool lv, .int .i64 gr, .slice a1 n1 c1, .slice a2 n2 c2, .int .i64 nx], .iface 118 (.agg #[.int .i64 e, .int .i64 g])] w fun r w' => r = .returned (.agg #[.int .i64 i, .int .i64 e, .bool true, .int .i64 (max 0 g), .slice a1 n1 c1, .slice a2 n2 c2, .int .i64 nx]) ∧ Below w.heap.size w w' := by
  have z : decide (ep < e) = true := dec_true h
  have HB : Hid (Blk (((w.alloc (.cells #[.int .i64 i, .int .i64 ep, .bool lv, .int .i64 0, .slice a1 n1 c1, .slice a2 n2 c2, .int .i64 nx] 25)).alloc (.cells #[.int .i64 0, .int .i64 0, .bool false, .int .i64 0, .slice none 0 0, .slice none 0 0, .int .i64 0] 25)).alloc (.cells #[.int .i64 e, .int .i64 g] 118)) w.heap.size #[.int .i64 i, .int .i64 ep, .bool lv, .int .i64 0, .slice a1 n1 c1, .slice a2 n2 c2, .int .i64 nx] 25 ∧ Blk (((w.alloc (.cells #[.int .i64 i, .int .i64 ep, .bool lv, .int .i64 0, .slice a1 n1 c1, .slice a2 n2 c2, .int .i64 nx] 25)).alloc (.cells #[.int .i64 0, .int .i64 0, .bool false, .int .i64 0, .slice none 0 0, .slice none 0 0, .int .i64 0] 25)).alloc (.cells #[.int .i64 e, .int .i64 g] 118)) (w.heap.size + 1) #[.int .i64 0, .int .i64 0, .bool false, .int .i64 0, .slice none 0 0, .slice none 0 0, .int .i64 0] 25 ∧ Blk (((w.alloc (.cells #[.int .i64 i, .int .i64 ep, .bool lv, .int .i64 0, .slice a1 n1 c1, .slice a2 n2 c2, .int .i64 nx] 25)).alloc (.cells #[.int .i64 0, .int .i64 0, .bool false, .int .i64 0, .slice none 0 0, .slice none 0 0, .int .i64 0] 25)).alloc (.cells #[.int .i64 e, .int .i64 g] 118)) (w.heap.size + 1 + 1) #[.int .i64 e, .int .i64 g] 118 ∧ Below w.heap.size w (((w.alloc (.cells #[.int .i64 i, .int .i64 ep, .bool lv, .int .i64 0, .slice a1 n1 c1, .slice a2 n2 c2, .int .i64 nx] 25)).alloc (.cells #[.int .i64 0, .int .i64 0, .bool false, .int .i64 0, .slice none 0 0, .slice none 0 0, .int .i64 0] 25)).alloc (.cells #[.int .i64 e, .int .i64 g] 118))) :=
    ⟨((Blk.made _ _ _).alloc _).alloc _, (Blk.made_eq (by simp)).alloc _, Blk.made_eq (by simp), Below.allocW _ (Below.allocW _ (Below.allocW _ (Below.refl _ _) (Nat.le_refl _)) (Nat.le_refl _)) (Nat.le_refl _)⟩
  have hA := assertAA e g
  have hM := methodA e g
  clear h
  go_enter Try.func74, Try.ntmps74
  go_wp2_with fail
  obtain ⟨W0, hW0⟩ : ∃ W, W = ((w.alloc (.cells #[.int .i64 i, .int .i64 ep, .bool lv, .int .i64 0, .slice a1 n1 c1, .slice a2 n2 c2, .int .i64 nx] 25)).alloc (.cells #[.int .i64 0, .int .i64 0, .bool false, .int .i64 0, .slice none 0 0, .slice none 0 0, .int .i64 0] 25)).alloc (.cells #[.int .i64 e, .int .i64 g] 118) := ⟨_, rfl⟩
  rw [← hW0] at HB ⊢
  clear hW0 z
  have HD : Hid (Blk W0.drew w.heap.size #[.int .i64 i, .int .i64 ep, .bool lv, .int .i64 0, .slice a1 n1 c1, .slice a2 n2 c2, .int .i64 nx] 25 ∧ Blk W0.drew (w.heap.size + 1) #[.int .i64 0, .int .i64 0, .bool false, .int .i64 0, .slice none 0 0, .slice none 0 0, .int .i64 0] 25 ∧ Blk W0.drew (w.heap.size + 1 + 1) #[.int .i64 e, .int .i64 g] 118 ∧ Below w.heap.size w W0.drew) := by
    have bd := (Below.refl W0.heap.size W0).drew
    exact ⟨HB.out.1.below bd, HB.out.2.1.below bd, HB.out.2.2.1.below bd, Below.next HB.out.2.2.2 bd⟩
  obtain ⟨Y0, hY0⟩ : ∃ Y, Y = W0.drew := ⟨_, rfl⟩
  rw [← hY0] at HD
  clear HB
  refine wp_region_held (S := fun W => Blk W (w.heap.size + 1 + 1) #[.int .i64 e, .int .i64 g] 118) (by kernel_rfl) ?_
  change wpAnyH _ _ _ _ _ _ _ _ (World.drew _)
  rw [← hY0]
  clear hY0
  refine takeH (o := ?o1) 0 (.pointer (some ⟨w.heap.size, 3, none⟩)) ?h1 ?r1
  case h1 => simp only [aT, aZ]; rfl
  refine ⟨_, by simp [Act.put]; rfl, by kernel_rfl, by kernel_rfl, by kernel_rfl, fun _ _ _ h => h, (.inl ⟨rfl, fun W _ => by kernel_rfl⟩), HD.out.2.2.1, ?_⟩
  refine takeH (o := ?o2) 2 (.pointer (some ⟨w.heap.size + 1 + 1, 1, none⟩)) ?h2 ?r2
  case h2 => simp only [aT, aS, aZ]; rfl
  refine ⟨_, by simp [Act.put]; rfl, by kernel_rfl, by kernel_rfl, by kernel_rfl, fun _ _ _ h => h, (.inl ⟨rfl, fun W _ => by kernel_rfl⟩), HD.out.2.2.1, ?_⟩
  refine takeH (o := ?o3) 3 (.int .i64 g) ?h3 ?r3
  case h3 => simp only [aT, aS, aZ]; rfl
  refine ⟨_, by simp [Act.put]; rfl, by kernel_rfl, by kernel_rfl, by kernel_rfl, fun _ _ _ h => h, (.inl ⟨rfl, fun W hW => by have c := hW.cell 1; simp only [aT, aS, aZ] at c; go_simp⟩), HD.out.2.2.1, ?_⟩
  refine onlyH (o := ?o4) 1 (by kernel_rfl) ?h4 ?r4
  case h4 => simp only [aT, aS, aZ]; rfl
  intro K hK
  have co := HD.out.1.cell 3
  simp only [aT, aS, aZ] at co
  refine op_value (.int .i64 0) rfl (by go_simp) ⟨_, by simp [Act.put]; rfl, hK _ _ ⟨HD.out.2.2.1, ?_⟩⟩
  clear hK co
  refine takeH (o := ?o5) 4 (.int .i64 (max 0 g)) ?h5 ?r5
  case h5 => simp only [aT, aS, aZ]; rfl
  refine ⟨_, by simp [Act.put]; rfl, by kernel_rfl, by kernel_rfl, by kernel_rfl, fun _ _ _ h => h, (.inl ⟨rfl, fun W _ => by go_simp; first | done | (rw [Int.max_def]; split <;> split <;> first | rfl | omega) | (simp [Int.max_def]; omega)⟩), HD.out.2.2.1, ?_⟩
  refine takeH (o := ?o6) 5 (.pointer (some ⟨w.heap.size, 2, none⟩)) ?h6 ?r6
  case h6 => simp only [aT, aS, aZ]; rfl
  refine ⟨_, by simp [Act.put]; rfl, by kernel_rfl, by kernel_rfl, by kernel_rfl, fun _ _ _ h => h, (.inl ⟨rfl, fun W _ => by kernel_rfl⟩), HD.out.2.2.1, ?_⟩
  refine onlyH (o := ?o7) 6 (by kernel_rfl) ?h7 ?r7
  case h7 => simp only [aT, aS, aZ]; rfl
  intro K hK
  have co := HD.out.1.cell 2
  have fo := HD.out.1.frozen 2
  simp only [aT, aS, aZ] at co
  have H2 : Hid (Blk (Y0.setCell ⟨w.heap.size, 2, none⟩ (.bool true)) w.heap.size #[.int .i64 i, .int .i64 ep, .bool true, .int .i64 0, .slice a1 n1 c1, .slice a2 n2 c2, .int .i64 nx] 25 ∧ Blk (Y0.setCell ⟨w.heap.size, 2, none⟩ (.bool true)) (w.heap.size + 1) #[.int .i64 0, .int .i64 0, .bool false, .int .i64 0, .slice none 0 0, .slice none 0 0, .int .i64 0] 25 ∧ Blk (Y0.setCell ⟨w.heap.size, 2, none⟩ (.bool true)) (w.heap.size + 1 + 1) #[.int .i64 e, .int .i64 g] 118 ∧ Below w.heap.size w (Y0.setCell ⟨w.heap.size, 2, none⟩ (.bool true))) :=
    ⟨HD.out.1.set 2 _, HD.out.2.1.setOther (by omega) 2 _, HD.out.2.2.1.setOther (by omega) 2 _, HD.out.2.2.2.setCell (by show w.heap.size ≤ w.heap.size; omega) _⟩
  refine op_skip (Y0.setCell ⟨w.heap.size, 2, none⟩ (.bool true)) rfl (by go_simp) ⟨_, by simp [Act.put]; rfl, hK _ _ ⟨H2.out.2.2.1, ?_⟩⟩
  clear hK co fo HD
  obtain ⟨Y1, hY1⟩ : ∃ Y, Y = Y0.setCell ⟨w.heap.size, 2, none⟩ (.bool true) := ⟨_, rfl⟩
  rw [← hY1] at H2 ⊢
  clear hY1
  refine takeH (o := ?o8) 7 (.pointer (some ⟨w.heap.size, 3, none⟩)) ?h8 ?r8
  case h8 => simp only [aT, aS, aZ]; rfl
  refine ⟨_, by simp [Act.put]; rfl, by kernel_rfl, by kernel_rfl, by kernel_rfl, fun _ _ _ h => h, (.inl ⟨rfl, fun W _ => by kernel_rfl⟩), H2.out.2.2.1, ?_⟩
  refine onlyH (o := ?o9) 8 (by kernel_rfl) ?h9 ?r9
  case h9 => simp only [aT, aS, aZ]; rfl
  intro K hK
  have co := H2.out.1.cell 3
  have fo := H2.out.1.frozen 3
  simp only [aT, aS, aZ] at co
  have H3 : Hid (Blk (Y1.setCell ⟨w.heap.size, 3, none⟩ (.int .i64 (max 0 g))) w.heap.size #[.int .i64 i, .int .i64 ep, .bool true, .int .i64 (max 0 g), .slice a1 n1 c1, .slice a2 n2 c2, .int .i64 nx] 25 ∧ Blk (Y1.setCell ⟨w.heap.size, 3, none⟩ (.int .i64 (max 0 g))) (w.heap.size + 1) #[.int .i64 0, .int .i64 0, .bool false, .int .i64 0, .slice none 0 0, .slice none 0 0, .int .i64 0] 25 ∧ Blk (Y1.setCell ⟨w.heap.size, 3, none⟩ (.int .i64 (max 0 g))) (w.heap.size + 1 + 1) #[.int .i64 e, .int .i64 g] 118 ∧ Below w.heap.size w (Y1.setCell ⟨w.heap.size, 3, none⟩ (.int .i64 (max 0 g)))) :=
    ⟨H2.out.1.set 3 _, H2.out.2.1.setOther (by omega) 3 _, H2.out.2.2.1.setOther (by omega) 3 _, H2.out.2.2.2.setCell (by show w.heap.size ≤ w.heap.size; omega) _⟩
  refine op_skip (Y1.setCell ⟨w.heap.size, 3, none⟩ (.int .i64 (max 0 g))) rfl (by go_simp) ⟨_, by simp [Act.put]; rfl, hK _ _ ⟨H3.out.2.2.1, ?_⟩⟩
  clear hK co fo H2
  refine wpAnyH_done (by kernel_rfl) ?_ _
  obtain ⟨Y2, hY2⟩ : ∃ Y, Y = Y1.setCell ⟨w.heap.size, 3, none⟩ (.int .i64 (max 0 g)) := ⟨_, rfl⟩
  rw [← hY2] at H3 ⊢
  clear hY2
  have H4 : Hid (Blk Y2 w.heap.size #[.int .i64 i, .int .i64 ep, .bool true, .int .i64 (max 0 g), .slice a1 n1 c1, .slice a2 n2 c2, .int .i64 nx] 25 ∧ Blk Y2 (w.heap.size + 1) #[.int .i64 0, .int .i64 0, .bool false, .int .i64 0, .slice none 0 0, .slice none 0 0, .int .i64 0] 25 ∧ Below w.heap.size w Y2) := ⟨H3.out.1, H3.out.2.1, H3.out.2.2.2⟩
  clear H3
  go_wp2_with fail
  refine (ackOf_any e g _).mono ?_
  rintro r w5 ⟨rfl, hb5⟩
  have H5 : Hid (Blk w5 w.heap.size #[.int .i64 i, .int .i64 ep, .bool true, .int .i64 (max 0 g), .slice a1 n1 c1, .slice a2 n2 c2, .int .i64 nx] 25 ∧ Blk w5 (w.heap.size + 1) #[.int .i64 0, .int .i64 0, .bool false, .int .i64 0, .slice none 0 0, .slice none 0 0, .int .i64 0] 25 ∧ Below w.heap.size w w5) := ⟨H4.out.1.below hb5, H4.out.2.1.below hb5, Below.next H4.out.2.2 hb5⟩
  have c1' := H5.out.1.cell 1
  have f1' := H5.out.1.frozen 1
  simp only [aT, aS, aZ] at c1'
  clear hb5
  go_wp2_with (first | go_skip | (with_reducible refine stopLoad 25 rfl ?_))
  obtain ⟨w6, hw6⟩ : ∃ W, W = w5.setCell ⟨w.heap.size, 1, none⟩ (.int .i64 e) := ⟨_, rfl⟩
  have H6 : Hid (Blk w6 w.heap.size #[.int .i64 i, .int .i64 e, .bool true, .int .i64 (max 0 g), .slice a1 n1 c1, .slice a2 n2 c2, .int .i64 nx] 25 ∧ Blk w6 (w.heap.size + 1) #[.int .i64 0, .int .i64 0, .bool false, .int .i64 0, .slice none 0 0, .slice none 0 0, .int .i64 0] 25 ∧ Below w.heap.size w w6) := by
    rw [hw6]
    exact ⟨H5.out.1.set 1 _, H5.out.2.1.setOther (by omega) 1 _, H5.out.2.2.setCell (by show w.heap.size ≤ w.heap.size; omega) _⟩
  rw [← hw6]
  clear hw6 H5 c1' f1'
  refine load_known 25 w.heap.size _ 25 _ H6.out.1 rfl rfl rfl Try.underlying25 rfl infoAgT ?_
  go_wp2_with (first | go_skip | (with_reducible refine stopStore 25 rfl ?_))
  refine store_known 25 (w.heap.size + 1) _ #[.int .i64 i, .int .i64 e, .bool true, .int .i64 (max 0 g), .slice a1 n1 c1, .slice a2 n2 c2, .int .i64 nx] 25 H6.out.2.1 rfl rfl rfl rfl infoAgT rfl (by simp [Value.oneCell']) ?_
  go_wp2
  refine bodyPost_ret (results_cell_row Try.results74 _ _ (w.heap.size + 1) _ _ (0, 0) _ rfl H6.out.2.1.setRow Try.underlying25 rfl infoAgT) rfl ?_
  exact ⟨rfl, below_setRow H6.out.2.2 (by omega) _⟩
set_option maxRecDepth 200000 in
set_option maxHeartbeats 2000000 in
theorem turnedAck2 (i ep gr nx e g : Int) (lv : Bool) (a1 a2 : Option Addr) (n1 c1 n2 c2 : Nat) (w : World) (h : ¬ ep < e) :
    Calls Try.prog 74 #[.agg #[.int .i64 i, .int .i64 ep, .bool lv, .int .i64 gr, .slice a1 n1 c1, .slice a2 n2 c2, .int .i64 nx], .iface 118 (.agg #[.int .i64 e, .int .i64 g])] w fun r w' => r = .returned (.agg #[.int .i64 i, .int .i64 e, .bool true, .int .i64 (max gr g), .slice a1 n1 c1, .slice a2 n2 c2, .int .i64 nx]) ∧ Below w.heap.size w w' := by
  have z : decide (ep < e) = false := dec_false h
  have HB : Hid (Blk (((w.alloc (.cells #[.int .i64 i, .int .i64 ep, .bool lv, .int .i64 gr, .slice a1 n1 c1, .slice a2 n2 c2, .int .i64 nx] 25)).alloc (.cells #[.int .i64 0, .int .i64 0, .bool false, .int .i64 0, .slice none 0 0, .slice none 0 0, .int .i64 0] 25)).alloc (.cells #[.int .i64 e, .int .i64 g] 118)) w.heap.size #[.int .i64 i, .int .i64 ep, .bool lv, .int .i64 gr, .slice a1 n1 c1, .slice a2 n2 c2, .int .i64 nx] 25 ∧ Blk (((w.alloc (.cells #[.int .i64 i, .int .i64 ep, .bool lv, .int .i64 gr, .slice a1 n1 c1, .slice a2 n2 c2, .int .i64 nx] 25)).alloc (.cells #[.int .i64 0, .int .i64 0, .bool false, .int .i64 0, .slice none 0 0, .slice none 0 0, .int .i64 0] 25)).alloc (.cells #[.int .i64 e, .int .i64 g] 118)) (w.heap.size + 1) #[.int .i64 0, .int .i64 0, .bool false, .int .i64 0, .slice none 0 0, .slice none 0 0, .int .i64 0] 25 ∧ Blk (((w.alloc (.cells #[.int .i64 i, .int .i64 ep, .bool lv, .int .i64 gr, .slice a1 n1 c1, .slice a2 n2 c2, .int .i64 nx] 25)).alloc (.cells #[.int .i64 0, .int .i64 0, .bool false, .int .i64 0, .slice none 0 0, .slice none 0 0, .int .i64 0] 25)).alloc (.cells #[.int .i64 e, .int .i64 g] 118)) (w.heap.size + 1 + 1) #[.int .i64 e, .int .i64 g] 118 ∧ Below w.heap.size w (((w.alloc (.cells #[.int .i64 i, .int .i64 ep, .bool lv, .int .i64 gr, .slice a1 n1 c1, .slice a2 n2 c2, .int .i64 nx] 25)).alloc (.cells #[.int .i64 0, .int .i64 0, .bool false, .int .i64 0, .slice none 0 0, .slice none 0 0, .int .i64 0] 25)).alloc (.cells #[.int .i64 e, .int .i64 g] 118))) :=
    ⟨((Blk.made _ _ _).alloc _).alloc _, (Blk.made_eq (by simp)).alloc _, Blk.made_eq (by simp), Below.allocW _ (Below.allocW _ (Below.allocW _ (Below.refl _ _) (Nat.le_refl _)) (Nat.le_refl _)) (Nat.le_refl _)⟩
  have hA := assertAA e g
  have hM := methodA e g
  clear h
  go_enter Try.func74, Try.ntmps74
  go_wp2_with fail
  obtain ⟨W0, hW0⟩ : ∃ W, W = ((w.alloc (.cells #[.int .i64 i, .int .i64 ep, .bool lv, .int .i64 gr, .slice a1 n1 c1, .slice a2 n2 c2, .int .i64 nx] 25)).alloc (.cells #[.int .i64 0, .int .i64 0, .bool false, .int .i64 0, .slice none 0 0, .slice none 0 0, .int .i64 0] 25)).alloc (.cells #[.int .i64 e, .int .i64 g] 118) := ⟨_, rfl⟩
  rw [← hW0] at HB ⊢
  clear hW0 z
  have HD : Hid (Blk W0.drew w.heap.size #[.int .i64 i, .int .i64 ep, .bool lv, .int .i64 gr, .slice a1 n1 c1, .slice a2 n2 c2, .int .i64 nx] 25 ∧ Blk W0.drew (w.heap.size + 1) #[.int .i64 0, .int .i64 0, .bool false, .int .i64 0, .slice none 0 0, .slice none 0 0, .int .i64 0] 25 ∧ Blk W0.drew (w.heap.size + 1 + 1) #[.int .i64 e, .int .i64 g] 118 ∧ Below w.heap.size w W0.drew) := by
    have bd := (Below.refl W0.heap.size W0).drew
    exact ⟨HB.out.1.below bd, HB.out.2.1.below bd, HB.out.2.2.1.below bd, Below.next HB.out.2.2.2 bd⟩
  obtain ⟨Y0, hY0⟩ : ∃ Y, Y = W0.drew := ⟨_, rfl⟩
  rw [← hY0] at HD
  clear HB
  refine wp_region_held (S := fun W => Blk W (w.heap.size + 1 + 1) #[.int .i64 e, .int .i64 g] 118) (by kernel_rfl) ?_
  change wpAnyH _ _ _ _ _ _ _ _ (World.drew _)
  rw [← hY0]
  clear hY0
  refine takeH (o := ?o10) 0 (.pointer (some ⟨w.heap.size, 3, none⟩)) ?h10 ?r10
  case h10 => simp only [aT, aZ]; rfl
  refine ⟨_, by simp [Act.put]; rfl, by kernel_rfl, by kernel_rfl, by kernel_rfl, fun _ _ _ h => h, (.inl ⟨rfl, fun W _ => by kernel_rfl⟩), HD.out.2.2.1, ?_⟩
  refine takeH (o := ?o11) 2 (.pointer (some ⟨w.heap.size + 1 + 1, 1, none⟩)) ?h11 ?r11
  case h11 => simp only [aT, aS, aZ]; rfl
  refine ⟨_, by simp [Act.put]; rfl, by kernel_rfl, by kernel_rfl, by kernel_rfl, fun _ _ _ h => h, (.inl ⟨rfl, fun W _ => by kernel_rfl⟩), HD.out.2.2.1, ?_⟩
  refine takeH (o := ?o12) 3 (.int .i64 g) ?h12 ?r12
  case h12 => simp only [aT, aS, aZ]; rfl
  refine ⟨_, by simp [Act.put]; rfl, by kernel_rfl, by kernel_rfl, by kernel_rfl, fun _ _ _ h => h, (.inl ⟨rfl, fun W hW => by have c := hW.cell 1; simp only [aT, aS, aZ] at c; go_simp⟩), HD.out.2.2.1, ?_⟩
  refine onlyH (o := ?o13) 1 (by kernel_rfl) ?h13 ?r13
  case h13 => simp only [aT, aS, aZ]; rfl
  intro K hK
  have co := HD.out.1.cell 3
  simp only [aT, aS, aZ] at co
  refine op_value (.int .i64 gr) rfl (by go_simp) ⟨_, by simp [Act.put]; rfl, hK _ _ ⟨HD.out.2.2.1, ?_⟩⟩
  clear hK co
  refine takeH (o := ?o14) 4 (.int .i64 (max gr g)) ?h14 ?r14
  case h14 => simp only [aT, aS, aZ]; rfl
  refine ⟨_, by simp [Act.put]; rfl, by kernel_rfl, by kernel_rfl, by kernel_rfl, fun _ _ _ h => h, (.inl ⟨rfl, fun W _ => by go_simp; first | done | (rw [Int.max_def]; split <;> split <;> first | rfl | omega) | (simp [Int.max_def]; omega)⟩), HD.out.2.2.1, ?_⟩
  refine takeH (o := ?o15) 5 (.pointer (some ⟨w.heap.size, 2, none⟩)) ?h15 ?r15
  case h15 => simp only [aT, aS, aZ]; rfl
  refine ⟨_, by simp [Act.put]; rfl, by kernel_rfl, by kernel_rfl, by kernel_rfl, fun _ _ _ h => h, (.inl ⟨rfl, fun W _ => by kernel_rfl⟩), HD.out.2.2.1, ?_⟩
  refine onlyH (o := ?o16) 6 (by kernel_rfl) ?h16 ?r16
  case h16 => simp only [aT, aS, aZ]; rfl
  intro K hK
  have co := HD.out.1.cell 2
  have fo := HD.out.1.frozen 2
  simp only [aT, aS, aZ] at co
  have H2 : Hid (Blk (Y0.setCell ⟨w.heap.size, 2, none⟩ (.bool true)) w.heap.size #[.int .i64 i, .int .i64 ep, .bool true, .int .i64 gr, .slice a1 n1 c1, .slice a2 n2 c2, .int .i64 nx] 25 ∧ Blk (Y0.setCell ⟨w.heap.size, 2, none⟩ (.bool true)) (w.heap.size + 1) #[.int .i64 0, .int .i64 0, .bool false, .int .i64 0, .slice none 0 0, .slice none 0 0, .int .i64 0] 25 ∧ Blk (Y0.setCell ⟨w.heap.size, 2, none⟩ (.bool true)) (w.heap.size + 1 + 1) #[.int .i64 e, .int .i64 g] 118 ∧ Below w.heap.size w (Y0.setCell ⟨w.heap.size, 2, none⟩ (.bool true))) :=
    ⟨HD.out.1.set 2 _, HD.out.2.1.setOther (by omega) 2 _, HD.out.2.2.1.setOther (by omega) 2 _, HD.out.2.2.2.setCell (by show w.heap.size ≤ w.heap.size; omega) _⟩
  refine op_skip (Y0.setCell ⟨w.heap.size, 2, none⟩ (.bool true)) rfl (by go_simp) ⟨_, by simp [Act.put]; rfl, hK _ _ ⟨H2.out.2.2.1, ?_⟩⟩
  clear hK co fo HD
  obtain ⟨Y1, hY1⟩ : ∃ Y, Y = Y0.setCell ⟨w.heap.size, 2, none⟩ (.bool true) := ⟨_, rfl⟩
  rw [← hY1] at H2 ⊢
  clear hY1
  refine takeH (o := ?o17) 7 (.pointer (some ⟨w.heap.size, 3, none⟩)) ?h17 ?r17
  case h17 => simp only [aT, aS, aZ]; rfl
  refine ⟨_, by simp [Act.put]; rfl, by kernel_rfl, by kernel_rfl, by kernel_rfl, fun _ _ _ h => h, (.inl ⟨rfl, fun W _ => by kernel_rfl⟩), H2.out.2.2.1, ?_⟩
  refine onlyH (o := ?o18) 8 (by kernel_rfl) ?h18 ?r18
  case h18 => simp only [aT, aS, aZ]; rfl
  intro K hK
  have co := H2.out.1.cell 3
  have fo := H2.out.1.frozen 3
  simp only [aT, aS, aZ] at co
  have H3 : Hid (Blk (Y1.setCell ⟨w.heap.size, 3, none⟩ (.int .i64 (max gr g))) w.heap.size #[.int .i64 i, .int .i64 ep, .bool true, .int .i64 (max gr g), .slice a1 n1 c1, .slice a2 n2 c2, .int .i64 nx] 25 ∧ Blk (Y1.setCell ⟨w.heap.size, 3, none⟩ (.int .i64 (max gr g))) (w.heap.size + 1) #[.int .i64 0, .int .i64 0, .bool false, .int .i64 0, .slice none 0 0, .slice none 0 0, .int .i64 0] 25 ∧ Blk (Y1.setCell ⟨w.heap.size, 3, none⟩ (.int .i64 (max gr g))) (w.heap.size + 1 + 1) #[.int .i64 e, .int .i64 g] 118 ∧ Below w.heap.size w (Y1.setCell ⟨w.heap.size, 3, none⟩ (.int .i64 (max gr g)))) :=
    ⟨H2.out.1.set 3 _, H2.out.2.1.setOther (by omega) 3 _, H2.out.2.2.1.setOther (by omega) 3 _, H2.out.2.2.2.setCell (by show w.heap.size ≤ w.heap.size; omega) _⟩
  refine op_skip (Y1.setCell ⟨w.heap.size, 3, none⟩ (.int .i64 (max gr g))) rfl (by go_simp) ⟨_, by simp [Act.put]; rfl, hK _ _ ⟨H3.out.2.2.1, ?_⟩⟩
  clear hK co fo H2
  refine wpAnyH_done (by kernel_rfl) ?_ _
  obtain ⟨Y2, hY2⟩ : ∃ Y, Y = Y1.setCell ⟨w.heap.size, 3, none⟩ (.int .i64 (max gr g)) := ⟨_, rfl⟩
  rw [← hY2] at H3 ⊢
  clear hY2
  have H4 : Hid (Blk Y2 w.heap.size #[.int .i64 i, .int .i64 ep, .bool true, .int .i64 (max gr g), .slice a1 n1 c1, .slice a2 n2 c2, .int .i64 nx] 25 ∧ Blk Y2 (w.heap.size + 1) #[.int .i64 0, .int .i64 0, .bool false, .int .i64 0, .slice none 0 0, .slice none 0 0, .int .i64 0] 25 ∧ Below w.heap.size w Y2) := ⟨H3.out.1, H3.out.2.1, H3.out.2.2.2⟩
  clear H3
  go_wp2_with fail
  refine (ackOf_any e g _).mono ?_
  rintro r w5 ⟨rfl, hb5⟩
  have H5 : Hid (Blk w5 w.heap.size #[.int .i64 i, .int .i64 ep, .bool true, .int .i64 (max gr g), .slice a1 n1 c1, .slice a2 n2 c2, .int .i64 nx] 25 ∧ Blk w5 (w.heap.size + 1) #[.int .i64 0, .int .i64 0, .bool false, .int .i64 0, .slice none 0 0, .slice none 0 0, .int .i64 0] 25 ∧ Below w.heap.size w w5) := ⟨H4.out.1.below hb5, H4.out.2.1.below hb5, Below.next H4.out.2.2 hb5⟩
  have c1' := H5.out.1.cell 1
  have f1' := H5.out.1.frozen 1
  simp only [aT, aS, aZ] at c1'
  clear hb5
  go_wp2_with (first | go_skip | (with_reducible refine stopLoad 25 rfl ?_))
  obtain ⟨w6, hw6⟩ : ∃ W, W = w5.setCell ⟨w.heap.size, 1, none⟩ (.int .i64 e) := ⟨_, rfl⟩
  have H6 : Hid (Blk w6 w.heap.size #[.int .i64 i, .int .i64 e, .bool true, .int .i64 (max gr g), .slice a1 n1 c1, .slice a2 n2 c2, .int .i64 nx] 25 ∧ Blk w6 (w.heap.size + 1) #[.int .i64 0, .int .i64 0, .bool false, .int .i64 0, .slice none 0 0, .slice none 0 0, .int .i64 0] 25 ∧ Below w.heap.size w w6) := by
    rw [hw6]
    exact ⟨H5.out.1.set 1 _, H5.out.2.1.setOther (by omega) 1 _, H5.out.2.2.setCell (by show w.heap.size ≤ w.heap.size; omega) _⟩
  rw [← hw6]
  clear hw6 H5 c1' f1'
  refine load_known 25 w.heap.size _ 25 _ H6.out.1 rfl rfl rfl Try.underlying25 rfl infoAgT ?_
  go_wp2_with (first | go_skip | (with_reducible refine stopStore 25 rfl ?_))
  refine store_known 25 (w.heap.size + 1) _ #[.int .i64 i, .int .i64 e, .bool true, .int .i64 (max gr g), .slice a1 n1 c1, .slice a2 n2 c2, .int .i64 nx] 25 H6.out.2.1 rfl rfl rfl rfl infoAgT rfl (by simp [Value.oneCell']) ?_
  go_wp2
  refine bodyPost_ret (results_cell_row Try.results74 _ _ (w.heap.size + 1) _ _ (0, 0) _ rfl H6.out.2.1.setRow Try.underlying25 rfl infoAgT) rfl ?_
  exact ⟨rfl, below_setRow H6.out.2.2 (by omega) _⟩
set_option maxRecDepth 200000 in
set_option maxHeartbeats 2000000 in
theorem turnedReset (i ep gr nx e : Int) (lv : Bool) (a1 a2 : Option Addr) (n1 c1 n2 c2 : Nat) (w : World) :
    Calls Try.prog 74 #[.agg #[.int .i64 i, .int .i64 ep, .bool lv, .int .i64 gr, .slice a1 n1 c1, .slice a2 n2 c2, .int .i64 nx], .iface 120 (.agg #[.int .i64 e])] w fun r w' => r = .returned (.agg #[.int .i64 i, .int .i64 e, .bool false, .int .i64 0, .slice a1 n1 c1, .slice a2 n2 c2, .int .i64 nx]) ∧ Below w.heap.size w w' := by
  have HB : Hid (Blk (((w.alloc (.cells #[.int .i64 i, .int .i64 ep, .bool false, .int .i64 0, .slice a1 n1 c1, .slice a2 n2 c2, .int .i64 nx] 25)).alloc (.cells #[.int .i64 0, .int .i64 0, .bool false, .int .i64 0, .slice none 0 0, .slice none 0 0, .int .i64 0] 25)).alloc (.cells #[.int .i64 e] 120)) w.heap.size #[.int .i64 i, .int .i64 ep, .bool false, .int .i64 0, .slice a1 n1 c1, .slice a2 n2 c2, .int .i64 nx] 25 ∧ Blk (((w.alloc (.cells #[.int .i64 i, .int .i64 ep, .bool false, .int .i64 0, .slice a1 n1 c1, .slice a2 n2 c2, .int .i64 nx] 25)).alloc (.cells #[.int .i64 0, .int .i64 0, .bool false, .int .i64 0, .slice none 0 0, .slice none 0 0, .int .i64 0] 25)).alloc (.cells #[.int .i64 e] 120)) (w.heap.size + 1) #[.int .i64 0, .int .i64 0, .bool false, .int .i64 0, .slice none 0 0, .slice none 0 0, .int .i64 0] 25 ∧ Below w.heap.size w (((w.alloc (.cells #[.int .i64 i, .int .i64 ep, .bool false, .int .i64 0, .slice a1 n1 c1, .slice a2 n2 c2, .int .i64 nx] 25)).alloc (.cells #[.int .i64 0, .int .i64 0, .bool false, .int .i64 0, .slice none 0 0, .slice none 0 0, .int .i64 0] 25)).alloc (.cells #[.int .i64 e] 120))) :=
    ⟨((Blk.made _ _ _).alloc _).alloc _, (Blk.made_eq (by simp)).alloc _, Below.allocW _ (Below.allocW _ (Below.allocW _ (Below.refl _ _) (Nat.le_refl _)) (Nat.le_refl _)) (Nat.le_refl _)⟩
  have hA := assertRA e
  have hB := assertRR e
  have hM := methodR e
  go_enter Try.func74, Try.ntmps74
  go_wp2_with fail
  refine (resetOf_any e _).mono ?_
  rintro r w5 ⟨rfl, hb5⟩
  have H5 : Hid (Blk w5 w.heap.size #[.int .i64 i, .int .i64 ep, .bool false, .int .i64 0, .slice a1 n1 c1, .slice a2 n2 c2, .int .i64 nx] 25 ∧ Blk w5 (w.heap.size + 1) #[.int .i64 0, .int .i64 0, .bool false, .int .i64 0, .slice none 0 0, .slice none 0 0, .int .i64 0] 25 ∧ Below w.heap.size w w5) := ⟨HB.out.1.below hb5, HB.out.2.1.below hb5, Below.next HB.out.2.2 hb5⟩
  have c1' := H5.out.1.cell 1
  have f1' := H5.out.1.frozen 1
  simp only [aT, aS, aZ] at c1'
  clear hb5
  go_wp2_with (first | go_skip | (with_reducible refine stopLoad 25 rfl ?_))
  obtain ⟨w6, hw6⟩ : ∃ W, W = w5.setCell ⟨w.heap.size, 1, none⟩ (.int .i64 e) := ⟨_, rfl⟩
  have H6 : Hid (Blk w6 w.heap.size #[.int .i64 i, .int .i64 e, .bool false, .int .i64 0, .slice a1 n1 c1, .slice a2 n2 c2, .int .i64 nx] 25 ∧ Blk w6 (w.heap.size + 1) #[.int .i64 0, .int .i64 0, .bool false, .int .i64 0, .slice none 0 0, .slice none 0 0, .int .i64 0] 25 ∧ Below w.heap.size w w6) := by
    rw [hw6]
    exact ⟨H5.out.1.set 1 _, H5.out.2.1.setOther (by omega) 1 _, H5.out.2.2.setCell (by show w.heap.size ≤ w.heap.size; omega) _⟩
  rw [← hw6]
  clear hw6 H5 c1' f1'
  refine load_known 25 w.heap.size _ 25 _ H6.out.1 rfl rfl rfl Try.underlying25 rfl infoAgT ?_
  go_wp2_with (first | go_skip | (with_reducible refine stopStore 25 rfl ?_))
  refine store_known 25 (w.heap.size + 1) _ #[.int .i64 i, .int .i64 e, .bool false, .int .i64 0, .slice a1 n1 c1, .slice a2 n2 c2, .int .i64 nx] 25 H6.out.2.1 rfl rfl rfl rfl infoAgT rfl (by simp [Value.oneCell']) ?_
  go_wp2
  refine bodyPost_ret (results_cell_row Try.results74 _ _ (w.heap.size + 1) _ _ (0, 0) _ rfl H6.out.2.1.setRow Try.underlying25 rfl infoAgT) rfl ?_
  exact ⟨rfl, below_setRow H6.out.2.2 (by omega) _⟩
/-- What a frame tells an agent that it is for. -/
def newsVal (f : Fr) : Value := if f.kind = 2 then .iface 118 (.agg #[.int .i64 f.epoch, .int .i64 f.granted]) else .iface 120 (.agg #[.int .i64 f.epoch])
theorem hears_kind {x : Ag} {f : Fr} (h : x.hears f = true) : (f.kind = 2 ∨ f.kind = 3) ∧ f.ok = true ∧ x.ok = true ∧ f.taken.ok = true := by
  unfold Ag.hears at h
  simp only [Bool.and_eq_true, decide_eq_true_eq] at h
  obtain ⟨⟨⟨⟨h1, h2⟩, h3⟩, h4⟩, h5, h6⟩ := h
  have h2' := h2
  unfold Fr.ok at h2
  simp only [Bool.and_eq_true, decide_eq_true_eq] at h2
  obtain ⟨⟨⟨⟨⟨⟨g1, _⟩, _⟩, _⟩, _⟩, _⟩, _⟩ := h2
  exact ⟨by omega, h2', h1, h5⟩
def NewsR (w : World) (b : Bool) (nv : Value) (e : Ending) (w' : World) : Prop := e = .returned (.tuple #[if b = true then nv else .nilIface, .bool b]) ∧ Below w.heap.size w w'
set_option maxRecDepth 200000 in
set_option maxHeartbeats 8000000 in
theorem newsFor_any (v u : Value) (x : Ag) (f : Fr) (F G F' G' : List Nat) (w : World) (h : RdAg w v x F G) (k : RdFr w u f F' G') (hf : ∀ y ∈ x.sealed, y.sk.fits) (hs : x.sealed.length ≤ 1048576) (hl : x.taken.length ≤ 1048576) (kw : f.item.sk.wide) (kl : f.taken.length ≤ 1048576) :
    Calls Try.prog 72 #[v, u] w fun e w' => NewsR w (x.hears f) (newsVal f) e w' := by
  obtain ⟨a1, n1, c1, a2, n2, c2, rfl, hL, hP, hc1, hc2⟩ := h
  obtain ⟨bt, lt, ct, b1, m1, e1, b2, m2, e2, b3, m3, e3, rfl, kP, kI, kc⟩ := k
  have HX : Hid (RdAg w (.agg #[.int .i64 x.id, .int .i64 x.epoch, .bool x.live, .int .i64 x.granted, .slice a1 n1 c1, .slice a2 n2 c2, .int .i64 x.next]) x F G ∧ (∀ y ∈ x.sealed, y.sk.wide) ∧ x.sealed.length ≤ 2097152 ∧ x.taken.length ≤ 2097152) := ⟨⟨a1, n1, c1, a2, n2, c2, rfl, hL, hP, hc1, hc2⟩, fun y hy => (hf y hy).wide, by omega, by omega⟩
  have HF : Hid (RdFr w (.agg #[.int .i64 f.kind, .int .i64 f.agent, .int .i64 f.epoch, .int .i64 f.granted, .slice bt lt ct, .int .i64 f.item.seq, .int .i64 f.item.cls, .int .i64 f.item.key, .int .i64 f.item.window, .int .i64 f.item.sk.count, .int .i64 f.item.sk.sum, .int .i64 f.item.sk.min, .int .i64 f.item.sk.max, .slice b1 m1 e1, .slice b2 m2 e2, .slice b3 m3 e3]) f F' G' ∧ f.item.sk.wide ∧ f.taken.length ≤ 2097152 ∧ RdP w bt lt f.taken F' ∧ lt ≤ 2097152) := ⟨⟨bt, lt, ct, b1, m1, e1, b2, m2, e2, b3, m3, e3, rfl, kP, kI, kc⟩, kw, by omega, kP, by rw [← kP.length]; omega⟩
  have HOK : Hid (x.hears f = (x.ok && f.ok && decide (2 ≤ f.kind) && decide (f.agent = x.id) && (f.taken.ok && f.taken.under n1))) := by show _ = _; unfold Ag.hears; rw [hL.length]
  clear hL hP hc1 hc2 kP kI kc hf hs hl kw kl
  have HB : Hid (Blk ((w.alloc (.cells #[.int .i64 x.id, .int .i64 x.epoch, .bool x.live, .int .i64 x.granted, .slice a1 n1 c1, .slice a2 n2 c2, .int .i64 x.next] 25)).alloc (.cells #[.int .i64 f.kind, .int .i64 f.agent, .int .i64 f.epoch, .int .i64 f.granted, .slice bt lt ct, .int .i64 f.item.seq, .int .i64 f.item.cls, .int .i64 f.item.key, .int .i64 f.item.window, .int .i64 f.item.sk.count, .int .i64 f.item.sk.sum, .int .i64 f.item.sk.min, .int .i64 f.item.sk.max, .slice b1 m1 e1, .slice b2 m2 e2, .slice b3 m3 e3] 56)) w.heap.size #[.int .i64 x.id, .int .i64 x.epoch, .bool x.live, .int .i64 x.granted, .slice a1 n1 c1, .slice a2 n2 c2, .int .i64 x.next] 25 ∧ Blk ((w.alloc (.cells #[.int .i64 x.id, .int .i64 x.epoch, .bool x.live, .int .i64 x.granted, .slice a1 n1 c1, .slice a2 n2 c2, .int .i64 x.next] 25)).alloc (.cells #[.int .i64 f.kind, .int .i64 f.agent, .int .i64 f.epoch, .int .i64 f.granted, .slice bt lt ct, .int .i64 f.item.seq, .int .i64 f.item.cls, .int .i64 f.item.key, .int .i64 f.item.window, .int .i64 f.item.sk.count, .int .i64 f.item.sk.sum, .int .i64 f.item.sk.min, .int .i64 f.item.sk.max, .slice b1 m1 e1, .slice b2 m2 e2, .slice b3 m3 e3] 56)) (w.heap.size + 1) #[.int .i64 f.kind, .int .i64 f.agent, .int .i64 f.epoch, .int .i64 f.granted, .slice bt lt ct, .int .i64 f.item.seq, .int .i64 f.item.cls, .int .i64 f.item.key, .int .i64 f.item.window, .int .i64 f.item.sk.count, .int .i64 f.item.sk.sum, .int .i64 f.item.sk.min, .int .i64 f.item.sk.max, .slice b1 m1 e1, .slice b2 m2 e2, .slice b3 m3 e3] 56 ∧ Below w.heap.size w ((w.alloc (.cells #[.int .i64 x.id, .int .i64 x.epoch, .bool x.live, .int .i64 x.granted, .slice a1 n1 c1, .slice a2 n2 c2, .int .i64 x.next] 25)).alloc (.cells #[.int .i64 f.kind, .int .i64 f.agent, .int .i64 f.epoch, .int .i64 f.granted, .slice bt lt ct, .int .i64 f.item.seq, .int .i64 f.item.cls, .int .i64 f.item.key, .int .i64 f.item.window, .int .i64 f.item.sk.count, .int .i64 f.item.sk.sum, .int .i64 f.item.sk.min, .int .i64 f.item.sk.max, .slice b1 m1 e1, .slice b2 m2 e2, .slice b3 m3 e3] 56))) :=
    ⟨(Blk.made _ _ _).alloc _, Blk.made_eq (by simp), Below.allocW _ (Below.allocW _ (Below.refl _ _) (Nat.le_refl _)) (Nat.le_refl _)⟩
  go_enter Try.func72, Try.ntmps72
  go_wp2_with (first | go_skip | (with_reducible refine stopLoad 25 rfl ?_))
  obtain ⟨W0, hW0⟩ : ∃ W, W = (w.alloc (.cells #[.int .i64 x.id, .int .i64 x.epoch, .bool x.live, .int .i64 x.granted, .slice a1 n1 c1, .slice a2 n2 c2, .int .i64 x.next] 25)).alloc (.cells #[.int .i64 f.kind, .int .i64 f.agent, .int .i64 f.epoch, .int .i64 f.granted, .slice bt lt ct, .int .i64 f.item.seq, .int .i64 f.item.cls, .int .i64 f.item.key, .int .i64 f.item.window, .int .i64 f.item.sk.count, .int .i64 f.item.sk.sum, .int .i64 f.item.sk.min, .int .i64 f.item.sk.max, .slice b1 m1 e1, .slice b2 m2 e2, .slice b3 m3 e3] 56) := ⟨_, rfl⟩
  rw [← hW0] at HB ⊢
  clear hW0
  refine load_known 25 w.heap.size _ 25 _ HB.out.1 rfl rfl rfl Try.underlying25 rfl infoAgT ?_
  go_wp2_with fail
  refine (agentOkImpl_any _ x F G _ (HX.out.1.below HB.out.2.2) HX.out.2.1 HX.out.2.2.1 HX.out.2.2.2).mono ?_
  rintro e w1 ⟨rfl, hb1⟩
  have HB1 : Hid (Blk w1 w.heap.size #[.int .i64 x.id, .int .i64 x.epoch, .bool x.live, .int .i64 x.granted, .slice a1 n1 c1, .slice a2 n2 c2, .int .i64 x.next] 25 ∧ Blk w1 (w.heap.size + 1) #[.int .i64 f.kind, .int .i64 f.agent, .int .i64 f.epoch, .int .i64 f.granted, .slice bt lt ct, .int .i64 f.item.seq, .int .i64 f.item.cls, .int .i64 f.item.key, .int .i64 f.item.window, .int .i64 f.item.sk.count, .int .i64 f.item.sk.sum, .int .i64 f.item.sk.min, .int .i64 f.item.sk.max, .slice b1 m1 e1, .slice b2 m2 e2, .slice b3 m3 e3] 56 ∧ Below w.heap.size w w1) := ⟨HB.out.1.below hb1, HB.out.2.1.below hb1, Below.next HB.out.2.2 hb1⟩
  obtain ⟨d1, hd1⟩ : ∃ d, d = x.ok := ⟨_, rfl⟩
  rw [← hd1]
  rw [← hd1] at HOK
  clear hb1 hd1 HB
  cases d1
  · have HV : Hid (x.hears f = false) := by show _ = _; rw [HOK.out]; rfl
    go_wp2
    go_ret2
    rw [HV.out]
    exact ⟨rfl, HB1.out.2.2⟩
  go_wp2_with (first | go_skip | (with_reducible refine stopLoad 56 rfl ?_))
  refine load_knownw8 56 (w.heap.size + 1) _ 56 _ HB1.out.2.1 rfl rfl rfl Try.underlying56 rfl infoFrT ?_
  go_wp2_with fail
  refine (frameOkImpl_any _ f F' G' _ (HF.out.1.below HB1.out.2.2) HF.out.2.1 HF.out.2.2.1).mono ?_
  rintro e w2 ⟨rfl, hb2⟩
  have HB2 : Hid (Blk w2 w.heap.size #[.int .i64 x.id, .int .i64 x.epoch, .bool x.live, .int .i64 x.granted, .slice a1 n1 c1, .slice a2 n2 c2, .int .i64 x.next] 25 ∧ Blk w2 (w.heap.size + 1) #[.int .i64 f.kind, .int .i64 f.agent, .int .i64 f.epoch, .int .i64 f.granted, .slice bt lt ct, .int .i64 f.item.seq, .int .i64 f.item.cls, .int .i64 f.item.key, .int .i64 f.item.window, .int .i64 f.item.sk.count, .int .i64 f.item.sk.sum, .int .i64 f.item.sk.min, .int .i64 f.item.sk.max, .slice b1 m1 e1, .slice b2 m2 e2, .slice b3 m3 e3] 56 ∧ Below w.heap.size w w2) := ⟨HB1.out.1.below hb2, HB1.out.2.1.below hb2, Below.next HB1.out.2.2 hb2⟩
  obtain ⟨d2, hd2⟩ : ∃ d, d = f.ok := ⟨_, rfl⟩
  rw [← hd2]
  have HFO : Hid (d2 = f.ok) := hd2
  rw [← hd2] at HOK
  clear hb2 hd2 HB1
  cases d2
  · have HV : Hid (x.hears f = false) := by show _ = _; rw [HOK.out]; rfl
    go_wp2
    go_ret2
    rw [HV.out]
    exact ⟨rfl, HB2.out.2.2⟩
  have c0 := HB2.out.1.cell 0
  have c4 := HB2.out.1.cell 4
  have k0 := HB2.out.2.1.cell 0
  have k1 := HB2.out.2.1.cell 1
  have k2 := HB2.out.2.1.cell 2
  have k3 := HB2.out.2.1.cell 3
  have k4 := HB2.out.2.1.cell 4
  simp only [aT, aS, aZ] at c0 c4 k0 k1 k2 k3 k4
  by_cases ha : f.agent = x.id
  rotate_left
  · have z : (f.agent != x.id) = true := by simpa using ha
    have HV : Hid (x.hears f = false) := by show _ = _; rw [HOK.out, decide_eq_false ha, Bool.and_false, Bool.false_and]
    clear ha
    go_wp2
    go_ret2
    rw [HV.out]
    exact ⟨rfl, HB2.out.2.2⟩
  have z : (f.agent != x.id) = false := by simpa using ha
  have HOK2 : Hid (x.hears f = (decide (2 ≤ f.kind) && (f.taken.ok && f.taken.under n1))) := by show _ = _; rw [HOK.out, decide_eq_true ha, Bool.and_true, Bool.true_and, Bool.true_and]
  clear ha HOK
  go_wp2_with fail
  refine (areSeqs_any bt lt ct n1 f.taken F' _ (HF.out.2.2.2.1.below HB2.out.2.2) HF.out.2.2.2.2).mono ?_
  rintro e w3 ⟨rfl, hb3⟩
  have HB3 : Hid (Blk w3 w.heap.size #[.int .i64 x.id, .int .i64 x.epoch, .bool x.live, .int .i64 x.granted, .slice a1 n1 c1, .slice a2 n2 c2, .int .i64 x.next] 25 ∧ Blk w3 (w.heap.size + 1) #[.int .i64 f.kind, .int .i64 f.agent, .int .i64 f.epoch, .int .i64 f.granted, .slice bt lt ct, .int .i64 f.item.seq, .int .i64 f.item.cls, .int .i64 f.item.key, .int .i64 f.item.window, .int .i64 f.item.sk.count, .int .i64 f.item.sk.sum, .int .i64 f.item.sk.min, .int .i64 f.item.sk.max, .slice b1 m1 e1, .slice b2 m2 e2, .slice b3 m3 e3] 56 ∧ Below w.heap.size w w3) := ⟨HB2.out.1.below hb3, HB2.out.2.1.below hb3, Below.next HB2.out.2.2 hb3⟩
  obtain ⟨d3, hd3⟩ : ∃ d, d = (f.taken.ok && f.taken.under n1) := ⟨_, rfl⟩
  rw [← hd3]
  rw [← hd3] at HOK2
  clear hb3 hd3 HB2 c0 c4 k0 k1 k2 k3 k4 z
  cases d3
  · have HV : Hid (x.hears f = false) := by show _ = _; rw [HOK2.out, Bool.and_false]
    go_wp2
    go_ret2
    rw [HV.out]
    exact ⟨rfl, HB3.out.2.2⟩
  have k0 := HB3.out.2.1.cell 0
  have k2 := HB3.out.2.1.cell 2
  have k3 := HB3.out.2.1.cell 3
  simp only [aT, aS, aZ] at k0 k2 k3
  by_cases h2 : f.kind = 2
  · have z2 : (f.kind == 2) = true := by simpa using h2
    have HV : Hid (x.hears f = true ∧ newsVal f = .iface 118 (.agg #[.int .i64 f.epoch, .int .i64 f.granted])) := ⟨by rw [HOK2.out, decide_eq_true (by omega)]; rfl, by unfold newsVal; rw [if_pos h2]⟩
    clear h2
    go_wp2
    go_ret2
    rw [HV.out.1, HV.out.2]
    exact ⟨rfl, HB3.out.2.2⟩
  have z2 : (f.kind == 2) = false := by simpa using h2
  by_cases h3 : f.kind = 3
  · have z3 : (f.kind == 3) = true := by simpa using h3
    have HV : Hid (x.hears f = true ∧ newsVal f = .iface 120 (.agg #[.int .i64 f.epoch])) := ⟨by rw [HOK2.out, decide_eq_true (by omega)]; rfl, by unfold newsVal; rw [if_neg h2]⟩
    clear h2 h3
    go_wp2
    go_ret2
    rw [HV.out.1, HV.out.2]
    exact ⟨rfl, HB3.out.2.2⟩
  have z3 : (f.kind == 3) = false := by simpa using h3
  have HV : Hid (x.hears f = false) := by
    show _ = _
    rw [HOK2.out]
    have q := HFO.out.symm
    unfold Fr.ok at q
    simp only [Bool.and_eq_true, decide_eq_true_eq] at q
    obtain ⟨⟨⟨⟨⟨⟨g1, _⟩, _⟩, _⟩, _⟩, _⟩, _⟩ := q
    rw [decide_eq_false (by omega)]; rfl
  clear h2 h3
  go_wp2
  go_ret2
  rw [HV.out]
  exact ⟨rfl, HB3.out.2.2⟩
/-- What an AgentHear has: both arguments, the result's place, the copy at L. -/
structure HearI (w : World) (A B : Array Value) (L : Nat) (C : Array Value) (y : Ag) (F G : List Nat) (W : World) : Prop where
  box : Blk W w.heap.size A 25
  fr : Blk W (w.heap.size + 1) B 56
  res : Blk W (w.heap.size + 1 + 1) #[.int .i64 0, .int .i64 0, .bool false, .int .i64 0, .slice none 0 0, .slice none 0 0, .int .i64 0] 25
  bel : Below w.heap.size w W
  loc : Blk W L C 25
  rd : RdAg W (.agg C) y F G
  oF : Own (w.heap.size + 3) W F
  oG : Own (w.heap.size + 3) W G
  ap : ∀ b ∈ F, b ∉ G
  gL : w.heap.size + 3 ≤ L
  lF : ∀ b ∈ F, b < L
theorem HearI.below {w : World} {A B : Array Value} {L : Nat} {C : Array Value} {y : Ag} {F G : List Nat} {W W' : World} (h : HearI w A B L C y F G W) (b : Below W.heap.size W W') : HearI w A B L C y F G W' :=
  ⟨h.box.below b, h.fr.below b, h.res.below b, Below.next h.bel b, h.loc.below b, h.rd.below b, h.oF.below h.rd.lt1 b, h.oG.below h.rd.lt2 b, h.ap, h.gL, h.lF⟩
/-- The result is laid. -/
theorem HearI.put {w : World} {A B : Array Value} {L : Nat} {C D : Array Value} {x y : Ag} {F G : List Nat} {W : World} {c c' : Int} (h : HearI w A B L C x F G W) (hr : RdAg W (.agg D) y F G) (hc : c = c') :
    NewAg2 w (y, c') (.returned (.tuple #[.agg D, .int .i64 c])) (W.setRow (w.heap.size + 1 + 1) D) := by
  have nF : w.heap.size + 1 + 1 ∉ F := fun hx => by have := h.oF.ge _ hx; omega
  have nG : w.heap.size + 1 + 1 ∉ G := fun hx => by have := h.oG.ge _ hx; omega
  exact ⟨_, F, G, c, rfl, hr.agree (Agree.row nF _) (Agree.row nG _), hc, (h.oF.agree (Agree.row nF _)).mono (by omega), (h.oG.agree (Agree.row nG _)).mono (by omega), h.ap, below_setRow h.bel (by omega) _⟩
theorem rdAg_other {W : World} {x y : Ag} {F G : List Nat} {q1 q2 : Option Addr} {r1 k1 r2 k2 : Nat} {i e g nx : Int} {lv : Bool} (h : RdAg W (.agg #[.int .i64 x.id, .int .i64 x.epoch, .bool x.live, .int .i64 x.granted, .slice q1 r1 k1, .slice q2 r2 k2, .int .i64 x.next]) x F G) (e1 : y.id = i) (e2 : y.epoch = e) (e3 : y.live = lv) (e4 : y.granted = g) (e5 : y.sealed = x.sealed) (e6 : y.taken = x.taken) (e7 : y.next = nx) : RdAg W (.agg #[.int .i64 i, .int .i64 e, .bool lv, .int .i64 g, .slice q1 r1 k1, .slice q2 r2 k2, .int .i64 nx]) y F G := by
  obtain ⟨a1, m1, c1, a2, m2, c2, e, g1, g2, g3, g4⟩ := h
  injection e with e
  injection e with e
  simp at e
  obtain ⟨h1, h2⟩ := e
  obtain ⟨rfl, rfl, rfl⟩ := h1
  obtain ⟨rfl, rfl, rfl⟩ := h2
  exact ⟨_, _, _, _, _, _, by rw [e1, e2, e3, e4, e7], by rw [e5]; exact g1, by rw [e6]; exact g2, g3, g4⟩
set_option maxRecDepth 200000 in
set_option maxHeartbeats 8000000 in
theorem hearImpl_any (v u : Value) (x : Ag) (f : Fr) (F0 G0 F' G' : List Nat) (w : World) (h : RdAg w v x F0 G0) (k : RdFr w u f F' G') (hf : ∀ y ∈ x.sealed, y.sk.fits) (hs : x.sealed.length ≤ 1048576) (hl : x.taken.length ≤ 1048576) (kw : f.item.sk.wide) (kl : f.taken.length ≤ 1048576) :
    Calls Try.prog 34 #[v, u] w fun e w' => NewAg2 w (x.hear f) e w' := by
  obtain ⟨a1, n1, c1, a2, n2, c2, rfl, hL, hP, hc1, hc2⟩ := h
  obtain ⟨bt, lt, ct, b1, m1, e1, b2, m2, e2, b3, m3, e3, rfl, kP, kI, kc⟩ := k
  have HX : Hid (RdAg w (.agg #[.int .i64 x.id, .int .i64 x.epoch, .bool x.live, .int .i64 x.granted, .slice a1 n1 c1, .slice a2 n2 c2, .int .i64 x.next]) x F0 G0 ∧ RdP w a2 n2 x.taken G0 ∧ n2 ≤ c2) := ⟨⟨a1, n1, c1, a2, n2, c2, rfl, hL, hP, hc1, hc2⟩, hP, hc2.2⟩
  have HF : Hid (RdFr w (.agg #[.int .i64 f.kind, .int .i64 f.agent, .int .i64 f.epoch, .int .i64 f.granted, .slice bt lt ct, .int .i64 f.item.seq, .int .i64 f.item.cls, .int .i64 f.item.key, .int .i64 f.item.window, .int .i64 f.item.sk.count, .int .i64 f.item.sk.sum, .int .i64 f.item.sk.min, .int .i64 f.item.sk.max, .slice b1 m1 e1, .slice b2 m2 e2, .slice b3 m3 e3]) f F' G' ∧ RdP w bt lt f.taken F' ∧ n2 + lt ≤ 2097152) := ⟨⟨bt, lt, ct, b1, m1, e1, b2, m2, e2, b3, m3, e3, rfl, kP, kI, kc⟩, kP, by rw [← kP.length, ← hP.length]; omega⟩
  have HS : Hid ((∀ y ∈ x.sealed, y.sk.fits) ∧ x.sealed.length ≤ 1048576 ∧ x.taken.length ≤ 1048576 ∧ f.item.sk.wide ∧ f.taken.length ≤ 1048576) := ⟨hf, hs, hl, kw, kl⟩
  clear hL hP hc1 hc2 kP kI kc hf hs hl kw kl
  have HB : Hid (Blk (((w.alloc (.cells #[.int .i64 x.id, .int .i64 x.epoch, .bool x.live, .int .i64 x.granted, .slice a1 n1 c1, .slice a2 n2 c2, .int .i64 x.next] 25)).alloc (.cells #[.int .i64 f.kind, .int .i64 f.agent, .int .i64 f.epoch, .int .i64 f.granted, .slice bt lt ct, .int .i64 f.item.seq, .int .i64 f.item.cls, .int .i64 f.item.key, .int .i64 f.item.window, .int .i64 f.item.sk.count, .int .i64 f.item.sk.sum, .int .i64 f.item.sk.min, .int .i64 f.item.sk.max, .slice b1 m1 e1, .slice b2 m2 e2, .slice b3 m3 e3] 56)).alloc (.cells #[.int .i64 0, .int .i64 0, .bool false, .int .i64 0, .slice none 0 0, .slice none 0 0, .int .i64 0] 25)) w.heap.size #[.int .i64 x.id, .int .i64 x.epoch, .bool x.live, .int .i64 x.granted, .slice a1 n1 c1, .slice a2 n2 c2, .int .i64 x.next] 25 ∧ Blk (((w.alloc (.cells #[.int .i64 x.id, .int .i64 x.epoch, .bool x.live, .int .i64 x.granted, .slice a1 n1 c1, .slice a2 n2 c2, .int .i64 x.next] 25)).alloc (.cells #[.int .i64 f.kind, .int .i64 f.agent, .int .i64 f.epoch, .int .i64 f.granted, .slice bt lt ct, .int .i64 f.item.seq, .int .i64 f.item.cls, .int .i64 f.item.key, .int .i64 f.item.window, .int .i64 f.item.sk.count, .int .i64 f.item.sk.sum, .int .i64 f.item.sk.min, .int .i64 f.item.sk.max, .slice b1 m1 e1, .slice b2 m2 e2, .slice b3 m3 e3] 56)).alloc (.cells #[.int .i64 0, .int .i64 0, .bool false, .int .i64 0, .slice none 0 0, .slice none 0 0, .int .i64 0] 25)) (w.heap.size + 1) #[.int .i64 f.kind, .int .i64 f.agent, .int .i64 f.epoch, .int .i64 f.granted, .slice bt lt ct, .int .i64 f.item.seq, .int .i64 f.item.cls, .int .i64 f.item.key, .int .i64 f.item.window, .int .i64 f.item.sk.count, .int .i64 f.item.sk.sum, .int .i64 f.item.sk.min, .int .i64 f.item.sk.max, .slice b1 m1 e1, .slice b2 m2 e2, .slice b3 m3 e3] 56 ∧ Blk (((w.alloc (.cells #[.int .i64 x.id, .int .i64 x.epoch, .bool x.live, .int .i64 x.granted, .slice a1 n1 c1, .slice a2 n2 c2, .int .i64 x.next] 25)).alloc (.cells #[.int .i64 f.kind, .int .i64 f.agent, .int .i64 f.epoch, .int .i64 f.granted, .slice bt lt ct, .int .i64 f.item.seq, .int .i64 f.item.cls, .int .i64 f.item.key, .int .i64 f.item.window, .int .i64 f.item.sk.count, .int .i64 f.item.sk.sum, .int .i64 f.item.sk.min, .int .i64 f.item.sk.max, .slice b1 m1 e1, .slice b2 m2 e2, .slice b3 m3 e3] 56)).alloc (.cells #[.int .i64 0, .int .i64 0, .bool false, .int .i64 0, .slice none 0 0, .slice none 0 0, .int .i64 0] 25)) (w.heap.size + 1 + 1) #[.int .i64 0, .int .i64 0, .bool false, .int .i64 0, .slice none 0 0, .slice none 0 0, .int .i64 0] 25 ∧ Below w.heap.size w (((w.alloc (.cells #[.int .i64 x.id, .int .i64 x.epoch, .bool x.live, .int .i64 x.granted, .slice a1 n1 c1, .slice a2 n2 c2, .int .i64 x.next] 25)).alloc (.cells #[.int .i64 f.kind, .int .i64 f.agent, .int .i64 f.epoch, .int .i64 f.granted, .slice bt lt ct, .int .i64 f.item.seq, .int .i64 f.item.cls, .int .i64 f.item.key, .int .i64 f.item.window, .int .i64 f.item.sk.count, .int .i64 f.item.sk.sum, .int .i64 f.item.sk.min, .int .i64 f.item.sk.max, .slice b1 m1 e1, .slice b2 m2 e2, .slice b3 m3 e3] 56)).alloc (.cells #[.int .i64 0, .int .i64 0, .bool false, .int .i64 0, .slice none 0 0, .slice none 0 0, .int .i64 0] 25))) :=
    ⟨((Blk.made _ _ _).alloc _).alloc _, (Blk.made_eq (by simp)).alloc _, Blk.made_eq (by simp), Below.allocW _ (Below.allocW _ (Below.allocW _ (Below.refl _ _) (Nat.le_refl _)) (Nat.le_refl _)) (Nat.le_refl _)⟩
  go_enter Try.func34, Try.ntmps34
  go_wp2_with (first | go_skip | (with_reducible refine stopLoad 25 rfl ?_))
  obtain ⟨W0, hW0⟩ : ∃ W, W = ((w.alloc (.cells #[.int .i64 x.id, .int .i64 x.epoch, .bool x.live, .int .i64 x.granted, .slice a1 n1 c1, .slice a2 n2 c2, .int .i64 x.next] 25)).alloc (.cells #[.int .i64 f.kind, .int .i64 f.agent, .int .i64 f.epoch, .int .i64 f.granted, .slice bt lt ct, .int .i64 f.item.seq, .int .i64 f.item.cls, .int .i64 f.item.key, .int .i64 f.item.window, .int .i64 f.item.sk.count, .int .i64 f.item.sk.sum, .int .i64 f.item.sk.min, .int .i64 f.item.sk.max, .slice b1 m1 e1, .slice b2 m2 e2, .slice b3 m3 e3] 56)).alloc (.cells #[.int .i64 0, .int .i64 0, .bool false, .int .i64 0, .slice none 0 0, .slice none 0 0, .int .i64 0] 25) := ⟨_, rfl⟩
  rw [← hW0] at HB ⊢
  clear hW0
  refine load_known 25 w.heap.size _ 25 _ HB.out.1 rfl rfl rfl Try.underlying25 rfl infoAgT ?_
  go_wp2_with fail
  refine (copiedAgent_any _ x F0 G0 _ (HX.out.1.below HB.out.2.2.2) HS.out.1 HS.out.2.1 HS.out.2.2.1).mono ?_
  rintro e w2 ⟨v2, F, G, rfl, g2, o2, p2, ap2, hb2⟩
  obtain ⟨q1, r1, k1, q2, r2, k2, rfl, _⟩ := id g2
  have H2 : Hid (Blk w2 w.heap.size #[.int .i64 x.id, .int .i64 x.epoch, .bool x.live, .int .i64 x.granted, .slice a1 n1 c1, .slice a2 n2 c2, .int .i64 x.next] 25 ∧ Blk w2 (w.heap.size + 1) #[.int .i64 f.kind, .int .i64 f.agent, .int .i64 f.epoch, .int .i64 f.granted, .slice bt lt ct, .int .i64 f.item.seq, .int .i64 f.item.cls, .int .i64 f.item.key, .int .i64 f.item.window, .int .i64 f.item.sk.count, .int .i64 f.item.sk.sum, .int .i64 f.item.sk.min, .int .i64 f.item.sk.max, .slice b1 m1 e1, .slice b2 m2 e2, .slice b3 m3 e3] 56 ∧ Blk w2 (w.heap.size + 1 + 1) #[.int .i64 0, .int .i64 0, .bool false, .int .i64 0, .slice none 0 0, .slice none 0 0, .int .i64 0] 25 ∧ Below w.heap.size w w2 ∧ RdAg w2 (.agg #[.int .i64 x.id, .int .i64 x.epoch, .bool x.live, .int .i64 x.granted, .slice q1 r1 k1, .slice q2 r2 k2, .int .i64 x.next]) x F G ∧ Own (w.heap.size + 3) w2 F ∧ Own (w.heap.size + 3) w2 G ∧ (∀ b ∈ F, b ∉ G) ∧ w.heap.size + 3 ≤ w2.heap.size) := ⟨HB.out.1.below hb2, HB.out.2.1.below hb2, HB.out.2.2.1.below hb2, Below.next HB.out.2.2.2 hb2, g2, o2.mono HB.out.2.2.1.lt, p2.mono HB.out.2.2.1.lt, ap2, by have := HB.out.2.2.1.lt; have := hb2.size; omega⟩
  clear g2 o2 p2 ap2 hb2 HB
  go_wp2_with (first | go_skip | (with_reducible refine stopStore 25 rfl ?_))
  refine store_fresh 25 w2.heap.size rfl #[.int .i64 0, .int .i64 0, .bool false, .int .i64 0, .slice none 0 0, .slice none 0 0, .int .i64 0] #[.int .i64 x.id, .int .i64 x.epoch, .bool x.live, .int .i64 x.granted, .slice q1 r1 k1, .slice q2 r2 k2, .int .i64 x.next] 25 rfl rfl rfl rfl infoAgT rfl (by simp [Value.oneCell']) ?_
  intro w3 hg3 hb3
  have H3 : Hid (HearI w #[.int .i64 x.id, .int .i64 x.epoch, .bool x.live, .int .i64 x.granted, .slice a1 n1 c1, .slice a2 n2 c2, .int .i64 x.next] #[.int .i64 f.kind, .int .i64 f.agent, .int .i64 f.epoch, .int .i64 f.granted, .slice bt lt ct, .int .i64 f.item.seq, .int .i64 f.item.cls, .int .i64 f.item.key, .int .i64 f.item.window, .int .i64 f.item.sk.count, .int .i64 f.item.sk.sum, .int .i64 f.item.sk.min, .int .i64 f.item.sk.max, .slice b1 m1 e1, .slice b2 m2 e2, .slice b3 m3 e3] w2.heap.size #[.int .i64 x.id, .int .i64 x.epoch, .bool x.live, .int .i64 x.granted, .slice q1 r1 k1, .slice q2 r2 k2, .int .i64 x.next] x F G w3) := ⟨H2.out.1.below hb3, H2.out.2.1.below hb3, H2.out.2.2.1.below hb3, Below.next H2.out.2.2.2.1 hb3, hg3, H2.out.2.2.2.2.1.below hb3, H2.out.2.2.2.2.2.1.below H2.out.2.2.2.2.1.lt1 hb3, H2.out.2.2.2.2.2.2.1.below H2.out.2.2.2.2.1.lt2 hb3, H2.out.2.2.2.2.2.2.2.1, H2.out.2.2.2.2.2.2.2.2, H2.out.2.2.2.2.1.lt1⟩
  obtain ⟨L, hL⟩ : ∃ L, L = w2.heap.size := ⟨_, rfl⟩
  rw [← hL] at H3 ⊢
  clear hg3 hb3 H2 hL
  go_wp2_with (first | go_skip | (with_reducible refine stopLoad 25 rfl ?_) | (with_reducible refine stopLoad 56 rfl ?_))
  refine load_known 25 w.heap.size _ 25 _ H3.out.box rfl rfl rfl Try.underlying25 rfl infoAgT ?_
  go_wp2_with (first | go_skip | (with_reducible refine stopLoad 56 rfl ?_))
  refine load_known 56 (w.heap.size + 1) _ 56 _ H3.out.fr rfl rfl rfl Try.underlying56 rfl infoFrT ?_
  go_wp2_with fail
  refine (newsFor_any _ _ x f F0 G0 F' G' _ (HX.out.1.below H3.out.bel) (HF.out.1.below H3.out.bel) HS.out.1 HS.out.2.1 HS.out.2.2.1 HS.out.2.2.2.1 HS.out.2.2.2.2).mono ?_
  rintro e w4 ⟨rfl, hb4⟩
  have H4 : Hid (HearI w #[.int .i64 x.id, .int .i64 x.epoch, .bool x.live, .int .i64 x.granted, .slice a1 n1 c1, .slice a2 n2 c2, .int .i64 x.next] #[.int .i64 f.kind, .int .i64 f.agent, .int .i64 f.epoch, .int .i64 f.granted, .slice bt lt ct, .int .i64 f.item.seq, .int .i64 f.item.cls, .int .i64 f.item.key, .int .i64 f.item.window, .int .i64 f.item.sk.count, .int .i64 f.item.sk.sum, .int .i64 f.item.sk.min, .int .i64 f.item.sk.max, .slice b1 m1 e1, .slice b2 m2 e2, .slice b3 m3 e3] L #[.int .i64 x.id, .int .i64 x.epoch, .bool x.live, .int .i64 x.granted, .slice q1 r1 k1, .slice q2 r2 k2, .int .i64 x.next] x F G w4) := H3.out.below hb4
  obtain ⟨d, hd⟩ : ∃ d, d = x.hears f := ⟨_, rfl⟩
  rw [← hd]
  have HD : Hid (d = x.hears f) := hd
  clear hb4 hd H3
  cases d
  · have HV : Hid (x.hear f = (x, 1)) := by show _ = _; unfold Ag.hear; rw [if_pos HD.out.symm]
    simp only [Bool.false_eq_true, if_false]
    go_wp2_with (first | go_skip | (with_reducible refine stopLoad 25 rfl ?_))
    refine load_known 25 L _ 25 _ H4.out.loc rfl rfl rfl Try.underlying25 rfl infoAgT ?_
    go_wp2_with (first | go_skip | (with_reducible refine stopStore 25 rfl ?_))
    refine store_known 25 (w.heap.size + 1 + 1) _ #[.int .i64 x.id, .int .i64 x.epoch, .bool x.live, .int .i64 x.granted, .slice q1 r1 k1, .slice q2 r2 k2, .int .i64 x.next] 25 H4.out.res rfl rfl rfl rfl infoAgT rfl (by simp [Value.oneCell']) ?_
    have HE := H4.out.put (c := 1) H4.out.rd rfl
    go_wp2
    refine bodyPost_ret (results_row_tmp Try.results34 _ _ (w.heap.size + 1 + 1) _ _ _ _ rfl H4.out.res.setRow Try.underlying25 rfl infoAgT) rfl ?_
    rw [HV.out]
    exact HE
  have HH := hears_kind HD.out.symm
  have HK : Hid (f.ok = true ∧ x.ok = true ∧ f.taken.ok = true ∧ x.hears f = true) := ⟨HH.2.1, HH.2.2.1, HH.2.2.2, HD.out.symm⟩
  have HKI := HH.1
  clear HH HD
  simp only [if_true]
  by_cases h2 : f.kind = 2
  · have hnv : newsVal f = .iface 118 (.agg #[.int .i64 f.epoch, .int .i64 f.granted]) := by unfold newsVal; rw [if_pos h2]
    rw [hnv]
    have HK2 : Hid (f.kind = 2) := h2
    have hM := methodA f.epoch f.granted
    clear hnv h2 HKI
    go_wp2_with fail
    have H5 : Hid (HearI w #[.int .i64 x.id, .int .i64 x.epoch, .bool x.live, .int .i64 x.granted, .slice a1 n1 c1, .slice a2 n2 c2, .int .i64 x.next] #[.int .i64 f.kind, .int .i64 f.agent, .int .i64 f.epoch, .int .i64 f.granted, .slice bt lt ct, .int .i64 f.item.seq, .int .i64 f.item.cls, .int .i64 f.item.key, .int .i64 f.item.window, .int .i64 f.item.sk.count, .int .i64 f.item.sk.sum, .int .i64 f.item.sk.min, .int .i64 f.item.sk.max, .slice b1 m1 e1, .slice b2 m2 e2, .slice b3 m3 e3] L #[.int .i64 x.id, .int .i64 x.epoch, .bool x.live, .int .i64 x.granted, .slice q1 r1 k1, .slice q2 r2 k2, .int .i64 x.next] x F G w4.drew) := H4.out.below (Below.refl _ _).drew
    obtain ⟨Y0, hY0⟩ : ∃ Y, Y = w4.drew := ⟨_, rfl⟩
    rw [← hY0] at H5
    clear H4
    refine wp_region_held (S := fun W => Blk W w.heap.size #[.int .i64 x.id, .int .i64 x.epoch, .bool x.live, .int .i64 x.granted, .slice a1 n1 c1, .slice a2 n2 c2, .int .i64 x.next] 25) (by kernel_rfl) ?_
    change wpAnyH _ _ _ _ _ _ _ _ (World.drew _)
    rw [← hY0]
    clear hY0
    refine takeH (o := ?o19) 0 (.iface 118 (.agg #[.int .i64 f.epoch, .int .i64 f.granted])) ?h19 ?r19
    case h19 => simp only [aT, aZ]; rfl
    refine ⟨_, by simp [Act.put]; rfl, by kernel_rfl, by kernel_rfl, by kernel_rfl, fun _ _ _ h => h, (.inl ⟨rfl, fun W _ => by kernel_rfl⟩), H5.out.box, ?_⟩
    refine takeH (o := ?o20) 2 (.pointer (some ⟨w.heap.size, 1, none⟩)) ?h20 ?r20
    case h20 => simp only [aT, aS, aZ]; rfl
    refine ⟨_, by simp [Act.put]; rfl, by kernel_rfl, by kernel_rfl, by kernel_rfl, fun _ _ _ h => h, (.inl ⟨rfl, fun W _ => by kernel_rfl⟩), H5.out.box, ?_⟩
    refine takeH (o := ?o21) 3 (.int .i64 x.epoch) ?h21 ?r21
    case h21 => simp only [aT, aS, aZ]; rfl
    refine ⟨_, by simp [Act.put]; rfl, by kernel_rfl, by kernel_rfl, by kernel_rfl, fun _ _ _ h => h, (.inl ⟨rfl, fun W hW => by have c := hW.cell 1; simp only [aT, aS, aZ] at c; go_simp⟩), H5.out.box, ?_⟩
    refine onlyH (o := ?o22) 1 (by kernel_rfl) ?h22 ?r22
    case h22 => simp only [aT, aS, aZ]; rfl
    intro K hK
    refine op_invoke0 _ _ 118 (.agg #[.int .i64 f.epoch, .int .i64 f.granted]) 131 Try.f131 (fun v w' => v = .int .i64 f.epoch ∧ Below Y0.heap.size Y0 w') rfl rfl rfl (methodA f.epoch f.granted) Try.func131 (by kernel_rfl) (by kernel_rfl) ((ackOf_any f.epoch f.granted Y0).mono (by rintro e w' ⟨rfl, k1⟩; exact ⟨_, rfl, rfl, k1⟩)) ?_
    rintro vr w5 ⟨rfl, rb⟩
    have H6 : Hid (HearI w #[.int .i64 x.id, .int .i64 x.epoch, .bool x.live, .int .i64 x.granted, .slice a1 n1 c1, .slice a2 n2 c2, .int .i64 x.next] #[.int .i64 f.kind, .int .i64 f.agent, .int .i64 f.epoch, .int .i64 f.granted, .slice bt lt ct, .int .i64 f.item.seq, .int .i64 f.item.cls, .int .i64 f.item.key, .int .i64 f.item.window, .int .i64 f.item.sk.count, .int .i64 f.item.sk.sum, .int .i64 f.item.sk.min, .int .i64 f.item.sk.max, .slice b1 m1 e1, .slice b2 m2 e2, .slice b3 m3 e3] L #[.int .i64 x.id, .int .i64 x.epoch, .bool x.live, .int .i64 x.granted, .slice q1 r1 k1, .slice q2 r2 k2, .int .i64 x.next] x F G w5) := H5.out.below rb
    refine ⟨_, by simp [Act.put]; rfl, hK _ _ ⟨H6.out.box, ?_⟩⟩
    clear hK rb H5
    refine takeH (o := ?o23) 4 (.bool (decide (f.epoch < x.epoch))) ?h23 ?r23
    case h23 => simp only [aT, aS, aZ]; rfl
    refine ⟨_, by simp [Act.put]; rfl, by kernel_rfl, by kernel_rfl, by kernel_rfl, fun _ _ _ h => h, (.inl ⟨rfl, fun W _ => by go_simp⟩), H6.out.box, ?_⟩
    refine wpAnyH_done (by kernel_rfl) ?_ _
    by_cases h3 : f.epoch < x.epoch
    · have hz : decide (f.epoch < x.epoch) = true := dec_true h3
      have HV : Hid (x.hear f = (x, 2)) := by show _ = _; unfold Ag.hear; rw [if_neg (by rw [HK.out.2.2.2]; simp), if_pos h3]
      rw [hz]
      clear h3 hz
      go_wp2_with (first | go_skip | (with_reducible refine stopLoad 25 rfl ?_))
      refine load_known 25 L _ 25 _ H6.out.loc rfl rfl rfl Try.underlying25 rfl infoAgT ?_
      go_wp2_with (first | go_skip | (with_reducible refine stopStore 25 rfl ?_))
      refine store_known 25 (w.heap.size + 1 + 1) _ #[.int .i64 x.id, .int .i64 x.epoch, .bool x.live, .int .i64 x.granted, .slice q1 r1 k1, .slice q2 r2 k2, .int .i64 x.next] 25 H6.out.res rfl rfl rfl rfl infoAgT rfl (by simp [Value.oneCell']) ?_
      have HE := H6.out.put (c := 2) H6.out.rd rfl
      go_wp2
      refine bodyPost_ret (results_row_tmp Try.results34 _ _ (w.heap.size + 1 + 1) _ _ _ _ rfl H6.out.res.setRow Try.underlying25 rfl infoAgT) rfl ?_
      rw [HV.out]
      exact HE
    have hz : decide (f.epoch < x.epoch) = false := dec_false h3
    rw [hz]
    have HLE : Hid (x.epoch ≤ f.epoch) := by show _ ≤ _; omega
    have c5 := H6.out.box.cell 5
    have k4 := H6.out.fr.cell 4
    simp only [aT, aS, aZ] at c5 k4
    clear hz h3
    go_wp2_with fail
    refine (joinImpl_any a2 bt n2 lt c2 ct x.taken f.taken G0 F' _ (HX.out.2.1.below H6.out.bel) (HF.out.2.1.below H6.out.bel) HF.out.2.2 HX.out.2.2).mono ?_
    rintro e w7 ⟨p, l, g, Gj, rfl, gj, oj, hb7, cj⟩
    have HJ : Hid (x.taken.join f.taken = joinTo x.taken f.taken f.taken.length) := Sp.join_yes (by have q := HK.out.2.1; unfold Ag.ok at q; simp only [Bool.and_eq_true] at q; exact q.1.1.2.1) HK.out.2.2.1
    have H7 : Hid (HearI w #[.int .i64 x.id, .int .i64 x.epoch, .bool x.live, .int .i64 x.granted, .slice a1 n1 c1, .slice a2 n2 c2, .int .i64 x.next] #[.int .i64 f.kind, .int .i64 f.agent, .int .i64 f.epoch, .int .i64 f.granted, .slice bt lt ct, .int .i64 f.item.seq, .int .i64 f.item.cls, .int .i64 f.item.key, .int .i64 f.item.window, .int .i64 f.item.sk.count, .int .i64 f.item.sk.sum, .int .i64 f.item.sk.min, .int .i64 f.item.sk.max, .slice b1 m1 e1, .slice b2 m2 e2, .slice b3 m3 e3] L #[.int .i64 x.id, .int .i64 x.epoch, .bool x.live, .int .i64 x.granted, .slice q1 r1 k1, .slice q2 r2 k2, .int .i64 x.next] x F G w7 ∧ RdP w7 p l (joinTo x.taken f.taken f.taken.length) Gj ∧ Own (L + 1) w7 Gj ∧ Capd p l g) := ⟨H6.out.below hb7, by rw [← HJ.out]; exact gj, oj.mono H6.out.loc.lt, cj⟩
    have l5 := H7.out.1.loc.cell 5
    have f5 := H7.out.1.loc.frozen 5
    simp only [aT, aS, aZ] at l5
    clear gj oj hb7 cj HJ H6 c5 k4
    go_wp2_with (first | go_skip | (with_reducible refine stopLoad 25 rfl ?_))
    have H8 : Hid (HearI w #[.int .i64 x.id, .int .i64 x.epoch, .bool x.live, .int .i64 x.granted, .slice a1 n1 c1, .slice a2 n2 c2, .int .i64 x.next] #[.int .i64 f.kind, .int .i64 f.agent, .int .i64 f.epoch, .int .i64 f.granted, .slice bt lt ct, .int .i64 f.item.seq, .int .i64 f.item.cls, .int .i64 f.item.key, .int .i64 f.item.window, .int .i64 f.item.sk.count, .int .i64 f.item.sk.sum, .int .i64 f.item.sk.min, .int .i64 f.item.sk.max, .slice b1 m1 e1, .slice b2 m2 e2, .slice b3 m3 e3] L #[.int .i64 x.id, .int .i64 x.epoch, .bool x.live, .int .i64 x.granted, .slice q1 r1 k1, .slice p l g, .int .i64 x.next] ⟨x.id, x.epoch, x.live, x.granted, x.sealed, joinTo x.taken f.taken f.taken.length, x.next⟩ F Gj (w7.setCell ⟨L, 5, none⟩ (.slice p l g))) := by
      have gL := H7.out.1.gL
      have nF : L ∉ F := fun hx => by have := H7.out.1.lF L hx; omega
      have nG : L ∉ Gj := fun hx => by have := H7.out.2.2.1.ge L hx; omega
      obtain ⟨s1, s2, s3, s4, s5, s6, es, g1, g2, g3, g4⟩ := H7.out.1.rd
      injection es with es
      injection es with es
      simp at es
      obtain ⟨es1, es2⟩ := es
      obtain ⟨rfl, rfl, rfl⟩ := es1
      exact ⟨H7.out.1.box.setOther (by omega) 5 _, H7.out.1.fr.setOther (by omega) 5 _, H7.out.1.res.setOther (by omega) 5 _, H7.out.1.bel.setCell (by show w.heap.size ≤ L; omega) _, H7.out.1.loc.set 5 _, ⟨_, _, _, _, _, _, rfl, g1.agree (.set nF 5 _), H7.out.2.1.agree (.set nG 5 _), g3, H7.out.2.2.2⟩, H7.out.1.oF.agree (.set nF 5 _), (H7.out.2.2.1.agree (.set nG 5 _)).mono (by omega), fun b hb hx => by have := H7.out.1.lF b hb; have := H7.out.2.2.1.ge b hx; omega, gL, H7.out.1.lF⟩
    obtain ⟨w8, hw8⟩ : ∃ W, W = w7.setCell ⟨L, 5, none⟩ (.slice p l g) := ⟨_, rfl⟩
    rw [← hw8] at H8 ⊢
    clear hw8 H7 l5 f5
    refine load_known 25 L _ 25 _ H8.out.loc rfl rfl rfl Try.underlying25 rfl infoAgT ?_
    have HG : Hid (0 ≤ f.granted) := by
      have q := HK.out.1
      unfold Fr.ok at q
      simp only [Bool.and_eq_true, decide_eq_true_eq] at q
      obtain ⟨⟨⟨⟨⟨⟨_, _⟩, _⟩, g4⟩, _⟩, _⟩, _⟩ := q
      exact g4.1
    by_cases h4 : x.epoch < f.epoch
    · have HV : Hid (x.hear f = (⟨x.id, f.epoch, true, max 0 f.granted, x.sealed, joinTo x.taken f.taken f.taken.length, x.next⟩, 0)) := by
        show _ = _
        unfold Ag.hear
        rw [if_neg (by rw [HK.out.2.2.2]; simp), if_neg (by omega), if_neg (by omega), decide_eq_true HK2.out, if_pos HK2.out, show max 0 f.granted = f.granted from Int.max_eq_right HG.out]
      go_wp2_with fail
      refine (turnedAck1 x.id x.epoch x.granted x.next f.epoch f.granted x.live q1 p r1 k1 l g _ (by omega)).mono ?_
      rintro r w9 ⟨rfl, hb9⟩
      have H9 : Hid (HearI w #[.int .i64 x.id, .int .i64 x.epoch, .bool x.live, .int .i64 x.granted, .slice a1 n1 c1, .slice a2 n2 c2, .int .i64 x.next] #[.int .i64 f.kind, .int .i64 f.agent, .int .i64 f.epoch, .int .i64 f.granted, .slice bt lt ct, .int .i64 f.item.seq, .int .i64 f.item.cls, .int .i64 f.item.key, .int .i64 f.item.window, .int .i64 f.item.sk.count, .int .i64 f.item.sk.sum, .int .i64 f.item.sk.min, .int .i64 f.item.sk.max, .slice b1 m1 e1, .slice b2 m2 e2, .slice b3 m3 e3] L #[.int .i64 x.id, .int .i64 x.epoch, .bool x.live, .int .i64 x.granted, .slice q1 r1 k1, .slice p l g, .int .i64 x.next] ⟨x.id, x.epoch, x.live, x.granted, x.sealed, joinTo x.taken f.taken f.taken.length, x.next⟩ F Gj w9) := H8.out.below hb9
      clear hb9 H8
      go_wp2_with (first | go_skip | (with_reducible refine stopStore 25 rfl ?_))
      refine store_known 25 (w.heap.size + 1 + 1) _ #[.int .i64 x.id, .int .i64 f.epoch, .bool true, .int .i64 (max 0 f.granted), .slice q1 r1 k1, .slice p l g, .int .i64 x.next] 25 H9.out.res rfl rfl rfl rfl infoAgT rfl (by simp [Value.oneCell']) ?_
      have HE := H9.out.put (c := 0) (rdAg_other (y := ⟨x.id, f.epoch, true, (max 0 f.granted), x.sealed, joinTo x.taken f.taken f.taken.length, x.next⟩) (x := ⟨x.id, x.epoch, x.live, x.granted, x.sealed, joinTo x.taken f.taken f.taken.length, x.next⟩) H9.out.rd rfl rfl rfl rfl rfl rfl rfl) rfl
      go_wp2
      refine bodyPost_ret (results_row_tmp Try.results34 _ _ (w.heap.size + 1 + 1) _ _ _ _ rfl H9.out.res.setRow Try.underlying25 rfl infoAgT) rfl ?_
      rw [HV.out]
      exact HE
    · have HV : Hid (x.hear f = (⟨x.id, f.epoch, true, max x.granted f.granted, x.sealed, joinTo x.taken f.taken f.taken.length, x.next⟩, 0)) := by
        have e : f.epoch = x.epoch := by have := HLE.out; omega
        show _ = _
        unfold Ag.hear
        rw [if_neg (by rw [HK.out.2.2.2]; simp), if_neg (by omega), if_pos ⟨HK2.out, e⟩, e]
      go_wp2_with fail
      refine (turnedAck2 x.id x.epoch x.granted x.next f.epoch f.granted x.live q1 p r1 k1 l g _ (by omega)).mono ?_
      rintro r w9 ⟨rfl, hb9⟩
      have H9 : Hid (HearI w #[.int .i64 x.id, .int .i64 x.epoch, .bool x.live, .int .i64 x.granted, .slice a1 n1 c1, .slice a2 n2 c2, .int .i64 x.next] #[.int .i64 f.kind, .int .i64 f.agent, .int .i64 f.epoch, .int .i64 f.granted, .slice bt lt ct, .int .i64 f.item.seq, .int .i64 f.item.cls, .int .i64 f.item.key, .int .i64 f.item.window, .int .i64 f.item.sk.count, .int .i64 f.item.sk.sum, .int .i64 f.item.sk.min, .int .i64 f.item.sk.max, .slice b1 m1 e1, .slice b2 m2 e2, .slice b3 m3 e3] L #[.int .i64 x.id, .int .i64 x.epoch, .bool x.live, .int .i64 x.granted, .slice q1 r1 k1, .slice p l g, .int .i64 x.next] ⟨x.id, x.epoch, x.live, x.granted, x.sealed, joinTo x.taken f.taken f.taken.length, x.next⟩ F Gj w9) := H8.out.below hb9
      clear hb9 H8
      go_wp2_with (first | go_skip | (with_reducible refine stopStore 25 rfl ?_))
      refine store_known 25 (w.heap.size + 1 + 1) _ #[.int .i64 x.id, .int .i64 f.epoch, .bool true, .int .i64 (max x.granted f.granted), .slice q1 r1 k1, .slice p l g, .int .i64 x.next] 25 H9.out.res rfl rfl rfl rfl infoAgT rfl (by simp [Value.oneCell']) ?_
      have HE := H9.out.put (c := 0) (rdAg_other (y := ⟨x.id, f.epoch, true, (max x.granted f.granted), x.sealed, joinTo x.taken f.taken f.taken.length, x.next⟩) (x := ⟨x.id, x.epoch, x.live, x.granted, x.sealed, joinTo x.taken f.taken f.taken.length, x.next⟩) H9.out.rd rfl rfl rfl rfl rfl rfl rfl) rfl
      go_wp2
      refine bodyPost_ret (results_row_tmp Try.results34 _ _ (w.heap.size + 1 + 1) _ _ _ _ rfl H9.out.res.setRow Try.underlying25 rfl infoAgT) rfl ?_
      rw [HV.out]
      exact HE
  · have hnv : newsVal f = .iface 120 (.agg #[.int .i64 f.epoch]) := by unfold newsVal; rw [if_neg h2]
    rw [hnv]
    have HK2 : Hid (f.kind = 3) := (by show _ = _; omega)
    have hM := methodR f.epoch
    clear hnv h2 HKI
    go_wp2_with fail
    have H5 : Hid (HearI w #[.int .i64 x.id, .int .i64 x.epoch, .bool x.live, .int .i64 x.granted, .slice a1 n1 c1, .slice a2 n2 c2, .int .i64 x.next] #[.int .i64 f.kind, .int .i64 f.agent, .int .i64 f.epoch, .int .i64 f.granted, .slice bt lt ct, .int .i64 f.item.seq, .int .i64 f.item.cls, .int .i64 f.item.key, .int .i64 f.item.window, .int .i64 f.item.sk.count, .int .i64 f.item.sk.sum, .int .i64 f.item.sk.min, .int .i64 f.item.sk.max, .slice b1 m1 e1, .slice b2 m2 e2, .slice b3 m3 e3] L #[.int .i64 x.id, .int .i64 x.epoch, .bool x.live, .int .i64 x.granted, .slice q1 r1 k1, .slice q2 r2 k2, .int .i64 x.next] x F G w4.drew) := H4.out.below (Below.refl _ _).drew
    obtain ⟨Y0, hY0⟩ : ∃ Y, Y = w4.drew := ⟨_, rfl⟩
    rw [← hY0] at H5
    clear H4
    refine wp_region_held (S := fun W => Blk W w.heap.size #[.int .i64 x.id, .int .i64 x.epoch, .bool x.live, .int .i64 x.granted, .slice a1 n1 c1, .slice a2 n2 c2, .int .i64 x.next] 25) (by kernel_rfl) ?_
    change wpAnyH _ _ _ _ _ _ _ _ (World.drew _)
    rw [← hY0]
    clear hY0
    refine takeH (o := ?o24y) 0 (.iface 120 (.agg #[.int .i64 f.epoch])) ?h24y ?r24y
    case h24y => simp only [aT, aZ]; rfl
    refine ⟨_, by simp [Act.put]; rfl, by kernel_rfl, by kernel_rfl, by kernel_rfl, fun _ _ _ h => h, (.inl ⟨rfl, fun W _ => by kernel_rfl⟩), H5.out.box, ?_⟩
    refine takeH (o := ?o25y) 2 (.pointer (some ⟨w.heap.size, 1, none⟩)) ?h25y ?r25y
    case h25y => simp only [aT, aS, aZ]; rfl
    refine ⟨_, by simp [Act.put]; rfl, by kernel_rfl, by kernel_rfl, by kernel_rfl, fun _ _ _ h => h, (.inl ⟨rfl, fun W _ => by kernel_rfl⟩), H5.out.box, ?_⟩
    refine takeH (o := ?o26y) 3 (.int .i64 x.epoch) ?h26y ?r26y
    case h26y => simp only [aT, aS, aZ]; rfl
    refine ⟨_, by simp [Act.put]; rfl, by kernel_rfl, by kernel_rfl, by kernel_rfl, fun _ _ _ h => h, (.inl ⟨rfl, fun W hW => by have c := hW.cell 1; simp only [aT, aS, aZ] at c; go_simp⟩), H5.out.box, ?_⟩
    refine onlyH (o := ?o27y) 1 (by kernel_rfl) ?h27y ?r27y
    case h27y => simp only [aT, aS, aZ]; rfl
    intro K hK
    refine op_invoke0 _ _ 120 (.agg #[.int .i64 f.epoch]) 132 Try.f132 (fun v w' => v = .int .i64 f.epoch ∧ Below Y0.heap.size Y0 w') rfl rfl rfl (methodR f.epoch) Try.func132 (by kernel_rfl) (by kernel_rfl) ((resetOf_any f.epoch Y0).mono (by rintro e w' ⟨rfl, k1⟩; exact ⟨_, rfl, rfl, k1⟩)) ?_
    rintro vr w5 ⟨rfl, rb⟩
    have H6 : Hid (HearI w #[.int .i64 x.id, .int .i64 x.epoch, .bool x.live, .int .i64 x.granted, .slice a1 n1 c1, .slice a2 n2 c2, .int .i64 x.next] #[.int .i64 f.kind, .int .i64 f.agent, .int .i64 f.epoch, .int .i64 f.granted, .slice bt lt ct, .int .i64 f.item.seq, .int .i64 f.item.cls, .int .i64 f.item.key, .int .i64 f.item.window, .int .i64 f.item.sk.count, .int .i64 f.item.sk.sum, .int .i64 f.item.sk.min, .int .i64 f.item.sk.max, .slice b1 m1 e1, .slice b2 m2 e2, .slice b3 m3 e3] L #[.int .i64 x.id, .int .i64 x.epoch, .bool x.live, .int .i64 x.granted, .slice q1 r1 k1, .slice q2 r2 k2, .int .i64 x.next] x F G w5) := H5.out.below rb
    refine ⟨_, by simp [Act.put]; rfl, hK _ _ ⟨H6.out.box, ?_⟩⟩
    clear hK rb H5
    refine takeH (o := ?o28y) 4 (.bool (decide (f.epoch < x.epoch))) ?h28y ?r28y
    case h28y => simp only [aT, aS, aZ]; rfl
    refine ⟨_, by simp [Act.put]; rfl, by kernel_rfl, by kernel_rfl, by kernel_rfl, fun _ _ _ h => h, (.inl ⟨rfl, fun W _ => by go_simp⟩), H6.out.box, ?_⟩
    refine wpAnyH_done (by kernel_rfl) ?_ _
    by_cases h3 : f.epoch < x.epoch
    · have hz : decide (f.epoch < x.epoch) = true := dec_true h3
      have HV : Hid (x.hear f = (x, 2)) := by show _ = _; unfold Ag.hear; rw [if_neg (by rw [HK.out.2.2.2]; simp), if_pos h3]
      rw [hz]
      clear h3 hz
      go_wp2_with (first | go_skip | (with_reducible refine stopLoad 25 rfl ?_))
      refine load_known 25 L _ 25 _ H6.out.loc rfl rfl rfl Try.underlying25 rfl infoAgT ?_
      go_wp2_with (first | go_skip | (with_reducible refine stopStore 25 rfl ?_))
      refine store_known 25 (w.heap.size + 1 + 1) _ #[.int .i64 x.id, .int .i64 x.epoch, .bool x.live, .int .i64 x.granted, .slice q1 r1 k1, .slice q2 r2 k2, .int .i64 x.next] 25 H6.out.res rfl rfl rfl rfl infoAgT rfl (by simp [Value.oneCell']) ?_
      have HE := H6.out.put (c := 2) H6.out.rd rfl
      go_wp2
      refine bodyPost_ret (results_row_tmp Try.results34 _ _ (w.heap.size + 1 + 1) _ _ _ _ rfl H6.out.res.setRow Try.underlying25 rfl infoAgT) rfl ?_
      rw [HV.out]
      exact HE
    have hz : decide (f.epoch < x.epoch) = false := dec_false h3
    rw [hz]
    have HLE : Hid (x.epoch ≤ f.epoch) := by show _ ≤ _; omega
    have c5 := H6.out.box.cell 5
    have k4 := H6.out.fr.cell 4
    simp only [aT, aS, aZ] at c5 k4
    clear hz h3
    go_wp2_with fail
    refine (joinImpl_any a2 bt n2 lt c2 ct x.taken f.taken G0 F' _ (HX.out.2.1.below H6.out.bel) (HF.out.2.1.below H6.out.bel) HF.out.2.2 HX.out.2.2).mono ?_
    rintro e w7 ⟨p, l, g, Gj, rfl, gj, oj, hb7, cj⟩
    have HJ : Hid (x.taken.join f.taken = joinTo x.taken f.taken f.taken.length) := Sp.join_yes (by have q := HK.out.2.1; unfold Ag.ok at q; simp only [Bool.and_eq_true] at q; exact q.1.1.2.1) HK.out.2.2.1
    have H7 : Hid (HearI w #[.int .i64 x.id, .int .i64 x.epoch, .bool x.live, .int .i64 x.granted, .slice a1 n1 c1, .slice a2 n2 c2, .int .i64 x.next] #[.int .i64 f.kind, .int .i64 f.agent, .int .i64 f.epoch, .int .i64 f.granted, .slice bt lt ct, .int .i64 f.item.seq, .int .i64 f.item.cls, .int .i64 f.item.key, .int .i64 f.item.window, .int .i64 f.item.sk.count, .int .i64 f.item.sk.sum, .int .i64 f.item.sk.min, .int .i64 f.item.sk.max, .slice b1 m1 e1, .slice b2 m2 e2, .slice b3 m3 e3] L #[.int .i64 x.id, .int .i64 x.epoch, .bool x.live, .int .i64 x.granted, .slice q1 r1 k1, .slice q2 r2 k2, .int .i64 x.next] x F G w7 ∧ RdP w7 p l (joinTo x.taken f.taken f.taken.length) Gj ∧ Own (L + 1) w7 Gj ∧ Capd p l g) := ⟨H6.out.below hb7, by rw [← HJ.out]; exact gj, oj.mono H6.out.loc.lt, cj⟩
    have l5 := H7.out.1.loc.cell 5
    have f5 := H7.out.1.loc.frozen 5
    simp only [aT, aS, aZ] at l5
    clear gj oj hb7 cj HJ H6 c5 k4
    go_wp2_with (first | go_skip | (with_reducible refine stopLoad 25 rfl ?_))
    have H8 : Hid (HearI w #[.int .i64 x.id, .int .i64 x.epoch, .bool x.live, .int .i64 x.granted, .slice a1 n1 c1, .slice a2 n2 c2, .int .i64 x.next] #[.int .i64 f.kind, .int .i64 f.agent, .int .i64 f.epoch, .int .i64 f.granted, .slice bt lt ct, .int .i64 f.item.seq, .int .i64 f.item.cls, .int .i64 f.item.key, .int .i64 f.item.window, .int .i64 f.item.sk.count, .int .i64 f.item.sk.sum, .int .i64 f.item.sk.min, .int .i64 f.item.sk.max, .slice b1 m1 e1, .slice b2 m2 e2, .slice b3 m3 e3] L #[.int .i64 x.id, .int .i64 x.epoch, .bool x.live, .int .i64 x.granted, .slice q1 r1 k1, .slice p l g, .int .i64 x.next] ⟨x.id, x.epoch, x.live, x.granted, x.sealed, joinTo x.taken f.taken f.taken.length, x.next⟩ F Gj (w7.setCell ⟨L, 5, none⟩ (.slice p l g))) := by
      have gL := H7.out.1.gL
      have nF : L ∉ F := fun hx => by have := H7.out.1.lF L hx; omega
      have nG : L ∉ Gj := fun hx => by have := H7.out.2.2.1.ge L hx; omega
      obtain ⟨s1, s2, s3, s4, s5, s6, es, g1, g2, g3, g4⟩ := H7.out.1.rd
      injection es with es
      injection es with es
      simp at es
      obtain ⟨es1, es2⟩ := es
      obtain ⟨rfl, rfl, rfl⟩ := es1
      exact ⟨H7.out.1.box.setOther (by omega) 5 _, H7.out.1.fr.setOther (by omega) 5 _, H7.out.1.res.setOther (by omega) 5 _, H7.out.1.bel.setCell (by show w.heap.size ≤ L; omega) _, H7.out.1.loc.set 5 _, ⟨_, _, _, _, _, _, rfl, g1.agree (.set nF 5 _), H7.out.2.1.agree (.set nG 5 _), g3, H7.out.2.2.2⟩, H7.out.1.oF.agree (.set nF 5 _), (H7.out.2.2.1.agree (.set nG 5 _)).mono (by omega), fun b hb hx => by have := H7.out.1.lF b hb; have := H7.out.2.2.1.ge b hx; omega, gL, H7.out.1.lF⟩
    obtain ⟨w8, hw8⟩ : ∃ W, W = w7.setCell ⟨L, 5, none⟩ (.slice p l g) := ⟨_, rfl⟩
    rw [← hw8] at H8 ⊢
    clear hw8 H7 l5 f5
    refine load_known 25 L _ 25 _ H8.out.loc rfl rfl rfl Try.underlying25 rfl infoAgT ?_
    have HV : Hid (x.hear f = (⟨x.id, f.epoch, false, 0, x.sealed, joinTo x.taken f.taken f.taken.length, x.next⟩, 0)) := by
      have hn : ¬ f.kind = 2 := by have := HK2.out; omega
      have := HLE.out
      show _ = _
      unfold Ag.hear
      rw [if_neg (by rw [HK.out.2.2.2]; simp), if_neg (by omega), if_neg (fun e => hn e.1), decide_eq_false hn, if_neg hn]
    go_wp2_with fail
    refine (turnedReset x.id x.epoch x.granted x.next f.epoch x.live q1 p r1 k1 l g _).mono ?_
    rintro r w9 ⟨rfl, hb9⟩
    have H9 : Hid (HearI w #[.int .i64 x.id, .int .i64 x.epoch, .bool x.live, .int .i64 x.granted, .slice a1 n1 c1, .slice a2 n2 c2, .int .i64 x.next] #[.int .i64 f.kind, .int .i64 f.agent, .int .i64 f.epoch, .int .i64 f.granted, .slice bt lt ct, .int .i64 f.item.seq, .int .i64 f.item.cls, .int .i64 f.item.key, .int .i64 f.item.window, .int .i64 f.item.sk.count, .int .i64 f.item.sk.sum, .int .i64 f.item.sk.min, .int .i64 f.item.sk.max, .slice b1 m1 e1, .slice b2 m2 e2, .slice b3 m3 e3] L #[.int .i64 x.id, .int .i64 x.epoch, .bool x.live, .int .i64 x.granted, .slice q1 r1 k1, .slice p l g, .int .i64 x.next] ⟨x.id, x.epoch, x.live, x.granted, x.sealed, joinTo x.taken f.taken f.taken.length, x.next⟩ F Gj w9) := H8.out.below hb9
    clear hb9 H8
    go_wp2_with (first | go_skip | (with_reducible refine stopStore 25 rfl ?_))
    refine store_known 25 (w.heap.size + 1 + 1) _ #[.int .i64 x.id, .int .i64 f.epoch, .bool false, .int .i64 0, .slice q1 r1 k1, .slice p l g, .int .i64 x.next] 25 H9.out.res rfl rfl rfl rfl infoAgT rfl (by simp [Value.oneCell']) ?_
    have HE := H9.out.put (c := 0) (rdAg_other (y := ⟨x.id, f.epoch, false, 0, x.sealed, joinTo x.taken f.taken f.taken.length, x.next⟩) (x := ⟨x.id, x.epoch, x.live, x.granted, x.sealed, joinTo x.taken f.taken f.taken.length, x.next⟩) H9.out.rd rfl rfl rfl rfl rfl rfl rfl) rfl
    go_wp2
    refine bodyPost_ret (results_row_tmp Try.results34 _ _ (w.heap.size + 1 + 1) _ _ _ _ rfl H9.out.res.setRow Try.underlying25 rfl infoAgT) rfl ?_
    rw [HV.out]
    exact HE
end Go.Proofs.Ytjndcfamfminkar
/- What is read is no longer than it may be. No statement of the seat is proved here. -/
namespace Go.Proofs.Ytjndcfamfminkar
open Go.RowKit
theorem Var.only' {W W' : World} {lo hi g lo' hi' : Nat} {cs : Array Value} {s : Sk} {F G : List Nat} (h : Var W lo hi g cs s F) (o : Only G W W') (kl : ∀ b ∈ G, b < hi') (kg : ∀ b ∈ G, lo' ≤ b) (hd : hi ≤ lo' ∨ hi' ≤ lo) : Var W' lo hi g cs s F := by
  have ap : ∀ b ∈ F, b ∉ G := fun b hb hg => by have := h.lt b hb; have := h.own.ge b hb; have := kl b hg; have := kg b hg; omega
  exact ⟨h.blk.agree (o.block g h.blk.lt (fun hg => by have := h.ge; have := h.glt; have := kl g hg; have := kg g hg; omega)), h.rd.agree (o.agree h.rd.lt ap), h.sz, h.own.agree (o.agree h.rd.lt ap), h.lt, h.ge, h.glt, h.apart⟩
end Go.Proofs.Ytjndcfamfminkar
/- What the laws over agents take of Seal, Waiting, AgentSend and AgentHear. No statement of the seat is proved here. -/
namespace Go.Proofs.Ytjndcfamfminkar
open Go.RowKit
def NewA2 (w : World) (z : Ag × Int) (e : Ending) (w' : World) : Prop := ∃ v F, e = .returned (.tuple #[v, .int .i64 z.2]) ∧ RdA w' v z.1 F ∧ Own w.heap.size w' F ∧ Below w.heap.size w w'
theorem NewAg2.toA {w : World} {z : Ag × Int} {e : Ending} {w' : World} (h : NewAg2 w z e w') : NewA2 w z e w' := by
  obtain ⟨v, F, G, c, rfl, r, rfl, o, p, d, b⟩ := h
  exact ⟨v, F ++ G, rfl, ⟨F, G, rfl, r⟩, o.app p d, b⟩
theorem seal_wide {x : Ag} {s : Sk} (c k n : Int) (hx : x.fits) (hs : s.size ≤ 1048576) : (x.seal c k n s).1.wide ∧ 0 ≤ (x.seal c k n s).1.many ∧ (x.seal c k n s).1.many ≤ 16777216 := by
  have h1 := hx.many
  have h0 := x.many_nonneg
  unfold Ag.seal
  split
  · rename_i hc
    have hl : x.sealed.length + 1 ≤ 60 := by
      have q := hc.2
      unfold It.ok Ag.item at q
      simp only [Bool.and_eq_true, decide_eq_true_eq] at q
      omega
    have hsm : 0 ≤ s.many ∧ s.many ≤ 1048576 := many_fits hs
    have e : (x.plus (x.item c k n s)).many = x.many + (8 + s.many) := by
      show itsMany (x.sealed ++ [x.item c k n s]) + 2 * x.taken.length = itsMany x.sealed + 2 * x.taken.length + (8 + s.many)
      rw [itsMany_append]
      have : itsMany [x.item c k n s] = 8 + s.many := by show (8 + s.many) + 0 = _; omega
      omega
    refine ⟨⟨fun y hy => ?_, ?_, by have := hx.len.2; show x.taken.length ≤ _; omega⟩, by rw [e]; omega, by rw [e]; omega⟩
    · rcases List.mem_append.1 (show y ∈ x.sealed ++ [x.item c k n s] from hy) with h | h
      · exact (hx.each y h).wide
      · obtain rfl : y = x.item c k n s := by simpa using h
        exact (Sk.fits_of hs).wide
    · show (x.sealed ++ [x.item c k n s]).length ≤ 1048576
      rw [List.length_append]
      simp
      omega
  · exact ⟨hx.wide, h0, by show x.many ≤ _; omega⟩
theorem hear_wide {x : Ag} {f : Fr} (hx : x.fits) (hf : f.taken.length ≤ 1048576) : (x.hear f).1.wide ∧ 0 ≤ (x.hear f).1.many ∧ (x.hear f).1.many ≤ 16777216 := by
  have h1 := hx.many
  have h0 := x.many_nonneg
  have hj : (joinTo x.taken f.taken f.taken.length).length ≤ 2097152 := by have := joinTo_length (ps := x.taken) (qs := f.taken) f.taken.length (Nat.le_refl _); have := hx.len.2; omega
  have hi := itsMany_nonneg x.sealed
  have hm : itsMany x.sealed ≤ 8388608 := by unfold Ag.many at h1; omega
  unfold Ag.hear
  split
  · exact ⟨hx.wide, h0, by show x.many ≤ _; omega⟩
  · split
    · exact ⟨hx.wide, h0, by show x.many ≤ _; omega⟩
    · split
      · exact ⟨⟨hx.wide.1, hx.wide.2.1, hj⟩, by show 0 ≤ itsMany x.sealed + 2 * ((joinTo x.taken f.taken f.taken.length).length : Int); omega, by show itsMany x.sealed + 2 * ((joinTo x.taken f.taken f.taken.length).length : Int) ≤ _; omega⟩
      · exact ⟨⟨hx.wide.1, hx.wide.2.1, hj⟩, by show 0 ≤ itsMany x.sealed + 2 * ((joinTo x.taken f.taken f.taken.length).length : Int); omega, by show itsMany x.sealed + 2 * ((joinTo x.taken f.taken f.taken.length).length : Int) ≤ _; omega⟩
def NewAF (w : World) (z : Ag × Fr) (e : Ending) (w' : World) : Prop := ∃ v u F G, e = .returned (.tuple #[v, u]) ∧ RdA w' v z.1 F ∧ RdF w' u z.2 G ∧ Own w.heap.size w' F ∧ Own w.heap.size w' G ∧ (∀ b ∈ F, b ∉ G) ∧ Below w.heap.size w w'
theorem NewAgFr.toA {w : World} {z : Ag × Fr} {e : Ending} {w' : World} (h : NewAgFr w z e w') : NewAF w z e w' := by
  obtain ⟨v, u, F, G, F', G', rfl, r, r', o, p, o', p', d, d', dd, b⟩ := h
  exact ⟨v, u, F ++ G, F' ++ G', rfl, ⟨F, G, rfl, r⟩, ⟨F', G', rfl, r'⟩, o.app p d, o'.app p' d', dd, b⟩
theorem getD_itm {xs : List It} (j : Nat) : xs.getD j It.zero ∈ xs ∨ xs.getD j It.zero = It.zero := by
  by_cases h : j < xs.length
  · left; rw [List.getD_eq_getElem?_getD, List.getElem?_eq_getElem h]; exact List.getElem_mem h
  · right; rw [List.getD_eq_getElem?_getD, List.getElem?_eq_none (by omega)]; rfl
theorem send_wide {x : Ag} (hx : x.fits) : x.send.1.wide ∧ 0 ≤ x.send.1.many ∧ x.send.1.many ≤ 16777216 ∧ x.send.2.wide ∧ 0 ≤ x.send.2.many ∧ x.send.2.many ≤ 16777216 := by
  have h1 := hx.many
  have h0 := x.many_nonneg
  have hz : It.zero.sk.wide := ⟨by simp [It.zero, Sk.zero], by simp [It.zero, Sk.zero], by simp [It.zero, Sk.zero], by simp [It.zero, Sk.zero]⟩
  have hzm : It.zero.sk.many = 0 := by simp [It.zero, Sk.zero, Sk.many, sumLen]
  unfold Ag.send
  split
  · refine ⟨hx.wide, h0, by show x.many ≤ _; omega, ⟨hz, by simp [Fr.none0]⟩, ?_, ?_⟩ <;> simp [Fr.none0, Fr.many, hzm]
  · split
    · refine ⟨hx.wide, h0, by show x.many ≤ _; omega, ⟨hz, by simp⟩, ?_, ?_⟩ <;> simp [Fr.many, hzm]
    · have hj := getD_itm (xs := x.sealed) (turnOf x.waits x.next - 1).toNat
      generalize x.sealed.getD (turnOf x.waits x.next - 1).toNat It.zero = y at hj
      have hy : y.sk.wide ∧ 0 ≤ y.sk.many ∧ y.sk.many ≤ 1048576 := by
        rcases hj with hj | rfl
        · have q := itsSize_mem hj
          have hh := hx
          unfold Ag.fits Ag.size at hh
          have m := many_fits (s := y.sk) (by omega)
          exact ⟨(hx.each y hj).wide, m.1, m.2⟩
        · exact ⟨hz, by omega, by omega⟩
      exact ⟨hx.wide, h0, by show x.many ≤ _; omega, ⟨hy.1, by simp⟩, by simp [Fr.many]; exact hy.2.1, by simp [Fr.many]; omega⟩
set_option maxRecDepth 200000 in
theorem sealSpecA_any (v u : Value) (x : Ag) (c k n : Int) (s : Sk) (F H : List Nat) (w : World) (h : RdA w v x F) (hu : RdSk w u s H) (hf : x.fits) (hs : s.fits) :
    Calls Try.prog 15 #[v, .int .i64 c, .int .i64 k, .int .i64 n, u] w fun e w' => NewA2 w (x.seal c k n s) e w' := by
  obtain ⟨F1, F2, rfl, h⟩ := h
  exact (sealSpec_any v u x c k n s F1 F2 H w h hu hf.each hf.len.1 hf.len.2 hs).mono fun _ _ h => h.toA
set_option maxRecDepth 200000 in
theorem sealImplA_any (v u : Value) (x : Ag) (c k n : Int) (s : Sk) (F H : List Nat) (w : World) (h : RdA w v x F) (hu : RdSk w u s H) (hf : x.fits) (hs : s.fits) :
    Calls Try.prog 18 #[v, .int .i64 c, .int .i64 k, .int .i64 n, u] w fun e w' => NewA2 w (x.seal c k n s) e w' := by
  obtain ⟨F1, F2, rfl, h⟩ := h
  exact (sealImpl_any v u x c k n s F1 F2 H w h hu hf.each hf.len.1 hf.len.2 hs).mono fun _ _ h => h.toA
set_option maxRecDepth 200000 in
theorem hearSpecA_any (v u : Value) (x : Ag) (f : Fr) (F G : List Nat) (w : World) (h : RdA w v x F) (k : RdF w u f G) (hf : x.fits) (kf : f.fits) :
    Calls Try.prog 32 #[v, u] w fun e w' => NewA2 w (x.hear f) e w' := by
  obtain ⟨F1, F2, rfl, h⟩ := h
  obtain ⟨G1, G2, rfl, k⟩ := k
  exact (agentHear_any v u x f F1 F2 G1 G2 w h k hf.each hf.len.1 hf.len.2 kf.wide.1 kf.2).mono fun _ _ h => h.toA
set_option maxRecDepth 200000 in
theorem hearImplA_any (v u : Value) (x : Ag) (f : Fr) (F G : List Nat) (w : World) (h : RdA w v x F) (k : RdF w u f G) (hf : x.fits) (kf : f.fits) :
    Calls Try.prog 34 #[v, u] w fun e w' => NewA2 w (x.hear f) e w' := by
  obtain ⟨F1, F2, rfl, h⟩ := h
  obtain ⟨G1, G2, rfl, k⟩ := k
  exact (hearImpl_any v u x f F1 F2 G1 G2 w h k hf.each hf.len.1 hf.len.2 kf.wide.1 kf.2).mono fun _ _ h => h.toA
set_option maxRecDepth 200000 in
theorem sendSpecA_any (v : Value) (x : Ag) (F : List Nat) (w : World) (h : RdA w v x F) (hf : x.fits) :
    Calls Try.prog 26 #[v] w fun e w' => NewAF w x.send e w' := by
  obtain ⟨F1, F2, rfl, h⟩ := h
  exact (sendSpec_any v x F1 F2 w h hf.each hf.len.1 hf.len.2).mono fun _ _ h => h.toA
set_option maxRecDepth 200000 in
theorem sendImplA_any (v : Value) (x : Ag) (F : List Nat) (w : World) (h : RdA w v x F) (hf : x.fits) :
    Calls Try.prog 27 #[v] w fun e w' => NewAF w x.send e w' := by
  obtain ⟨F1, F2, rfl, h⟩ := h
  exact (sendImpl_any v x F1 F2 w h hf.each hf.len.1 hf.len.2).mono fun _ _ h => h.toA
set_option maxRecDepth 200000 in
theorem waitSpecA_any (v : Value) (x : Ag) (F : List Nat) (w : World) (h : RdA w v x F) (hf : x.fits) :
    Calls Try.prog 21 #[v] w fun e w' => ∃ a len cap F', e = .returned (.slice a len cap) ∧ RdI w' a len x.waits F' ∧ Own w.heap.size w' F' ∧ Below w.heap.size w w' := by
  obtain ⟨F1, F2, rfl, h⟩ := h
  refine (waiting_any v x F1 F2 w h (fun y hy => (hf.each y hy).wide) hf.len.1 hf.len.2).mono ?_
  rintro e w' ⟨⟨u, rfl, hown⟩, hb⟩
  obtain ⟨a, cap, F', rfl, r, o⟩ := rdI_of_own hown
  exact ⟨a, _, cap, F', rfl, r, o, hb⟩
set_option maxRecDepth 200000 in
theorem waitImplA_any (v : Value) (x : Ag) (F : List Nat) (w : World) (h : RdA w v x F) (hf : x.fits) :
    Calls Try.prog 22 #[v] w fun e w' => ∃ a len cap F', e = .returned (.slice a len cap) ∧ RdI w' a len x.waits F' ∧ Own w.heap.size w' F' ∧ Below w.heap.size w w' := by
  obtain ⟨F1, F2, rfl, h⟩ := h
  refine (waitingImpl_any v x F1 F2 w h (fun y hy => (hf.each y hy).wide) hf.len.1 hf.len.2).mono ?_
  rintro e w' ⟨⟨u, rfl, hown⟩, hb⟩
  obtain ⟨a, cap, F', rfl, r, o⟩ := rdI_of_own hown
  exact ⟨a, _, cap, F', rfl, r, o, hb⟩
theorem VarA.apartOnly {W W' : World} {lo hi g : Nat} {cs : Array Value} {s : Ag} {F G : List Nat} (h : VarA W lo hi g cs s F) (o : Only G W W') (d : ∀ b ∈ F, b ∉ G) (e : g ∉ G) : VarA W' lo hi g cs s F :=
  ⟨h.blk.agree (o.block g h.blk.lt e), h.rd.agree (o.agree h.rd.lt d), h.sz, h.own.agree (o.agree h.rd.lt d), h.lt, h.ge, h.glt, h.apart⟩
theorem VarA.row' {W : World} {lo hi g X : Nat} {cs : Array Value} {s : Ag} {F : List Nat} (h : VarA W lo hi g cs s F) (hX : hi ≤ X) (ds : Array Value) : VarA (W.setRow X ds) lo hi g cs s F := by
  have ag : Agree W (W.setRow X ds) F := Agree.row (fun hx => by have := h.lt _ hx; omega) _
  exact ⟨h.blk.setRowOther (by have := h.glt; omega), h.rd.agree ag, h.sz, h.own.agree ag, h.lt, h.ge, h.glt, h.apart⟩
theorem VarF.apartOnly {W W' : World} {lo hi g : Nat} {cs : Array Value} {s : Fr} {F G : List Nat} (h : VarF W lo hi g cs s F) (o : Only G W W') (d : ∀ b ∈ F, b ∉ G) (e : g ∉ G) : VarF W' lo hi g cs s F :=
  ⟨h.blk.agree (o.block g h.blk.lt e), h.rd.agree (o.agree h.rd.lt d), h.sz, h.own.agree (o.agree h.rd.lt d), h.lt, h.ge, h.glt, h.apart⟩
theorem VarF.row' {W : World} {lo hi g X : Nat} {cs : Array Value} {s : Fr} {F : List Nat} (h : VarF W lo hi g cs s F) (hX : hi ≤ X) (ds : Array Value) : VarF (W.setRow X ds) lo hi g cs s F := by
  have ag : Agree W (W.setRow X ds) F := Agree.row (fun hx => by have := h.lt _ hx; omega) _
  exact ⟨h.blk.setRowOther (by have := h.glt; omega), h.rd.agree ag, h.sz, h.own.agree ag, h.lt, h.ge, h.glt, h.apart⟩
section
variable {P : Program} {ops : Array Oper} {Q : Exit → Act → World → Prop} {a : Act} {w : World} {o : Oper} {K : Act → World → Prop}
theorem op_call5v (f : FuncId) (x y p q r : Operand) (ts : Array TypeId) (fn : Func) (R : Value → World → Prop) (hw : Region.wanted o (yielded ops a.tmps) = true) (ho : o.op = Op.call { callee := Callee.value (Operand.func f), args := #[x, y, p, q, r], argTypes := ts })
    (hfn : P.funcs[f]? = some fn) (hnm : (fn.name == "runtime.NumGoroutine") = false) (hbd : fn.body.isNone = false) (hc : Calls P f #[a.eval x, a.eval y, a.eval p, a.eval q, a.eval r] w fun e w' => ∃ v, e = .returned v ∧ R v w') (h : ∀ v w', R v w' → ∃ a', a.put o.dst v = a' ∧ K a' w') : if Region.wanted o (yielded ops a.tmps) = true then Oper.wp P o a w K Q else K (a.put o.dst undef) w := by
  rw [if_pos hw]
  have hnm' : ¬ fn.name = "runtime.NumGoroutine" := by simpa using hnm
  have hbd' : ¬ fn.body = none := by intro e; rw [e] at hbd; cases hbd
  unfold Oper.wp
  simp only [execOp, ho, resolve, invoke, Oper.upon, go_sem]
  simp [callFunc, hfn, hnm', hbd', go_sem]
  simp [Act.eval, go_sem] at hc
  refine Calls.mono hc ?_
  rintro e w1 ⟨v, rfl, hR⟩
  obtain ⟨_, rfl, hk⟩ := h v w1 hR
  exact hk
end
theorem waits_len (x : Ag) : x.waits.length ≤ 60 := by
  unfold Ag.waits
  split
  · rename_i h
    have q := Ag.ok_granted h.1
    have q2 := waitTo_len x.taken x.upTo
    unfold Ag.upTo at q2 ⊢
    omega
  · simp
end Go.Proofs.Ytjndcfamfminkar
