/- For every two entries (no condition): laws.FnExactEntryAdd returns true, and its arguments read afterwards as they did: the program's EntryAdd answers as the model's, writes nothing into its arguments, and its answer owns its memory. -/
import Derived.Test.YtbmbmnhamogghapB3
import Derived.Test.YtbmbmnhamogghapRows
import Derived.WalkKit
import Derived.ProofKit
import Derived.OpenShut
import Derived.ShutString
import Derived.ChangeOld
import Derived.Below
import Derived.Deep.DeepCutAuto
namespace Go.Proofs.Ytbmbmnhamogghap.fnExactEntryAdd
open Go.ChangeShapes Go.WideShapes Go.ChangeAt Go.RowKit
set_option linter.unusedVariables false
theorem own : ownKnob Try.prog.godebug = none := by kernel_rfl
set_option maxRecDepth 200000 in
set_option maxHeartbeats 8000000 in
theorem walk (v0 u0 : Value) (s t : En) (F G : List Nat) (w : World) (h : RdE w v0 s F) (k : RdE w u0 t G) (hv : s.vast) (kv : t.vast) :
    Calls Try.prog 5 #[v0, u0] w fun e w' => e = .returned (.bool true) ∧ Below w.heap.size w w' := by
  have HH : Hid ((RdE w v0 s F ∧ s.vast) ∧ (RdE w u0 t G ∧ t.vast)) := ⟨⟨h, hv⟩, ⟨k, kv⟩⟩
  obtain ⟨cs0, rfl, hc7, hone⟩ := h.cells
  obtain ⟨cs1, rfl, hd7, hone'⟩ := k.cells
  have HC : Hid (cs0.size = 10 ∧ cs1.size = 10) := ⟨hc7, hd7⟩
  have HT := two_made w cs0 cs1 28 28
  have BX0 : Hid (Blk ((w.alloc (.cells cs0 28)).alloc (.cells cs1 28)) w.heap.size cs0 28) := HT.1
  have BX1 : Hid (Blk ((w.alloc (.cells cs0 28)).alloc (.cells cs1 28)) (w.heap.size + 1) cs1 28) := HT.2.1
  have BEL : Hid (Below w.heap.size w ((w.alloc (.cells cs0 28)).alloc (.cells cs1 28))) := HT.2.2
  clear h k hv kv hc7 hone hd7 hone' HT
  go_enter Try.func5, Try.ntmps5
  go_wp2_with (first | go_skip | (with_reducible refine stopLoad 28 rfl ?_) | (with_reducible refine stopLoad 34 rfl ?_) | (with_reducible refine stopStore 34 rfl ?_))
  refine load_any 28 w.heap.size cs0 28 _ BX0.out rfl rfl rfl Try.underlying28 rfl (lenSize HC.out.1) ?_
  go_wp2_with fail
  refine (szE_vast _ s F 1048576 _ (HH.out.1.1.below BEL.out) HH.out.1.2 (by omega) (by omega)).mono ?_
  rintro e w1 ⟨⟨r, rfl, ra, rb, rc⟩, hb1⟩
  have BEL : Hid (Below w.heap.size w w1) := Below.next BEL.out hb1
  have BX0 : Hid (Blk w1 w.heap.size cs0 28) := BX0.out.below hb1
  have BX1 : Hid (Blk w1 (w.heap.size + 1) cs1 28) := BX1.out.below hb1
  by_cases q : r < 0
  · clear ra rb rc hb1
    go_wp2
    go_ret
    exact ⟨rfl, BEL.out⟩
  have q' : 0 ≤ r := by omega
  have q2 : r ≤ 1048576 := ra
  have HSZ1 : Hid (s.ids.length + s.sk.size ≤ 1048576) := by have := rb q'; show _ ≤ _; omega
  have HSZR : Hid (r + s.ids.length ≤ 1048576) := by have := rb q'; have := Sk.size_nonneg s.sk; show _ ≤ _; omega
  have HF1 : Hid (s.fits) := En.fits_sz HSZ1.out
  clear ra rb rc hb1 q
  go_wp2_with (first | go_skip | (with_reducible refine stopLoad 28 rfl ?_) | (with_reducible refine stopLoad 34 rfl ?_) | (with_reducible refine stopStore 34 rfl ?_))
  refine load_any 28 (w.heap.size + 1) cs1 28 _ BX1.out rfl rfl rfl Try.underlying28 rfl (lenSize HC.out.2) ?_
  go_wp2_with fail
  refine (szE_vast _ t G r _ (HH.out.2.1.below BEL.out) HH.out.2.2 q' q2).mono ?_
  rintro e w2 ⟨⟨r2, rfl, ra, rb, rc⟩, hb2⟩
  have BEL : Hid (Below w.heap.size w w2) := Below.next BEL.out hb2
  have BX0 : Hid (Blk w2 w.heap.size cs0 28) := BX0.out.below hb2
  have BX1 : Hid (Blk w2 (w.heap.size + 1) cs1 28) := BX1.out.below hb2
  by_cases q : r2 < 0
  · clear ra rb rc hb2
    go_wp2
    go_ret
    exact ⟨rfl, BEL.out⟩
  have p' : 0 ≤ r2 := by omega
  have HSZ2 : Hid (t.ids.length + t.sk.size ≤ 1048576) := by have := rb p'; have := Sk.size_nonneg t.sk; show _ ≤ _; omega
  have HSZ3 : Hid (s.ids.length + t.ids.length ≤ 1048576) := by have := rb p'; have := HSZR.out; show _ ≤ _; omega
  have HF2 : Hid (t.fits) := En.fits_sz HSZ2.out
  clear ra rb rc hb2 q
  have HM : Hid ((s.addR t).wide) := addR_wide HF1.out HF2.out HSZ3.out
  have LB : Hid (w.heap.size + 1 < w2.heap.size) := BX1.out.lt
  have OW : Hid (w.heap.size + 1 < w2.heap.size) := LB
  go_upto_region 8 with fail
  go_cut [6, 7] (fun a6 a7 wx => ∃ (g : Nat) (cs : Array Value) (X : List Nat), a6 = .pointer (some ⟨g, 0, none⟩) ∧ a7 = .bool (s.addOk t) ∧ Below w2.heap.size w2 wx ∧ VarE wx w2.heap.size wx.heap.size g cs (s.addR t) X)
  case first =>
    have HS : Hid (EnBoxes w.heap.size cs0 cs1 w2.drew) := ⟨BX0.out.drew, BX1.out.drew⟩
    refine wp_region_held (S := EnBoxes w.heap.size cs0 cs1) (by kernel_rfl) ?_
    change wpAnyH _ _ _ _ _ _ _ _ (World.drew _)
    refine takeH (o := ?o1) 0 (.agg cs0) ?h1 ?r1
    case h1 => simp only [List.getElem?_toArray, List.getElem?_cons_zero]; rfl
    refine ⟨_, by simp [Act.put]; rfl, by kernel_rfl, by kernel_rfl, by kernel_rfl, fun _ _ _ h => h, (yields_whole 28 w.heap.size cs0 28 _ rfl rfl rfl Try.underlying28 rfl (lenSize HC.out.1) (fun W hW => hW.1)), HS.out, ?_⟩
    refine takeH (o := ?o2) 2 (.agg cs1) ?h2 ?r2
    case h2 => simp only [List.getElem?_toArray, List.getElem?_cons_succ, List.getElem?_cons_zero]; rfl
    refine ⟨_, by simp [Act.put]; rfl, by kernel_rfl, by kernel_rfl, by kernel_rfl, fun _ _ _ h => h, (yields_whole 28 (w.heap.size + 1) cs1 28 _ rfl rfl rfl Try.underlying28 rfl (lenSize HC.out.2) (fun W hW => hW.2)), HS.out, ?_⟩
    have BZ : Hid (Below w.heap.size w w2.drew) := BEL.out.drew
    have BS : Hid (Below w2.heap.size w2 w2.drew) := (Below.refl _ _).drew
    have HSN : Hid (EnBoxes w.heap.size cs0 cs1 w2.drew) := HS.out
    have L2 : Hid (w.heap.size + 1 < w2.heap.size) := BX1.out.lt
    refine twoH (o := ?o3) (o' := ?p3) 1 8 (by kernel_rfl) ?h3 ?g3 ?r3 ?s3
    case h3 => simp only [List.getElem?_toArray, List.getElem?_cons_succ, List.getElem?_cons_zero]; rfl
    case g3 => simp only [List.getElem?_toArray, List.getElem?_cons_succ, List.getElem?_cons_zero]; rfl
    case r3 =>
      intro K hK
      refine op_call1 11 _ _ Try.f11 (fun v w' => ∃ X, RdE w' v s X ∧ Own w2.drew.heap.size w' X ∧ Below w2.drew.heap.size w2.drew w') rfl rfl Try.func11 (by kernel_rfl) (by kernel_rfl) ((toE_any _ s F w2.drew (HH.out.1.1.below BZ.out) HF1.out).mono (by rintro e w' ⟨v, X, rfl, h1, h2, h3⟩; exact ⟨_, rfl, X, h1, h2, h3⟩)) ?_
      rintro z0 Y4 ⟨X0, rz, oz, bz⟩
      refine ⟨_, by simp [Act.put]; rfl, hK _ _ ⟨HSN.out.below bz, ?_⟩⟩
      have BZ : Hid (Below w.heap.size w Y4) := Below.next BZ.out bz
      have BS : Hid (Below w2.heap.size w2 Y4) := Below.next BS.out bz
      have HSN : Hid (EnBoxes w.heap.size cs0 cs1 Y4) := HSN.out.below bz
      have T0 : Hid (RdE Y4 z0 s X0) := rz
      clear hK rz oz bz
      refine twoH (o := ?o5) (o' := ?p5) 3 8 (by kernel_rfl) ?h5 ?g5 ?r5 ?s5
      case h5 => simp only [List.getElem?_toArray, List.getElem?_cons_succ, List.getElem?_cons_zero]; rfl
      case g5 => simp only [List.getElem?_toArray, List.getElem?_cons_succ, List.getElem?_cons_zero]; rfl
      case r5 =>
        intro K hK
        refine op_call1 11 _ _ Try.f11 (fun v w' => ∃ X, RdE w' v t X ∧ Own Y4.heap.size w' X ∧ Below Y4.heap.size Y4 w') rfl rfl Try.func11 (by kernel_rfl) (by kernel_rfl) ((toE_any _ t G Y4 (HH.out.2.1.below BZ.out) HF2.out).mono (by rintro e w' ⟨v, X, rfl, h1, h2, h3⟩; exact ⟨_, rfl, X, h1, h2, h3⟩)) ?_
        rintro z1 Y6 ⟨X1, rz, oz, bz⟩
        refine ⟨_, by simp [Act.put]; rfl, hK _ _ ⟨HSN.out.below bz, ?_⟩⟩
        have BZ : Hid (Below w.heap.size w Y6) := Below.next BZ.out bz
        have BS : Hid (Below w2.heap.size w2 Y6) := Below.next BS.out bz
        have HSN : Hid (EnBoxes w.heap.size cs0 cs1 Y6) := HSN.out.below bz
        have T0 : Hid (RdE Y6 z0 s X0) := T0.out.below bz
        have T1 : Hid (RdE Y6 z1 t X1) := rz
        clear hK rz oz bz
        refine twoH (o := ?o7) (o' := ?p7) 4 8 (by kernel_rfl) ?h7 ?g7 ?r7 ?s7
        case h7 => simp only [List.getElem?_toArray, List.getElem?_cons_succ, List.getElem?_cons_zero]; rfl
        case g7 => simp only [List.getElem?_toArray, List.getElem?_cons_succ, List.getElem?_cons_zero]; rfl
        case r7 =>
          intro K hK
          have LS0 : Hid (w2.heap.size ≤ Y6.heap.size) := BS.out.size
          refine op_call2' 22 _ _ _ Try.f22 (fun v w' => ∃ r X, v = .tuple #[.agg r, .bool (s.addOk t)] ∧ r.size = 10 ∧ r.all (·.oneCell') = true ∧ RdE w' (.agg r) (s.addR t) X ∧ Own Y6.heap.size w' X ∧ Below Y6.heap.size Y6 w') rfl rfl Try.func22 (by kernel_rfl) (by kernel_rfl) ((addSpecE_any z0 z1 s t X0 X1 Y6 T0.out T1.out HF1.out.wide HF2.out.wide).mono (by rintro e w' ⟨v, X, rfl, h1, h2, h3⟩; obtain ⟨r, rfl, h7, h8⟩ := h1.cells; exact ⟨_, rfl, r, X, rfl, h7, h8, h1, h2, h3⟩)) ?_
          rintro _ Y8 ⟨rr, XR, rfl, r7, r8, rz, oz, bz⟩
          refine ⟨_, by simp [Act.put]; rfl, hK _ _ ⟨HSN.out.below bz, ?_⟩⟩
          have BZ : Hid (Below w.heap.size w Y8) := Below.next BZ.out bz
          have BS : Hid (Below w2.heap.size w2 Y8) := Below.next BS.out bz
          have HSN : Hid (EnBoxes w.heap.size cs0 cs1 Y8) := HSN.out.below bz
          have TR : Hid (RdE Y8 (.agg rr) (s.addR t) XR ∧ Own Y6.heap.size Y8 XR ∧ rr.size = 10 ∧ rr.all (·.oneCell') = true) := ⟨rz, oz, r7, r8⟩
          have LW : Hid (Y6.heap.size ≤ Y8.heap.size) := bz.size
          clear hK rz oz bz r7 r8
          refine takeH (o := ?o9) 5 (.tuple #[.agg rr, .bool (s.addOk t)]) ?h9 ?r9
          case h9 => simp only [List.getElem?_toArray, List.getElem?_cons_succ, List.getElem?_cons_zero]; rfl
          refine ⟨_, by simp [Act.put]; rfl, by kernel_rfl, by kernel_rfl, by kernel_rfl, fun _ _ _ h => h, (.inl ⟨rfl, fun W _ => by go_simp⟩), HSN.out, ?_⟩
          refine takeH (o := ?o10) 6 (.agg rr) ?h10 ?r10
          case h10 => simp only [List.getElem?_toArray, List.getElem?_cons_succ, List.getElem?_cons_zero]; rfl
          refine ⟨_, by simp [Act.put]; rfl, by kernel_rfl, by kernel_rfl, by kernel_rfl, fun _ _ _ h => h, (.inl ⟨rfl, fun W _ => by go_simp⟩), HSN.out, ?_⟩
          refine takeH (o := ?o11) 7 (.bool (s.addOk t)) ?h11 ?r11
          case h11 => simp only [List.getElem?_toArray, List.getElem?_cons_succ, List.getElem?_cons_zero]; rfl
          refine ⟨_, by simp [Act.put]; rfl, by kernel_rfl, by kernel_rfl, by kernel_rfl, fun _ _ _ h => h, (.inl ⟨rfl, fun W _ => by go_simp⟩), HSN.out, ?_⟩
          refine onlyH (o := ?o12) 8 (by kernel_rfl) ?h12 ?r12
          case h12 => simp only [List.getElem?_toArray, List.getElem?_cons_succ, List.getElem?_cons_zero]; rfl
          intro K hK
          refine op_turn (.pointer (some ⟨Y8.heap.size, 0, none⟩)) (Y8.alloc (.cells #[.int .i64 0, .int .i64 0, .slice none 0 0, .int .i64 0, .int .i64 0, .int .i64 0, .int .i64 0, .slice none 0 0, .slice none 0 0, .slice none 0 0] 34)) rfl (by go_simp) ⟨_, by simp [Act.put]; rfl, hK _ _ ⟨HSN.out.below ((Below.refl _ _).alloc (Nat.le_refl _) _), ?_⟩⟩
          clear hK
          obtain ⟨Y13, hWn⟩ : ∃ W, W = Y8.alloc (.cells #[.int .i64 0, .int .i64 0, .slice none 0 0, .int .i64 0, .int .i64 0, .int .i64 0, .int .i64 0, .slice none 0 0, .slice none 0 0, .slice none 0 0] 34) := ⟨_, rfl⟩
          have hbn : Below Y8.heap.size Y8 Y13 := by rw [hWn]; exact (Below.refl _ _).alloc (Nat.le_refl _) _
          have GB : Hid (Blk Y13 Y8.heap.size #[.int .i64 0, .int .i64 0, .slice none 0 0, .int .i64 0, .int .i64 0, .int .i64 0, .int .i64 0, .slice none 0 0, .slice none 0 0, .slice none 0 0] 34) := by rw [hWn]; exact Blk.made _ _ _
          rw [← hWn]
          clear hWn
          have BZ : Hid (Below w.heap.size w Y13) := Below.next BZ.out hbn
          have BS : Hid (Below w2.heap.size w2 Y13) := Below.next BS.out hbn
          have HSN : Hid (EnBoxes w.heap.size cs0 cs1 Y13) := HSN.out.below hbn
          have TR2 : Hid (RdE Y13 (.agg rr) (s.addR t) XR ∧ Own w2.heap.size Y13 XR ∧ (∀ b ∈ XR, b < Y13.heap.size) ∧ Y8.heap.size ∉ XR) := ⟨TR.out.1.below hbn, (TR.out.2.1.below TR.out.1.lt hbn).mono LS0.out, (TR.out.1.below hbn).lt, fun hx => by have := TR.out.1.lt _ hx; omega⟩
          have GX : Hid (w2.heap.size ≤ Y8.heap.size) := Nat.le_trans LS0.out LW.out
          clear hbn
          refine onlyH (o := ?o14) 9 (by kernel_rfl) ?h14 ?r14
          case h14 => simp only [List.getElem?_toArray, List.getElem?_cons_succ, List.getElem?_cons_zero]; rfl
          intro K hK
          refine op_store 34 Y8.heap.size #[.int .i64 0, .int .i64 0, .slice none 0 0, .int .i64 0, .int .i64 0, .int .i64 0, .int .i64 0, .slice none 0 0, .slice none 0 0, .slice none 0 0] rr 34 rfl rfl rfl rfl GB.out (enSize TR.out.2.2.1) TR.out.2.2.1.symm TR.out.2.2.2 ⟨_, by simp [Act.put]; rfl, hK _ _ ⟨HSN.out.setRow (by have := GX.out; have := L2.out; omega), ?_⟩⟩
          clear hK
          refine onlyH (o := ?o15) 10 (by kernel_rfl) ?h15 ?r15
          case h15 => simp only [List.getElem?_toArray, List.getElem?_cons_succ, List.getElem?_cons_zero]; rfl
          intro K hK
          refine op_value (.bool (s.addOk t)) rfl (by go_simp) ⟨_, by simp [Act.put]; rfl, hK _ _ ⟨HSN.out.setRow (by have := GX.out; have := L2.out; omega), ?_⟩⟩
          clear hK
          refine wpAnyH_done (by kernel_rfl) ?_ _
          go_wp2_with fail
          go_meet
          case rel => exact ⟨Y8.heap.size, rr, XR, rfl, rfl, below_setRow BS.out GX.out _, varE_stored GB.out TR2.out.1 TR.out.2.2.1 TR2.out.2.1 TR2.out.2.2.1 GX.out TR2.out.2.2.2⟩
        case s7 =>
          intro K hK
          have GX : Hid (w2.heap.size ≤ Y6.heap.size) := BS.out.size
          refine op_turn (.pointer (some ⟨Y6.heap.size, 0, none⟩)) (Y6.alloc (.cells #[.int .i64 0, .int .i64 0, .slice none 0 0, .int .i64 0, .int .i64 0, .int .i64 0, .int .i64 0, .slice none 0 0, .slice none 0 0, .slice none 0 0] 34)) rfl (by go_simp) ⟨_, by simp [Act.put]; rfl, hK _ _ ⟨HSN.out.below ((Below.refl _ _).alloc (Nat.le_refl _) _), ?_⟩⟩
          clear hK
          obtain ⟨Y16, hWn⟩ : ∃ W, W = Y6.alloc (.cells #[.int .i64 0, .int .i64 0, .slice none 0 0, .int .i64 0, .int .i64 0, .int .i64 0, .int .i64 0, .slice none 0 0, .slice none 0 0, .slice none 0 0] 34) := ⟨_, rfl⟩
          have hbn : Below Y6.heap.size Y6 Y16 := by rw [hWn]; exact (Below.refl _ _).alloc (Nat.le_refl _) _
          have GB : Hid (Blk Y16 Y6.heap.size #[.int .i64 0, .int .i64 0, .slice none 0 0, .int .i64 0, .int .i64 0, .int .i64 0, .int .i64 0, .slice none 0 0, .slice none 0 0, .slice none 0 0] 34) := by rw [hWn]; exact Blk.made _ _ _
          rw [← hWn]
          clear hWn
          have BZ : Hid (Below w.heap.size w Y16) := Below.next BZ.out hbn
          have BS : Hid (Below w2.heap.size w2 Y16) := Below.next BS.out hbn
          have HSN : Hid (EnBoxes w.heap.size cs0 cs1 Y16) := HSN.out.below hbn
          have T0 : Hid (RdE Y16 z0 s X0) := T0.out.below hbn
          have T1 : Hid (RdE Y16 z1 t X1) := T1.out.below hbn
          have GL : Hid (Y6.heap.size < Y16.heap.size) := GB.out.lt
          clear hbn
          refine onlyH (o := ?o17) 4 (by kernel_rfl) ?h17 ?r17
          case h17 => simp only [List.getElem?_toArray, List.getElem?_cons_succ, List.getElem?_cons_zero]; rfl
          intro K hK
          have LS0 : Hid (w2.heap.size ≤ Y16.heap.size) := BS.out.size
          have GLT : Hid (Y6.heap.size < Y16.heap.size) := GB.out.lt
          refine op_call2' 22 _ _ _ Try.f22 (fun v w' => ∃ r X, v = .tuple #[.agg r, .bool (s.addOk t)] ∧ r.size = 10 ∧ r.all (·.oneCell') = true ∧ RdE w' (.agg r) (s.addR t) X ∧ Own Y16.heap.size w' X ∧ Below Y16.heap.size Y16 w') rfl rfl Try.func22 (by kernel_rfl) (by kernel_rfl) ((addSpecE_any z0 z1 s t X0 X1 Y16 T0.out T1.out HF1.out.wide HF2.out.wide).mono (by rintro e w' ⟨v, X, rfl, h1, h2, h3⟩; obtain ⟨r, rfl, h7, h8⟩ := h1.cells; exact ⟨_, rfl, r, X, rfl, h7, h8, h1, h2, h3⟩)) ?_
          rintro _ Y18 ⟨rr, XR, rfl, r7, r8, rz, oz, bz⟩
          refine ⟨_, by simp [Act.put]; rfl, hK _ _ ⟨HSN.out.below bz, ?_⟩⟩
          have BZ : Hid (Below w.heap.size w Y18) := Below.next BZ.out bz
          have BS : Hid (Below w2.heap.size w2 Y18) := Below.next BS.out bz
          have HSN : Hid (EnBoxes w.heap.size cs0 cs1 Y18) := HSN.out.below bz
          have GB : Hid (Blk Y18 Y6.heap.size #[.int .i64 0, .int .i64 0, .slice none 0 0, .int .i64 0, .int .i64 0, .int .i64 0, .int .i64 0, .slice none 0 0, .slice none 0 0, .slice none 0 0] 34) := GB.out.below bz
          have TR : Hid (RdE Y18 (.agg rr) (s.addR t) XR ∧ Own Y16.heap.size Y18 XR ∧ rr.size = 10 ∧ rr.all (·.oneCell') = true) := ⟨rz, oz, r7, r8⟩
          have LW : Hid (Y16.heap.size ≤ Y18.heap.size) := bz.size
          clear hK rz oz bz r7 r8
          refine takeH (o := ?o19) 5 (.tuple #[.agg rr, .bool (s.addOk t)]) ?h19 ?r19
          case h19 => simp only [List.getElem?_toArray, List.getElem?_cons_succ, List.getElem?_cons_zero]; rfl
          refine ⟨_, by simp [Act.put]; rfl, by kernel_rfl, by kernel_rfl, by kernel_rfl, fun _ _ _ h => h, (.inl ⟨rfl, fun W _ => by go_simp⟩), HSN.out, ?_⟩
          refine takeH (o := ?o20) 6 (.agg rr) ?h20 ?r20
          case h20 => simp only [List.getElem?_toArray, List.getElem?_cons_succ, List.getElem?_cons_zero]; rfl
          refine ⟨_, by simp [Act.put]; rfl, by kernel_rfl, by kernel_rfl, by kernel_rfl, fun _ _ _ h => h, (.inl ⟨rfl, fun W _ => by go_simp⟩), HSN.out, ?_⟩
          refine takeH (o := ?o21) 7 (.bool (s.addOk t)) ?h21 ?r21
          case h21 => simp only [List.getElem?_toArray, List.getElem?_cons_succ, List.getElem?_cons_zero]; rfl
          refine ⟨_, by simp [Act.put]; rfl, by kernel_rfl, by kernel_rfl, by kernel_rfl, fun _ _ _ h => h, (.inl ⟨rfl, fun W _ => by go_simp⟩), HSN.out, ?_⟩
          have TR2 : Hid (RdE Y18 (.agg rr) (s.addR t) XR ∧ Own w2.heap.size Y18 XR ∧ (∀ b ∈ XR, b < Y18.heap.size) ∧ Y6.heap.size ∉ XR) := ⟨TR.out.1, TR.out.2.1.mono LS0.out, TR.out.1.lt, fun hx => by have := TR.out.2.1.ge _ hx; have := GLT.out; omega⟩
          refine onlyH (o := ?o22) 9 (by kernel_rfl) ?h22 ?r22
          case h22 => simp only [List.getElem?_toArray, List.getElem?_cons_succ, List.getElem?_cons_zero]; rfl
          intro K hK
          refine op_store 34 Y6.heap.size #[.int .i64 0, .int .i64 0, .slice none 0 0, .int .i64 0, .int .i64 0, .int .i64 0, .int .i64 0, .slice none 0 0, .slice none 0 0, .slice none 0 0] rr 34 rfl rfl rfl rfl GB.out (enSize TR.out.2.2.1) TR.out.2.2.1.symm TR.out.2.2.2 ⟨_, by simp [Act.put]; rfl, hK _ _ ⟨HSN.out.setRow (by have := GX.out; have := L2.out; omega), ?_⟩⟩
          clear hK
          refine onlyH (o := ?o23) 10 (by kernel_rfl) ?h23 ?r23
          case h23 => simp only [List.getElem?_toArray, List.getElem?_cons_succ, List.getElem?_cons_zero]; rfl
          intro K hK
          refine op_value (.bool (s.addOk t)) rfl (by go_simp) ⟨_, by simp [Act.put]; rfl, hK _ _ ⟨HSN.out.setRow (by have := GX.out; have := L2.out; omega), ?_⟩⟩
          clear hK
          refine wpAnyH_done (by kernel_rfl) ?_ _
          go_wp2_with fail
          go_meet
          case rel => exact ⟨Y6.heap.size, rr, XR, rfl, rfl, below_setRow BS.out GX.out _, varE_stored GB.out TR2.out.1 TR.out.2.2.1 TR2.out.2.1 TR2.out.2.2.1 GX.out TR2.out.2.2.2⟩
      case s5 =>
        intro K hK
        have GX : Hid (w2.heap.size ≤ Y4.heap.size) := BS.out.size
        refine op_turn (.pointer (some ⟨Y4.heap.size, 0, none⟩)) (Y4.alloc (.cells #[.int .i64 0, .int .i64 0, .slice none 0 0, .int .i64 0, .int .i64 0, .int .i64 0, .int .i64 0, .slice none 0 0, .slice none 0 0, .slice none 0 0] 34)) rfl (by go_simp) ⟨_, by simp [Act.put]; rfl, hK _ _ ⟨HSN.out.below ((Below.refl _ _).alloc (Nat.le_refl _) _), ?_⟩⟩
        clear hK
        obtain ⟨Y24, hWn⟩ : ∃ W, W = Y4.alloc (.cells #[.int .i64 0, .int .i64 0, .slice none 0 0, .int .i64 0, .int .i64 0, .int .i64 0, .int .i64 0, .slice none 0 0, .slice none 0 0, .slice none 0 0] 34) := ⟨_, rfl⟩
        have hbn : Below Y4.heap.size Y4 Y24 := by rw [hWn]; exact (Below.refl _ _).alloc (Nat.le_refl _) _
        have GB : Hid (Blk Y24 Y4.heap.size #[.int .i64 0, .int .i64 0, .slice none 0 0, .int .i64 0, .int .i64 0, .int .i64 0, .int .i64 0, .slice none 0 0, .slice none 0 0, .slice none 0 0] 34) := by rw [hWn]; exact Blk.made _ _ _
        rw [← hWn]
        clear hWn
        have BZ : Hid (Below w.heap.size w Y24) := Below.next BZ.out hbn
        have BS : Hid (Below w2.heap.size w2 Y24) := Below.next BS.out hbn
        have HSN : Hid (EnBoxes w.heap.size cs0 cs1 Y24) := HSN.out.below hbn
        have T0 : Hid (RdE Y24 z0 s X0) := T0.out.below hbn
        have GL : Hid (Y4.heap.size < Y24.heap.size) := GB.out.lt
        clear hbn
        refine onlyH (o := ?o25) 3 (by kernel_rfl) ?h25 ?r25
        case h25 => simp only [List.getElem?_toArray, List.getElem?_cons_succ, List.getElem?_cons_zero]; rfl
        intro K hK
        refine op_call1 11 _ _ Try.f11 (fun v w' => ∃ X, RdE w' v t X ∧ Own Y24.heap.size w' X ∧ Below Y24.heap.size Y24 w') rfl rfl Try.func11 (by kernel_rfl) (by kernel_rfl) ((toE_any _ t G Y24 (HH.out.2.1.below BZ.out) HF2.out).mono (by rintro e w' ⟨v, X, rfl, h1, h2, h3⟩; exact ⟨_, rfl, X, h1, h2, h3⟩)) ?_
        rintro z1 Y26 ⟨X1, rz, oz, bz⟩
        refine ⟨_, by simp [Act.put]; rfl, hK _ _ ⟨HSN.out.below bz, ?_⟩⟩
        have BZ : Hid (Below w.heap.size w Y26) := Below.next BZ.out bz
        have BS : Hid (Below w2.heap.size w2 Y26) := Below.next BS.out bz
        have HSN : Hid (EnBoxes w.heap.size cs0 cs1 Y26) := HSN.out.below bz
        have T0 : Hid (RdE Y26 z0 s X0) := T0.out.below bz
        have GB : Hid (Blk Y26 Y4.heap.size #[.int .i64 0, .int .i64 0, .slice none 0 0, .int .i64 0, .int .i64 0, .int .i64 0, .int .i64 0, .slice none 0 0, .slice none 0 0, .slice none 0 0] 34) := GB.out.below bz
        have T1 : Hid (RdE Y26 z1 t X1) := rz
        clear hK rz oz bz
        refine onlyH (o := ?o27) 4 (by kernel_rfl) ?h27 ?r27
        case h27 => simp only [List.getElem?_toArray, List.getElem?_cons_succ, List.getElem?_cons_zero]; rfl
        intro K hK
        have LS0 : Hid (w2.heap.size ≤ Y26.heap.size) := BS.out.size
        have GLT : Hid (Y4.heap.size < Y26.heap.size) := GB.out.lt
        refine op_call2' 22 _ _ _ Try.f22 (fun v w' => ∃ r X, v = .tuple #[.agg r, .bool (s.addOk t)] ∧ r.size = 10 ∧ r.all (·.oneCell') = true ∧ RdE w' (.agg r) (s.addR t) X ∧ Own Y26.heap.size w' X ∧ Below Y26.heap.size Y26 w') rfl rfl Try.func22 (by kernel_rfl) (by kernel_rfl) ((addSpecE_any z0 z1 s t X0 X1 Y26 T0.out T1.out HF1.out.wide HF2.out.wide).mono (by rintro e w' ⟨v, X, rfl, h1, h2, h3⟩; obtain ⟨r, rfl, h7, h8⟩ := h1.cells; exact ⟨_, rfl, r, X, rfl, h7, h8, h1, h2, h3⟩)) ?_
        rintro _ Y28 ⟨rr, XR, rfl, r7, r8, rz, oz, bz⟩
        refine ⟨_, by simp [Act.put]; rfl, hK _ _ ⟨HSN.out.below bz, ?_⟩⟩
        have BZ : Hid (Below w.heap.size w Y28) := Below.next BZ.out bz
        have BS : Hid (Below w2.heap.size w2 Y28) := Below.next BS.out bz
        have HSN : Hid (EnBoxes w.heap.size cs0 cs1 Y28) := HSN.out.below bz
        have GB : Hid (Blk Y28 Y4.heap.size #[.int .i64 0, .int .i64 0, .slice none 0 0, .int .i64 0, .int .i64 0, .int .i64 0, .int .i64 0, .slice none 0 0, .slice none 0 0, .slice none 0 0] 34) := GB.out.below bz
        have TR : Hid (RdE Y28 (.agg rr) (s.addR t) XR ∧ Own Y26.heap.size Y28 XR ∧ rr.size = 10 ∧ rr.all (·.oneCell') = true) := ⟨rz, oz, r7, r8⟩
        have LW : Hid (Y26.heap.size ≤ Y28.heap.size) := bz.size
        clear hK rz oz bz r7 r8
        refine takeH (o := ?o29) 5 (.tuple #[.agg rr, .bool (s.addOk t)]) ?h29 ?r29
        case h29 => simp only [List.getElem?_toArray, List.getElem?_cons_succ, List.getElem?_cons_zero]; rfl
        refine ⟨_, by simp [Act.put]; rfl, by kernel_rfl, by kernel_rfl, by kernel_rfl, fun _ _ _ h => h, (.inl ⟨rfl, fun W _ => by go_simp⟩), HSN.out, ?_⟩
        refine takeH (o := ?o30) 6 (.agg rr) ?h30 ?r30
        case h30 => simp only [List.getElem?_toArray, List.getElem?_cons_succ, List.getElem?_cons_zero]; rfl
        refine ⟨_, by simp [Act.put]; rfl, by kernel_rfl, by kernel_rfl, by kernel_rfl, fun _ _ _ h => h, (.inl ⟨rfl, fun W _ => by go_simp⟩), HSN.out, ?_⟩
        refine takeH (o := ?o31) 7 (.bool (s.addOk t)) ?h31 ?r31
        case h31 => simp only [List.getElem?_toArray, List.getElem?_cons_succ, List.getElem?_cons_zero]; rfl
        refine ⟨_, by simp [Act.put]; rfl, by kernel_rfl, by kernel_rfl, by kernel_rfl, fun _ _ _ h => h, (.inl ⟨rfl, fun W _ => by go_simp⟩), HSN.out, ?_⟩
        have TR2 : Hid (RdE Y28 (.agg rr) (s.addR t) XR ∧ Own w2.heap.size Y28 XR ∧ (∀ b ∈ XR, b < Y28.heap.size) ∧ Y4.heap.size ∉ XR) := ⟨TR.out.1, TR.out.2.1.mono LS0.out, TR.out.1.lt, fun hx => by have := TR.out.2.1.ge _ hx; have := GLT.out; omega⟩
        refine onlyH (o := ?o32) 9 (by kernel_rfl) ?h32 ?r32
        case h32 => simp only [List.getElem?_toArray, List.getElem?_cons_succ, List.getElem?_cons_zero]; rfl
        intro K hK
        refine op_store 34 Y4.heap.size #[.int .i64 0, .int .i64 0, .slice none 0 0, .int .i64 0, .int .i64 0, .int .i64 0, .int .i64 0, .slice none 0 0, .slice none 0 0, .slice none 0 0] rr 34 rfl rfl rfl rfl GB.out (enSize TR.out.2.2.1) TR.out.2.2.1.symm TR.out.2.2.2 ⟨_, by simp [Act.put]; rfl, hK _ _ ⟨HSN.out.setRow (by have := GX.out; have := L2.out; omega), ?_⟩⟩
        clear hK
        refine onlyH (o := ?o33) 10 (by kernel_rfl) ?h33 ?r33
        case h33 => simp only [List.getElem?_toArray, List.getElem?_cons_succ, List.getElem?_cons_zero]; rfl
        intro K hK
        refine op_value (.bool (s.addOk t)) rfl (by go_simp) ⟨_, by simp [Act.put]; rfl, hK _ _ ⟨HSN.out.setRow (by have := GX.out; have := L2.out; omega), ?_⟩⟩
        clear hK
        refine wpAnyH_done (by kernel_rfl) ?_ _
        go_wp2_with fail
        go_meet
        case rel => exact ⟨Y4.heap.size, rr, XR, rfl, rfl, below_setRow BS.out GX.out _, varE_stored GB.out TR2.out.1 TR.out.2.2.1 TR2.out.2.1 TR2.out.2.2.1 GX.out TR2.out.2.2.2⟩
    case s3 =>
      intro K hK
      have GX : Hid (w2.heap.size ≤ w2.drew.heap.size) := BS.out.size
      refine op_turn (.pointer (some ⟨w2.drew.heap.size, 0, none⟩)) (w2.drew.alloc (.cells #[.int .i64 0, .int .i64 0, .slice none 0 0, .int .i64 0, .int .i64 0, .int .i64 0, .int .i64 0, .slice none 0 0, .slice none 0 0, .slice none 0 0] 34)) rfl (by go_simp) ⟨_, by simp [Act.put]; rfl, hK _ _ ⟨HSN.out.below ((Below.refl _ _).alloc (Nat.le_refl _) _), ?_⟩⟩
      clear hK
      obtain ⟨Y34, hWn⟩ : ∃ W, W = w2.drew.alloc (.cells #[.int .i64 0, .int .i64 0, .slice none 0 0, .int .i64 0, .int .i64 0, .int .i64 0, .int .i64 0, .slice none 0 0, .slice none 0 0, .slice none 0 0] 34) := ⟨_, rfl⟩
      have hbn : Below w2.drew.heap.size w2.drew Y34 := by rw [hWn]; exact (Below.refl _ _).alloc (Nat.le_refl _) _
      have GB : Hid (Blk Y34 w2.drew.heap.size #[.int .i64 0, .int .i64 0, .slice none 0 0, .int .i64 0, .int .i64 0, .int .i64 0, .int .i64 0, .slice none 0 0, .slice none 0 0, .slice none 0 0] 34) := by rw [hWn]; exact Blk.made _ _ _
      rw [← hWn]
      clear hWn
      have BZ : Hid (Below w.heap.size w Y34) := Below.next BZ.out hbn
      have BS : Hid (Below w2.heap.size w2 Y34) := Below.next BS.out hbn
      have HSN : Hid (EnBoxes w.heap.size cs0 cs1 Y34) := HSN.out.below hbn
      have GL : Hid (w2.drew.heap.size < Y34.heap.size) := GB.out.lt
      clear hbn
      refine onlyH (o := ?o35) 1 (by kernel_rfl) ?h35 ?r35
      case h35 => simp only [List.getElem?_toArray, List.getElem?_cons_succ, List.getElem?_cons_zero]; rfl
      intro K hK
      refine op_call1 11 _ _ Try.f11 (fun v w' => ∃ X, RdE w' v s X ∧ Own Y34.heap.size w' X ∧ Below Y34.heap.size Y34 w') rfl rfl Try.func11 (by kernel_rfl) (by kernel_rfl) ((toE_any _ s F Y34 (HH.out.1.1.below BZ.out) HF1.out).mono (by rintro e w' ⟨v, X, rfl, h1, h2, h3⟩; exact ⟨_, rfl, X, h1, h2, h3⟩)) ?_
      rintro z0 Y36 ⟨X0, rz, oz, bz⟩
      refine ⟨_, by simp [Act.put]; rfl, hK _ _ ⟨HSN.out.below bz, ?_⟩⟩
      have BZ : Hid (Below w.heap.size w Y36) := Below.next BZ.out bz
      have BS : Hid (Below w2.heap.size w2 Y36) := Below.next BS.out bz
      have HSN : Hid (EnBoxes w.heap.size cs0 cs1 Y36) := HSN.out.below bz
      have GB : Hid (Blk Y36 w2.drew.heap.size #[.int .i64 0, .int .i64 0, .slice none 0 0, .int .i64 0, .int .i64 0, .int .i64 0, .int .i64 0, .slice none 0 0, .slice none 0 0, .slice none 0 0] 34) := GB.out.below bz
      have T0 : Hid (RdE Y36 z0 s X0) := rz
      clear hK rz oz bz
      refine onlyH (o := ?o37) 3 (by kernel_rfl) ?h37 ?r37
      case h37 => simp only [List.getElem?_toArray, List.getElem?_cons_succ, List.getElem?_cons_zero]; rfl
      intro K hK
      refine op_call1 11 _ _ Try.f11 (fun v w' => ∃ X, RdE w' v t X ∧ Own Y36.heap.size w' X ∧ Below Y36.heap.size Y36 w') rfl rfl Try.func11 (by kernel_rfl) (by kernel_rfl) ((toE_any _ t G Y36 (HH.out.2.1.below BZ.out) HF2.out).mono (by rintro e w' ⟨v, X, rfl, h1, h2, h3⟩; exact ⟨_, rfl, X, h1, h2, h3⟩)) ?_
      rintro z1 Y38 ⟨X1, rz, oz, bz⟩
      refine ⟨_, by simp [Act.put]; rfl, hK _ _ ⟨HSN.out.below bz, ?_⟩⟩
      have BZ : Hid (Below w.heap.size w Y38) := Below.next BZ.out bz
      have BS : Hid (Below w2.heap.size w2 Y38) := Below.next BS.out bz
      have HSN : Hid (EnBoxes w.heap.size cs0 cs1 Y38) := HSN.out.below bz
      have GB : Hid (Blk Y38 w2.drew.heap.size #[.int .i64 0, .int .i64 0, .slice none 0 0, .int .i64 0, .int .i64 0, .int .i64 0, .int .i64 0, .slice none 0 0, .slice none 0 0, .slice none 0 0] 34) := GB.out.below bz
      have T0 : Hid (RdE Y38 z0 s X0) := T0.out.below bz
      have T1 : Hid (RdE Y38 z1 t X1) := rz
      clear hK rz oz bz
      refine onlyH (o := ?o39) 4 (by kernel_rfl) ?h39 ?r39
      case h39 => simp only [List.getElem?_toArray, List.getElem?_cons_succ, List.getElem?_cons_zero]; rfl
      intro K hK
      have LS0 : Hid (w2.heap.size ≤ Y38.heap.size) := BS.out.size
      have GLT : Hid (w2.drew.heap.size < Y38.heap.size) := GB.out.lt
      refine op_call2' 22 _ _ _ Try.f22 (fun v w' => ∃ r X, v = .tuple #[.agg r, .bool (s.addOk t)] ∧ r.size = 10 ∧ r.all (·.oneCell') = true ∧ RdE w' (.agg r) (s.addR t) X ∧ Own Y38.heap.size w' X ∧ Below Y38.heap.size Y38 w') rfl rfl Try.func22 (by kernel_rfl) (by kernel_rfl) ((addSpecE_any z0 z1 s t X0 X1 Y38 T0.out T1.out HF1.out.wide HF2.out.wide).mono (by rintro e w' ⟨v, X, rfl, h1, h2, h3⟩; obtain ⟨r, rfl, h7, h8⟩ := h1.cells; exact ⟨_, rfl, r, X, rfl, h7, h8, h1, h2, h3⟩)) ?_
      rintro _ Y40 ⟨rr, XR, rfl, r7, r8, rz, oz, bz⟩
      refine ⟨_, by simp [Act.put]; rfl, hK _ _ ⟨HSN.out.below bz, ?_⟩⟩
      have BZ : Hid (Below w.heap.size w Y40) := Below.next BZ.out bz
      have BS : Hid (Below w2.heap.size w2 Y40) := Below.next BS.out bz
      have HSN : Hid (EnBoxes w.heap.size cs0 cs1 Y40) := HSN.out.below bz
      have GB : Hid (Blk Y40 w2.drew.heap.size #[.int .i64 0, .int .i64 0, .slice none 0 0, .int .i64 0, .int .i64 0, .int .i64 0, .int .i64 0, .slice none 0 0, .slice none 0 0, .slice none 0 0] 34) := GB.out.below bz
      have TR : Hid (RdE Y40 (.agg rr) (s.addR t) XR ∧ Own Y38.heap.size Y40 XR ∧ rr.size = 10 ∧ rr.all (·.oneCell') = true) := ⟨rz, oz, r7, r8⟩
      have LW : Hid (Y38.heap.size ≤ Y40.heap.size) := bz.size
      clear hK rz oz bz r7 r8
      refine takeH (o := ?o41) 5 (.tuple #[.agg rr, .bool (s.addOk t)]) ?h41 ?r41
      case h41 => simp only [List.getElem?_toArray, List.getElem?_cons_succ, List.getElem?_cons_zero]; rfl
      refine ⟨_, by simp [Act.put]; rfl, by kernel_rfl, by kernel_rfl, by kernel_rfl, fun _ _ _ h => h, (.inl ⟨rfl, fun W _ => by go_simp⟩), HSN.out, ?_⟩
      refine takeH (o := ?o42) 6 (.agg rr) ?h42 ?r42
      case h42 => simp only [List.getElem?_toArray, List.getElem?_cons_succ, List.getElem?_cons_zero]; rfl
      refine ⟨_, by simp [Act.put]; rfl, by kernel_rfl, by kernel_rfl, by kernel_rfl, fun _ _ _ h => h, (.inl ⟨rfl, fun W _ => by go_simp⟩), HSN.out, ?_⟩
      refine takeH (o := ?o43) 7 (.bool (s.addOk t)) ?h43 ?r43
      case h43 => simp only [List.getElem?_toArray, List.getElem?_cons_succ, List.getElem?_cons_zero]; rfl
      refine ⟨_, by simp [Act.put]; rfl, by kernel_rfl, by kernel_rfl, by kernel_rfl, fun _ _ _ h => h, (.inl ⟨rfl, fun W _ => by go_simp⟩), HSN.out, ?_⟩
      have TR2 : Hid (RdE Y40 (.agg rr) (s.addR t) XR ∧ Own w2.heap.size Y40 XR ∧ (∀ b ∈ XR, b < Y40.heap.size) ∧ w2.drew.heap.size ∉ XR) := ⟨TR.out.1, TR.out.2.1.mono LS0.out, TR.out.1.lt, fun hx => by have := TR.out.2.1.ge _ hx; have := GLT.out; omega⟩
      refine onlyH (o := ?o44) 9 (by kernel_rfl) ?h44 ?r44
      case h44 => simp only [List.getElem?_toArray, List.getElem?_cons_succ, List.getElem?_cons_zero]; rfl
      intro K hK
      refine op_store 34 w2.drew.heap.size #[.int .i64 0, .int .i64 0, .slice none 0 0, .int .i64 0, .int .i64 0, .int .i64 0, .int .i64 0, .slice none 0 0, .slice none 0 0, .slice none 0 0] rr 34 rfl rfl rfl rfl GB.out (enSize TR.out.2.2.1) TR.out.2.2.1.symm TR.out.2.2.2 ⟨_, by simp [Act.put]; rfl, hK _ _ ⟨HSN.out.setRow (by have := GX.out; have := L2.out; omega), ?_⟩⟩
      clear hK
      refine onlyH (o := ?o45) 10 (by kernel_rfl) ?h45 ?r45
      case h45 => simp only [List.getElem?_toArray, List.getElem?_cons_succ, List.getElem?_cons_zero]; rfl
      intro K hK
      refine op_value (.bool (s.addOk t)) rfl (by go_simp) ⟨_, by simp [Act.put]; rfl, hK _ _ ⟨HSN.out.setRow (by have := GX.out; have := L2.out; omega), ?_⟩⟩
      clear hK
      refine wpAnyH_done (by kernel_rfl) ?_ _
      go_wp2_with fail
      go_meet
      case rel => exact ⟨w2.drew.heap.size, rr, XR, rfl, rfl, below_setRow BS.out GX.out _, varE_stored GB.out TR2.out.1 TR.out.2.2.1 TR2.out.2.1 TR2.out.2.2.1 GX.out TR2.out.2.2.2⟩
  case rest =>
    obtain ⟨gw, cw, Xw, rfl, rfl, hbw, hvar⟩ := hcut
    obtain ⟨w5, hWn⟩ : ∃ W, W = wc := ⟨_, rfl⟩
    rw [← hWn] at hbw hvar ⊢
    clear hWn
    have BEL : Hid (Below w.heap.size w w5) := Below.next BEL.out hbw
    have BX0 : Hid (Blk w5 w.heap.size cs0 28) := BX0.out.below hbw
    have BX1 : Hid (Blk w5 (w.heap.size + 1) cs1 28) := BX1.out.below hbw
    have Vw : Hid (VarE w5 w2.heap.size w5.heap.size gw cw (s.addR t) Xw) := hvar
    clear hvar hbw
    have LB : Hid (w.heap.size + 1 < w5.heap.size) := BX1.out.lt
    go_wp2_with (first | go_skip | (with_reducible refine stopLoad 28 rfl ?_) | (with_reducible refine stopLoad 34 rfl ?_) | (with_reducible refine stopStore 34 rfl ?_))
    refine load_any 28 w.heap.size cs0 28 _ BX0.out rfl rfl rfl Try.underlying28 rfl (lenSize HC.out.1) ?_
    go_wp2_with fail
    refine (toE_any _ s F _ (HH.out.1.1.below BEL.out) HF1.out).mono ?_
    rintro e w6 ⟨zv, Xa, rfl, rz, oz, bz⟩
    obtain ⟨ca, rfl, sza, ona⟩ := rz.cells
    have BEL : Hid (Below w.heap.size w w6) := Below.next BEL.out bz
    have BX0 : Hid (Blk w6 w.heap.size cs0 28) := BX0.out.below bz
    have BX1 : Hid (Blk w6 (w.heap.size + 1) cs1 28) := BX1.out.below bz
    have Vw : Hid (VarE w6 w2.heap.size w5.heap.size gw cw (s.addR t) Xw) := Vw.out.below bz
    have TT : Hid (RdE w6 (.agg ca) s Xa ∧ Own w5.heap.size w6 Xa ∧ Below w5.heap.size w5 w6 ∧ ca.size = 10 ∧ ca.all (·.oneCell') = true) := ⟨rz, oz, bz, sza, ona⟩
    clear rz oz bz sza ona
    go_wp2_with (first | go_skip | (with_reducible refine stopLoad 28 rfl ?_) | (with_reducible refine stopLoad 34 rfl ?_) | (with_reducible refine stopStore 34 rfl ?_))
    refine store_fresh 34 w6.heap.size rfl #[.int .i64 0, .int .i64 0, .slice none 0 0, .int .i64 0, .int .i64 0, .int .i64 0, .int .i64 0, .slice none 0 0, .slice none 0 0, .slice none 0 0] ca 34 rfl rfl rfl rfl (enSize TT.out.2.2.2.1) TT.out.2.2.2.1.symm TT.out.2.2.2.2 ?_
    intro w7 hg hb
    have BEL : Hid (Below w.heap.size w w7) := Below.next BEL.out hb
    have BX0 : Hid (Blk w7 w.heap.size cs0 28) := BX0.out.below hb
    have BX1 : Hid (Blk w7 (w.heap.size + 1) cs1 28) := BX1.out.below hb
    have Vw : Hid (VarE w7 w2.heap.size w5.heap.size gw cw (s.addR t) Xw) := Vw.out.below hb
    have Va : Hid (VarE w7 w5.heap.size w7.heap.size w6.heap.size ca s Xa) := VarE.fresh TT.out.1 TT.out.2.1 TT.out.2.2.1 TT.out.2.2.2.1 hg hb
    have Oa : Hid (w5.heap.size ≤ w7.heap.size ∧ w.heap.size + 1 < w5.heap.size) := ⟨by have := TT.out.2.2.1.size; have := hb.size; omega, LB.out⟩
    clear hg hb TT
    have LB : Hid (w.heap.size + 1 < w7.heap.size) := BX1.out.lt
    go_wp2_with (first | go_skip | (with_reducible refine stopLoad 28 rfl ?_) | (with_reducible refine stopLoad 34 rfl ?_) | (with_reducible refine stopStore 34 rfl ?_))
    refine load_any 28 (w.heap.size + 1) cs1 28 _ BX1.out rfl rfl rfl Try.underlying28 rfl (lenSize HC.out.2) ?_
    go_wp2_with fail
    refine (toE_any _ t G _ (HH.out.2.1.below BEL.out) HF2.out).mono ?_
    rintro e w8 ⟨zv, Xb, rfl, rz, oz, bz⟩
    obtain ⟨cb, rfl, szb, onb⟩ := rz.cells
    have BEL : Hid (Below w.heap.size w w8) := Below.next BEL.out bz
    have BX0 : Hid (Blk w8 w.heap.size cs0 28) := BX0.out.below bz
    have BX1 : Hid (Blk w8 (w.heap.size + 1) cs1 28) := BX1.out.below bz
    have Vw : Hid (VarE w8 w2.heap.size w5.heap.size gw cw (s.addR t) Xw) := Vw.out.below bz
    have Va : Hid (VarE w8 w5.heap.size w7.heap.size w6.heap.size ca s Xa) := Va.out.below bz
    have TT : Hid (RdE w8 (.agg cb) t Xb ∧ Own w7.heap.size w8 Xb ∧ Below w7.heap.size w7 w8 ∧ cb.size = 10 ∧ cb.all (·.oneCell') = true) := ⟨rz, oz, bz, szb, onb⟩
    clear rz oz bz szb onb
    go_wp2_with (first | go_skip | (with_reducible refine stopLoad 28 rfl ?_) | (with_reducible refine stopLoad 34 rfl ?_) | (with_reducible refine stopStore 34 rfl ?_))
    refine store_fresh 34 w8.heap.size rfl #[.int .i64 0, .int .i64 0, .slice none 0 0, .int .i64 0, .int .i64 0, .int .i64 0, .int .i64 0, .slice none 0 0, .slice none 0 0, .slice none 0 0] cb 34 rfl rfl rfl rfl (enSize TT.out.2.2.2.1) TT.out.2.2.2.1.symm TT.out.2.2.2.2 ?_
    intro w9 hg hb
    have BEL : Hid (Below w.heap.size w w9) := Below.next BEL.out hb
    have BX0 : Hid (Blk w9 w.heap.size cs0 28) := BX0.out.below hb
    have BX1 : Hid (Blk w9 (w.heap.size + 1) cs1 28) := BX1.out.below hb
    have Vw : Hid (VarE w9 w2.heap.size w5.heap.size gw cw (s.addR t) Xw) := Vw.out.below hb
    have Va : Hid (VarE w9 w5.heap.size w7.heap.size w6.heap.size ca s Xa) := Va.out.below hb
    have Vb : Hid (VarE w9 w7.heap.size w9.heap.size w8.heap.size cb t Xb) := VarE.fresh TT.out.1 TT.out.2.1 TT.out.2.2.1 TT.out.2.2.2.1 hg hb
    have Ob : Hid (w7.heap.size ≤ w9.heap.size ∧ w.heap.size + 1 < w7.heap.size) := ⟨by have := TT.out.2.2.1.size; have := hb.size; omega, LB.out⟩
    clear hg hb TT
    have LB : Hid (w.heap.size + 1 < w9.heap.size) := BX1.out.lt
    go_wp2_with (first | go_skip | (with_reducible refine stopLoad 28 rfl ?_) | (with_reducible refine stopLoad 34 rfl ?_) | (with_reducible refine stopStore 34 rfl ?_))
    refine load_any 34 w6.heap.size ca 34 _ Va.out.blk rfl rfl rfl Try.underlying34 rfl (enSize Va.out.sz) ?_
    go_wp2_with (first | go_skip | (with_reducible refine stopLoad 28 rfl ?_) | (with_reducible refine stopLoad 34 rfl ?_) | (with_reducible refine stopStore 34 rfl ?_))
    refine load_any 34 w8.heap.size cb 34 _ Vb.out.blk rfl rfl rfl Try.underlying34 rfl (enSize Vb.out.sz) ?_
    go_wp2_with fail
    refine (addImplE_any _ _ s t Xa Xb _ Va.out.rd Vb.out.rd HF1.out.wide HF2.out.wide).mono ?_
    rintro e w10 ⟨zv, Xg, rfl, rz, oz, bz⟩
    obtain ⟨cg, rfl, szg, ong⟩ := rz.cells
    have BEL : Hid (Below w.heap.size w w10) := Below.next BEL.out bz
    have BX0 : Hid (Blk w10 w.heap.size cs0 28) := BX0.out.below bz
    have BX1 : Hid (Blk w10 (w.heap.size + 1) cs1 28) := BX1.out.below bz
    have Vw : Hid (VarE w10 w2.heap.size w5.heap.size gw cw (s.addR t) Xw) := Vw.out.below bz
    have Va : Hid (VarE w10 w5.heap.size w7.heap.size w6.heap.size ca s Xa) := Va.out.below bz
    have Vb : Hid (VarE w10 w7.heap.size w9.heap.size w8.heap.size cb t Xb) := Vb.out.below bz
    have TT : Hid (RdE w10 (.agg cg) (s.addR t) Xg ∧ Own w9.heap.size w10 Xg ∧ Below w9.heap.size w9 w10 ∧ cg.size = 10 ∧ cg.all (·.oneCell') = true) := ⟨rz, oz, bz, szg, ong⟩
    clear rz oz bz szg ong
    go_wp2_with (first | go_skip | (with_reducible refine stopLoad 28 rfl ?_) | (with_reducible refine stopLoad 34 rfl ?_) | (with_reducible refine stopStore 34 rfl ?_))
    refine store_fresh 34 w10.heap.size rfl #[.int .i64 0, .int .i64 0, .slice none 0 0, .int .i64 0, .int .i64 0, .int .i64 0, .int .i64 0, .slice none 0 0, .slice none 0 0, .slice none 0 0] cg 34 rfl rfl rfl rfl (enSize TT.out.2.2.2.1) TT.out.2.2.2.1.symm TT.out.2.2.2.2 ?_
    intro w11 hg hb
    have BEL : Hid (Below w.heap.size w w11) := Below.next BEL.out hb
    have BX0 : Hid (Blk w11 w.heap.size cs0 28) := BX0.out.below hb
    have BX1 : Hid (Blk w11 (w.heap.size + 1) cs1 28) := BX1.out.below hb
    have Vw : Hid (VarE w11 w2.heap.size w5.heap.size gw cw (s.addR t) Xw) := Vw.out.below hb
    have Va : Hid (VarE w11 w5.heap.size w7.heap.size w6.heap.size ca s Xa) := Va.out.below hb
    have Vb : Hid (VarE w11 w7.heap.size w9.heap.size w8.heap.size cb t Xb) := Vb.out.below hb
    have Vg : Hid (VarE w11 w9.heap.size w11.heap.size w10.heap.size cg (s.addR t) Xg) := VarE.fresh TT.out.1 TT.out.2.1 TT.out.2.2.1 TT.out.2.2.2.1 hg hb
    clear hg hb TT
    obtain ⟨dd, hdd⟩ : ∃ d, d = (s.addOk t) := ⟨_, rfl⟩
    rw [← hdd]
    have HDD : Hid (dd = (s.addOk t)) := hdd
    clear hdd
    have hne : (dd != dd) = false := by simp
    go_wp2_with (first | go_skip | (with_reducible refine stopLoad 28 rfl ?_) | (with_reducible refine stopLoad 34 rfl ?_) | (with_reducible refine stopStore 34 rfl ?_))
    refine load_any 34 w10.heap.size cg 34 _ Vg.out.blk rfl rfl rfl Try.underlying34 rfl (enSize Vg.out.sz) ?_
    go_wp2_with (first | go_skip | (with_reducible refine stopLoad 28 rfl ?_) | (with_reducible refine stopLoad 34 rfl ?_) | (with_reducible refine stopStore 34 rfl ?_))
    refine load_any 34 gw cw 34 _ Vw.out.blk rfl rfl rfl Try.underlying34 rfl (enSize Vw.out.sz) ?_
    go_wp2_with fail
    refine (eqE_any _ _ (s.addR t) (s.addR t) Xg Xw _ Vg.out.rd Vw.out.rd HM.out HM.out).mono ?_
    rintro e w12 ⟨rfl, hb⟩
    have BEL : Hid (Below w.heap.size w w12) := Below.next BEL.out hb
    have BX0 : Hid (Blk w12 w.heap.size cs0 28) := BX0.out.below hb
    have BX1 : Hid (Blk w12 (w.heap.size + 1) cs1 28) := BX1.out.below hb
    have Vw : Hid (VarE w12 w2.heap.size w5.heap.size gw cw (s.addR t) Xw) := Vw.out.below hb
    have Va : Hid (VarE w12 w5.heap.size w7.heap.size w6.heap.size ca s Xa) := Va.out.below hb
    have Vb : Hid (VarE w12 w7.heap.size w9.heap.size w8.heap.size cb t Xb) := Vb.out.below hb
    have Vg : Hid (VarE w12 w9.heap.size w11.heap.size w10.heap.size cg (s.addR t) Xg) := Vg.out.below hb
    clear hb
    have hdec : decide (s.addR t = s.addR t) = true := by simp
    rw [hdec]
    clear hdec
    go_wp2
    have HS : Hid (EnTwo w.heap.size cs0 w6.heap.size ca w12.drew) := ⟨BX0.out.drew, Va.out.blk.drew⟩
    have keepS : ∀ {W W' : World}, EnTwo w.heap.size cs0 w6.heap.size ca W → Below W.heap.size W W' → EnTwo w.heap.size cs0 w6.heap.size ca W' := fun h b => ⟨h.1.below b, h.2.below b⟩
    refine wp_region_held (S := EnTwo w.heap.size cs0 w6.heap.size ca) (by kernel_rfl) ?_
    change wpAnyH _ _ _ _ _ _ _ _ (World.drew _)
    refine takeH (o := ?o46) 0 (.agg ca) ?h46 ?r46
    case h46 => simp only [List.getElem?_toArray, List.getElem?_cons_zero]; rfl
    refine ⟨_, by simp [Act.put]; rfl, by kernel_rfl, by kernel_rfl, by kernel_rfl, fun _ _ _ h => h, (yields_whole 34 w6.heap.size ca 34 _ rfl rfl rfl Try.underlying34 rfl (enSize Va.out.sz) (fun W hW => hW.2)), HS.out, ?_⟩
    refine takeH (o := ?o47) 1 (.agg cs0) ?h47 ?r47
    case h47 => simp only [List.getElem?_toArray, List.getElem?_cons_succ, List.getElem?_cons_zero]; rfl
    refine ⟨_, by simp [Act.put]; rfl, by kernel_rfl, by kernel_rfl, by kernel_rfl, fun _ _ _ h => h, (yields_whole 28 w.heap.size cs0 28 _ rfl rfl rfl Try.underlying28 rfl (lenSize HC.out.1) (fun W hW => hW.1)), HS.out, ?_⟩
    refine onlyH (o := ?o48) 2 (by kernel_rfl) ?h48 ?r48
    case h48 => simp only [List.getElem?_toArray, List.getElem?_cons_succ, List.getElem?_cons_zero]; rfl
    intro K hK
    refine op_call1 11 _ _ Try.f11 (fun v w' => ∃ X, RdE w' v s X ∧ Below w12.drew.heap.size w12.drew w') rfl rfl Try.func11 (by kernel_rfl) (by kernel_rfl) ((toE_any _ s F w12.drew (HH.out.1.1.below BEL.out.drew) HF1.out).mono (by rintro e w' ⟨v, X, rfl, h1, _, h3⟩; exact ⟨_, rfl, X, h1, h3⟩)) ?_
    rintro zq w13x ⟨Xq, rz, bz⟩
    refine ⟨_, by simp [Act.put]; rfl, hK _ _ ⟨keepS HS.out bz, ?_⟩⟩
    have TQ : Hid (RdE w13x (.agg ca) s Xa ∧ RdE w13x zq s Xq ∧ EnTwo w.heap.size cs0 w6.heap.size ca w13x ∧ Below w12.heap.size w12 w13x) := ⟨(Va.out.rd.below (Below.refl _ _).drew).below bz, rz, keepS HS.out bz, Below.next (Below.refl _ _).drew bz⟩
    clear hK rz bz
    refine onlyH (o := ?o49) 3 (by kernel_rfl) ?h49 ?r49
    case h49 => simp only [List.getElem?_toArray, List.getElem?_cons_succ, List.getElem?_cons_zero]; rfl
    intro K hK
    refine op_call2 13 _ _ _ Try.f13 (fun w' => Below w13x.heap.size w13x w') (.bool (decide (s = s))) rfl rfl Try.func13 (by kernel_rfl) (by kernel_rfl) (eqE_any (.agg ca) zq s s Xa Xq w13x TQ.out.1 TQ.out.2.1 HF1.out.wide HF1.out.wide) ⟨_, by simp [Act.put]; rfl, ?_⟩
    intro w13 bz
    refine hK _ _ ⟨keepS TQ.out.2.2.1 bz, ?_⟩
    have HSZ : Hid (EnTwo w.heap.size cs0 w6.heap.size ca w13) := keepS TQ.out.2.2.1 bz
    have hbq : Below w12.heap.size w12 w13 := Below.next TQ.out.2.2.2 bz
    have BEL : Hid (Below w.heap.size w w13) := Below.next BEL.out hbq
    have BX0 : Hid (Blk w13 w.heap.size cs0 28) := BX0.out.below hbq
    have BX1 : Hid (Blk w13 (w.heap.size + 1) cs1 28) := BX1.out.below hbq
    have Vw : Hid (VarE w13 w2.heap.size w5.heap.size gw cw (s.addR t) Xw) := Vw.out.below hbq
    have Va : Hid (VarE w13 w5.heap.size w7.heap.size w6.heap.size ca s Xa) := Va.out.below hbq
    have Vb : Hid (VarE w13 w7.heap.size w9.heap.size w8.heap.size cb t Xb) := Vb.out.below hbq
    have Vg : Hid (VarE w13 w9.heap.size w11.heap.size w10.heap.size cg (s.addR t) Xg) := Vg.out.below hbq
    clear hK bz hbq
    refine takeH (o := ?o50) 4 (.bool false) ?h50 ?r50
    case h50 => simp only [List.getElem?_toArray, List.getElem?_cons_succ, List.getElem?_cons_zero]; rfl
    refine ⟨_, by simp [Act.put]; rfl, by kernel_rfl, by kernel_rfl, by kernel_rfl, fun _ _ _ h => h, (.inl ⟨rfl, fun W _ => by go_simp⟩), HSZ.out, ?_⟩
    refine wpAnyH_done (by kernel_rfl) ?_ _
    clear TQ HSZ HS keepS
    go_wp2
    have HS : Hid (EnTwo (w.heap.size + 1) cs1 w8.heap.size cb w13.drew) := ⟨BX1.out.drew, Vb.out.blk.drew⟩
    have keepS : ∀ {W W' : World}, EnTwo (w.heap.size + 1) cs1 w8.heap.size cb W → Below W.heap.size W W' → EnTwo (w.heap.size + 1) cs1 w8.heap.size cb W' := fun h b => ⟨h.1.below b, h.2.below b⟩
    refine wp_region_held (S := EnTwo (w.heap.size + 1) cs1 w8.heap.size cb) (by kernel_rfl) ?_
    change wpAnyH _ _ _ _ _ _ _ _ (World.drew _)
    refine takeH (o := ?o51) 0 (.agg cb) ?h51 ?r51
    case h51 => simp only [List.getElem?_toArray, List.getElem?_cons_zero]; rfl
    refine ⟨_, by simp [Act.put]; rfl, by kernel_rfl, by kernel_rfl, by kernel_rfl, fun _ _ _ h => h, (yields_whole 34 w8.heap.size cb 34 _ rfl rfl rfl Try.underlying34 rfl (enSize Vb.out.sz) (fun W hW => hW.2)), HS.out, ?_⟩
    refine takeH (o := ?o52) 1 (.agg cs1) ?h52 ?r52
    case h52 => simp only [List.getElem?_toArray, List.getElem?_cons_succ, List.getElem?_cons_zero]; rfl
    refine ⟨_, by simp [Act.put]; rfl, by kernel_rfl, by kernel_rfl, by kernel_rfl, fun _ _ _ h => h, (yields_whole 28 (w.heap.size + 1) cs1 28 _ rfl rfl rfl Try.underlying28 rfl (lenSize HC.out.2) (fun W hW => hW.1)), HS.out, ?_⟩
    refine onlyH (o := ?o53) 2 (by kernel_rfl) ?h53 ?r53
    case h53 => simp only [List.getElem?_toArray, List.getElem?_cons_succ, List.getElem?_cons_zero]; rfl
    intro K hK
    refine op_call1 11 _ _ Try.f11 (fun v w' => ∃ X, RdE w' v t X ∧ Below w13.drew.heap.size w13.drew w') rfl rfl Try.func11 (by kernel_rfl) (by kernel_rfl) ((toE_any _ t G w13.drew (HH.out.2.1.below BEL.out.drew) HF2.out).mono (by rintro e w' ⟨v, X, rfl, h1, _, h3⟩; exact ⟨_, rfl, X, h1, h3⟩)) ?_
    rintro zq w14x ⟨Xq, rz, bz⟩
    refine ⟨_, by simp [Act.put]; rfl, hK _ _ ⟨keepS HS.out bz, ?_⟩⟩
    have TQ : Hid (RdE w14x (.agg cb) t Xb ∧ RdE w14x zq t Xq ∧ EnTwo (w.heap.size + 1) cs1 w8.heap.size cb w14x ∧ Below w13.heap.size w13 w14x) := ⟨(Vb.out.rd.below (Below.refl _ _).drew).below bz, rz, keepS HS.out bz, Below.next (Below.refl _ _).drew bz⟩
    clear hK rz bz
    refine onlyH (o := ?o54) 3 (by kernel_rfl) ?h54 ?r54
    case h54 => simp only [List.getElem?_toArray, List.getElem?_cons_succ, List.getElem?_cons_zero]; rfl
    intro K hK
    refine op_call2 13 _ _ _ Try.f13 (fun w' => Below w14x.heap.size w14x w') (.bool (decide (t = t))) rfl rfl Try.func13 (by kernel_rfl) (by kernel_rfl) (eqE_any (.agg cb) zq t t Xb Xq w14x TQ.out.1 TQ.out.2.1 HF2.out.wide HF2.out.wide) ⟨_, by simp [Act.put]; rfl, ?_⟩
    intro w14 bz
    refine hK _ _ ⟨keepS TQ.out.2.2.1 bz, ?_⟩
    have HSZ : Hid (EnTwo (w.heap.size + 1) cs1 w8.heap.size cb w14) := keepS TQ.out.2.2.1 bz
    have hbq : Below w13.heap.size w13 w14 := Below.next TQ.out.2.2.2 bz
    have BEL : Hid (Below w.heap.size w w14) := Below.next BEL.out hbq
    have BX0 : Hid (Blk w14 w.heap.size cs0 28) := BX0.out.below hbq
    have BX1 : Hid (Blk w14 (w.heap.size + 1) cs1 28) := BX1.out.below hbq
    have Vw : Hid (VarE w14 w2.heap.size w5.heap.size gw cw (s.addR t) Xw) := Vw.out.below hbq
    have Va : Hid (VarE w14 w5.heap.size w7.heap.size w6.heap.size ca s Xa) := Va.out.below hbq
    have Vb : Hid (VarE w14 w7.heap.size w9.heap.size w8.heap.size cb t Xb) := Vb.out.below hbq
    have Vg : Hid (VarE w14 w9.heap.size w11.heap.size w10.heap.size cg (s.addR t) Xg) := Vg.out.below hbq
    clear hK bz hbq
    refine takeH (o := ?o55) 4 (.bool false) ?h55 ?r55
    case h55 => simp only [List.getElem?_toArray, List.getElem?_cons_succ, List.getElem?_cons_zero]; rfl
    refine ⟨_, by simp [Act.put]; rfl, by kernel_rfl, by kernel_rfl, by kernel_rfl, fun _ _ _ h => h, (.inl ⟨rfl, fun W _ => by go_simp⟩), HSZ.out, ?_⟩
    refine wpAnyH_done (by kernel_rfl) ?_ _
    clear TQ HSZ HS keepS
    have OR : Hid (w.heap.size + 1 < w2.heap.size ∧ w2.heap.size ≤ w5.heap.size ∧ w5.heap.size ≤ w7.heap.size ∧ w7.heap.size ≤ w9.heap.size ∧ w9.heap.size ≤ w11.heap.size) := ⟨by have := OW.out; omega, by have := Vw.out.ge; have := Vw.out.glt; omega, by have := Oa.out; omega, by have := Ob.out; omega, by have := Vg.out.ge; have := Vg.out.glt; omega⟩
    have LOw : Hid (w.heap.size + 1 < w2.heap.size) := by have := OR.out; show _ < _; omega
    have LOa : Hid (w.heap.size + 1 < w5.heap.size) := by have := OR.out; show _ < _; omega
    have LOb : Hid (w.heap.size + 1 < w7.heap.size) := by have := OR.out; show _ < _; omega
    have LOg : Hid (w.heap.size + 1 < w9.heap.size) := by have := OR.out; show _ < _; omega
    have HMa : Hid (0 ≤ s.many ∧ s.many ≤ 4194304) := En.many_fits HSZ1.out
    have HMb : Hid (0 ≤ t.many ∧ t.many ≤ 4194304) := En.many_fits HSZ2.out
    go_wp2_with (first | go_skip | (with_reducible refine stopLoad 28 rfl ?_) | (with_reducible refine stopLoad 34 rfl ?_) | (with_reducible refine stopStore 34 rfl ?_))
    refine load_any 34 w6.heap.size ca 34 _ Va.out.blk rfl rfl rfl Try.underlying34 rfl (enSize Va.out.sz) ?_
    go_wp2_with fail
    refine (markE_any w5.heap.size _ s Xa 1 _ Va.out.rd Va.out.own HF1.out.wide (by omega) (by have := HMa.out; omega)).mono ?_
    rintro e w15 ⟨rfl, mk⟩
    have BEL : Hid (Below w.heap.size w w15) := Va.out.bel mk.only BEL.out (by have := LOa.out; omega)
    have BX0 : Hid (Blk w15 w.heap.size cs0 28) := Va.out.keep mk.only BX0.out (by have := LOa.out; omega)
    have BX1 : Hid (Blk w15 (w.heap.size + 1) cs1 28) := Va.out.keep mk.only BX1.out (by have := LOa.out; omega)
    have Nw : Hid (VarE w15 w2.heap.size w5.heap.size gw cw (s.addR t) Xw) := Vw.out.only Va.out mk.only (.inl (by have := OR.out; omega))
    have Nb : Hid (VarE w15 w7.heap.size w9.heap.size w8.heap.size cb t Xb) := Vb.out.only Va.out mk.only (.inr (by have := OR.out; omega))
    have Ng : Hid (VarE w15 w9.heap.size w11.heap.size w10.heap.size cg (s.addR t) Xg) := Vg.out.only Va.out mk.only (.inr (by have := OR.out; omega))
    have Na : Hid (VarE w15 w5.heap.size w7.heap.size w6.heap.size ca (s.marked 1) Xa) := Va.out.mark mk
    have Vw : Hid (VarE w15 w2.heap.size w5.heap.size gw cw (s.addR t) Xw) := Nw.out
    have Va : Hid (VarE w15 w5.heap.size w7.heap.size w6.heap.size ca (s.marked 1) Xa) := Na.out
    have Vb : Hid (VarE w15 w7.heap.size w9.heap.size w8.heap.size cb t Xb) := Nb.out
    have Vg : Hid (VarE w15 w9.heap.size w11.heap.size w10.heap.size cg (s.addR t) Xg) := Ng.out
    clear mk Nw Na Nb Ng
    obtain ⟨ka, hka⟩ : ∃ k, k = 1 + s.many := ⟨_, rfl⟩
    rw [← hka]
    have HKA : Hid (0 ≤ ka ∧ ka ≤ 4194305) := by have := HMa.out; show _ ∧ _; omega
    clear hka
    go_wp2_with (first | go_skip | (with_reducible refine stopLoad 28 rfl ?_) | (with_reducible refine stopLoad 34 rfl ?_) | (with_reducible refine stopStore 34 rfl ?_))
    refine load_any 34 w8.heap.size cb 34 _ Vb.out.blk rfl rfl rfl Try.underlying34 rfl (enSize Vb.out.sz) ?_
    go_wp2_with fail
    refine (markE_any w7.heap.size _ t Xb ka _ Vb.out.rd Vb.out.own HF2.out.wide HKA.out.1 (by have := HMb.out; have := HKA.out; omega)).mono ?_
    rintro e w16 ⟨rfl, mk⟩
    have BEL : Hid (Below w.heap.size w w16) := Vb.out.bel mk.only BEL.out (by have := LOb.out; omega)
    have BX0 : Hid (Blk w16 w.heap.size cs0 28) := Vb.out.keep mk.only BX0.out (by have := LOb.out; omega)
    have BX1 : Hid (Blk w16 (w.heap.size + 1) cs1 28) := Vb.out.keep mk.only BX1.out (by have := LOb.out; omega)
    have Nw : Hid (VarE w16 w2.heap.size w5.heap.size gw cw (s.addR t) Xw) := Vw.out.only Vb.out mk.only (.inl (by have := OR.out; omega))
    have Na : Hid (VarE w16 w5.heap.size w7.heap.size w6.heap.size ca (s.marked 1) Xa) := Va.out.only Vb.out mk.only (.inl (by have := OR.out; omega))
    have Ng : Hid (VarE w16 w9.heap.size w11.heap.size w10.heap.size cg (s.addR t) Xg) := Vg.out.only Vb.out mk.only (.inr (by have := OR.out; omega))
    have Nb : Hid (VarE w16 w7.heap.size w9.heap.size w8.heap.size cb (t.marked ka) Xb) := Vb.out.mark mk
    have Vw : Hid (VarE w16 w2.heap.size w5.heap.size gw cw (s.addR t) Xw) := Nw.out
    have Va : Hid (VarE w16 w5.heap.size w7.heap.size w6.heap.size ca (s.marked 1) Xa) := Na.out
    have Vb : Hid (VarE w16 w7.heap.size w9.heap.size w8.heap.size cb (t.marked ka) Xb) := Nb.out
    have Vg : Hid (VarE w16 w9.heap.size w11.heap.size w10.heap.size cg (s.addR t) Xg) := Ng.out
    clear mk Nw Na Nb Ng
    obtain ⟨kb, hkb⟩ : ∃ k, k = ka + t.many := ⟨_, rfl⟩
    rw [← hkb]
    have hkb0 : 0 ≤ kb := by have := HMb.out; have := HKA.out; omega
    have hkbd : decide (kb < 0) = false := dec_false (by omega)
    clear hkb
    go_wp2_with (first | go_skip | (with_reducible refine stopLoad 28 rfl ?_) | (with_reducible refine stopLoad 34 rfl ?_) | (with_reducible refine stopStore 34 rfl ?_))
    refine load_any 34 w10.heap.size cg 34 _ Vg.out.blk rfl rfl rfl Try.underlying34 rfl (enSize Vg.out.sz) ?_
    go_wp2_with (first | go_skip | (with_reducible refine stopLoad 28 rfl ?_) | (with_reducible refine stopLoad 34 rfl ?_) | (with_reducible refine stopStore 34 rfl ?_))
    refine load_any 34 gw cw 34 _ Vw.out.blk rfl rfl rfl Try.underlying34 rfl (enSize Vw.out.sz) ?_
    go_wp2_with fail
    refine (eqE_any _ _ (s.addR t) (s.addR t) Xg Xw _ Vg.out.rd Vw.out.rd HM.out HM.out).mono ?_
    rintro e w17 ⟨rfl, hb⟩
    have BEL : Hid (Below w.heap.size w w17) := Below.next BEL.out hb
    have BX0 : Hid (Blk w17 w.heap.size cs0 28) := BX0.out.below hb
    have BX1 : Hid (Blk w17 (w.heap.size + 1) cs1 28) := BX1.out.below hb
    have Vw : Hid (VarE w17 w2.heap.size w5.heap.size gw cw (s.addR t) Xw) := Vw.out.below hb
    have Va : Hid (VarE w17 w5.heap.size w7.heap.size w6.heap.size ca (s.marked 1) Xa) := Va.out.below hb
    have Vb : Hid (VarE w17 w7.heap.size w9.heap.size w8.heap.size cb (t.marked ka) Xb) := Vb.out.below hb
    have Vg : Hid (VarE w17 w9.heap.size w11.heap.size w10.heap.size cg (s.addR t) Xg) := Vg.out.below hb
    clear hb
    have hdec : decide (s.addR t = s.addR t) = true := by simp
    rw [hdec]
    clear hdec
    have HMG : Hid (0 ≤ (s.addR t).many ∧ (s.addR t).many ≤ 4194304) := addR_many HF1.out HF2.out HSZ3.out
    go_wp2_with (first | go_skip | (with_reducible refine stopLoad 28 rfl ?_) | (with_reducible refine stopLoad 34 rfl ?_) | (with_reducible refine stopStore 34 rfl ?_))
    refine load_any 34 w10.heap.size cg 34 _ Vg.out.blk rfl rfl rfl Try.underlying34 rfl (enSize Vg.out.sz) ?_
    go_wp2_with fail
    refine (markE_any w9.heap.size _ (s.addR t) Xg 1 _ Vg.out.rd Vg.out.own HM.out (by omega) (by have := HMG.out; omega)).mono ?_
    rintro e w18 ⟨rfl, mk⟩
    have BEL : Hid (Below w.heap.size w w18) := Vg.out.bel mk.only BEL.out (by have := LOg.out; omega)
    have BX0 : Hid (Blk w18 w.heap.size cs0 28) := Vg.out.keep mk.only BX0.out (by have := LOg.out; omega)
    have BX1 : Hid (Blk w18 (w.heap.size + 1) cs1 28) := Vg.out.keep mk.only BX1.out (by have := LOg.out; omega)
    have Nw : Hid (VarE w18 w2.heap.size w5.heap.size gw cw (s.addR t) Xw) := Vw.out.only Vg.out mk.only (.inl (by have := OR.out; omega))
    have Na : Hid (VarE w18 w5.heap.size w7.heap.size w6.heap.size ca (s.marked 1) Xa) := Va.out.only Vg.out mk.only (.inl (by have := OR.out; omega))
    have Nb : Hid (VarE w18 w7.heap.size w9.heap.size w8.heap.size cb (t.marked ka) Xb) := Vb.out.only Vg.out mk.only (.inl (by have := OR.out; omega))
    have Ng : Hid (VarE w18 w9.heap.size w11.heap.size w10.heap.size cg ((s.addR t).marked 1) Xg) := Vg.out.mark mk
    have Vw : Hid (VarE w18 w2.heap.size w5.heap.size gw cw (s.addR t) Xw) := Nw.out
    have Va : Hid (VarE w18 w5.heap.size w7.heap.size w6.heap.size ca (s.marked 1) Xa) := Na.out
    have Vb : Hid (VarE w18 w7.heap.size w9.heap.size w8.heap.size cb (t.marked ka) Xb) := Nb.out
    have Vg : Hid (VarE w18 w9.heap.size w11.heap.size w10.heap.size cg ((s.addR t).marked 1) Xg) := Ng.out
    clear mk Nw Na Nb Ng
    obtain ⟨km, hkm⟩ : ∃ k, k = 1 + (s.addR t).many := ⟨_, rfl⟩
    rw [← hkm]
    have HKM : Hid (km = 1 + (s.addR t).many) := hkm
    have hkm0 : 0 ≤ km := by have := HMG.out; omega
    have hkme : (km != km) = false := by simp
    clear hkm
    go_wp2_with (first | go_skip | (with_reducible refine stopLoad 28 rfl ?_) | (with_reducible refine stopLoad 34 rfl ?_) | (with_reducible refine stopStore 34 rfl ?_))
    refine load_any 34 w10.heap.size cg 34 _ Vg.out.blk rfl rfl rfl Try.underlying34 rfl (enSize Vg.out.sz) ?_
    go_wp2_with fail
    refine (heldE_any _ (s.addR t) Xg 1 _ Vg.out.rd HM.out (by omega) (by have := HMG.out; omega)).mono ?_
    rintro e w19 ⟨rfl, hb⟩
    have BEL : Hid (Below w.heap.size w w19) := Below.next BEL.out hb
    have BX0 : Hid (Blk w19 w.heap.size cs0 28) := BX0.out.below hb
    have BX1 : Hid (Blk w19 (w.heap.size + 1) cs1 28) := BX1.out.below hb
    have Vw : Hid (VarE w19 w2.heap.size w5.heap.size gw cw (s.addR t) Xw) := Vw.out.below hb
    have Va : Hid (VarE w19 w5.heap.size w7.heap.size w6.heap.size ca (s.marked 1) Xa) := Va.out.below hb
    have Vb : Hid (VarE w19 w7.heap.size w9.heap.size w8.heap.size cb (t.marked ka) Xb) := Vb.out.below hb
    have Vg : Hid (VarE w19 w9.heap.size w11.heap.size w10.heap.size cg ((s.addR t).marked 1) Xg) := Vg.out.below hb
    clear hb
    rw [← HKM.out]
    go_upto_region 31 with fail
    go_cut [15, 16] (fun a6 a7 wx => ∃ (g : Nat) (cs : Array Value) (X : List Nat), a6 = .pointer (some ⟨g, 0, none⟩) ∧ a7 = .bool (s.addOk t) ∧ Below w19.heap.size w19 wx ∧ VarE wx w19.heap.size wx.heap.size g cs (s.addR t) X)
    case first =>
      have HS : Hid (EnBoxes w.heap.size cs0 cs1 w19.drew) := ⟨BX0.out.drew, BX1.out.drew⟩
      refine wp_region_held (S := EnBoxes w.heap.size cs0 cs1) (by kernel_rfl) ?_
      change wpAnyH _ _ _ _ _ _ _ _ (World.drew _)
      refine takeH (o := ?o56) 0 (.agg cs0) ?h56 ?r56
      case h56 => simp only [List.getElem?_toArray, List.getElem?_cons_zero]; rfl
      refine ⟨_, by simp [Act.put]; rfl, by kernel_rfl, by kernel_rfl, by kernel_rfl, fun _ _ _ h => h, (yields_whole 28 w.heap.size cs0 28 _ rfl rfl rfl Try.underlying28 rfl (lenSize HC.out.1) (fun W hW => hW.1)), HS.out, ?_⟩
      refine takeH (o := ?o57) 2 (.agg cs1) ?h57 ?r57
      case h57 => simp only [List.getElem?_toArray, List.getElem?_cons_succ, List.getElem?_cons_zero]; rfl
      refine ⟨_, by simp [Act.put]; rfl, by kernel_rfl, by kernel_rfl, by kernel_rfl, fun _ _ _ h => h, (yields_whole 28 (w.heap.size + 1) cs1 28 _ rfl rfl rfl Try.underlying28 rfl (lenSize HC.out.2) (fun W hW => hW.2)), HS.out, ?_⟩
      have BZ : Hid (Below w.heap.size w w19.drew) := BEL.out.drew
      have BS : Hid (Below w19.heap.size w19 w19.drew) := (Below.refl _ _).drew
      have HSN : Hid (EnBoxes w.heap.size cs0 cs1 w19.drew) := HS.out
      have L2 : Hid (w.heap.size + 1 < w19.heap.size) := BX1.out.lt
      refine twoH (o := ?o58) (o' := ?p58) 1 8 (by kernel_rfl) ?h58 ?g58 ?r58 ?s58
      case h58 => simp only [List.getElem?_toArray, List.getElem?_cons_succ, List.getElem?_cons_zero]; rfl
      case g58 => simp only [List.getElem?_toArray, List.getElem?_cons_succ, List.getElem?_cons_zero]; rfl
      case r58 =>
        intro K hK
        refine op_call1 11 _ _ Try.f11 (fun v w' => ∃ X, RdE w' v s X ∧ Own w19.drew.heap.size w' X ∧ Below w19.drew.heap.size w19.drew w') rfl rfl Try.func11 (by kernel_rfl) (by kernel_rfl) ((toE_any _ s F w19.drew (HH.out.1.1.below BZ.out) HF1.out).mono (by rintro e w' ⟨v, X, rfl, h1, h2, h3⟩; exact ⟨_, rfl, X, h1, h2, h3⟩)) ?_
        rintro z0 Y59 ⟨X0, rz, oz, bz⟩
        refine ⟨_, by simp [Act.put]; rfl, hK _ _ ⟨HSN.out.below bz, ?_⟩⟩
        have BZ : Hid (Below w.heap.size w Y59) := Below.next BZ.out bz
        have BS : Hid (Below w19.heap.size w19 Y59) := Below.next BS.out bz
        have HSN : Hid (EnBoxes w.heap.size cs0 cs1 Y59) := HSN.out.below bz
        have T0 : Hid (RdE Y59 z0 s X0) := rz
        clear hK rz oz bz
        refine twoH (o := ?o60) (o' := ?p60) 3 8 (by kernel_rfl) ?h60 ?g60 ?r60 ?s60
        case h60 => simp only [List.getElem?_toArray, List.getElem?_cons_succ, List.getElem?_cons_zero]; rfl
        case g60 => simp only [List.getElem?_toArray, List.getElem?_cons_succ, List.getElem?_cons_zero]; rfl
        case r60 =>
          intro K hK
          refine op_call1 11 _ _ Try.f11 (fun v w' => ∃ X, RdE w' v t X ∧ Own Y59.heap.size w' X ∧ Below Y59.heap.size Y59 w') rfl rfl Try.func11 (by kernel_rfl) (by kernel_rfl) ((toE_any _ t G Y59 (HH.out.2.1.below BZ.out) HF2.out).mono (by rintro e w' ⟨v, X, rfl, h1, h2, h3⟩; exact ⟨_, rfl, X, h1, h2, h3⟩)) ?_
          rintro z1 Y61 ⟨X1, rz, oz, bz⟩
          refine ⟨_, by simp [Act.put]; rfl, hK _ _ ⟨HSN.out.below bz, ?_⟩⟩
          have BZ : Hid (Below w.heap.size w Y61) := Below.next BZ.out bz
          have BS : Hid (Below w19.heap.size w19 Y61) := Below.next BS.out bz
          have HSN : Hid (EnBoxes w.heap.size cs0 cs1 Y61) := HSN.out.below bz
          have T0 : Hid (RdE Y61 z0 s X0) := T0.out.below bz
          have T1 : Hid (RdE Y61 z1 t X1) := rz
          clear hK rz oz bz
          refine twoH (o := ?o62) (o' := ?p62) 4 8 (by kernel_rfl) ?h62 ?g62 ?r62 ?s62
          case h62 => simp only [List.getElem?_toArray, List.getElem?_cons_succ, List.getElem?_cons_zero]; rfl
          case g62 => simp only [List.getElem?_toArray, List.getElem?_cons_succ, List.getElem?_cons_zero]; rfl
          case r62 =>
            intro K hK
            have LS0 : Hid (w19.heap.size ≤ Y61.heap.size) := BS.out.size
            refine op_call2' 23 _ _ _ Try.f23 (fun v w' => ∃ r X, v = .tuple #[.agg r, .bool (s.addOk t)] ∧ r.size = 10 ∧ r.all (·.oneCell') = true ∧ RdE w' (.agg r) (s.addR t) X ∧ Own Y61.heap.size w' X ∧ Below Y61.heap.size Y61 w') rfl rfl Try.func23 (by kernel_rfl) (by kernel_rfl) ((addImplE_any z0 z1 s t X0 X1 Y61 T0.out T1.out HF1.out.wide HF2.out.wide).mono (by rintro e w' ⟨v, X, rfl, h1, h2, h3⟩; obtain ⟨r, rfl, h7, h8⟩ := h1.cells; exact ⟨_, rfl, r, X, rfl, h7, h8, h1, h2, h3⟩)) ?_
            rintro _ Y63 ⟨rr, XR, rfl, r7, r8, rz, oz, bz⟩
            refine ⟨_, by simp [Act.put]; rfl, hK _ _ ⟨HSN.out.below bz, ?_⟩⟩
            have BZ : Hid (Below w.heap.size w Y63) := Below.next BZ.out bz
            have BS : Hid (Below w19.heap.size w19 Y63) := Below.next BS.out bz
            have HSN : Hid (EnBoxes w.heap.size cs0 cs1 Y63) := HSN.out.below bz
            have TR : Hid (RdE Y63 (.agg rr) (s.addR t) XR ∧ Own Y61.heap.size Y63 XR ∧ rr.size = 10 ∧ rr.all (·.oneCell') = true) := ⟨rz, oz, r7, r8⟩
            have LW : Hid (Y61.heap.size ≤ Y63.heap.size) := bz.size
            clear hK rz oz bz r7 r8
            refine takeH (o := ?o64) 5 (.tuple #[.agg rr, .bool (s.addOk t)]) ?h64 ?r64
            case h64 => simp only [List.getElem?_toArray, List.getElem?_cons_succ, List.getElem?_cons_zero]; rfl
            refine ⟨_, by simp [Act.put]; rfl, by kernel_rfl, by kernel_rfl, by kernel_rfl, fun _ _ _ h => h, (.inl ⟨rfl, fun W _ => by go_simp⟩), HSN.out, ?_⟩
            refine takeH (o := ?o65) 6 (.agg rr) ?h65 ?r65
            case h65 => simp only [List.getElem?_toArray, List.getElem?_cons_succ, List.getElem?_cons_zero]; rfl
            refine ⟨_, by simp [Act.put]; rfl, by kernel_rfl, by kernel_rfl, by kernel_rfl, fun _ _ _ h => h, (.inl ⟨rfl, fun W _ => by go_simp⟩), HSN.out, ?_⟩
            refine takeH (o := ?o66) 7 (.bool (s.addOk t)) ?h66 ?r66
            case h66 => simp only [List.getElem?_toArray, List.getElem?_cons_succ, List.getElem?_cons_zero]; rfl
            refine ⟨_, by simp [Act.put]; rfl, by kernel_rfl, by kernel_rfl, by kernel_rfl, fun _ _ _ h => h, (.inl ⟨rfl, fun W _ => by go_simp⟩), HSN.out, ?_⟩
            refine onlyH (o := ?o67) 8 (by kernel_rfl) ?h67 ?r67
            case h67 => simp only [List.getElem?_toArray, List.getElem?_cons_succ, List.getElem?_cons_zero]; rfl
            intro K hK
            refine op_turn (.pointer (some ⟨Y63.heap.size, 0, none⟩)) (Y63.alloc (.cells #[.int .i64 0, .int .i64 0, .slice none 0 0, .int .i64 0, .int .i64 0, .int .i64 0, .int .i64 0, .slice none 0 0, .slice none 0 0, .slice none 0 0] 34)) rfl (by go_simp) ⟨_, by simp [Act.put]; rfl, hK _ _ ⟨HSN.out.below ((Below.refl _ _).alloc (Nat.le_refl _) _), ?_⟩⟩
            clear hK
            obtain ⟨Y68, hWn⟩ : ∃ W, W = Y63.alloc (.cells #[.int .i64 0, .int .i64 0, .slice none 0 0, .int .i64 0, .int .i64 0, .int .i64 0, .int .i64 0, .slice none 0 0, .slice none 0 0, .slice none 0 0] 34) := ⟨_, rfl⟩
            have hbn : Below Y63.heap.size Y63 Y68 := by rw [hWn]; exact (Below.refl _ _).alloc (Nat.le_refl _) _
            have GB : Hid (Blk Y68 Y63.heap.size #[.int .i64 0, .int .i64 0, .slice none 0 0, .int .i64 0, .int .i64 0, .int .i64 0, .int .i64 0, .slice none 0 0, .slice none 0 0, .slice none 0 0] 34) := by rw [hWn]; exact Blk.made _ _ _
            rw [← hWn]
            clear hWn
            have BZ : Hid (Below w.heap.size w Y68) := Below.next BZ.out hbn
            have BS : Hid (Below w19.heap.size w19 Y68) := Below.next BS.out hbn
            have HSN : Hid (EnBoxes w.heap.size cs0 cs1 Y68) := HSN.out.below hbn
            have TR2 : Hid (RdE Y68 (.agg rr) (s.addR t) XR ∧ Own w19.heap.size Y68 XR ∧ (∀ b ∈ XR, b < Y68.heap.size) ∧ Y63.heap.size ∉ XR) := ⟨TR.out.1.below hbn, (TR.out.2.1.below TR.out.1.lt hbn).mono LS0.out, (TR.out.1.below hbn).lt, fun hx => by have := TR.out.1.lt _ hx; omega⟩
            have GX : Hid (w19.heap.size ≤ Y63.heap.size) := Nat.le_trans LS0.out LW.out
            clear hbn
            refine onlyH (o := ?o69) 9 (by kernel_rfl) ?h69 ?r69
            case h69 => simp only [List.getElem?_toArray, List.getElem?_cons_succ, List.getElem?_cons_zero]; rfl
            intro K hK
            refine op_store 34 Y63.heap.size #[.int .i64 0, .int .i64 0, .slice none 0 0, .int .i64 0, .int .i64 0, .int .i64 0, .int .i64 0, .slice none 0 0, .slice none 0 0, .slice none 0 0] rr 34 rfl rfl rfl rfl GB.out (enSize TR.out.2.2.1) TR.out.2.2.1.symm TR.out.2.2.2 ⟨_, by simp [Act.put]; rfl, hK _ _ ⟨HSN.out.setRow (by have := GX.out; have := L2.out; omega), ?_⟩⟩
            clear hK
            refine onlyH (o := ?o70) 10 (by kernel_rfl) ?h70 ?r70
            case h70 => simp only [List.getElem?_toArray, List.getElem?_cons_succ, List.getElem?_cons_zero]; rfl
            intro K hK
            refine op_value (.bool (s.addOk t)) rfl (by go_simp) ⟨_, by simp [Act.put]; rfl, hK _ _ ⟨HSN.out.setRow (by have := GX.out; have := L2.out; omega), ?_⟩⟩
            clear hK
            refine wpAnyH_done (by kernel_rfl) ?_ _
            go_wp2_with fail
            go_meet
            case rel => exact ⟨Y63.heap.size, rr, XR, rfl, rfl, below_setRow BS.out GX.out _, varE_stored GB.out TR2.out.1 TR.out.2.2.1 TR2.out.2.1 TR2.out.2.2.1 GX.out TR2.out.2.2.2⟩
          case s62 =>
            intro K hK
            have GX : Hid (w19.heap.size ≤ Y61.heap.size) := BS.out.size
            refine op_turn (.pointer (some ⟨Y61.heap.size, 0, none⟩)) (Y61.alloc (.cells #[.int .i64 0, .int .i64 0, .slice none 0 0, .int .i64 0, .int .i64 0, .int .i64 0, .int .i64 0, .slice none 0 0, .slice none 0 0, .slice none 0 0] 34)) rfl (by go_simp) ⟨_, by simp [Act.put]; rfl, hK _ _ ⟨HSN.out.below ((Below.refl _ _).alloc (Nat.le_refl _) _), ?_⟩⟩
            clear hK
            obtain ⟨Y71, hWn⟩ : ∃ W, W = Y61.alloc (.cells #[.int .i64 0, .int .i64 0, .slice none 0 0, .int .i64 0, .int .i64 0, .int .i64 0, .int .i64 0, .slice none 0 0, .slice none 0 0, .slice none 0 0] 34) := ⟨_, rfl⟩
            have hbn : Below Y61.heap.size Y61 Y71 := by rw [hWn]; exact (Below.refl _ _).alloc (Nat.le_refl _) _
            have GB : Hid (Blk Y71 Y61.heap.size #[.int .i64 0, .int .i64 0, .slice none 0 0, .int .i64 0, .int .i64 0, .int .i64 0, .int .i64 0, .slice none 0 0, .slice none 0 0, .slice none 0 0] 34) := by rw [hWn]; exact Blk.made _ _ _
            rw [← hWn]
            clear hWn
            have BZ : Hid (Below w.heap.size w Y71) := Below.next BZ.out hbn
            have BS : Hid (Below w19.heap.size w19 Y71) := Below.next BS.out hbn
            have HSN : Hid (EnBoxes w.heap.size cs0 cs1 Y71) := HSN.out.below hbn
            have T0 : Hid (RdE Y71 z0 s X0) := T0.out.below hbn
            have T1 : Hid (RdE Y71 z1 t X1) := T1.out.below hbn
            have GL : Hid (Y61.heap.size < Y71.heap.size) := GB.out.lt
            clear hbn
            refine onlyH (o := ?o72) 4 (by kernel_rfl) ?h72 ?r72
            case h72 => simp only [List.getElem?_toArray, List.getElem?_cons_succ, List.getElem?_cons_zero]; rfl
            intro K hK
            have LS0 : Hid (w19.heap.size ≤ Y71.heap.size) := BS.out.size
            have GLT : Hid (Y61.heap.size < Y71.heap.size) := GB.out.lt
            refine op_call2' 23 _ _ _ Try.f23 (fun v w' => ∃ r X, v = .tuple #[.agg r, .bool (s.addOk t)] ∧ r.size = 10 ∧ r.all (·.oneCell') = true ∧ RdE w' (.agg r) (s.addR t) X ∧ Own Y71.heap.size w' X ∧ Below Y71.heap.size Y71 w') rfl rfl Try.func23 (by kernel_rfl) (by kernel_rfl) ((addImplE_any z0 z1 s t X0 X1 Y71 T0.out T1.out HF1.out.wide HF2.out.wide).mono (by rintro e w' ⟨v, X, rfl, h1, h2, h3⟩; obtain ⟨r, rfl, h7, h8⟩ := h1.cells; exact ⟨_, rfl, r, X, rfl, h7, h8, h1, h2, h3⟩)) ?_
            rintro _ Y73 ⟨rr, XR, rfl, r7, r8, rz, oz, bz⟩
            refine ⟨_, by simp [Act.put]; rfl, hK _ _ ⟨HSN.out.below bz, ?_⟩⟩
            have BZ : Hid (Below w.heap.size w Y73) := Below.next BZ.out bz
            have BS : Hid (Below w19.heap.size w19 Y73) := Below.next BS.out bz
            have HSN : Hid (EnBoxes w.heap.size cs0 cs1 Y73) := HSN.out.below bz
            have GB : Hid (Blk Y73 Y61.heap.size #[.int .i64 0, .int .i64 0, .slice none 0 0, .int .i64 0, .int .i64 0, .int .i64 0, .int .i64 0, .slice none 0 0, .slice none 0 0, .slice none 0 0] 34) := GB.out.below bz
            have TR : Hid (RdE Y73 (.agg rr) (s.addR t) XR ∧ Own Y71.heap.size Y73 XR ∧ rr.size = 10 ∧ rr.all (·.oneCell') = true) := ⟨rz, oz, r7, r8⟩
            have LW : Hid (Y71.heap.size ≤ Y73.heap.size) := bz.size
            clear hK rz oz bz r7 r8
            refine takeH (o := ?o74) 5 (.tuple #[.agg rr, .bool (s.addOk t)]) ?h74 ?r74
            case h74 => simp only [List.getElem?_toArray, List.getElem?_cons_succ, List.getElem?_cons_zero]; rfl
            refine ⟨_, by simp [Act.put]; rfl, by kernel_rfl, by kernel_rfl, by kernel_rfl, fun _ _ _ h => h, (.inl ⟨rfl, fun W _ => by go_simp⟩), HSN.out, ?_⟩
            refine takeH (o := ?o75) 6 (.agg rr) ?h75 ?r75
            case h75 => simp only [List.getElem?_toArray, List.getElem?_cons_succ, List.getElem?_cons_zero]; rfl
            refine ⟨_, by simp [Act.put]; rfl, by kernel_rfl, by kernel_rfl, by kernel_rfl, fun _ _ _ h => h, (.inl ⟨rfl, fun W _ => by go_simp⟩), HSN.out, ?_⟩
            refine takeH (o := ?o76) 7 (.bool (s.addOk t)) ?h76 ?r76
            case h76 => simp only [List.getElem?_toArray, List.getElem?_cons_succ, List.getElem?_cons_zero]; rfl
            refine ⟨_, by simp [Act.put]; rfl, by kernel_rfl, by kernel_rfl, by kernel_rfl, fun _ _ _ h => h, (.inl ⟨rfl, fun W _ => by go_simp⟩), HSN.out, ?_⟩
            have TR2 : Hid (RdE Y73 (.agg rr) (s.addR t) XR ∧ Own w19.heap.size Y73 XR ∧ (∀ b ∈ XR, b < Y73.heap.size) ∧ Y61.heap.size ∉ XR) := ⟨TR.out.1, TR.out.2.1.mono LS0.out, TR.out.1.lt, fun hx => by have := TR.out.2.1.ge _ hx; have := GLT.out; omega⟩
            refine onlyH (o := ?o77) 9 (by kernel_rfl) ?h77 ?r77
            case h77 => simp only [List.getElem?_toArray, List.getElem?_cons_succ, List.getElem?_cons_zero]; rfl
            intro K hK
            refine op_store 34 Y61.heap.size #[.int .i64 0, .int .i64 0, .slice none 0 0, .int .i64 0, .int .i64 0, .int .i64 0, .int .i64 0, .slice none 0 0, .slice none 0 0, .slice none 0 0] rr 34 rfl rfl rfl rfl GB.out (enSize TR.out.2.2.1) TR.out.2.2.1.symm TR.out.2.2.2 ⟨_, by simp [Act.put]; rfl, hK _ _ ⟨HSN.out.setRow (by have := GX.out; have := L2.out; omega), ?_⟩⟩
            clear hK
            refine onlyH (o := ?o78) 10 (by kernel_rfl) ?h78 ?r78
            case h78 => simp only [List.getElem?_toArray, List.getElem?_cons_succ, List.getElem?_cons_zero]; rfl
            intro K hK
            refine op_value (.bool (s.addOk t)) rfl (by go_simp) ⟨_, by simp [Act.put]; rfl, hK _ _ ⟨HSN.out.setRow (by have := GX.out; have := L2.out; omega), ?_⟩⟩
            clear hK
            refine wpAnyH_done (by kernel_rfl) ?_ _
            go_wp2_with fail
            go_meet
            case rel => exact ⟨Y61.heap.size, rr, XR, rfl, rfl, below_setRow BS.out GX.out _, varE_stored GB.out TR2.out.1 TR.out.2.2.1 TR2.out.2.1 TR2.out.2.2.1 GX.out TR2.out.2.2.2⟩
        case s60 =>
          intro K hK
          have GX : Hid (w19.heap.size ≤ Y59.heap.size) := BS.out.size
          refine op_turn (.pointer (some ⟨Y59.heap.size, 0, none⟩)) (Y59.alloc (.cells #[.int .i64 0, .int .i64 0, .slice none 0 0, .int .i64 0, .int .i64 0, .int .i64 0, .int .i64 0, .slice none 0 0, .slice none 0 0, .slice none 0 0] 34)) rfl (by go_simp) ⟨_, by simp [Act.put]; rfl, hK _ _ ⟨HSN.out.below ((Below.refl _ _).alloc (Nat.le_refl _) _), ?_⟩⟩
          clear hK
          obtain ⟨Y79, hWn⟩ : ∃ W, W = Y59.alloc (.cells #[.int .i64 0, .int .i64 0, .slice none 0 0, .int .i64 0, .int .i64 0, .int .i64 0, .int .i64 0, .slice none 0 0, .slice none 0 0, .slice none 0 0] 34) := ⟨_, rfl⟩
          have hbn : Below Y59.heap.size Y59 Y79 := by rw [hWn]; exact (Below.refl _ _).alloc (Nat.le_refl _) _
          have GB : Hid (Blk Y79 Y59.heap.size #[.int .i64 0, .int .i64 0, .slice none 0 0, .int .i64 0, .int .i64 0, .int .i64 0, .int .i64 0, .slice none 0 0, .slice none 0 0, .slice none 0 0] 34) := by rw [hWn]; exact Blk.made _ _ _
          rw [← hWn]
          clear hWn
          have BZ : Hid (Below w.heap.size w Y79) := Below.next BZ.out hbn
          have BS : Hid (Below w19.heap.size w19 Y79) := Below.next BS.out hbn
          have HSN : Hid (EnBoxes w.heap.size cs0 cs1 Y79) := HSN.out.below hbn
          have T0 : Hid (RdE Y79 z0 s X0) := T0.out.below hbn
          have GL : Hid (Y59.heap.size < Y79.heap.size) := GB.out.lt
          clear hbn
          refine onlyH (o := ?o80) 3 (by kernel_rfl) ?h80 ?r80
          case h80 => simp only [List.getElem?_toArray, List.getElem?_cons_succ, List.getElem?_cons_zero]; rfl
          intro K hK
          refine op_call1 11 _ _ Try.f11 (fun v w' => ∃ X, RdE w' v t X ∧ Own Y79.heap.size w' X ∧ Below Y79.heap.size Y79 w') rfl rfl Try.func11 (by kernel_rfl) (by kernel_rfl) ((toE_any _ t G Y79 (HH.out.2.1.below BZ.out) HF2.out).mono (by rintro e w' ⟨v, X, rfl, h1, h2, h3⟩; exact ⟨_, rfl, X, h1, h2, h3⟩)) ?_
          rintro z1 Y81 ⟨X1, rz, oz, bz⟩
          refine ⟨_, by simp [Act.put]; rfl, hK _ _ ⟨HSN.out.below bz, ?_⟩⟩
          have BZ : Hid (Below w.heap.size w Y81) := Below.next BZ.out bz
          have BS : Hid (Below w19.heap.size w19 Y81) := Below.next BS.out bz
          have HSN : Hid (EnBoxes w.heap.size cs0 cs1 Y81) := HSN.out.below bz
          have T0 : Hid (RdE Y81 z0 s X0) := T0.out.below bz
          have GB : Hid (Blk Y81 Y59.heap.size #[.int .i64 0, .int .i64 0, .slice none 0 0, .int .i64 0, .int .i64 0, .int .i64 0, .int .i64 0, .slice none 0 0, .slice none 0 0, .slice none 0 0] 34) := GB.out.below bz
          have T1 : Hid (RdE Y81 z1 t X1) := rz
          clear hK rz oz bz
          refine onlyH (o := ?o82) 4 (by kernel_rfl) ?h82 ?r82
          case h82 => simp only [List.getElem?_toArray, List.getElem?_cons_succ, List.getElem?_cons_zero]; rfl
          intro K hK
          have LS0 : Hid (w19.heap.size ≤ Y81.heap.size) := BS.out.size
          have GLT : Hid (Y59.heap.size < Y81.heap.size) := GB.out.lt
          refine op_call2' 23 _ _ _ Try.f23 (fun v w' => ∃ r X, v = .tuple #[.agg r, .bool (s.addOk t)] ∧ r.size = 10 ∧ r.all (·.oneCell') = true ∧ RdE w' (.agg r) (s.addR t) X ∧ Own Y81.heap.size w' X ∧ Below Y81.heap.size Y81 w') rfl rfl Try.func23 (by kernel_rfl) (by kernel_rfl) ((addImplE_any z0 z1 s t X0 X1 Y81 T0.out T1.out HF1.out.wide HF2.out.wide).mono (by rintro e w' ⟨v, X, rfl, h1, h2, h3⟩; obtain ⟨r, rfl, h7, h8⟩ := h1.cells; exact ⟨_, rfl, r, X, rfl, h7, h8, h1, h2, h3⟩)) ?_
          rintro _ Y83 ⟨rr, XR, rfl, r7, r8, rz, oz, bz⟩
          refine ⟨_, by simp [Act.put]; rfl, hK _ _ ⟨HSN.out.below bz, ?_⟩⟩
          have BZ : Hid (Below w.heap.size w Y83) := Below.next BZ.out bz
          have BS : Hid (Below w19.heap.size w19 Y83) := Below.next BS.out bz
          have HSN : Hid (EnBoxes w.heap.size cs0 cs1 Y83) := HSN.out.below bz
          have GB : Hid (Blk Y83 Y59.heap.size #[.int .i64 0, .int .i64 0, .slice none 0 0, .int .i64 0, .int .i64 0, .int .i64 0, .int .i64 0, .slice none 0 0, .slice none 0 0, .slice none 0 0] 34) := GB.out.below bz
          have TR : Hid (RdE Y83 (.agg rr) (s.addR t) XR ∧ Own Y81.heap.size Y83 XR ∧ rr.size = 10 ∧ rr.all (·.oneCell') = true) := ⟨rz, oz, r7, r8⟩
          have LW : Hid (Y81.heap.size ≤ Y83.heap.size) := bz.size
          clear hK rz oz bz r7 r8
          refine takeH (o := ?o84) 5 (.tuple #[.agg rr, .bool (s.addOk t)]) ?h84 ?r84
          case h84 => simp only [List.getElem?_toArray, List.getElem?_cons_succ, List.getElem?_cons_zero]; rfl
          refine ⟨_, by simp [Act.put]; rfl, by kernel_rfl, by kernel_rfl, by kernel_rfl, fun _ _ _ h => h, (.inl ⟨rfl, fun W _ => by go_simp⟩), HSN.out, ?_⟩
          refine takeH (o := ?o85) 6 (.agg rr) ?h85 ?r85
          case h85 => simp only [List.getElem?_toArray, List.getElem?_cons_succ, List.getElem?_cons_zero]; rfl
          refine ⟨_, by simp [Act.put]; rfl, by kernel_rfl, by kernel_rfl, by kernel_rfl, fun _ _ _ h => h, (.inl ⟨rfl, fun W _ => by go_simp⟩), HSN.out, ?_⟩
          refine takeH (o := ?o86) 7 (.bool (s.addOk t)) ?h86 ?r86
          case h86 => simp only [List.getElem?_toArray, List.getElem?_cons_succ, List.getElem?_cons_zero]; rfl
          refine ⟨_, by simp [Act.put]; rfl, by kernel_rfl, by kernel_rfl, by kernel_rfl, fun _ _ _ h => h, (.inl ⟨rfl, fun W _ => by go_simp⟩), HSN.out, ?_⟩
          have TR2 : Hid (RdE Y83 (.agg rr) (s.addR t) XR ∧ Own w19.heap.size Y83 XR ∧ (∀ b ∈ XR, b < Y83.heap.size) ∧ Y59.heap.size ∉ XR) := ⟨TR.out.1, TR.out.2.1.mono LS0.out, TR.out.1.lt, fun hx => by have := TR.out.2.1.ge _ hx; have := GLT.out; omega⟩
          refine onlyH (o := ?o87) 9 (by kernel_rfl) ?h87 ?r87
          case h87 => simp only [List.getElem?_toArray, List.getElem?_cons_succ, List.getElem?_cons_zero]; rfl
          intro K hK
          refine op_store 34 Y59.heap.size #[.int .i64 0, .int .i64 0, .slice none 0 0, .int .i64 0, .int .i64 0, .int .i64 0, .int .i64 0, .slice none 0 0, .slice none 0 0, .slice none 0 0] rr 34 rfl rfl rfl rfl GB.out (enSize TR.out.2.2.1) TR.out.2.2.1.symm TR.out.2.2.2 ⟨_, by simp [Act.put]; rfl, hK _ _ ⟨HSN.out.setRow (by have := GX.out; have := L2.out; omega), ?_⟩⟩
          clear hK
          refine onlyH (o := ?o88) 10 (by kernel_rfl) ?h88 ?r88
          case h88 => simp only [List.getElem?_toArray, List.getElem?_cons_succ, List.getElem?_cons_zero]; rfl
          intro K hK
          refine op_value (.bool (s.addOk t)) rfl (by go_simp) ⟨_, by simp [Act.put]; rfl, hK _ _ ⟨HSN.out.setRow (by have := GX.out; have := L2.out; omega), ?_⟩⟩
          clear hK
          refine wpAnyH_done (by kernel_rfl) ?_ _
          go_wp2_with fail
          go_meet
          case rel => exact ⟨Y59.heap.size, rr, XR, rfl, rfl, below_setRow BS.out GX.out _, varE_stored GB.out TR2.out.1 TR.out.2.2.1 TR2.out.2.1 TR2.out.2.2.1 GX.out TR2.out.2.2.2⟩
      case s58 =>
        intro K hK
        have GX : Hid (w19.heap.size ≤ w19.drew.heap.size) := BS.out.size
        refine op_turn (.pointer (some ⟨w19.drew.heap.size, 0, none⟩)) (w19.drew.alloc (.cells #[.int .i64 0, .int .i64 0, .slice none 0 0, .int .i64 0, .int .i64 0, .int .i64 0, .int .i64 0, .slice none 0 0, .slice none 0 0, .slice none 0 0] 34)) rfl (by go_simp) ⟨_, by simp [Act.put]; rfl, hK _ _ ⟨HSN.out.below ((Below.refl _ _).alloc (Nat.le_refl _) _), ?_⟩⟩
        clear hK
        obtain ⟨Y89, hWn⟩ : ∃ W, W = w19.drew.alloc (.cells #[.int .i64 0, .int .i64 0, .slice none 0 0, .int .i64 0, .int .i64 0, .int .i64 0, .int .i64 0, .slice none 0 0, .slice none 0 0, .slice none 0 0] 34) := ⟨_, rfl⟩
        have hbn : Below w19.drew.heap.size w19.drew Y89 := by rw [hWn]; exact (Below.refl _ _).alloc (Nat.le_refl _) _
        have GB : Hid (Blk Y89 w19.drew.heap.size #[.int .i64 0, .int .i64 0, .slice none 0 0, .int .i64 0, .int .i64 0, .int .i64 0, .int .i64 0, .slice none 0 0, .slice none 0 0, .slice none 0 0] 34) := by rw [hWn]; exact Blk.made _ _ _
        rw [← hWn]
        clear hWn
        have BZ : Hid (Below w.heap.size w Y89) := Below.next BZ.out hbn
        have BS : Hid (Below w19.heap.size w19 Y89) := Below.next BS.out hbn
        have HSN : Hid (EnBoxes w.heap.size cs0 cs1 Y89) := HSN.out.below hbn
        have GL : Hid (w19.drew.heap.size < Y89.heap.size) := GB.out.lt
        clear hbn
        refine onlyH (o := ?o90) 1 (by kernel_rfl) ?h90 ?r90
        case h90 => simp only [List.getElem?_toArray, List.getElem?_cons_succ, List.getElem?_cons_zero]; rfl
        intro K hK
        refine op_call1 11 _ _ Try.f11 (fun v w' => ∃ X, RdE w' v s X ∧ Own Y89.heap.size w' X ∧ Below Y89.heap.size Y89 w') rfl rfl Try.func11 (by kernel_rfl) (by kernel_rfl) ((toE_any _ s F Y89 (HH.out.1.1.below BZ.out) HF1.out).mono (by rintro e w' ⟨v, X, rfl, h1, h2, h3⟩; exact ⟨_, rfl, X, h1, h2, h3⟩)) ?_
        rintro z0 Y91 ⟨X0, rz, oz, bz⟩
        refine ⟨_, by simp [Act.put]; rfl, hK _ _ ⟨HSN.out.below bz, ?_⟩⟩
        have BZ : Hid (Below w.heap.size w Y91) := Below.next BZ.out bz
        have BS : Hid (Below w19.heap.size w19 Y91) := Below.next BS.out bz
        have HSN : Hid (EnBoxes w.heap.size cs0 cs1 Y91) := HSN.out.below bz
        have GB : Hid (Blk Y91 w19.drew.heap.size #[.int .i64 0, .int .i64 0, .slice none 0 0, .int .i64 0, .int .i64 0, .int .i64 0, .int .i64 0, .slice none 0 0, .slice none 0 0, .slice none 0 0] 34) := GB.out.below bz
        have T0 : Hid (RdE Y91 z0 s X0) := rz
        clear hK rz oz bz
        refine onlyH (o := ?o92) 3 (by kernel_rfl) ?h92 ?r92
        case h92 => simp only [List.getElem?_toArray, List.getElem?_cons_succ, List.getElem?_cons_zero]; rfl
        intro K hK
        refine op_call1 11 _ _ Try.f11 (fun v w' => ∃ X, RdE w' v t X ∧ Own Y91.heap.size w' X ∧ Below Y91.heap.size Y91 w') rfl rfl Try.func11 (by kernel_rfl) (by kernel_rfl) ((toE_any _ t G Y91 (HH.out.2.1.below BZ.out) HF2.out).mono (by rintro e w' ⟨v, X, rfl, h1, h2, h3⟩; exact ⟨_, rfl, X, h1, h2, h3⟩)) ?_
        rintro z1 Y93 ⟨X1, rz, oz, bz⟩
        refine ⟨_, by simp [Act.put]; rfl, hK _ _ ⟨HSN.out.below bz, ?_⟩⟩
        have BZ : Hid (Below w.heap.size w Y93) := Below.next BZ.out bz
        have BS : Hid (Below w19.heap.size w19 Y93) := Below.next BS.out bz
        have HSN : Hid (EnBoxes w.heap.size cs0 cs1 Y93) := HSN.out.below bz
        have GB : Hid (Blk Y93 w19.drew.heap.size #[.int .i64 0, .int .i64 0, .slice none 0 0, .int .i64 0, .int .i64 0, .int .i64 0, .int .i64 0, .slice none 0 0, .slice none 0 0, .slice none 0 0] 34) := GB.out.below bz
        have T0 : Hid (RdE Y93 z0 s X0) := T0.out.below bz
        have T1 : Hid (RdE Y93 z1 t X1) := rz
        clear hK rz oz bz
        refine onlyH (o := ?o94) 4 (by kernel_rfl) ?h94 ?r94
        case h94 => simp only [List.getElem?_toArray, List.getElem?_cons_succ, List.getElem?_cons_zero]; rfl
        intro K hK
        have LS0 : Hid (w19.heap.size ≤ Y93.heap.size) := BS.out.size
        have GLT : Hid (w19.drew.heap.size < Y93.heap.size) := GB.out.lt
        refine op_call2' 23 _ _ _ Try.f23 (fun v w' => ∃ r X, v = .tuple #[.agg r, .bool (s.addOk t)] ∧ r.size = 10 ∧ r.all (·.oneCell') = true ∧ RdE w' (.agg r) (s.addR t) X ∧ Own Y93.heap.size w' X ∧ Below Y93.heap.size Y93 w') rfl rfl Try.func23 (by kernel_rfl) (by kernel_rfl) ((addImplE_any z0 z1 s t X0 X1 Y93 T0.out T1.out HF1.out.wide HF2.out.wide).mono (by rintro e w' ⟨v, X, rfl, h1, h2, h3⟩; obtain ⟨r, rfl, h7, h8⟩ := h1.cells; exact ⟨_, rfl, r, X, rfl, h7, h8, h1, h2, h3⟩)) ?_
        rintro _ Y95 ⟨rr, XR, rfl, r7, r8, rz, oz, bz⟩
        refine ⟨_, by simp [Act.put]; rfl, hK _ _ ⟨HSN.out.below bz, ?_⟩⟩
        have BZ : Hid (Below w.heap.size w Y95) := Below.next BZ.out bz
        have BS : Hid (Below w19.heap.size w19 Y95) := Below.next BS.out bz
        have HSN : Hid (EnBoxes w.heap.size cs0 cs1 Y95) := HSN.out.below bz
        have GB : Hid (Blk Y95 w19.drew.heap.size #[.int .i64 0, .int .i64 0, .slice none 0 0, .int .i64 0, .int .i64 0, .int .i64 0, .int .i64 0, .slice none 0 0, .slice none 0 0, .slice none 0 0] 34) := GB.out.below bz
        have TR : Hid (RdE Y95 (.agg rr) (s.addR t) XR ∧ Own Y93.heap.size Y95 XR ∧ rr.size = 10 ∧ rr.all (·.oneCell') = true) := ⟨rz, oz, r7, r8⟩
        have LW : Hid (Y93.heap.size ≤ Y95.heap.size) := bz.size
        clear hK rz oz bz r7 r8
        refine takeH (o := ?o96) 5 (.tuple #[.agg rr, .bool (s.addOk t)]) ?h96 ?r96
        case h96 => simp only [List.getElem?_toArray, List.getElem?_cons_succ, List.getElem?_cons_zero]; rfl
        refine ⟨_, by simp [Act.put]; rfl, by kernel_rfl, by kernel_rfl, by kernel_rfl, fun _ _ _ h => h, (.inl ⟨rfl, fun W _ => by go_simp⟩), HSN.out, ?_⟩
        refine takeH (o := ?o97) 6 (.agg rr) ?h97 ?r97
        case h97 => simp only [List.getElem?_toArray, List.getElem?_cons_succ, List.getElem?_cons_zero]; rfl
        refine ⟨_, by simp [Act.put]; rfl, by kernel_rfl, by kernel_rfl, by kernel_rfl, fun _ _ _ h => h, (.inl ⟨rfl, fun W _ => by go_simp⟩), HSN.out, ?_⟩
        refine takeH (o := ?o98) 7 (.bool (s.addOk t)) ?h98 ?r98
        case h98 => simp only [List.getElem?_toArray, List.getElem?_cons_succ, List.getElem?_cons_zero]; rfl
        refine ⟨_, by simp [Act.put]; rfl, by kernel_rfl, by kernel_rfl, by kernel_rfl, fun _ _ _ h => h, (.inl ⟨rfl, fun W _ => by go_simp⟩), HSN.out, ?_⟩
        have TR2 : Hid (RdE Y95 (.agg rr) (s.addR t) XR ∧ Own w19.heap.size Y95 XR ∧ (∀ b ∈ XR, b < Y95.heap.size) ∧ w19.drew.heap.size ∉ XR) := ⟨TR.out.1, TR.out.2.1.mono LS0.out, TR.out.1.lt, fun hx => by have := TR.out.2.1.ge _ hx; have := GLT.out; omega⟩
        refine onlyH (o := ?o99) 9 (by kernel_rfl) ?h99 ?r99
        case h99 => simp only [List.getElem?_toArray, List.getElem?_cons_succ, List.getElem?_cons_zero]; rfl
        intro K hK
        refine op_store 34 w19.drew.heap.size #[.int .i64 0, .int .i64 0, .slice none 0 0, .int .i64 0, .int .i64 0, .int .i64 0, .int .i64 0, .slice none 0 0, .slice none 0 0, .slice none 0 0] rr 34 rfl rfl rfl rfl GB.out (enSize TR.out.2.2.1) TR.out.2.2.1.symm TR.out.2.2.2 ⟨_, by simp [Act.put]; rfl, hK _ _ ⟨HSN.out.setRow (by have := GX.out; have := L2.out; omega), ?_⟩⟩
        clear hK
        refine onlyH (o := ?o100) 10 (by kernel_rfl) ?h100 ?r100
        case h100 => simp only [List.getElem?_toArray, List.getElem?_cons_succ, List.getElem?_cons_zero]; rfl
        intro K hK
        refine op_value (.bool (s.addOk t)) rfl (by go_simp) ⟨_, by simp [Act.put]; rfl, hK _ _ ⟨HSN.out.setRow (by have := GX.out; have := L2.out; omega), ?_⟩⟩
        clear hK
        refine wpAnyH_done (by kernel_rfl) ?_ _
        go_wp2_with fail
        go_meet
        case rel => exact ⟨w19.drew.heap.size, rr, XR, rfl, rfl, below_setRow BS.out GX.out _, varE_stored GB.out TR2.out.1 TR.out.2.2.1 TR2.out.2.1 TR2.out.2.2.1 GX.out TR2.out.2.2.2⟩
    case rest =>
      obtain ⟨gh, ch, Xh, rfl, rfl, hbw, hvar⟩ := hcut
      obtain ⟨w20, hWn⟩ : ∃ W, W = wc := ⟨_, rfl⟩
      rw [← hWn] at hbw hvar ⊢
      clear hWn
      have BEL : Hid (Below w.heap.size w w20) := Below.next BEL.out hbw
      have BX0 : Hid (Blk w20 w.heap.size cs0 28) := BX0.out.below hbw
      have BX1 : Hid (Blk w20 (w.heap.size + 1) cs1 28) := BX1.out.below hbw
      have Vw : Hid (VarE w20 w2.heap.size w5.heap.size gw cw (s.addR t) Xw) := Vw.out.below hbw
      have Vg : Hid (VarE w20 w9.heap.size w11.heap.size w10.heap.size cg ((s.addR t).marked 1) Xg) := Vg.out.below hbw
      have Vh : Hid (VarE w20 w19.heap.size w20.heap.size gh ch (s.addR t) Xh) := hvar
      clear hvar hbw
      rw [← HDD.out]
      go_wp2_with (first | go_skip | (with_reducible refine stopLoad 28 rfl ?_) | (with_reducible refine stopLoad 34 rfl ?_) | (with_reducible refine stopStore 34 rfl ?_))
      refine load_any 34 gh ch 34 _ Vh.out.blk rfl rfl rfl Try.underlying34 rfl (enSize Vh.out.sz) ?_
      go_wp2_with (first | go_skip | (with_reducible refine stopLoad 28 rfl ?_) | (with_reducible refine stopLoad 34 rfl ?_) | (with_reducible refine stopStore 34 rfl ?_))
      refine load_any 34 gw cw 34 _ Vw.out.blk rfl rfl rfl Try.underlying34 rfl (enSize Vw.out.sz) ?_
      go_wp2_with fail
      refine (eqE_any _ _ (s.addR t) (s.addR t) Xh Xw _ Vh.out.rd Vw.out.rd HM.out HM.out).mono ?_
      rintro e w21 ⟨rfl, hb⟩
      have BEL : Hid (Below w.heap.size w w21) := Below.next BEL.out hb
      have BX0 : Hid (Blk w21 w.heap.size cs0 28) := BX0.out.below hb
      have BX1 : Hid (Blk w21 (w.heap.size + 1) cs1 28) := BX1.out.below hb
      have Vw : Hid (VarE w21 w2.heap.size w5.heap.size gw cw (s.addR t) Xw) := Vw.out.below hb
      have Vg : Hid (VarE w21 w9.heap.size w11.heap.size w10.heap.size cg ((s.addR t).marked 1) Xg) := Vg.out.below hb
      have Vh : Hid (VarE w21 w19.heap.size w20.heap.size gh ch (s.addR t) Xh) := Vh.out.below hb
      clear hb
      have hdec : decide (s.addR t = s.addR t) = true := by simp
      rw [hdec]
      clear hdec
      go_wp2_with (first | go_skip | (with_reducible refine stopLoad 28 rfl ?_) | (with_reducible refine stopLoad 34 rfl ?_) | (with_reducible refine stopStore 34 rfl ?_))
      refine load_any 34 w10.heap.size cg 34 _ Vg.out.blk rfl rfl rfl Try.underlying34 rfl (enSize Vg.out.sz) ?_
      go_wp2_with fail
      refine (heldE_any _ (s.addR t) Xg 1 _ Vg.out.rd HM.out (by omega) (by have := HMG.out; omega)).mono ?_
      rintro e w22 ⟨rfl, hb⟩
      have BEL : Hid (Below w.heap.size w w22) := Below.next BEL.out hb
      have BX0 : Hid (Blk w22 w.heap.size cs0 28) := BX0.out.below hb
      have BX1 : Hid (Blk w22 (w.heap.size + 1) cs1 28) := BX1.out.below hb
      have Vw : Hid (VarE w22 w2.heap.size w5.heap.size gw cw (s.addR t) Xw) := Vw.out.below hb
      have Vg : Hid (VarE w22 w9.heap.size w11.heap.size w10.heap.size cg ((s.addR t).marked 1) Xg) := Vg.out.below hb
      have Vh : Hid (VarE w22 w19.heap.size w20.heap.size gh ch (s.addR t) Xh) := Vh.out.below hb
      clear hb
      rw [← HKM.out]
      go_wp2
      go_ret
      exact ⟨rfl, BEL.out⟩
set_option maxRecDepth 100000 in
theorem lifted (os : Os) (started : os.Started) (H : Type) (enc : TypeId × Value → H) :
    ReturnsInHanded {} Try.checked os 5 .any (Rows.fnExactEntryAddSpec.pre6 enc Try.prog Try.f5 Rows.fnExactEntryAddRow.domain false) (Rows.fnExactEntryAddSpec.post enc Try.prog Try.f5 false true false false) := by
  refine returnsInHanded_of_change (C := Try.checked) own started (by kernel_rfl) Try.func5
    (ChangeSpec.witness6 (enc := enc) (C := Try.checked) false ⟨#[], #[.agg #[.int .i64 0, .int .i64 0, .slice none 0 0, .int .i64 0, .int .i64 0, .int .i64 0, .int .i64 0, .slice none 0 0, .slice none 0 0, .slice none 0 0], .agg #[.int .i64 0, .int .i64 0, .slice none 0 0, .int .i64 0, .int .i64 0, .int .i64 0, .int .i64 0, .slice none 0 0, .slice none 0 0, .slice none 0 0]], []⟩ 8 (by kernel_rfl) (by kernel_rfl) (by kernel_rfl) (by kernel_rfl)) ?_
  intro W base args ds gs before hval0 hW hcnd _
  have hval : ∀ (j : Nat) t v, Try.f5.params[j]? = some t → args[j]? = some v → Value.okWide Try.prog W .any base t v := hval0
  have hW' := hW
  obtain ⟨p, q, hA0, hV, rfl, hfz, hnd⟩ := hW
  have hA : DataW.TrodAll enc Try.prog W 0 (fun _ => true) true Try.f5.params.toList args.toList ds p := hA0
  rw [Try.params5] at hA hval
  obtain ⟨v0, vs0, d0, ds0, p0, q0, hargs, rfl, rfl, h0, r0⟩ := trodAll_cons hA
  obtain ⟨v1, vs1, d1, ds1, p1, q1, hargs1, rfl, rfl, h1, r1⟩ := trodAll_cons r0
  obtain ⟨rfl, rfl, rfl⟩ := trodAll_nil r1
  obtain rfl : args = #[v0, v1] := by cases args; simp_all
  obtain ⟨rfl, rfl⟩ := trodVars_none hV
  have k0 := h0
  have k1 := h1
  have lt0 : ∀ x ∈ p0, x.block < W.heap.size := by obtain ⟨m, hm⟩ := k0; exact DataW.trod_lt m _ _ _ hm
  have lt1 : ∀ x ∈ p1, x.block < W.heap.size := by obtain ⟨m, hm⟩ := k1; exact DataW.trod_lt m _ _ _ hm
  obtain ⟨s, F, hR, hv⟩ := open_E (hval 0 28 v0 rfl rfl) h0
  obtain ⟨t, G, kR, kv⟩ := open_E (hval 1 28 v1 rfl rfl) h1
  clear hA0 hval0
  refine (walk v0 v1 s t F G W hR kR hv kv).mono fun e W' ⟨he, bel⟩ => ?_
  subst he
  exact ⟨_, rfl, _, _, _, [], _, [], hW', trodAll_mk1 (shut_bool Try.underlying4 _), (trodAll_cons_mk (Below.trod laidOut (by kernel_rfl) (of_decide_eq_true (by kernel_rfl)) k0 bel lt0) (trodAll_cons_mk (Below.trod laidOut (by kernel_rfl) (of_decide_eq_true (by kernel_rfl)) k1 bel lt1) trodAll_mk0)), rfl, bel.frame _, fun h => by cases h⟩
theorem over : Rows.fnExactEntryAddRow.holds Try.pinned (OpenSpec.ofChange Rows.fnExactEntryAddSpec) :=
  OpenClaim.holds_of_wide 5 Try.f5 rfl rfl rfl rfl rfl rfl rfl ⟨rfl, rfl, rfl, rfl, rfl⟩ rfl rfl rfl rfl rfl (by kernel_rfl) Try.func5 (by kernel_rfl)
    (of_decide_eq_true (by kernel_rfl)) (by unfold Func.isWrapper; first | (rw [if_pos (by decide +kernel)]; kernel_rfl) | (rw [if_neg (by decide +kernel)]; exact ⟨rfl, rfl⟩))
    (fun os started H enc _ => lifted os started H enc)
theorem proved : Rows.FnExactEntryAddSaid := over
#print axioms proved
end Go.Proofs.Ytbmbmnhamogghap.fnExactEntryAdd
