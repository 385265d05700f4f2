/- For every row, every entry and every bool (no condition): laws.FnExactRowPush returns true, and its arguments read afterwards as they did: the program's RowPush answers as the model's, writes nothing into its arguments, and its answer owns its memory. -/
import Derived.Test.YtillnoeailnnfaaGreatB3
import Derived.Test.YtillnoeailnnfaaGreatB4
import Derived.Test.YtillnoeailnnfaaGreatSkLaw
import Derived.Test.YtillnoeailnnfaaGreatRows
import Derived.WalkKit
import Derived.ProofKit
import Derived.OpenShut
import Derived.ShutString
import Derived.ChangeOld
import Derived.Below
import Derived.Deep.DeepCutAuto
namespace Go.Proofs.YtillnoeailnnfaaGreat.fnExactRowPush
open Go.ChangeShapes Go.WideShapes Go.ChangeAt Go.RowKit
set_option linter.unusedVariables false
theorem own : ownKnob Tryz.prog.godebug = none := by kernel_rfl
set_option maxRecDepth 200000 in
set_option maxHeartbeats 16000000 in
theorem walk  (v0 : Value) (s : Rw) (F : List Nat) (v1 : Value) (t : En) (G : List Nat) (j : Bool) (w : World) (h0 : RdRw w v0 s F) (hv0 : s.vast) (h1 : RdE w v1 t G) (hv1 : t.vast) :
    Calls Tryz.prog 4 #[v0, v1, .bool j] w fun e w' => e = .returned (.bool true) ∧ Below w.heap.size w w' := by
  have HH0 : Hid (RdRw w v0 s F ∧ s.vast) := ⟨h0, hv0⟩
  obtain ⟨cs0, rfl, hc0, _⟩ := h0.cells
  have HC0 : Hid (cs0.size = 1) := hc0
  have HH1 : Hid (RdE w v1 t G ∧ t.vast) := ⟨h1, hv1⟩
  obtain ⟨cs1, rfl, hc1, _⟩ := h1.cells
  have HC1 : Hid (cs1.size = 10) := hc1
  have BX0 : Hid (Blk ((w.alloc (.cells cs0 48)).alloc (.cells cs1 52)) (w.heap.size) cs0 48) := (Blk.made _ _ _).alloc _
  have BX1 : Hid (Blk ((w.alloc (.cells cs0 48)).alloc (.cells cs1 52)) (w.heap.size + 1) cs1 52) := Blk.made_eq (by simp)
  have BEL : Hid (Below w.heap.size w ((w.alloc (.cells cs0 48)).alloc (.cells cs1 52))) := Below.allocW _ (Below.allocW _ (Below.refl _ _) (Nat.le_refl _)) (Nat.le_refl _)
  clear h0 hv0 hc0 h1 hv1 hc1
  go_enter Tryz.func4, Tryz.ntmps4
  go_wp2_with (first | go_skip | (with_reducible refine stopLoad 48 rfl ?_) | (with_reducible refine stopLoad 26 rfl ?_) | (with_reducible refine stopLoad 52 rfl ?_) | (with_reducible refine stopLoad 33 rfl ?_) | (with_reducible refine stopStore 26 rfl ?_) | (with_reducible refine stopStore 33 rfl ?_))
  refine load_any 48 (w.heap.size) cs0 48 _ BX0.out rfl rfl rfl Tryz.underlying48 rfl (lrwSize HC0.out) ?_
  go_wp2_with fail
  refine (szRw_vast _ s F 1048576 _ (HH0.out.1.below BEL.out) HH0.out.2 (by omega) (by omega)).mono ?_
  rintro e w1 ⟨⟨r0, rfl, ra, rb, rc⟩, hb1⟩
  have BX0 : Hid (Blk w1 (w.heap.size) cs0 48) := BX0.out.below hb1
  have BX1 : Hid (Blk w1 (w.heap.size + 1) cs1 52) := BX1.out.below hb1
  have BEL : Hid (Below w.heap.size w w1) := Below.next BEL.out hb1
  by_cases q : r0 < 0
  · clear ra rb rc hb1
    have hq : decide (r0 < 0) = true := dec_true q
    go_wp2
    go_ret
    exact ⟨rfl, BEL.out⟩
  have q' : 0 ≤ r0 := by omega
  have hq : decide (r0 < 0) = false := dec_false q
  have HQ0 : Hid (s.size + r0 = 1048576) := by have := rb q'; show _ = _; omega
  have HSZ0 : Hid (s.size ≤ 1048576) := by have := rb q'; show _ ≤ _; omega
  have HR0 : Hid (0 ≤ r0 ∧ r0 ≤ 1048576) := ⟨q', by omega⟩
  have HF0 : Hid (s.fits) := Rw.fits_of HSZ0.out
  have HMI0 : Hid (0 ≤ s.many ∧ s.many ≤ 16777216) := ⟨Rw.many_nonneg s, by have := Rw.fits.many HF0.out; omega⟩
  clear ra rb rc hb1 q q'
  go_wp2_with (first | go_skip | (with_reducible refine stopLoad 48 rfl ?_) | (with_reducible refine stopLoad 26 rfl ?_) | (with_reducible refine stopLoad 52 rfl ?_) | (with_reducible refine stopLoad 33 rfl ?_) | (with_reducible refine stopStore 26 rfl ?_) | (with_reducible refine stopStore 33 rfl ?_))
  refine load_any 52 (w.heap.size + 1) cs1 52 _ BX1.out rfl rfl rfl Tryz.underlying52 rfl (lenSize HC1.out) ?_
  go_wp2_with fail
  refine (szE_vast _ t G r0 _ (HH1.out.1.below BEL.out) HH1.out.2 (by have := HR0.out; omega) (by have := HR0.out; omega)).mono ?_
  rintro e w2 ⟨⟨r1, rfl, ra, rb, rc⟩, hb1⟩
  have BX0 : Hid (Blk w2 (w.heap.size) cs0 48) := BX0.out.below hb1
  have BX1 : Hid (Blk w2 (w.heap.size + 1) cs1 52) := BX1.out.below hb1
  have BEL : Hid (Below w.heap.size w w2) := Below.next BEL.out hb1
  by_cases q : r1 < 0
  · clear ra rb rc hb1
    have hq : decide (r1 < 0) = true := dec_true q
    go_wp2
    go_ret
    exact ⟨rfl, BEL.out⟩
  have q' : 0 ≤ r1 := by omega
  have hq : decide (r1 < 0) = false := dec_false q
  have HSP : Hid (s.size + t.wt ≤ 1048576) := by have := rb q'; have := HQ0.out; show s.size + ((t.ids.length : Int) + t.sk.size) ≤ _; omega
  have HSZ1 : Hid (t.ids.length + t.sk.size ≤ 1048576) := by have := rb q'; have := HR0.out; show _ ≤ _; omega
  have HR1 : Hid (0 ≤ r1 ∧ r1 ≤ 1048576) := ⟨q', by have := HR0.out; omega⟩
  have HF1 : Hid (t.fits) := En.fits_sz HSZ1.out
  have HMI1 : Hid (0 ≤ t.many ∧ t.many ≤ 16777216) := (by have := En.many_fits HSZ1.out; show 0 ≤ _ ∧ _ ≤ _; omega)
  clear ra rb rc hb1 q q'
  have LB0 : Hid (w.heap.size + 1 + 1 ≤ w2.heap.size) := BX1.out.lt
  obtain ⟨ra, rc, hz⟩ : ∃ ra rc, (ra, rc) = s.push t j := ⟨(s.push t j).1, (s.push t j).2, rfl⟩
  have HZ : Hid ((ra, rc) = s.push t j) := hz
  have HM0 := push_wide j HSP.out
  rw [← hz] at HM0
  have HM : Hid (ra.wide ∧ 0 ≤ ra.many ∧ ra.many ≤ 16777216) := HM0
  have hrc : (rc != rc) = false := by simp
  clear HM0 hz
  have LP : Hid (w.heap.size + 1 < w2.heap.size) := BX1.out.lt
  go_upto_region 8 with fail
  go_cut [8, 9] (fun a6 a7 wx => ∃ (g : Nat) (cs : Array Value) (X : List Nat), a6 = .pointer (some ⟨g, 0, none⟩) ∧ a7 = .bool rc ∧ Below w2.heap.size w2 wx ∧ VarRw wx w2.heap.size wx.heap.size g cs ra X)
  case first =>
    have bd := (Below.refl w2.heap.size w2).drew
    have HSN : Hid (Blk w2.drew (w.heap.size) cs0 48 ∧ Blk w2.drew (w.heap.size + 1) cs1 52) := ⟨BX0.out.below bd, BX1.out.below bd⟩
    have BZ : Hid (Below w.heap.size w w2.drew) := Below.next BEL.out bd
    have BS : Hid (Below w2.heap.size w2 w2.drew) := bd
    obtain ⟨Y0, hY0⟩ : ∃ Y, Y = w2.drew := ⟨_, rfl⟩
    rw [← hY0] at HSN BZ BS
    clear bd
    refine wp_region_held (S := fun W => Blk W (w.heap.size) cs0 48 ∧ Blk W (w.heap.size + 1) cs1 52) (by kernel_rfl) ?_
    change wpAnyH _ _ _ _ _ _ _ _ (World.drew _)
    rw [← hY0]
    clear hY0
    refine takeH (o := ?o1) 4 (.bool j) ?h1 ?r1
    case h1 => simp only [aT, aS, aZ]; rfl
    refine ⟨_, by simp [Act.put]; rfl, by kernel_rfl, by kernel_rfl, by kernel_rfl, fun _ _ _ h => h, (.inl ⟨rfl, fun W _ => by kernel_rfl⟩), HSN.out, ?_⟩
    refine takeH (o := ?o2) 0 (.agg cs0) ?h2 ?r2
    case h2 => simp only [aT, aZ]; rfl
    refine ⟨_, by simp [Act.put]; rfl, by kernel_rfl, by kernel_rfl, by kernel_rfl, fun _ _ _ h => h, (yields_whole 48 _ cs0 48 _ rfl rfl rfl Tryz.underlying48 rfl (lrwSize HC0.out) (fun W hW => hW.1)), HSN.out, ?_⟩
    refine takeH (o := ?o3) 2 (.agg cs1) ?h3 ?r3
    case h3 => simp only [aT, aS, aZ]; rfl
    refine ⟨_, by simp [Act.put]; rfl, by kernel_rfl, by kernel_rfl, by kernel_rfl, fun _ _ _ h => h, (yields_whole 52 _ cs1 52 _ rfl rfl rfl Tryz.underlying52 rfl (lenSize HC1.out) (fun W hW => hW.2)), HSN.out, ?_⟩
    refine twoH (o := ?o4) (o' := ?p4) 1 9 (by kernel_rfl) ?h4 ?g4 ?r4 ?s4
    case h4 => simp only [aT, aS, aZ]; rfl
    case g4 => simp only [aT, aS, aZ]; rfl
    case r4 =>
      intro K hK
      refine op_call1 19 _ _ Tryz.f19 (fun v w' => ∃ X, RdRw w' v s X ∧ Below Y0.heap.size Y0 w') rfl rfl Tryz.func19 (by kernel_rfl) (by kernel_rfl) ((toRw_any _ s F Y0 (HH0.out.1.below BZ.out) HF0.out).mono (by rintro e w' ⟨v, X, rfl, h1, _, h3⟩; exact ⟨_, rfl, X, h1, h3⟩)) ?_
      rintro zT0 w3 ⟨XT0, rz, bz⟩
      have HSN : Hid (Blk w3 (w.heap.size) cs0 48 ∧ Blk w3 (w.heap.size + 1) cs1 52) := ⟨HSN.out.1.below bz, HSN.out.2.below bz⟩
      have BZ : Hid (Below w.heap.size w w3) := Below.next BZ.out bz
      have BS : Hid (Below w2.heap.size w2 w3) := Below.next BS.out bz
      have T0 : Hid (RdRw w3 zT0 s XT0) := rz
      refine ⟨_, by simp [Act.put]; rfl, hK _ _ ⟨HSN.out, ?_⟩⟩
      clear hK rz bz
      refine twoH (o := ?o5) (o' := ?p5) 3 9 (by kernel_rfl) ?h5 ?g5 ?r5 ?s5
      case h5 => simp only [aT, aS, aZ]; rfl
      case g5 => simp only [aT, aS, aZ]; rfl
      case r5 =>
        intro K hK
        refine op_call1 20 _ _ Tryz.f20 (fun v w' => ∃ X, RdE w' v t X ∧ Below w3.heap.size w3 w') rfl rfl Tryz.func20 (by kernel_rfl) (by kernel_rfl) ((toE_any _ t G w3 (HH1.out.1.below BZ.out) HF1.out).mono (by rintro e w' ⟨v, X, rfl, h1, _, h3⟩; exact ⟨_, rfl, X, h1, h3⟩)) ?_
        rintro zT1 w4 ⟨XT1, rz, bz⟩
        have HSN : Hid (Blk w4 (w.heap.size) cs0 48 ∧ Blk w4 (w.heap.size + 1) cs1 52) := ⟨HSN.out.1.below bz, HSN.out.2.below bz⟩
        have BZ : Hid (Below w.heap.size w w4) := Below.next BZ.out bz
        have BS : Hid (Below w2.heap.size w2 w4) := Below.next BS.out bz
        have T0 : Hid (RdRw w4 zT0 s XT0) := T0.out.below bz
        have T1 : Hid (RdE w4 zT1 t XT1) := rz
        refine ⟨_, by simp [Act.put]; rfl, hK _ _ ⟨HSN.out, ?_⟩⟩
        clear hK rz bz
        refine twoH (o := ?o6) (o' := ?p6) 5 9 (by kernel_rfl) ?h6 ?g6 ?r6 ?s6
        case h6 => simp only [aT, aS, aZ]; rfl
        case g6 => simp only [aT, aS, aZ]; rfl
        case r6 =>
          intro K hK
          refine op_call3v 9 _ _ _ _ Tryz.f9 (fun v w' => ∃ z Y, v = .tuple #[z, .bool rc] ∧ RdRw w' z ra Y ∧ Own w4.heap.size w' Y ∧ Below w4.heap.size w4 w') rfl rfl Tryz.func9 (by kernel_rfl) (by kernel_rfl) ((rowPushSpec_any zT0 zT1 s XT0 t XT1 j w4 (T0.out) (T1.out) HSP.out).mono (by intro e w' hres; rw [← HZ.out] at hres; obtain ⟨z, Y, rfl, h1, h2, h3⟩ := hres; exact ⟨_, rfl, z, Y, rfl, h1, h2, h3⟩)) ?_
          rintro zt w5 ⟨zv, Yw, rfl, ry, oy, bz⟩
          obtain ⟨cw, rfl, szw, onw⟩ := ry.cells
          have s1 := BS.out.size
          have HSN : Hid (Blk w5 (w.heap.size) cs0 48 ∧ Blk w5 (w.heap.size + 1) cs1 52) := ⟨HSN.out.1.below bz, HSN.out.2.below bz⟩
          have BZ : Hid (Below w.heap.size w w5) := Below.next BZ.out bz
          have BS : Hid (Below w2.heap.size w2 w5) := Below.next BS.out bz
          have TT : Hid (RdRw w5 (.agg cw) ra Yw ∧ Own w2.heap.size w5 Yw ∧ cw.size = 1 ∧ cw.all (·.oneCell') = true) := ⟨ry, oy.mono s1, szw, onw⟩
          refine ⟨_, by simp [Act.put]; rfl, hK _ _ ⟨HSN.out, ?_⟩⟩
          clear hK ry oy bz szw onw s1 T0 T1
          refine takeH (o := ?o7) 6 (.tuple #[.agg cw, .bool rc]) ?h7 ?r7
          case h7 => simp only [aT, aS, aZ]; rfl
          refine ⟨_, by simp [Act.put]; rfl, by kernel_rfl, by kernel_rfl, by kernel_rfl, fun _ _ _ h => h, (.inl ⟨rfl, fun W _ => by kernel_rfl⟩), HSN.out, ?_⟩
          refine takeH (o := ?o8) 7 (.agg cw) ?h8 ?r8
          case h8 => simp only [aT, aS, aZ]; rfl
          refine ⟨_, by simp [Act.put]; rfl, by kernel_rfl, by kernel_rfl, by kernel_rfl, fun _ _ _ h => h, (.inl ⟨rfl, fun W _ => by kernel_rfl⟩), HSN.out, ?_⟩
          refine takeH (o := ?o9) 8 (.bool rc) ?h9 ?r9
          case h9 => simp only [aT, aS, aZ]; rfl
          refine ⟨_, by simp [Act.put]; rfl, by kernel_rfl, by kernel_rfl, by kernel_rfl, fun _ _ _ h => h, (.inl ⟨rfl, fun W _ => by kernel_rfl⟩), HSN.out, ?_⟩
          refine onlyH (o := ?o10) 9 (by kernel_rfl) ?h10 ?r10
          case h10 => simp only [aT, aS, aZ]; rfl
          intro K hK
          refine op_turn (.pointer (some ⟨w5.heap.size, 0, none⟩)) (w5.alloc (.cells #[.slice none 0 0] 26)) rfl (by kernel_rfl) ⟨_, by simp [Act.put]; rfl, hK _ _ ⟨⟨HSN.out.1.alloc _, HSN.out.2.alloc _⟩, ?_⟩⟩
          clear hK
          obtain ⟨w6, hW⟩ : ∃ Z, Z = (w5.alloc (.cells #[.slice none 0 0] 26)) := ⟨_, rfl⟩
          have bz : Below w5.heap.size w5 w6 := by rw [hW]; exact (Below.refl _ _).alloc (Nat.le_refl _) _
          have TX0 : Blk w6 w5.heap.size #[.slice none 0 0] 26 := by rw [hW]; exact Blk.made _ _ _
          rw [← hW]
          clear hW
          obtain ⟨Xw, hX⟩ : ∃ z, z = w5.heap.size := ⟨_, rfl⟩
          have TX : Hid (Blk w6 Xw #[.slice none 0 0] 26 ∧ w2.heap.size ≤ Xw) := ⟨by rw [hX]; exact TX0, by have := BS.out.size; omega⟩
          have TXN : Hid (Xw ∉ Yw) := fun hx => by have := TT.out.1.lt _ hx; omega
          have HSN : Hid (Blk w6 (w.heap.size) cs0 48 ∧ Blk w6 (w.heap.size + 1) cs1 52) := ⟨HSN.out.1.below bz, HSN.out.2.below bz⟩
          have BZ : Hid (Below w.heap.size w w6) := Below.next BZ.out bz
          have BS : Hid (Below w2.heap.size w2 w6) := Below.next BS.out bz
          have TT : Hid (RdRw w6 (.agg cw) ra Yw ∧ Own w2.heap.size w6 Yw ∧ cw.size = 1 ∧ cw.all (·.oneCell') = true) := ⟨TT.out.1.below bz, TT.out.2.1.below TT.out.1.lt bz, TT.out.2.2⟩
          rw [← hX]
          clear hX TX0 bz
          refine onlyH (o := ?o11) 10 (by kernel_rfl) ?h11 ?r11
          case h11 => simp only [aT, aS, aZ]; rfl
          intro K hK
          have lp := LP.out
          have lx := TX.out.2
          refine op_store 26 Xw #[.slice none 0 0] cw 26 rfl rfl rfl rfl TX.out.1 (rwSize TT.out.2.2.1) TT.out.2.2.1.symm TT.out.2.2.2 ⟨_, by simp [Act.put]; rfl, hK _ _ ⟨⟨HSN.out.1.setRowOther (by omega), HSN.out.2.setRowOther (by omega)⟩, ?_⟩⟩
          clear hK
          refine takeH (o := ?o12) 11 (.bool rc) ?h12 ?r12
          case h12 => simp only [aT, aS, aZ]; rfl
          refine ⟨_, by simp [Act.put]; rfl, by kernel_rfl, by kernel_rfl, by kernel_rfl, fun _ _ _ h => h, (.inl ⟨rfl, fun W _ => by kernel_rfl⟩), ⟨HSN.out.1.setRowOther (by omega), HSN.out.2.setRowOther (by omega)⟩, ?_⟩
          refine wpAnyH_done (by kernel_rfl) ?_ _
          go_wp2_with fail
          go_meet
          case rel => exact ⟨Xw, cw, Yw, rfl, rfl, below_setRow BS.out lx _, varRw_stored TX.out.1 TT.out.1 TT.out.2.2.1 TT.out.2.1 TT.out.1.lt lx TXN.out⟩
        case s6 =>
          intro K hK
          refine op_turn (.pointer (some ⟨w4.heap.size, 0, none⟩)) (w4.alloc (.cells #[.slice none 0 0] 26)) rfl (by kernel_rfl) ⟨_, by simp [Act.put]; rfl, hK _ _ ⟨⟨HSN.out.1.alloc _, HSN.out.2.alloc _⟩, ?_⟩⟩
          clear hK
          obtain ⟨w8, hW⟩ : ∃ Z, Z = (w4.alloc (.cells #[.slice none 0 0] 26)) := ⟨_, rfl⟩
          have bz : Below w4.heap.size w4 w8 := by rw [hW]; exact (Below.refl _ _).alloc (Nat.le_refl _) _
          have TX0 : Blk w8 w4.heap.size #[.slice none 0 0] 26 := by rw [hW]; exact Blk.made _ _ _
          rw [← hW]
          clear hW
          obtain ⟨Xw, hX⟩ : ∃ z, z = w4.heap.size := ⟨_, rfl⟩
          have TX : Hid (Blk w8 Xw #[.slice none 0 0] 26 ∧ w2.heap.size ≤ Xw) := ⟨by rw [hX]; exact TX0, by have := BS.out.size; omega⟩
          have HSN : Hid (Blk w8 (w.heap.size) cs0 48 ∧ Blk w8 (w.heap.size + 1) cs1 52) := ⟨HSN.out.1.below bz, HSN.out.2.below bz⟩
          have BZ : Hid (Below w.heap.size w w8) := Below.next BZ.out bz
          have BS : Hid (Below w2.heap.size w2 w8) := Below.next BS.out bz
          have T0 : Hid (RdRw w8 zT0 s XT0) := T0.out.below bz
          have T1 : Hid (RdE w8 zT1 t XT1) := T1.out.below bz
          rw [← hX]
          clear hX TX0 bz
          refine onlyH (o := ?o13) 5 (by kernel_rfl) ?h13 ?r13
          case h13 => simp only [aT, aS, aZ]; rfl
          intro K hK
          refine op_call3v 9 _ _ _ _ Tryz.f9 (fun v w' => ∃ z Y, v = .tuple #[z, .bool rc] ∧ RdRw w' z ra Y ∧ Own w8.heap.size w' Y ∧ Below w8.heap.size w8 w') rfl rfl Tryz.func9 (by kernel_rfl) (by kernel_rfl) ((rowPushSpec_any zT0 zT1 s XT0 t XT1 j w8 (T0.out) (T1.out) HSP.out).mono (by intro e w' hres; rw [← HZ.out] at hres; obtain ⟨z, Y, rfl, h1, h2, h3⟩ := hres; exact ⟨_, rfl, z, Y, rfl, h1, h2, h3⟩)) ?_
          rintro zt w9 ⟨zv, Yw, rfl, ry, oy, bz⟩
          obtain ⟨cw, rfl, szw, onw⟩ := ry.cells
          have s1 := BS.out.size
          have TXN : Hid (Xw ∉ Yw) := fun hx => by have := oy.ge _ hx; have := TX.out.1.lt; omega
          have HSN : Hid (Blk w9 (w.heap.size) cs0 48 ∧ Blk w9 (w.heap.size + 1) cs1 52) := ⟨HSN.out.1.below bz, HSN.out.2.below bz⟩
          have BZ : Hid (Below w.heap.size w w9) := Below.next BZ.out bz
          have BS : Hid (Below w2.heap.size w2 w9) := Below.next BS.out bz
          have TX : Hid (Blk w9 Xw #[.slice none 0 0] 26 ∧ w2.heap.size ≤ Xw) := ⟨TX.out.1.below bz, TX.out.2⟩
          have TT : Hid (RdRw w9 (.agg cw) ra Yw ∧ Own w2.heap.size w9 Yw ∧ cw.size = 1 ∧ cw.all (·.oneCell') = true) := ⟨ry, oy.mono s1, szw, onw⟩
          refine ⟨_, by simp [Act.put]; rfl, hK _ _ ⟨HSN.out, ?_⟩⟩
          clear hK ry oy bz szw onw s1 T0 T1
          refine takeH (o := ?o14) 6 (.tuple #[.agg cw, .bool rc]) ?h14 ?r14
          case h14 => simp only [aT, aS, aZ]; rfl
          refine ⟨_, by simp [Act.put]; rfl, by kernel_rfl, by kernel_rfl, by kernel_rfl, fun _ _ _ h => h, (.inl ⟨rfl, fun W _ => by kernel_rfl⟩), HSN.out, ?_⟩
          refine takeH (o := ?o15) 7 (.agg cw) ?h15 ?r15
          case h15 => simp only [aT, aS, aZ]; rfl
          refine ⟨_, by simp [Act.put]; rfl, by kernel_rfl, by kernel_rfl, by kernel_rfl, fun _ _ _ h => h, (.inl ⟨rfl, fun W _ => by kernel_rfl⟩), HSN.out, ?_⟩
          refine takeH (o := ?o16) 8 (.bool rc) ?h16 ?r16
          case h16 => simp only [aT, aS, aZ]; rfl
          refine ⟨_, by simp [Act.put]; rfl, by kernel_rfl, by kernel_rfl, by kernel_rfl, fun _ _ _ h => h, (.inl ⟨rfl, fun W _ => by kernel_rfl⟩), HSN.out, ?_⟩
          refine onlyH (o := ?o17) 10 (by kernel_rfl) ?h17 ?r17
          case h17 => simp only [aT, aS, aZ]; rfl
          intro K hK
          have lp := LP.out
          have lx := TX.out.2
          refine op_store 26 Xw #[.slice none 0 0] cw 26 rfl rfl rfl rfl TX.out.1 (rwSize TT.out.2.2.1) TT.out.2.2.1.symm TT.out.2.2.2 ⟨_, by simp [Act.put]; rfl, hK _ _ ⟨⟨HSN.out.1.setRowOther (by omega), HSN.out.2.setRowOther (by omega)⟩, ?_⟩⟩
          clear hK
          refine takeH (o := ?o18) 11 (.bool rc) ?h18 ?r18
          case h18 => simp only [aT, aS, aZ]; rfl
          refine ⟨_, by simp [Act.put]; rfl, by kernel_rfl, by kernel_rfl, by kernel_rfl, fun _ _ _ h => h, (.inl ⟨rfl, fun W _ => by kernel_rfl⟩), ⟨HSN.out.1.setRowOther (by omega), HSN.out.2.setRowOther (by omega)⟩, ?_⟩
          refine wpAnyH_done (by kernel_rfl) ?_ _
          go_wp2_with fail
          go_meet
          case rel => exact ⟨Xw, cw, Yw, rfl, rfl, below_setRow BS.out lx _, varRw_stored TX.out.1 TT.out.1 TT.out.2.2.1 TT.out.2.1 TT.out.1.lt lx TXN.out⟩
      case s5 =>
        intro K hK
        refine op_turn (.pointer (some ⟨w3.heap.size, 0, none⟩)) (w3.alloc (.cells #[.slice none 0 0] 26)) rfl (by kernel_rfl) ⟨_, by simp [Act.put]; rfl, hK _ _ ⟨⟨HSN.out.1.alloc _, HSN.out.2.alloc _⟩, ?_⟩⟩
        clear hK
        obtain ⟨w11, hW⟩ : ∃ Z, Z = (w3.alloc (.cells #[.slice none 0 0] 26)) := ⟨_, rfl⟩
        have bz : Below w3.heap.size w3 w11 := by rw [hW]; exact (Below.refl _ _).alloc (Nat.le_refl _) _
        have TX0 : Blk w11 w3.heap.size #[.slice none 0 0] 26 := by rw [hW]; exact Blk.made _ _ _
        rw [← hW]
        clear hW
        obtain ⟨Xw, hX⟩ : ∃ z, z = w3.heap.size := ⟨_, rfl⟩
        have TX : Hid (Blk w11 Xw #[.slice none 0 0] 26 ∧ w2.heap.size ≤ Xw) := ⟨by rw [hX]; exact TX0, by have := BS.out.size; omega⟩
        have HSN : Hid (Blk w11 (w.heap.size) cs0 48 ∧ Blk w11 (w.heap.size + 1) cs1 52) := ⟨HSN.out.1.below bz, HSN.out.2.below bz⟩
        have BZ : Hid (Below w.heap.size w w11) := Below.next BZ.out bz
        have BS : Hid (Below w2.heap.size w2 w11) := Below.next BS.out bz
        have T0 : Hid (RdRw w11 zT0 s XT0) := T0.out.below bz
        rw [← hX]
        clear hX TX0 bz
        refine onlyH (o := ?o19) 3 (by kernel_rfl) ?h19 ?r19
        case h19 => simp only [aT, aS, aZ]; rfl
        intro K hK
        refine op_call1 20 _ _ Tryz.f20 (fun v w' => ∃ X, RdE w' v t X ∧ Below w11.heap.size w11 w') rfl rfl Tryz.func20 (by kernel_rfl) (by kernel_rfl) ((toE_any _ t G w11 (HH1.out.1.below BZ.out) HF1.out).mono (by rintro e w' ⟨v, X, rfl, h1, _, h3⟩; exact ⟨_, rfl, X, h1, h3⟩)) ?_
        rintro zT1 w12 ⟨XT1, rz, bz⟩
        have HSN : Hid (Blk w12 (w.heap.size) cs0 48 ∧ Blk w12 (w.heap.size + 1) cs1 52) := ⟨HSN.out.1.below bz, HSN.out.2.below bz⟩
        have BZ : Hid (Below w.heap.size w w12) := Below.next BZ.out bz
        have BS : Hid (Below w2.heap.size w2 w12) := Below.next BS.out bz
        have T0 : Hid (RdRw w12 zT0 s XT0) := T0.out.below bz
        have TX : Hid (Blk w12 Xw #[.slice none 0 0] 26 ∧ w2.heap.size ≤ Xw) := ⟨TX.out.1.below bz, TX.out.2⟩
        have T1 : Hid (RdE w12 zT1 t XT1) := rz
        refine ⟨_, by simp [Act.put]; rfl, hK _ _ ⟨HSN.out, ?_⟩⟩
        clear hK rz bz
        refine onlyH (o := ?o20) 5 (by kernel_rfl) ?h20 ?r20
        case h20 => simp only [aT, aS, aZ]; rfl
        intro K hK
        refine op_call3v 9 _ _ _ _ Tryz.f9 (fun v w' => ∃ z Y, v = .tuple #[z, .bool rc] ∧ RdRw w' z ra Y ∧ Own w12.heap.size w' Y ∧ Below w12.heap.size w12 w') rfl rfl Tryz.func9 (by kernel_rfl) (by kernel_rfl) ((rowPushSpec_any zT0 zT1 s XT0 t XT1 j w12 (T0.out) (T1.out) HSP.out).mono (by intro e w' hres; rw [← HZ.out] at hres; obtain ⟨z, Y, rfl, h1, h2, h3⟩ := hres; exact ⟨_, rfl, z, Y, rfl, h1, h2, h3⟩)) ?_
        rintro zt w13 ⟨zv, Yw, rfl, ry, oy, bz⟩
        obtain ⟨cw, rfl, szw, onw⟩ := ry.cells
        have s1 := BS.out.size
        have TXN : Hid (Xw ∉ Yw) := fun hx => by have := oy.ge _ hx; have := TX.out.1.lt; omega
        have HSN : Hid (Blk w13 (w.heap.size) cs0 48 ∧ Blk w13 (w.heap.size + 1) cs1 52) := ⟨HSN.out.1.below bz, HSN.out.2.below bz⟩
        have BZ : Hid (Below w.heap.size w w13) := Below.next BZ.out bz
        have BS : Hid (Below w2.heap.size w2 w13) := Below.next BS.out bz
        have TX : Hid (Blk w13 Xw #[.slice none 0 0] 26 ∧ w2.heap.size ≤ Xw) := ⟨TX.out.1.below bz, TX.out.2⟩
        have TT : Hid (RdRw w13 (.agg cw) ra Yw ∧ Own w2.heap.size w13 Yw ∧ cw.size = 1 ∧ cw.all (·.oneCell') = true) := ⟨ry, oy.mono s1, szw, onw⟩
        refine ⟨_, by simp [Act.put]; rfl, hK _ _ ⟨HSN.out, ?_⟩⟩
        clear hK ry oy bz szw onw s1 T0 T1
        refine takeH (o := ?o21) 6 (.tuple #[.agg cw, .bool rc]) ?h21 ?r21
        case h21 => simp only [aT, aS, aZ]; rfl
        refine ⟨_, by simp [Act.put]; rfl, by kernel_rfl, by kernel_rfl, by kernel_rfl, fun _ _ _ h => h, (.inl ⟨rfl, fun W _ => by kernel_rfl⟩), HSN.out, ?_⟩
        refine takeH (o := ?o22) 7 (.agg cw) ?h22 ?r22
        case h22 => simp only [aT, aS, aZ]; rfl
        refine ⟨_, by simp [Act.put]; rfl, by kernel_rfl, by kernel_rfl, by kernel_rfl, fun _ _ _ h => h, (.inl ⟨rfl, fun W _ => by kernel_rfl⟩), HSN.out, ?_⟩
        refine takeH (o := ?o23) 8 (.bool rc) ?h23 ?r23
        case h23 => simp only [aT, aS, aZ]; rfl
        refine ⟨_, by simp [Act.put]; rfl, by kernel_rfl, by kernel_rfl, by kernel_rfl, fun _ _ _ h => h, (.inl ⟨rfl, fun W _ => by kernel_rfl⟩), HSN.out, ?_⟩
        refine onlyH (o := ?o24) 10 (by kernel_rfl) ?h24 ?r24
        case h24 => simp only [aT, aS, aZ]; rfl
        intro K hK
        have lp := LP.out
        have lx := TX.out.2
        refine op_store 26 Xw #[.slice none 0 0] cw 26 rfl rfl rfl rfl TX.out.1 (rwSize TT.out.2.2.1) TT.out.2.2.1.symm TT.out.2.2.2 ⟨_, by simp [Act.put]; rfl, hK _ _ ⟨⟨HSN.out.1.setRowOther (by omega), HSN.out.2.setRowOther (by omega)⟩, ?_⟩⟩
        clear hK
        refine takeH (o := ?o25) 11 (.bool rc) ?h25 ?r25
        case h25 => simp only [aT, aS, aZ]; rfl
        refine ⟨_, by simp [Act.put]; rfl, by kernel_rfl, by kernel_rfl, by kernel_rfl, fun _ _ _ h => h, (.inl ⟨rfl, fun W _ => by kernel_rfl⟩), ⟨HSN.out.1.setRowOther (by omega), HSN.out.2.setRowOther (by omega)⟩, ?_⟩
        refine wpAnyH_done (by kernel_rfl) ?_ _
        go_wp2_with fail
        go_meet
        case rel => exact ⟨Xw, cw, Yw, rfl, rfl, below_setRow BS.out lx _, varRw_stored TX.out.1 TT.out.1 TT.out.2.2.1 TT.out.2.1 TT.out.1.lt lx TXN.out⟩
    case s4 =>
      intro K hK
      refine op_turn (.pointer (some ⟨Y0.heap.size, 0, none⟩)) (Y0.alloc (.cells #[.slice none 0 0] 26)) rfl (by kernel_rfl) ⟨_, by simp [Act.put]; rfl, hK _ _ ⟨⟨HSN.out.1.alloc _, HSN.out.2.alloc _⟩, ?_⟩⟩
      clear hK
      obtain ⟨w15, hW⟩ : ∃ Z, Z = (Y0.alloc (.cells #[.slice none 0 0] 26)) := ⟨_, rfl⟩
      have bz : Below Y0.heap.size Y0 w15 := by rw [hW]; exact (Below.refl _ _).alloc (Nat.le_refl _) _
      have TX0 : Blk w15 Y0.heap.size #[.slice none 0 0] 26 := by rw [hW]; exact Blk.made _ _ _
      rw [← hW]
      clear hW
      obtain ⟨Xw, hX⟩ : ∃ z, z = Y0.heap.size := ⟨_, rfl⟩
      have TX : Hid (Blk w15 Xw #[.slice none 0 0] 26 ∧ w2.heap.size ≤ Xw) := ⟨by rw [hX]; exact TX0, by have := BS.out.size; omega⟩
      have HSN : Hid (Blk w15 (w.heap.size) cs0 48 ∧ Blk w15 (w.heap.size + 1) cs1 52) := ⟨HSN.out.1.below bz, HSN.out.2.below bz⟩
      have BZ : Hid (Below w.heap.size w w15) := Below.next BZ.out bz
      have BS : Hid (Below w2.heap.size w2 w15) := Below.next BS.out bz
      rw [← hX]
      clear hX TX0 bz
      refine onlyH (o := ?o26) 1 (by kernel_rfl) ?h26 ?r26
      case h26 => simp only [aT, aS, aZ]; rfl
      intro K hK
      refine op_call1 19 _ _ Tryz.f19 (fun v w' => ∃ X, RdRw w' v s X ∧ Below w15.heap.size w15 w') rfl rfl Tryz.func19 (by kernel_rfl) (by kernel_rfl) ((toRw_any _ s F w15 (HH0.out.1.below BZ.out) HF0.out).mono (by rintro e w' ⟨v, X, rfl, h1, _, h3⟩; exact ⟨_, rfl, X, h1, h3⟩)) ?_
      rintro zT0 w16 ⟨XT0, rz, bz⟩
      have HSN : Hid (Blk w16 (w.heap.size) cs0 48 ∧ Blk w16 (w.heap.size + 1) cs1 52) := ⟨HSN.out.1.below bz, HSN.out.2.below bz⟩
      have BZ : Hid (Below w.heap.size w w16) := Below.next BZ.out bz
      have BS : Hid (Below w2.heap.size w2 w16) := Below.next BS.out bz
      have TX : Hid (Blk w16 Xw #[.slice none 0 0] 26 ∧ w2.heap.size ≤ Xw) := ⟨TX.out.1.below bz, TX.out.2⟩
      have T0 : Hid (RdRw w16 zT0 s XT0) := rz
      refine ⟨_, by simp [Act.put]; rfl, hK _ _ ⟨HSN.out, ?_⟩⟩
      clear hK rz bz
      refine onlyH (o := ?o27) 3 (by kernel_rfl) ?h27 ?r27
      case h27 => simp only [aT, aS, aZ]; rfl
      intro K hK
      refine op_call1 20 _ _ Tryz.f20 (fun v w' => ∃ X, RdE w' v t X ∧ Below w16.heap.size w16 w') rfl rfl Tryz.func20 (by kernel_rfl) (by kernel_rfl) ((toE_any _ t G w16 (HH1.out.1.below BZ.out) HF1.out).mono (by rintro e w' ⟨v, X, rfl, h1, _, h3⟩; exact ⟨_, rfl, X, h1, h3⟩)) ?_
      rintro zT1 w17 ⟨XT1, rz, bz⟩
      have HSN : Hid (Blk w17 (w.heap.size) cs0 48 ∧ Blk w17 (w.heap.size + 1) cs1 52) := ⟨HSN.out.1.below bz, HSN.out.2.below bz⟩
      have BZ : Hid (Below w.heap.size w w17) := Below.next BZ.out bz
      have BS : Hid (Below w2.heap.size w2 w17) := Below.next BS.out bz
      have T0 : Hid (RdRw w17 zT0 s XT0) := T0.out.below bz
      have TX : Hid (Blk w17 Xw #[.slice none 0 0] 26 ∧ w2.heap.size ≤ Xw) := ⟨TX.out.1.below bz, TX.out.2⟩
      have T1 : Hid (RdE w17 zT1 t XT1) := rz
      refine ⟨_, by simp [Act.put]; rfl, hK _ _ ⟨HSN.out, ?_⟩⟩
      clear hK rz bz
      refine onlyH (o := ?o28) 5 (by kernel_rfl) ?h28 ?r28
      case h28 => simp only [aT, aS, aZ]; rfl
      intro K hK
      refine op_call3v 9 _ _ _ _ Tryz.f9 (fun v w' => ∃ z Y, v = .tuple #[z, .bool rc] ∧ RdRw w' z ra Y ∧ Own w17.heap.size w' Y ∧ Below w17.heap.size w17 w') rfl rfl Tryz.func9 (by kernel_rfl) (by kernel_rfl) ((rowPushSpec_any zT0 zT1 s XT0 t XT1 j w17 (T0.out) (T1.out) HSP.out).mono (by intro e w' hres; rw [← HZ.out] at hres; obtain ⟨z, Y, rfl, h1, h2, h3⟩ := hres; exact ⟨_, rfl, z, Y, rfl, h1, h2, h3⟩)) ?_
      rintro zt w18 ⟨zv, Yw, rfl, ry, oy, bz⟩
      obtain ⟨cw, rfl, szw, onw⟩ := ry.cells
      have s1 := BS.out.size
      have TXN : Hid (Xw ∉ Yw) := fun hx => by have := oy.ge _ hx; have := TX.out.1.lt; omega
      have HSN : Hid (Blk w18 (w.heap.size) cs0 48 ∧ Blk w18 (w.heap.size + 1) cs1 52) := ⟨HSN.out.1.below bz, HSN.out.2.below bz⟩
      have BZ : Hid (Below w.heap.size w w18) := Below.next BZ.out bz
      have BS : Hid (Below w2.heap.size w2 w18) := Below.next BS.out bz
      have TX : Hid (Blk w18 Xw #[.slice none 0 0] 26 ∧ w2.heap.size ≤ Xw) := ⟨TX.out.1.below bz, TX.out.2⟩
      have TT : Hid (RdRw w18 (.agg cw) ra Yw ∧ Own w2.heap.size w18 Yw ∧ cw.size = 1 ∧ cw.all (·.oneCell') = true) := ⟨ry, oy.mono s1, szw, onw⟩
      refine ⟨_, by simp [Act.put]; rfl, hK _ _ ⟨HSN.out, ?_⟩⟩
      clear hK ry oy bz szw onw s1 T0 T1
      refine takeH (o := ?o29) 6 (.tuple #[.agg cw, .bool rc]) ?h29 ?r29
      case h29 => simp only [aT, aS, aZ]; rfl
      refine ⟨_, by simp [Act.put]; rfl, by kernel_rfl, by kernel_rfl, by kernel_rfl, fun _ _ _ h => h, (.inl ⟨rfl, fun W _ => by kernel_rfl⟩), HSN.out, ?_⟩
      refine takeH (o := ?o30) 7 (.agg cw) ?h30 ?r30
      case h30 => simp only [aT, aS, aZ]; rfl
      refine ⟨_, by simp [Act.put]; rfl, by kernel_rfl, by kernel_rfl, by kernel_rfl, fun _ _ _ h => h, (.inl ⟨rfl, fun W _ => by kernel_rfl⟩), HSN.out, ?_⟩
      refine takeH (o := ?o31) 8 (.bool rc) ?h31 ?r31
      case h31 => simp only [aT, aS, aZ]; rfl
      refine ⟨_, by simp [Act.put]; rfl, by kernel_rfl, by kernel_rfl, by kernel_rfl, fun _ _ _ h => h, (.inl ⟨rfl, fun W _ => by kernel_rfl⟩), HSN.out, ?_⟩
      refine onlyH (o := ?o32) 10 (by kernel_rfl) ?h32 ?r32
      case h32 => simp only [aT, aS, aZ]; rfl
      intro K hK
      have lp := LP.out
      have lx := TX.out.2
      refine op_store 26 Xw #[.slice none 0 0] cw 26 rfl rfl rfl rfl TX.out.1 (rwSize TT.out.2.2.1) TT.out.2.2.1.symm TT.out.2.2.2 ⟨_, by simp [Act.put]; rfl, hK _ _ ⟨⟨HSN.out.1.setRowOther (by omega), HSN.out.2.setRowOther (by omega)⟩, ?_⟩⟩
      clear hK
      refine takeH (o := ?o33) 11 (.bool rc) ?h33 ?r33
      case h33 => simp only [aT, aS, aZ]; rfl
      refine ⟨_, by simp [Act.put]; rfl, by kernel_rfl, by kernel_rfl, by kernel_rfl, fun _ _ _ h => h, (.inl ⟨rfl, fun W _ => by kernel_rfl⟩), ⟨HSN.out.1.setRowOther (by omega), HSN.out.2.setRowOther (by omega)⟩, ?_⟩
      refine wpAnyH_done (by kernel_rfl) ?_ _
      go_wp2_with fail
      go_meet
      case rel => exact ⟨Xw, cw, Yw, rfl, rfl, below_setRow BS.out lx _, varRw_stored TX.out.1 TT.out.1 TT.out.2.2.1 TT.out.2.1 TT.out.1.lt lx TXN.out⟩
  case rest =>
    obtain ⟨gw, cw, Yw, rfl, rfl, hbw, hvar⟩ := hcut
    obtain ⟨w20, hWn⟩ : ∃ W, W = wc := ⟨_, rfl⟩
    rw [← hWn] at hbw hvar ⊢
    clear hWn
    have BX0 : Hid (Blk w20 (w.heap.size) cs0 48) := BX0.out.below hbw
    have BX1 : Hid (Blk w20 (w.heap.size + 1) cs1 52) := BX1.out.below hbw
    have BEL : Hid (Below w.heap.size w w20) := Below.next BEL.out hbw
    have Vw : Hid (VarRw w20 w2.heap.size w20.heap.size gw cw ra Yw) := hvar
    have O1 : Hid (w2.heap.size ≤ w20.heap.size) := by show _ ≤ _; exact hbw.size
    clear hvar hbw LP
    go_wp2_with (first | go_skip | (with_reducible refine stopLoad 48 rfl ?_) | (with_reducible refine stopLoad 26 rfl ?_) | (with_reducible refine stopLoad 52 rfl ?_) | (with_reducible refine stopLoad 33 rfl ?_) | (with_reducible refine stopStore 26 rfl ?_) | (with_reducible refine stopStore 33 rfl ?_))
    refine load_any 48 (w.heap.size) cs0 48 _ BX0.out rfl rfl rfl Tryz.underlying48 rfl (lrwSize HC0.out) ?_
    go_wp2_with fail
    refine (toRw_any _ s F _ (HH0.out.1.below BEL.out) HF0.out).mono ?_
    rintro e w21 ⟨zx0, Xx0, rfl, rz, oz, bz⟩
    have BX0 : Hid (Blk w21 (w.heap.size) cs0 48) := BX0.out.below bz
    have BX1 : Hid (Blk w21 (w.heap.size + 1) cs1 52) := BX1.out.below bz
    have BEL : Hid (Below w.heap.size w w21) := Below.next BEL.out bz
    have Vw : Hid (VarRw w21 w2.heap.size w20.heap.size gw cw ra Yw) := Vw.out.below bz
    have Tx0 : Hid (RdRw w21 zx0 s Xx0 ∧ Own w20.heap.size w21 Xx0 ∧ Below w20.heap.size w20 w21) := ⟨rz, oz, bz⟩
    have O2 : Hid (w20.heap.size ≤ w21.heap.size) := by show _ ≤ _; exact bz.size
    clear rz oz bz
    obtain ⟨cx0, rfl, szx0, onx0⟩ := Tx0.out.1.cells
    have SZ : Hid (cx0.size = 1 ∧ cx0.all (·.oneCell') = true) := ⟨szx0, onx0⟩
    clear szx0 onx0
    go_wp2_with (first | go_skip | (with_reducible refine stopLoad 48 rfl ?_) | (with_reducible refine stopLoad 26 rfl ?_) | (with_reducible refine stopLoad 52 rfl ?_) | (with_reducible refine stopLoad 33 rfl ?_) | (with_reducible refine stopStore 26 rfl ?_) | (with_reducible refine stopStore 33 rfl ?_))
    refine store_fresh 26 w21.heap.size rfl #[.slice none 0 0] cx0 26 rfl rfl rfl rfl (rwSize SZ.out.1) SZ.out.1.symm SZ.out.2 ?_
    intro w22 hg hb
    have BX0 : Hid (Blk w22 (w.heap.size) cs0 48) := BX0.out.below hb
    have BX1 : Hid (Blk w22 (w.heap.size + 1) cs1 52) := BX1.out.below hb
    have BEL : Hid (Below w.heap.size w w22) := Below.next BEL.out hb
    have Vw : Hid (VarRw w22 w2.heap.size w20.heap.size gw cw ra Yw) := Vw.out.below hb
    have Vx0 : Hid (VarRw w22 w20.heap.size w22.heap.size w21.heap.size cx0 s Xx0) := VarRw.fresh Tx0.out.1 Tx0.out.2.1 Tx0.out.2.2 SZ.out.1 hg hb
    have O3 : Hid (w20.heap.size ≤ w22.heap.size) := by show _ ≤ _; have := Tx0.out.2.2.size; have := hb.size; omega
    clear hg hb Tx0 SZ
    go_wp2_with (first | go_skip | (with_reducible refine stopLoad 48 rfl ?_) | (with_reducible refine stopLoad 26 rfl ?_) | (with_reducible refine stopLoad 52 rfl ?_) | (with_reducible refine stopLoad 33 rfl ?_) | (with_reducible refine stopStore 26 rfl ?_) | (with_reducible refine stopStore 33 rfl ?_))
    refine load_any 52 (w.heap.size + 1) cs1 52 _ BX1.out rfl rfl rfl Tryz.underlying52 rfl (lenSize HC1.out) ?_
    go_wp2_with fail
    refine (toE_any _ t G _ (HH1.out.1.below BEL.out) HF1.out).mono ?_
    rintro e w23 ⟨zx1, Xx1, rfl, rz, oz, bz⟩
    have BX0 : Hid (Blk w23 (w.heap.size) cs0 48) := BX0.out.below bz
    have BX1 : Hid (Blk w23 (w.heap.size + 1) cs1 52) := BX1.out.below bz
    have BEL : Hid (Below w.heap.size w w23) := Below.next BEL.out bz
    have Vw : Hid (VarRw w23 w2.heap.size w20.heap.size gw cw ra Yw) := Vw.out.below bz
    have Vx0 : Hid (VarRw w23 w20.heap.size w22.heap.size w21.heap.size cx0 s Xx0) := Vx0.out.below bz
    have Tx1 : Hid (RdE w23 zx1 t Xx1 ∧ Own w22.heap.size w23 Xx1 ∧ Below w22.heap.size w22 w23) := ⟨rz, oz, bz⟩
    have O4 : Hid (w22.heap.size ≤ w23.heap.size) := by show _ ≤ _; exact bz.size
    clear rz oz bz
    obtain ⟨cx1, rfl, szx1, onx1⟩ := Tx1.out.1.cells
    have SZ : Hid (cx1.size = 10 ∧ cx1.all (·.oneCell') = true) := ⟨szx1, onx1⟩
    clear szx1 onx1
    go_wp2_with (first | go_skip | (with_reducible refine stopLoad 48 rfl ?_) | (with_reducible refine stopLoad 26 rfl ?_) | (with_reducible refine stopLoad 52 rfl ?_) | (with_reducible refine stopLoad 33 rfl ?_) | (with_reducible refine stopStore 26 rfl ?_) | (with_reducible refine stopStore 33 rfl ?_))
    refine store_fresh 33 w23.heap.size rfl #[.int .i64 0, .int .i64 0, .slice none 0 0, .int .i64 0, .int .i64 0, .int .i64 0, .int .i64 0, .slice none 0 0, .slice none 0 0, .slice none 0 0] cx1 33 rfl rfl rfl rfl (enSize SZ.out.1) SZ.out.1.symm SZ.out.2 ?_
    intro w24 hg hb
    have BX0 : Hid (Blk w24 (w.heap.size) cs0 48) := BX0.out.below hb
    have BX1 : Hid (Blk w24 (w.heap.size + 1) cs1 52) := BX1.out.below hb
    have BEL : Hid (Below w.heap.size w w24) := Below.next BEL.out hb
    have Vw : Hid (VarRw w24 w2.heap.size w20.heap.size gw cw ra Yw) := Vw.out.below hb
    have Vx0 : Hid (VarRw w24 w20.heap.size w22.heap.size w21.heap.size cx0 s Xx0) := Vx0.out.below hb
    have Vx1 : Hid (VarE w24 w22.heap.size w24.heap.size w23.heap.size cx1 t Xx1) := VarE.fresh Tx1.out.1 Tx1.out.2.1 Tx1.out.2.2 SZ.out.1 hg hb
    have O5 : Hid (w22.heap.size ≤ w24.heap.size) := by show _ ≤ _; have := Tx1.out.2.2.size; have := hb.size; omega
    clear hg hb Tx1 SZ
    go_wp2_with (first | go_skip | (with_reducible refine stopLoad 48 rfl ?_) | (with_reducible refine stopLoad 26 rfl ?_) | (with_reducible refine stopLoad 52 rfl ?_) | (with_reducible refine stopLoad 33 rfl ?_) | (with_reducible refine stopStore 26 rfl ?_) | (with_reducible refine stopStore 33 rfl ?_))
    refine load_any 26 _ cx0 26 _ Vx0.out.blk rfl rfl rfl Tryz.underlying26 rfl (rwSize Vx0.out.sz) ?_
    go_wp2_with (first | go_skip | (with_reducible refine stopLoad 48 rfl ?_) | (with_reducible refine stopLoad 26 rfl ?_) | (with_reducible refine stopLoad 52 rfl ?_) | (with_reducible refine stopLoad 33 rfl ?_) | (with_reducible refine stopStore 26 rfl ?_) | (with_reducible refine stopStore 33 rfl ?_))
    refine load_any 33 _ cx1 33 _ Vx1.out.blk rfl rfl rfl Tryz.underlying33 rfl (enSize Vx1.out.sz) ?_
    go_wp2_with fail
    refine (rowPushImpl_any _ _ s Xx0 t Xx1 j _ (Vx0.out.rd) (Vx1.out.rd) HSP.out).mono ?_
    intro e w25 hres
    rw [← HZ.out] at hres
    obtain ⟨zv, Yg, rfl, ry, oy, bz⟩ := hres
    obtain ⟨cg, rfl, szg, ong⟩ := ry.cells
    have BX0 : Hid (Blk w25 (w.heap.size) cs0 48) := BX0.out.below bz
    have BX1 : Hid (Blk w25 (w.heap.size + 1) cs1 52) := BX1.out.below bz
    have BEL : Hid (Below w.heap.size w w25) := Below.next BEL.out bz
    have Vw : Hid (VarRw w25 w2.heap.size w20.heap.size gw cw ra Yw) := Vw.out.below bz
    have Vx0 : Hid (VarRw w25 w20.heap.size w22.heap.size w21.heap.size cx0 s Xx0) := Vx0.out.below bz
    have Vx1 : Hid (VarE w25 w22.heap.size w24.heap.size w23.heap.size cx1 t Xx1) := Vx1.out.below bz
    have TT : Hid (RdRw w25 (.agg cg) ra Yg ∧ Own w24.heap.size w25 Yg ∧ Below w24.heap.size w24 w25 ∧ cg.size = 1 ∧ cg.all (·.oneCell') = true) := ⟨ry, oy, bz, szg, ong⟩
    clear ry oy bz szg ong
    go_wp2_with (first | go_skip | (with_reducible refine stopLoad 48 rfl ?_) | (with_reducible refine stopLoad 26 rfl ?_) | (with_reducible refine stopLoad 52 rfl ?_) | (with_reducible refine stopLoad 33 rfl ?_) | (with_reducible refine stopStore 26 rfl ?_) | (with_reducible refine stopStore 33 rfl ?_))
    refine store_fresh 26 w25.heap.size rfl #[.slice none 0 0] cg 26 rfl rfl rfl rfl (rwSize TT.out.2.2.2.1) TT.out.2.2.2.1.symm TT.out.2.2.2.2 ?_
    intro w26 hg hb
    have BX0 : Hid (Blk w26 (w.heap.size) cs0 48) := BX0.out.below hb
    have BX1 : Hid (Blk w26 (w.heap.size + 1) cs1 52) := BX1.out.below hb
    have BEL : Hid (Below w.heap.size w w26) := Below.next BEL.out hb
    have Vw : Hid (VarRw w26 w2.heap.size w20.heap.size gw cw ra Yw) := Vw.out.below hb
    have Vx0 : Hid (VarRw w26 w20.heap.size w22.heap.size w21.heap.size cx0 s Xx0) := Vx0.out.below hb
    have Vx1 : Hid (VarE w26 w22.heap.size w24.heap.size w23.heap.size cx1 t Xx1) := Vx1.out.below hb
    have Vg : Hid (VarRw w26 w24.heap.size w26.heap.size w25.heap.size cg ra Yg) := VarRw.fresh TT.out.1 TT.out.2.1 TT.out.2.2.1 TT.out.2.2.2.1 hg hb
    have O6 : Hid (w24.heap.size ≤ w26.heap.size) := by show _ ≤ _; have := TT.out.2.2.1.size; have := hb.size; omega
    clear hg hb TT
    go_wp2_with (first | go_skip | (with_reducible refine stopLoad 48 rfl ?_) | (with_reducible refine stopLoad 26 rfl ?_) | (with_reducible refine stopLoad 52 rfl ?_) | (with_reducible refine stopLoad 33 rfl ?_) | (with_reducible refine stopStore 26 rfl ?_) | (with_reducible refine stopStore 33 rfl ?_))
    refine load_any 26 _ cg 26 _ Vg.out.blk rfl rfl rfl Tryz.underlying26 rfl (rwSize Vg.out.sz) ?_
    go_wp2_with (first | go_skip | (with_reducible refine stopLoad 48 rfl ?_) | (with_reducible refine stopLoad 26 rfl ?_) | (with_reducible refine stopLoad 52 rfl ?_) | (with_reducible refine stopLoad 33 rfl ?_) | (with_reducible refine stopStore 26 rfl ?_) | (with_reducible refine stopStore 33 rfl ?_))
    refine load_any 26 _ cw 26 _ Vw.out.blk rfl rfl rfl Tryz.underlying26 rfl (rwSize Vw.out.sz) ?_
    go_wp2_with fail
    refine (eqRw_any _ _ ra ra Yg Yw _ Vg.out.rd Vw.out.rd HM.out.1 HM.out.1).mono ?_
    rintro e w27 ⟨rfl, hb⟩
    have BX0 : Hid (Blk w27 (w.heap.size) cs0 48) := BX0.out.below hb
    have BX1 : Hid (Blk w27 (w.heap.size + 1) cs1 52) := BX1.out.below hb
    have BEL : Hid (Below w.heap.size w w27) := Below.next BEL.out hb
    have Vw : Hid (VarRw w27 w2.heap.size w20.heap.size gw cw ra Yw) := Vw.out.below hb
    have Vx0 : Hid (VarRw w27 w20.heap.size w22.heap.size w21.heap.size cx0 s Xx0) := Vx0.out.below hb
    have Vx1 : Hid (VarE w27 w22.heap.size w24.heap.size w23.heap.size cx1 t Xx1) := Vx1.out.below hb
    have Vg : Hid (VarRw w27 w24.heap.size w26.heap.size w25.heap.size cg ra Yg) := Vg.out.below hb
    clear hb
    have hdec : decide (ra = ra) = true := by simp
    rw [hdec]
    clear hdec
    go_wp2_with fail
    have BD := (Below.refl w27.heap.size w27).drew
    obtain ⟨Y14, hY14⟩ : ∃ Y, Y = w27.drew := ⟨_, rfl⟩
    rw [← hY14] at BD
    have BX0 : Hid (Blk Y14 (w.heap.size) cs0 48) := BX0.out.below BD
    have BX1 : Hid (Blk Y14 (w.heap.size + 1) cs1 52) := BX1.out.below BD
    have BEL : Hid (Below w.heap.size w Y14) := Below.next BEL.out BD
    have Vw : Hid (VarRw Y14 w2.heap.size w20.heap.size gw cw ra Yw) := Vw.out.below BD
    have Vx0 : Hid (VarRw Y14 w20.heap.size w22.heap.size w21.heap.size cx0 s Xx0) := Vx0.out.below BD
    have Vx1 : Hid (VarE Y14 w22.heap.size w24.heap.size w23.heap.size cx1 t Xx1) := Vx1.out.below BD
    have Vg : Hid (VarRw Y14 w24.heap.size w26.heap.size w25.heap.size cg ra Yg) := Vg.out.below BD
    refine wp_region_held (S := fun W => Blk W (w.heap.size) cs0 48 ∧ Blk W (w21.heap.size) cx0 26) (by kernel_rfl) ?_
    change wpAnyH _ _ _ _ _ _ _ _ (World.drew _)
    rw [← hY14]
    clear hY14 BD
    refine takeH (o := ?o34) 0 (.agg cx0) ?h34 ?r34
    case h34 => simp only [aT, aZ]; rfl
    refine ⟨_, by simp [Act.put]; rfl, by kernel_rfl, by kernel_rfl, by kernel_rfl, fun _ _ _ h => h, (yields_whole 26 _ cx0 26 _ rfl rfl rfl Tryz.underlying26 rfl (rwSize Vx0.out.sz) (fun W hW => hW.2)), ⟨BX0.out, Vx0.out.blk⟩, ?_⟩
    refine takeH (o := ?o35) 1 (.agg cs0) ?h35 ?r35
    case h35 => simp only [aT, aS, aZ]; rfl
    refine ⟨_, by simp [Act.put]; rfl, by kernel_rfl, by kernel_rfl, by kernel_rfl, fun _ _ _ h => h, (yields_whole 48 _ cs0 48 _ rfl rfl rfl Tryz.underlying48 rfl (lrwSize HC0.out) (fun W hW => hW.1)), ⟨BX0.out, Vx0.out.blk⟩, ?_⟩
    refine onlyH (o := ?o36) 2 (by kernel_rfl) ?h36 ?r36
    case h36 => simp only [aT, aS, aZ]; rfl
    intro K hK
    refine op_call1 19 _ _ Tryz.f19 (fun v w' => ∃ X, RdRw w' v s X ∧ Below Y14.heap.size Y14 w') rfl rfl Tryz.func19 (by kernel_rfl) (by kernel_rfl) ((toRw_any _ s F Y14 (HH0.out.1.below BEL.out) HF0.out).mono (by rintro e w' ⟨v, X, rfl, h1, _, h3⟩; exact ⟨_, rfl, X, h1, h3⟩)) ?_
    rintro zq w28 ⟨Xq, rz, bz⟩
    have BX0 : Hid (Blk w28 (w.heap.size) cs0 48) := BX0.out.below bz
    have BX1 : Hid (Blk w28 (w.heap.size + 1) cs1 52) := BX1.out.below bz
    have BEL : Hid (Below w.heap.size w w28) := Below.next BEL.out bz
    have Vw : Hid (VarRw w28 w2.heap.size w20.heap.size gw cw ra Yw) := Vw.out.below bz
    have Vx0 : Hid (VarRw w28 w20.heap.size w22.heap.size w21.heap.size cx0 s Xx0) := Vx0.out.below bz
    have Vx1 : Hid (VarE w28 w22.heap.size w24.heap.size w23.heap.size cx1 t Xx1) := Vx1.out.below bz
    have Vg : Hid (VarRw w28 w24.heap.size w26.heap.size w25.heap.size cg ra Yg) := Vg.out.below bz
    have TQ : Hid (RdRw w28 zq s Xq) := rz
    refine ⟨_, by simp [Act.put]; rfl, hK _ _ ⟨⟨BX0.out, Vx0.out.blk⟩, ?_⟩⟩
    clear hK rz bz
    refine onlyH (o := ?o37) 3 (by kernel_rfl) ?h37 ?r37
    case h37 => simp only [aT, aS, aZ]; rfl
    intro K hK
    refine op_call2 21 _ _ _ Tryz.f21 (fun w' => Below w28.heap.size w28 w') (.bool (decide (s = s))) rfl rfl Tryz.func21 (by kernel_rfl) (by kernel_rfl) (eqRw_any (.agg cx0) zq s s Xx0 Xq w28 Vx0.out.rd TQ.out HF0.out.wide HF0.out.wide) ⟨_, by simp [Act.put]; rfl, ?_⟩
    intro w29 bz
    have BX0 : Hid (Blk w29 (w.heap.size) cs0 48) := BX0.out.below bz
    have BX1 : Hid (Blk w29 (w.heap.size + 1) cs1 52) := BX1.out.below bz
    have BEL : Hid (Below w.heap.size w w29) := Below.next BEL.out bz
    have Vw : Hid (VarRw w29 w2.heap.size w20.heap.size gw cw ra Yw) := Vw.out.below bz
    have Vx0 : Hid (VarRw w29 w20.heap.size w22.heap.size w21.heap.size cx0 s Xx0) := Vx0.out.below bz
    have Vx1 : Hid (VarE w29 w22.heap.size w24.heap.size w23.heap.size cx1 t Xx1) := Vx1.out.below bz
    have Vg : Hid (VarRw w29 w24.heap.size w26.heap.size w25.heap.size cg ra Yg) := Vg.out.below bz
    refine hK _ _ ⟨⟨BX0.out, Vx0.out.blk⟩, ?_⟩
    clear hK bz TQ
    refine takeH (o := ?o38) 4 (.bool false) ?h38 ?r38
    case h38 => simp only [aT, aS, aZ]; rfl
    refine ⟨_, by simp [Act.put]; rfl, by kernel_rfl, by kernel_rfl, by kernel_rfl, fun _ _ _ h => h, (.inl ⟨rfl, fun W _ => by go_simp⟩), ⟨BX0.out, Vx0.out.blk⟩, ?_⟩
    refine wpAnyH_done (by kernel_rfl) ?_ _
    go_wp2_with fail
    have BD := (Below.refl w29.heap.size w29).drew
    obtain ⟨Y16, hY16⟩ : ∃ Y, Y = w29.drew := ⟨_, rfl⟩
    rw [← hY16] at BD
    have BX0 : Hid (Blk Y16 (w.heap.size) cs0 48) := BX0.out.below BD
    have BX1 : Hid (Blk Y16 (w.heap.size + 1) cs1 52) := BX1.out.below BD
    have BEL : Hid (Below w.heap.size w Y16) := Below.next BEL.out BD
    have Vw : Hid (VarRw Y16 w2.heap.size w20.heap.size gw cw ra Yw) := Vw.out.below BD
    have Vx0 : Hid (VarRw Y16 w20.heap.size w22.heap.size w21.heap.size cx0 s Xx0) := Vx0.out.below BD
    have Vx1 : Hid (VarE Y16 w22.heap.size w24.heap.size w23.heap.size cx1 t Xx1) := Vx1.out.below BD
    have Vg : Hid (VarRw Y16 w24.heap.size w26.heap.size w25.heap.size cg ra Yg) := Vg.out.below BD
    refine wp_region_held (S := fun W => Blk W (w.heap.size + 1) cs1 52 ∧ Blk W (w23.heap.size) cx1 33) (by kernel_rfl) ?_
    change wpAnyH _ _ _ _ _ _ _ _ (World.drew _)
    rw [← hY16]
    clear hY16 BD
    refine takeH (o := ?o39) 0 (.agg cx1) ?h39 ?r39
    case h39 => simp only [aT, aZ]; rfl
    refine ⟨_, by simp [Act.put]; rfl, by kernel_rfl, by kernel_rfl, by kernel_rfl, fun _ _ _ h => h, (yields_whole 33 _ cx1 33 _ rfl rfl rfl Tryz.underlying33 rfl (enSize Vx1.out.sz) (fun W hW => hW.2)), ⟨BX1.out, Vx1.out.blk⟩, ?_⟩
    refine takeH (o := ?o40) 1 (.agg cs1) ?h40 ?r40
    case h40 => simp only [aT, aS, aZ]; rfl
    refine ⟨_, by simp [Act.put]; rfl, by kernel_rfl, by kernel_rfl, by kernel_rfl, fun _ _ _ h => h, (yields_whole 52 _ cs1 52 _ rfl rfl rfl Tryz.underlying52 rfl (lenSize HC1.out) (fun W hW => hW.1)), ⟨BX1.out, Vx1.out.blk⟩, ?_⟩
    refine onlyH (o := ?o41) 2 (by kernel_rfl) ?h41 ?r41
    case h41 => simp only [aT, aS, aZ]; rfl
    intro K hK
    refine op_call1 20 _ _ Tryz.f20 (fun v w' => ∃ X, RdE w' v t X ∧ Below Y16.heap.size Y16 w') rfl rfl Tryz.func20 (by kernel_rfl) (by kernel_rfl) ((toE_any _ t G Y16 (HH1.out.1.below BEL.out) HF1.out).mono (by rintro e w' ⟨v, X, rfl, h1, _, h3⟩; exact ⟨_, rfl, X, h1, h3⟩)) ?_
    rintro zq w30 ⟨Xq, rz, bz⟩
    have BX0 : Hid (Blk w30 (w.heap.size) cs0 48) := BX0.out.below bz
    have BX1 : Hid (Blk w30 (w.heap.size + 1) cs1 52) := BX1.out.below bz
    have BEL : Hid (Below w.heap.size w w30) := Below.next BEL.out bz
    have Vw : Hid (VarRw w30 w2.heap.size w20.heap.size gw cw ra Yw) := Vw.out.below bz
    have Vx0 : Hid (VarRw w30 w20.heap.size w22.heap.size w21.heap.size cx0 s Xx0) := Vx0.out.below bz
    have Vx1 : Hid (VarE w30 w22.heap.size w24.heap.size w23.heap.size cx1 t Xx1) := Vx1.out.below bz
    have Vg : Hid (VarRw w30 w24.heap.size w26.heap.size w25.heap.size cg ra Yg) := Vg.out.below bz
    have TQ : Hid (RdE w30 zq t Xq) := rz
    refine ⟨_, by simp [Act.put]; rfl, hK _ _ ⟨⟨BX1.out, Vx1.out.blk⟩, ?_⟩⟩
    clear hK rz bz
    refine onlyH (o := ?o42) 3 (by kernel_rfl) ?h42 ?r42
    case h42 => simp only [aT, aS, aZ]; rfl
    intro K hK
    refine op_call2 22 _ _ _ Tryz.f22 (fun w' => Below w30.heap.size w30 w') (.bool (decide (t = t))) rfl rfl Tryz.func22 (by kernel_rfl) (by kernel_rfl) (eqE_any (.agg cx1) zq t t Xx1 Xq w30 Vx1.out.rd TQ.out HF1.out.wide HF1.out.wide) ⟨_, by simp [Act.put]; rfl, ?_⟩
    intro w31 bz
    have BX0 : Hid (Blk w31 (w.heap.size) cs0 48) := BX0.out.below bz
    have BX1 : Hid (Blk w31 (w.heap.size + 1) cs1 52) := BX1.out.below bz
    have BEL : Hid (Below w.heap.size w w31) := Below.next BEL.out bz
    have Vw : Hid (VarRw w31 w2.heap.size w20.heap.size gw cw ra Yw) := Vw.out.below bz
    have Vx0 : Hid (VarRw w31 w20.heap.size w22.heap.size w21.heap.size cx0 s Xx0) := Vx0.out.below bz
    have Vx1 : Hid (VarE w31 w22.heap.size w24.heap.size w23.heap.size cx1 t Xx1) := Vx1.out.below bz
    have Vg : Hid (VarRw w31 w24.heap.size w26.heap.size w25.heap.size cg ra Yg) := Vg.out.below bz
    refine hK _ _ ⟨⟨BX1.out, Vx1.out.blk⟩, ?_⟩
    clear hK bz TQ
    refine takeH (o := ?o43) 4 (.bool false) ?h43 ?r43
    case h43 => simp only [aT, aS, aZ]; rfl
    refine ⟨_, by simp [Act.put]; rfl, by kernel_rfl, by kernel_rfl, by kernel_rfl, fun _ _ _ h => h, (.inl ⟨rfl, fun W _ => by go_simp⟩), ⟨BX1.out, Vx1.out.blk⟩, ?_⟩
    refine wpAnyH_done (by kernel_rfl) ?_ _
    go_wp2_with (first | go_skip | (with_reducible refine stopLoad 48 rfl ?_) | (with_reducible refine stopLoad 26 rfl ?_) | (with_reducible refine stopLoad 52 rfl ?_) | (with_reducible refine stopLoad 33 rfl ?_) | (with_reducible refine stopStore 26 rfl ?_) | (with_reducible refine stopStore 33 rfl ?_))
    refine load_any 26 _ cx0 26 _ Vx0.out.blk rfl rfl rfl Tryz.underlying26 rfl (rwSize Vx0.out.sz) ?_
    go_wp2_with fail
    refine (markRw_any _ _ s Xx0 1 _ Vx0.out.rd Vx0.out.own HF0.out.wide (by omega) (by have := HMI0.out; omega)).mono ?_
    rintro e w32 ⟨rfl, mk⟩
    have NBX0 : Hid (Blk w32 (w.heap.size) cs0 48) := BX0.out.agree (mk.only.block _ BX0.out.lt (fun hb => by have := Vx0.out.own.ge _ hb; have := LB0.out; have := O1.out; have := O2.out; have := O3.out; have := O4.out; have := O5.out; have := O6.out; omega))
    have NBX1 : Hid (Blk w32 (w.heap.size + 1) cs1 52) := BX1.out.agree (mk.only.block _ BX1.out.lt (fun hb => by have := Vx0.out.own.ge _ hb; have := LB0.out; have := O1.out; have := O2.out; have := O3.out; have := O4.out; have := O5.out; have := O6.out; omega))
    have NBEL : Hid (Below w.heap.size w w32) := mk.only.below BEL.out BEL.out.size (fun b hb => by have := Vx0.out.own.ge b hb; have := LB0.out; have := O1.out; have := O2.out; have := O3.out; have := O4.out; have := O5.out; have := O6.out; omega)
    have NVw : Hid (VarRw w32 w2.heap.size w20.heap.size gw cw ra Yw) := Vw.out.only' mk.only Vx0.out.lt Vx0.out.own.ge (.inl (by have := LB0.out; have := O1.out; have := O2.out; have := O3.out; have := O4.out; have := O5.out; have := O6.out; omega))
    have NVx1 : Hid (VarE w32 w22.heap.size w24.heap.size w23.heap.size cx1 t Xx1) := Vx1.out.only' mk.only Vx0.out.lt Vx0.out.own.ge (.inr (by have := LB0.out; have := O1.out; have := O2.out; have := O3.out; have := O4.out; have := O5.out; have := O6.out; omega))
    have NVg : Hid (VarRw w32 w24.heap.size w26.heap.size w25.heap.size cg ra Yg) := Vg.out.only' mk.only Vx0.out.lt Vx0.out.own.ge (.inr (by have := LB0.out; have := O1.out; have := O2.out; have := O3.out; have := O4.out; have := O5.out; have := O6.out; omega))
    have BX0 : Hid (Blk w32 (w.heap.size) cs0 48) := NBX0.out
    have BX1 : Hid (Blk w32 (w.heap.size + 1) cs1 52) := NBX1.out
    have BEL : Hid (Below w.heap.size w w32) := NBEL.out
    have Vw : Hid (VarRw w32 w2.heap.size w20.heap.size gw cw ra Yw) := NVw.out
    have Vx1 : Hid (VarE w32 w22.heap.size w24.heap.size w23.heap.size cx1 t Xx1) := NVx1.out
    have Vg : Hid (VarRw w32 w24.heap.size w26.heap.size w25.heap.size cg ra Yg) := NVg.out
    clear NBX0 NBX1 NBEL NVw NVx1 NVg
    obtain ⟨ki0, hki⟩ : ∃ k, k = 1 + s.many := ⟨_, rfl⟩
    rw [← hki]
    have HKI0 : Hid (0 ≤ ki0 ∧ ki0 ≤ 20000000) := by have := HMI0.out; exact ⟨by omega, by omega⟩
    clear hki mk Vx0
    go_wp2_with (first | go_skip | (with_reducible refine stopLoad 48 rfl ?_) | (with_reducible refine stopLoad 26 rfl ?_) | (with_reducible refine stopLoad 52 rfl ?_) | (with_reducible refine stopLoad 33 rfl ?_) | (with_reducible refine stopStore 26 rfl ?_) | (with_reducible refine stopStore 33 rfl ?_))
    refine load_any 33 _ cx1 33 _ Vx1.out.blk rfl rfl rfl Tryz.underlying33 rfl (enSize Vx1.out.sz) ?_
    go_wp2_with fail
    refine (markE_any _ _ t Xx1 ki0 _ Vx1.out.rd Vx1.out.own HF1.out.wide (by have := HKI0.out; omega) (by have := HMI1.out; have := HKI0.out; omega)).mono ?_
    rintro e w33 ⟨rfl, mk⟩
    have NBX0 : Hid (Blk w33 (w.heap.size) cs0 48) := BX0.out.agree (mk.only.block _ BX0.out.lt (fun hb => by have := Vx1.out.own.ge _ hb; have := LB0.out; have := O1.out; have := O2.out; have := O3.out; have := O4.out; have := O5.out; have := O6.out; omega))
    have NBX1 : Hid (Blk w33 (w.heap.size + 1) cs1 52) := BX1.out.agree (mk.only.block _ BX1.out.lt (fun hb => by have := Vx1.out.own.ge _ hb; have := LB0.out; have := O1.out; have := O2.out; have := O3.out; have := O4.out; have := O5.out; have := O6.out; omega))
    have NBEL : Hid (Below w.heap.size w w33) := mk.only.below BEL.out BEL.out.size (fun b hb => by have := Vx1.out.own.ge b hb; have := LB0.out; have := O1.out; have := O2.out; have := O3.out; have := O4.out; have := O5.out; have := O6.out; omega)
    have NVw : Hid (VarRw w33 w2.heap.size w20.heap.size gw cw ra Yw) := Vw.out.only' mk.only Vx1.out.lt Vx1.out.own.ge (.inl (by have := LB0.out; have := O1.out; have := O2.out; have := O3.out; have := O4.out; have := O5.out; have := O6.out; omega))
    have NVg : Hid (VarRw w33 w24.heap.size w26.heap.size w25.heap.size cg ra Yg) := Vg.out.only' mk.only Vx1.out.lt Vx1.out.own.ge (.inr (by have := LB0.out; have := O1.out; have := O2.out; have := O3.out; have := O4.out; have := O5.out; have := O6.out; omega))
    have BX0 : Hid (Blk w33 (w.heap.size) cs0 48) := NBX0.out
    have BX1 : Hid (Blk w33 (w.heap.size + 1) cs1 52) := NBX1.out
    have BEL : Hid (Below w.heap.size w w33) := NBEL.out
    have Vw : Hid (VarRw w33 w2.heap.size w20.heap.size gw cw ra Yw) := NVw.out
    have Vg : Hid (VarRw w33 w24.heap.size w26.heap.size w25.heap.size cg ra Yg) := NVg.out
    clear NBX0 NBX1 NBEL NVw NVg
    obtain ⟨ki1, hki⟩ : ∃ k, k = ki0 + t.many := ⟨_, rfl⟩
    rw [← hki]
    have HKI1 : Hid (0 ≤ ki1 ∧ ki1 ≤ 40000000) := by have := HKI0.out; have := HMI1.out; exact ⟨by omega, by omega⟩
    clear hki mk Vx1
    have hkid : decide (ki1 < 0) = false := dec_false (by have := HKI1.out; omega)
    go_wp2_with (first | go_skip | (with_reducible refine stopLoad 48 rfl ?_) | (with_reducible refine stopLoad 26 rfl ?_) | (with_reducible refine stopLoad 52 rfl ?_) | (with_reducible refine stopLoad 33 rfl ?_) | (with_reducible refine stopStore 26 rfl ?_) | (with_reducible refine stopStore 33 rfl ?_))
    refine load_any 26 _ cg 26 _ Vg.out.blk rfl rfl rfl Tryz.underlying26 rfl (rwSize Vg.out.sz) ?_
    go_wp2_with (first | go_skip | (with_reducible refine stopLoad 48 rfl ?_) | (with_reducible refine stopLoad 26 rfl ?_) | (with_reducible refine stopLoad 52 rfl ?_) | (with_reducible refine stopLoad 33 rfl ?_) | (with_reducible refine stopStore 26 rfl ?_) | (with_reducible refine stopStore 33 rfl ?_))
    refine load_any 26 _ cw 26 _ Vw.out.blk rfl rfl rfl Tryz.underlying26 rfl (rwSize Vw.out.sz) ?_
    go_wp2_with fail
    refine (eqRw_any _ _ ra ra Yg Yw _ Vg.out.rd Vw.out.rd HM.out.1 HM.out.1).mono ?_
    rintro e w34 ⟨rfl, hb⟩
    have BX0 : Hid (Blk w34 (w.heap.size) cs0 48) := BX0.out.below hb
    have BX1 : Hid (Blk w34 (w.heap.size + 1) cs1 52) := BX1.out.below hb
    have BEL : Hid (Below w.heap.size w w34) := Below.next BEL.out hb
    have Vw : Hid (VarRw w34 w2.heap.size w20.heap.size gw cw ra Yw) := Vw.out.below hb
    have Vg : Hid (VarRw w34 w24.heap.size w26.heap.size w25.heap.size cg ra Yg) := Vg.out.below hb
    clear hb
    have hdec : decide (ra = ra) = true := by simp
    rw [hdec]
    clear hdec
    go_wp2_with (first | go_skip | (with_reducible refine stopLoad 48 rfl ?_) | (with_reducible refine stopLoad 26 rfl ?_) | (with_reducible refine stopLoad 52 rfl ?_) | (with_reducible refine stopLoad 33 rfl ?_) | (with_reducible refine stopStore 26 rfl ?_) | (with_reducible refine stopStore 33 rfl ?_))
    refine load_any 26 _ cg 26 _ Vg.out.blk rfl rfl rfl Tryz.underlying26 rfl (rwSize Vg.out.sz) ?_
    go_wp2_with fail
    refine (markRw_any w24.heap.size _ ra Yg 1 _ Vg.out.rd Vg.out.own HM.out.1 (by omega) (by have := HM.out; omega)).mono ?_
    rintro e w35 ⟨rfl, mk⟩
    have NG : Hid (VarRw w35 w24.heap.size w26.heap.size w25.heap.size cg (ra.marked 1) Yg) := Vg.out.mark mk
    have NBX0 : Hid (Blk w35 (w.heap.size) cs0 48) := BX0.out.agree (mk.only.block _ BX0.out.lt (fun hb => by have := Vg.out.own.ge _ hb; have := LB0.out; have := O1.out; have := O2.out; have := O3.out; have := O4.out; have := O5.out; have := O6.out; omega))
    have NBX1 : Hid (Blk w35 (w.heap.size + 1) cs1 52) := BX1.out.agree (mk.only.block _ BX1.out.lt (fun hb => by have := Vg.out.own.ge _ hb; have := LB0.out; have := O1.out; have := O2.out; have := O3.out; have := O4.out; have := O5.out; have := O6.out; omega))
    have NBEL : Hid (Below w.heap.size w w35) := mk.only.below BEL.out BEL.out.size (fun b hb => by have := Vg.out.own.ge b hb; have := LB0.out; have := O1.out; have := O2.out; have := O3.out; have := O4.out; have := O5.out; have := O6.out; omega)
    have NVw : Hid (VarRw w35 w2.heap.size w20.heap.size gw cw ra Yw) := Vw.out.only' mk.only Vg.out.lt Vg.out.own.ge (.inl (by have := LB0.out; have := O1.out; have := O2.out; have := O3.out; have := O4.out; have := O5.out; have := O6.out; omega))
    have BX0 : Hid (Blk w35 (w.heap.size) cs0 48) := NBX0.out
    have BX1 : Hid (Blk w35 (w.heap.size + 1) cs1 52) := NBX1.out
    have BEL : Hid (Below w.heap.size w w35) := NBEL.out
    have Vw : Hid (VarRw w35 w2.heap.size w20.heap.size gw cw ra Yw) := NVw.out
    clear NBX0 NBX1 NBEL NVw
    have Vg : Hid (VarRw w35 w24.heap.size w26.heap.size w25.heap.size cg (ra.marked 1) Yg) := NG.out
    obtain ⟨km, hkm⟩ : ∃ k, k = 1 + ra.many := ⟨_, rfl⟩
    rw [← hkm]
    have HKM : Hid (km = 1 + ra.many) := hkm
    have hkm0 : 0 ≤ km := by have := HM.out; omega
    have hkmn : decide (km < 0) = false := dec_false (by omega)
    have hkme : (km != km) = false := by simp
    clear hkm mk NG
    go_wp2_with (first | go_skip | (with_reducible refine stopLoad 48 rfl ?_) | (with_reducible refine stopLoad 26 rfl ?_) | (with_reducible refine stopLoad 52 rfl ?_) | (with_reducible refine stopLoad 33 rfl ?_) | (with_reducible refine stopStore 26 rfl ?_) | (with_reducible refine stopStore 33 rfl ?_))
    refine load_any 26 _ cg 26 _ Vg.out.blk rfl rfl rfl Tryz.underlying26 rfl (rwSize Vg.out.sz) ?_
    go_wp2_with fail
    refine (heldRw_any _ ra Yg 1 _ Vg.out.rd HM.out.1 (by omega) (by have := HM.out; omega)).mono ?_
    rintro e w36 ⟨rfl, hb⟩
    have BX0 : Hid (Blk w36 (w.heap.size) cs0 48) := BX0.out.below hb
    have BX1 : Hid (Blk w36 (w.heap.size + 1) cs1 52) := BX1.out.below hb
    have BEL : Hid (Below w.heap.size w w36) := Below.next BEL.out hb
    have Vw : Hid (VarRw w36 w2.heap.size w20.heap.size gw cw ra Yw) := Vw.out.below hb
    have Vg : Hid (VarRw w36 w24.heap.size w26.heap.size w25.heap.size cg (ra.marked 1) Yg) := Vg.out.below hb
    clear hb
    rw [← HKM.out]
    have LP : Hid (w.heap.size + 1 < w36.heap.size) := BX1.out.lt
    go_upto_region 31 with fail
    go_cut [17, 18] (fun a6 a7 wx => ∃ (g : Nat) (cs : Array Value) (X : List Nat), a6 = .pointer (some ⟨g, 0, none⟩) ∧ a7 = .bool rc ∧ Below w36.heap.size w36 wx ∧ VarRw wx w36.heap.size wx.heap.size g cs ra X)
    case first =>
      have bd := (Below.refl w36.heap.size w36).drew
      have HSN : Hid (Blk w36.drew (w.heap.size) cs0 48 ∧ Blk w36.drew (w.heap.size + 1) cs1 52) := ⟨BX0.out.below bd, BX1.out.below bd⟩
      have BZ : Hid (Below w.heap.size w w36.drew) := Below.next BEL.out bd
      have BS : Hid (Below w36.heap.size w36 w36.drew) := bd
      obtain ⟨Y0, hY0⟩ : ∃ Y, Y = w36.drew := ⟨_, rfl⟩
      rw [← hY0] at HSN BZ BS
      clear bd
      refine wp_region_held (S := fun W => Blk W (w.heap.size) cs0 48 ∧ Blk W (w.heap.size + 1) cs1 52) (by kernel_rfl) ?_
      change wpAnyH _ _ _ _ _ _ _ _ (World.drew _)
      rw [← hY0]
      clear hY0
      refine takeH (o := ?o44) 4 (.bool j) ?h44 ?r44
      case h44 => simp only [aT, aS, aZ]; rfl
      refine ⟨_, by simp [Act.put]; rfl, by kernel_rfl, by kernel_rfl, by kernel_rfl, fun _ _ _ h => h, (.inl ⟨rfl, fun W _ => by kernel_rfl⟩), HSN.out, ?_⟩
      refine takeH (o := ?o45) 0 (.agg cs0) ?h45 ?r45
      case h45 => simp only [aT, aZ]; rfl
      refine ⟨_, by simp [Act.put]; rfl, by kernel_rfl, by kernel_rfl, by kernel_rfl, fun _ _ _ h => h, (yields_whole 48 _ cs0 48 _ rfl rfl rfl Tryz.underlying48 rfl (lrwSize HC0.out) (fun W hW => hW.1)), HSN.out, ?_⟩
      refine takeH (o := ?o46) 2 (.agg cs1) ?h46 ?r46
      case h46 => simp only [aT, aS, aZ]; rfl
      refine ⟨_, by simp [Act.put]; rfl, by kernel_rfl, by kernel_rfl, by kernel_rfl, fun _ _ _ h => h, (yields_whole 52 _ cs1 52 _ rfl rfl rfl Tryz.underlying52 rfl (lenSize HC1.out) (fun W hW => hW.2)), HSN.out, ?_⟩
      refine twoH (o := ?o47) (o' := ?p47) 1 9 (by kernel_rfl) ?h47 ?g47 ?r47 ?s47
      case h47 => simp only [aT, aS, aZ]; rfl
      case g47 => simp only [aT, aS, aZ]; rfl
      case r47 =>
        intro K hK
        refine op_call1 19 _ _ Tryz.f19 (fun v w' => ∃ X, RdRw w' v s X ∧ Below Y0.heap.size Y0 w') rfl rfl Tryz.func19 (by kernel_rfl) (by kernel_rfl) ((toRw_any _ s F Y0 (HH0.out.1.below BZ.out) HF0.out).mono (by rintro e w' ⟨v, X, rfl, h1, _, h3⟩; exact ⟨_, rfl, X, h1, h3⟩)) ?_
        rintro zT0 w37 ⟨XT0, rz, bz⟩
        have HSN : Hid (Blk w37 (w.heap.size) cs0 48 ∧ Blk w37 (w.heap.size + 1) cs1 52) := ⟨HSN.out.1.below bz, HSN.out.2.below bz⟩
        have BZ : Hid (Below w.heap.size w w37) := Below.next BZ.out bz
        have BS : Hid (Below w36.heap.size w36 w37) := Below.next BS.out bz
        have T0 : Hid (RdRw w37 zT0 s XT0) := rz
        refine ⟨_, by simp [Act.put]; rfl, hK _ _ ⟨HSN.out, ?_⟩⟩
        clear hK rz bz
        refine twoH (o := ?o48) (o' := ?p48) 3 9 (by kernel_rfl) ?h48 ?g48 ?r48 ?s48
        case h48 => simp only [aT, aS, aZ]; rfl
        case g48 => simp only [aT, aS, aZ]; rfl
        case r48 =>
          intro K hK
          refine op_call1 20 _ _ Tryz.f20 (fun v w' => ∃ X, RdE w' v t X ∧ Below w37.heap.size w37 w') rfl rfl Tryz.func20 (by kernel_rfl) (by kernel_rfl) ((toE_any _ t G w37 (HH1.out.1.below BZ.out) HF1.out).mono (by rintro e w' ⟨v, X, rfl, h1, _, h3⟩; exact ⟨_, rfl, X, h1, h3⟩)) ?_
          rintro zT1 w38 ⟨XT1, rz, bz⟩
          have HSN : Hid (Blk w38 (w.heap.size) cs0 48 ∧ Blk w38 (w.heap.size + 1) cs1 52) := ⟨HSN.out.1.below bz, HSN.out.2.below bz⟩
          have BZ : Hid (Below w.heap.size w w38) := Below.next BZ.out bz
          have BS : Hid (Below w36.heap.size w36 w38) := Below.next BS.out bz
          have T0 : Hid (RdRw w38 zT0 s XT0) := T0.out.below bz
          have T1 : Hid (RdE w38 zT1 t XT1) := rz
          refine ⟨_, by simp [Act.put]; rfl, hK _ _ ⟨HSN.out, ?_⟩⟩
          clear hK rz bz
          refine twoH (o := ?o49) (o' := ?p49) 5 9 (by kernel_rfl) ?h49 ?g49 ?r49 ?s49
          case h49 => simp only [aT, aS, aZ]; rfl
          case g49 => simp only [aT, aS, aZ]; rfl
          case r49 =>
            intro K hK
            refine op_call3v 8 _ _ _ _ Tryz.f8 (fun v w' => ∃ z Y, v = .tuple #[z, .bool rc] ∧ RdRw w' z ra Y ∧ Own w38.heap.size w' Y ∧ Below w38.heap.size w38 w') rfl rfl Tryz.func8 (by kernel_rfl) (by kernel_rfl) ((rowPushImpl_any zT0 zT1 s XT0 t XT1 j w38 (T0.out) (T1.out) HSP.out).mono (by intro e w' hres; rw [← HZ.out] at hres; obtain ⟨z, Y, rfl, h1, h2, h3⟩ := hres; exact ⟨_, rfl, z, Y, rfl, h1, h2, h3⟩)) ?_
            rintro zt w39 ⟨zv, Yw, rfl, ry, oy, bz⟩
            obtain ⟨cw, rfl, szw, onw⟩ := ry.cells
            have s1 := BS.out.size
            have HSN : Hid (Blk w39 (w.heap.size) cs0 48 ∧ Blk w39 (w.heap.size + 1) cs1 52) := ⟨HSN.out.1.below bz, HSN.out.2.below bz⟩
            have BZ : Hid (Below w.heap.size w w39) := Below.next BZ.out bz
            have BS : Hid (Below w36.heap.size w36 w39) := Below.next BS.out bz
            have TT : Hid (RdRw w39 (.agg cw) ra Yw ∧ Own w36.heap.size w39 Yw ∧ cw.size = 1 ∧ cw.all (·.oneCell') = true) := ⟨ry, oy.mono s1, szw, onw⟩
            refine ⟨_, by simp [Act.put]; rfl, hK _ _ ⟨HSN.out, ?_⟩⟩
            clear hK ry oy bz szw onw s1 T0 T1
            refine takeH (o := ?o50) 6 (.tuple #[.agg cw, .bool rc]) ?h50 ?r50
            case h50 => simp only [aT, aS, aZ]; rfl
            refine ⟨_, by simp [Act.put]; rfl, by kernel_rfl, by kernel_rfl, by kernel_rfl, fun _ _ _ h => h, (.inl ⟨rfl, fun W _ => by kernel_rfl⟩), HSN.out, ?_⟩
            refine takeH (o := ?o51) 7 (.agg cw) ?h51 ?r51
            case h51 => simp only [aT, aS, aZ]; rfl
            refine ⟨_, by simp [Act.put]; rfl, by kernel_rfl, by kernel_rfl, by kernel_rfl, fun _ _ _ h => h, (.inl ⟨rfl, fun W _ => by kernel_rfl⟩), HSN.out, ?_⟩
            refine takeH (o := ?o52) 8 (.bool rc) ?h52 ?r52
            case h52 => simp only [aT, aS, aZ]; rfl
            refine ⟨_, by simp [Act.put]; rfl, by kernel_rfl, by kernel_rfl, by kernel_rfl, fun _ _ _ h => h, (.inl ⟨rfl, fun W _ => by kernel_rfl⟩), HSN.out, ?_⟩
            refine onlyH (o := ?o53) 9 (by kernel_rfl) ?h53 ?r53
            case h53 => simp only [aT, aS, aZ]; rfl
            intro K hK
            refine op_turn (.pointer (some ⟨w39.heap.size, 0, none⟩)) (w39.alloc (.cells #[.slice none 0 0] 26)) rfl (by kernel_rfl) ⟨_, by simp [Act.put]; rfl, hK _ _ ⟨⟨HSN.out.1.alloc _, HSN.out.2.alloc _⟩, ?_⟩⟩
            clear hK
            obtain ⟨w40, hW⟩ : ∃ Z, Z = (w39.alloc (.cells #[.slice none 0 0] 26)) := ⟨_, rfl⟩
            have bz : Below w39.heap.size w39 w40 := by rw [hW]; exact (Below.refl _ _).alloc (Nat.le_refl _) _
            have TX0 : Blk w40 w39.heap.size #[.slice none 0 0] 26 := by rw [hW]; exact Blk.made _ _ _
            rw [← hW]
            clear hW
            obtain ⟨Xw, hX⟩ : ∃ z, z = w39.heap.size := ⟨_, rfl⟩
            have TX : Hid (Blk w40 Xw #[.slice none 0 0] 26 ∧ w36.heap.size ≤ Xw) := ⟨by rw [hX]; exact TX0, by have := BS.out.size; omega⟩
            have TXN : Hid (Xw ∉ Yw) := fun hx => by have := TT.out.1.lt _ hx; omega
            have HSN : Hid (Blk w40 (w.heap.size) cs0 48 ∧ Blk w40 (w.heap.size + 1) cs1 52) := ⟨HSN.out.1.below bz, HSN.out.2.below bz⟩
            have BZ : Hid (Below w.heap.size w w40) := Below.next BZ.out bz
            have BS : Hid (Below w36.heap.size w36 w40) := Below.next BS.out bz
            have TT : Hid (RdRw w40 (.agg cw) ra Yw ∧ Own w36.heap.size w40 Yw ∧ cw.size = 1 ∧ cw.all (·.oneCell') = true) := ⟨TT.out.1.below bz, TT.out.2.1.below TT.out.1.lt bz, TT.out.2.2⟩
            rw [← hX]
            clear hX TX0 bz
            refine onlyH (o := ?o54) 10 (by kernel_rfl) ?h54 ?r54
            case h54 => simp only [aT, aS, aZ]; rfl
            intro K hK
            have lp := LP.out
            have lx := TX.out.2
            refine op_store 26 Xw #[.slice none 0 0] cw 26 rfl rfl rfl rfl TX.out.1 (rwSize TT.out.2.2.1) TT.out.2.2.1.symm TT.out.2.2.2 ⟨_, by simp [Act.put]; rfl, hK _ _ ⟨⟨HSN.out.1.setRowOther (by omega), HSN.out.2.setRowOther (by omega)⟩, ?_⟩⟩
            clear hK
            refine takeH (o := ?o55) 11 (.bool rc) ?h55 ?r55
            case h55 => simp only [aT, aS, aZ]; rfl
            refine ⟨_, by simp [Act.put]; rfl, by kernel_rfl, by kernel_rfl, by kernel_rfl, fun _ _ _ h => h, (.inl ⟨rfl, fun W _ => by kernel_rfl⟩), ⟨HSN.out.1.setRowOther (by omega), HSN.out.2.setRowOther (by omega)⟩, ?_⟩
            refine wpAnyH_done (by kernel_rfl) ?_ _
            go_wp2_with fail
            go_meet
            case rel => exact ⟨Xw, cw, Yw, rfl, rfl, below_setRow BS.out lx _, varRw_stored TX.out.1 TT.out.1 TT.out.2.2.1 TT.out.2.1 TT.out.1.lt lx TXN.out⟩
          case s49 =>
            intro K hK
            refine op_turn (.pointer (some ⟨w38.heap.size, 0, none⟩)) (w38.alloc (.cells #[.slice none 0 0] 26)) rfl (by kernel_rfl) ⟨_, by simp [Act.put]; rfl, hK _ _ ⟨⟨HSN.out.1.alloc _, HSN.out.2.alloc _⟩, ?_⟩⟩
            clear hK
            obtain ⟨w42, hW⟩ : ∃ Z, Z = (w38.alloc (.cells #[.slice none 0 0] 26)) := ⟨_, rfl⟩
            have bz : Below w38.heap.size w38 w42 := by rw [hW]; exact (Below.refl _ _).alloc (Nat.le_refl _) _
            have TX0 : Blk w42 w38.heap.size #[.slice none 0 0] 26 := by rw [hW]; exact Blk.made _ _ _
            rw [← hW]
            clear hW
            obtain ⟨Xw, hX⟩ : ∃ z, z = w38.heap.size := ⟨_, rfl⟩
            have TX : Hid (Blk w42 Xw #[.slice none 0 0] 26 ∧ w36.heap.size ≤ Xw) := ⟨by rw [hX]; exact TX0, by have := BS.out.size; omega⟩
            have HSN : Hid (Blk w42 (w.heap.size) cs0 48 ∧ Blk w42 (w.heap.size + 1) cs1 52) := ⟨HSN.out.1.below bz, HSN.out.2.below bz⟩
            have BZ : Hid (Below w.heap.size w w42) := Below.next BZ.out bz
            have BS : Hid (Below w36.heap.size w36 w42) := Below.next BS.out bz
            have T0 : Hid (RdRw w42 zT0 s XT0) := T0.out.below bz
            have T1 : Hid (RdE w42 zT1 t XT1) := T1.out.below bz
            rw [← hX]
            clear hX TX0 bz
            refine onlyH (o := ?o56) 5 (by kernel_rfl) ?h56 ?r56
            case h56 => simp only [aT, aS, aZ]; rfl
            intro K hK
            refine op_call3v 8 _ _ _ _ Tryz.f8 (fun v w' => ∃ z Y, v = .tuple #[z, .bool rc] ∧ RdRw w' z ra Y ∧ Own w42.heap.size w' Y ∧ Below w42.heap.size w42 w') rfl rfl Tryz.func8 (by kernel_rfl) (by kernel_rfl) ((rowPushImpl_any zT0 zT1 s XT0 t XT1 j w42 (T0.out) (T1.out) HSP.out).mono (by intro e w' hres; rw [← HZ.out] at hres; obtain ⟨z, Y, rfl, h1, h2, h3⟩ := hres; exact ⟨_, rfl, z, Y, rfl, h1, h2, h3⟩)) ?_
            rintro zt w43 ⟨zv, Yw, rfl, ry, oy, bz⟩
            obtain ⟨cw, rfl, szw, onw⟩ := ry.cells
            have s1 := BS.out.size
            have TXN : Hid (Xw ∉ Yw) := fun hx => by have := oy.ge _ hx; have := TX.out.1.lt; omega
            have HSN : Hid (Blk w43 (w.heap.size) cs0 48 ∧ Blk w43 (w.heap.size + 1) cs1 52) := ⟨HSN.out.1.below bz, HSN.out.2.below bz⟩
            have BZ : Hid (Below w.heap.size w w43) := Below.next BZ.out bz
            have BS : Hid (Below w36.heap.size w36 w43) := Below.next BS.out bz
            have TX : Hid (Blk w43 Xw #[.slice none 0 0] 26 ∧ w36.heap.size ≤ Xw) := ⟨TX.out.1.below bz, TX.out.2⟩
            have TT : Hid (RdRw w43 (.agg cw) ra Yw ∧ Own w36.heap.size w43 Yw ∧ cw.size = 1 ∧ cw.all (·.oneCell') = true) := ⟨ry, oy.mono s1, szw, onw⟩
            refine ⟨_, by simp [Act.put]; rfl, hK _ _ ⟨HSN.out, ?_⟩⟩
            clear hK ry oy bz szw onw s1 T0 T1
            refine takeH (o := ?o57) 6 (.tuple #[.agg cw, .bool rc]) ?h57 ?r57
            case h57 => simp only [aT, aS, aZ]; rfl
            refine ⟨_, by simp [Act.put]; rfl, by kernel_rfl, by kernel_rfl, by kernel_rfl, fun _ _ _ h => h, (.inl ⟨rfl, fun W _ => by kernel_rfl⟩), HSN.out, ?_⟩
            refine takeH (o := ?o58) 7 (.agg cw) ?h58 ?r58
            case h58 => simp only [aT, aS, aZ]; rfl
            refine ⟨_, by simp [Act.put]; rfl, by kernel_rfl, by kernel_rfl, by kernel_rfl, fun _ _ _ h => h, (.inl ⟨rfl, fun W _ => by kernel_rfl⟩), HSN.out, ?_⟩
            refine takeH (o := ?o59) 8 (.bool rc) ?h59 ?r59
            case h59 => simp only [aT, aS, aZ]; rfl
            refine ⟨_, by simp [Act.put]; rfl, by kernel_rfl, by kernel_rfl, by kernel_rfl, fun _ _ _ h => h, (.inl ⟨rfl, fun W _ => by kernel_rfl⟩), HSN.out, ?_⟩
            refine onlyH (o := ?o60) 10 (by kernel_rfl) ?h60 ?r60
            case h60 => simp only [aT, aS, aZ]; rfl
            intro K hK
            have lp := LP.out
            have lx := TX.out.2
            refine op_store 26 Xw #[.slice none 0 0] cw 26 rfl rfl rfl rfl TX.out.1 (rwSize TT.out.2.2.1) TT.out.2.2.1.symm TT.out.2.2.2 ⟨_, by simp [Act.put]; rfl, hK _ _ ⟨⟨HSN.out.1.setRowOther (by omega), HSN.out.2.setRowOther (by omega)⟩, ?_⟩⟩
            clear hK
            refine takeH (o := ?o61) 11 (.bool rc) ?h61 ?r61
            case h61 => simp only [aT, aS, aZ]; rfl
            refine ⟨_, by simp [Act.put]; rfl, by kernel_rfl, by kernel_rfl, by kernel_rfl, fun _ _ _ h => h, (.inl ⟨rfl, fun W _ => by kernel_rfl⟩), ⟨HSN.out.1.setRowOther (by omega), HSN.out.2.setRowOther (by omega)⟩, ?_⟩
            refine wpAnyH_done (by kernel_rfl) ?_ _
            go_wp2_with fail
            go_meet
            case rel => exact ⟨Xw, cw, Yw, rfl, rfl, below_setRow BS.out lx _, varRw_stored TX.out.1 TT.out.1 TT.out.2.2.1 TT.out.2.1 TT.out.1.lt lx TXN.out⟩
        case s48 =>
          intro K hK
          refine op_turn (.pointer (some ⟨w37.heap.size, 0, none⟩)) (w37.alloc (.cells #[.slice none 0 0] 26)) rfl (by kernel_rfl) ⟨_, by simp [Act.put]; rfl, hK _ _ ⟨⟨HSN.out.1.alloc _, HSN.out.2.alloc _⟩, ?_⟩⟩
          clear hK
          obtain ⟨w45, hW⟩ : ∃ Z, Z = (w37.alloc (.cells #[.slice none 0 0] 26)) := ⟨_, rfl⟩
          have bz : Below w37.heap.size w37 w45 := by rw [hW]; exact (Below.refl _ _).alloc (Nat.le_refl _) _
          have TX0 : Blk w45 w37.heap.size #[.slice none 0 0] 26 := by rw [hW]; exact Blk.made _ _ _
          rw [← hW]
          clear hW
          obtain ⟨Xw, hX⟩ : ∃ z, z = w37.heap.size := ⟨_, rfl⟩
          have TX : Hid (Blk w45 Xw #[.slice none 0 0] 26 ∧ w36.heap.size ≤ Xw) := ⟨by rw [hX]; exact TX0, by have := BS.out.size; omega⟩
          have HSN : Hid (Blk w45 (w.heap.size) cs0 48 ∧ Blk w45 (w.heap.size + 1) cs1 52) := ⟨HSN.out.1.below bz, HSN.out.2.below bz⟩
          have BZ : Hid (Below w.heap.size w w45) := Below.next BZ.out bz
          have BS : Hid (Below w36.heap.size w36 w45) := Below.next BS.out bz
          have T0 : Hid (RdRw w45 zT0 s XT0) := T0.out.below bz
          rw [← hX]
          clear hX TX0 bz
          refine onlyH (o := ?o62) 3 (by kernel_rfl) ?h62 ?r62
          case h62 => simp only [aT, aS, aZ]; rfl
          intro K hK
          refine op_call1 20 _ _ Tryz.f20 (fun v w' => ∃ X, RdE w' v t X ∧ Below w45.heap.size w45 w') rfl rfl Tryz.func20 (by kernel_rfl) (by kernel_rfl) ((toE_any _ t G w45 (HH1.out.1.below BZ.out) HF1.out).mono (by rintro e w' ⟨v, X, rfl, h1, _, h3⟩; exact ⟨_, rfl, X, h1, h3⟩)) ?_
          rintro zT1 w46 ⟨XT1, rz, bz⟩
          have HSN : Hid (Blk w46 (w.heap.size) cs0 48 ∧ Blk w46 (w.heap.size + 1) cs1 52) := ⟨HSN.out.1.below bz, HSN.out.2.below bz⟩
          have BZ : Hid (Below w.heap.size w w46) := Below.next BZ.out bz
          have BS : Hid (Below w36.heap.size w36 w46) := Below.next BS.out bz
          have T0 : Hid (RdRw w46 zT0 s XT0) := T0.out.below bz
          have TX : Hid (Blk w46 Xw #[.slice none 0 0] 26 ∧ w36.heap.size ≤ Xw) := ⟨TX.out.1.below bz, TX.out.2⟩
          have T1 : Hid (RdE w46 zT1 t XT1) := rz
          refine ⟨_, by simp [Act.put]; rfl, hK _ _ ⟨HSN.out, ?_⟩⟩
          clear hK rz bz
          refine onlyH (o := ?o63) 5 (by kernel_rfl) ?h63 ?r63
          case h63 => simp only [aT, aS, aZ]; rfl
          intro K hK
          refine op_call3v 8 _ _ _ _ Tryz.f8 (fun v w' => ∃ z Y, v = .tuple #[z, .bool rc] ∧ RdRw w' z ra Y ∧ Own w46.heap.size w' Y ∧ Below w46.heap.size w46 w') rfl rfl Tryz.func8 (by kernel_rfl) (by kernel_rfl) ((rowPushImpl_any zT0 zT1 s XT0 t XT1 j w46 (T0.out) (T1.out) HSP.out).mono (by intro e w' hres; rw [← HZ.out] at hres; obtain ⟨z, Y, rfl, h1, h2, h3⟩ := hres; exact ⟨_, rfl, z, Y, rfl, h1, h2, h3⟩)) ?_
          rintro zt w47 ⟨zv, Yw, rfl, ry, oy, bz⟩
          obtain ⟨cw, rfl, szw, onw⟩ := ry.cells
          have s1 := BS.out.size
          have TXN : Hid (Xw ∉ Yw) := fun hx => by have := oy.ge _ hx; have := TX.out.1.lt; omega
          have HSN : Hid (Blk w47 (w.heap.size) cs0 48 ∧ Blk w47 (w.heap.size + 1) cs1 52) := ⟨HSN.out.1.below bz, HSN.out.2.below bz⟩
          have BZ : Hid (Below w.heap.size w w47) := Below.next BZ.out bz
          have BS : Hid (Below w36.heap.size w36 w47) := Below.next BS.out bz
          have TX : Hid (Blk w47 Xw #[.slice none 0 0] 26 ∧ w36.heap.size ≤ Xw) := ⟨TX.out.1.below bz, TX.out.2⟩
          have TT : Hid (RdRw w47 (.agg cw) ra Yw ∧ Own w36.heap.size w47 Yw ∧ cw.size = 1 ∧ cw.all (·.oneCell') = true) := ⟨ry, oy.mono s1, szw, onw⟩
          refine ⟨_, by simp [Act.put]; rfl, hK _ _ ⟨HSN.out, ?_⟩⟩
          clear hK ry oy bz szw onw s1 T0 T1
          refine takeH (o := ?o64) 6 (.tuple #[.agg cw, .bool rc]) ?h64 ?r64
          case h64 => simp only [aT, aS, aZ]; rfl
          refine ⟨_, by simp [Act.put]; rfl, by kernel_rfl, by kernel_rfl, by kernel_rfl, fun _ _ _ h => h, (.inl ⟨rfl, fun W _ => by kernel_rfl⟩), HSN.out, ?_⟩
          refine takeH (o := ?o65) 7 (.agg cw) ?h65 ?r65
          case h65 => simp only [aT, aS, aZ]; rfl
          refine ⟨_, by simp [Act.put]; rfl, by kernel_rfl, by kernel_rfl, by kernel_rfl, fun _ _ _ h => h, (.inl ⟨rfl, fun W _ => by kernel_rfl⟩), HSN.out, ?_⟩
          refine takeH (o := ?o66) 8 (.bool rc) ?h66 ?r66
          case h66 => simp only [aT, aS, aZ]; rfl
          refine ⟨_, by simp [Act.put]; rfl, by kernel_rfl, by kernel_rfl, by kernel_rfl, fun _ _ _ h => h, (.inl ⟨rfl, fun W _ => by kernel_rfl⟩), HSN.out, ?_⟩
          refine onlyH (o := ?o67) 10 (by kernel_rfl) ?h67 ?r67
          case h67 => simp only [aT, aS, aZ]; rfl
          intro K hK
          have lp := LP.out
          have lx := TX.out.2
          refine op_store 26 Xw #[.slice none 0 0] cw 26 rfl rfl rfl rfl TX.out.1 (rwSize TT.out.2.2.1) TT.out.2.2.1.symm TT.out.2.2.2 ⟨_, by simp [Act.put]; rfl, hK _ _ ⟨⟨HSN.out.1.setRowOther (by omega), HSN.out.2.setRowOther (by omega)⟩, ?_⟩⟩
          clear hK
          refine takeH (o := ?o68) 11 (.bool rc) ?h68 ?r68
          case h68 => simp only [aT, aS, aZ]; rfl
          refine ⟨_, by simp [Act.put]; rfl, by kernel_rfl, by kernel_rfl, by kernel_rfl, fun _ _ _ h => h, (.inl ⟨rfl, fun W _ => by kernel_rfl⟩), ⟨HSN.out.1.setRowOther (by omega), HSN.out.2.setRowOther (by omega)⟩, ?_⟩
          refine wpAnyH_done (by kernel_rfl) ?_ _
          go_wp2_with fail
          go_meet
          case rel => exact ⟨Xw, cw, Yw, rfl, rfl, below_setRow BS.out lx _, varRw_stored TX.out.1 TT.out.1 TT.out.2.2.1 TT.out.2.1 TT.out.1.lt lx TXN.out⟩
      case s47 =>
        intro K hK
        refine op_turn (.pointer (some ⟨Y0.heap.size, 0, none⟩)) (Y0.alloc (.cells #[.slice none 0 0] 26)) rfl (by kernel_rfl) ⟨_, by simp [Act.put]; rfl, hK _ _ ⟨⟨HSN.out.1.alloc _, HSN.out.2.alloc _⟩, ?_⟩⟩
        clear hK
        obtain ⟨w49, hW⟩ : ∃ Z, Z = (Y0.alloc (.cells #[.slice none 0 0] 26)) := ⟨_, rfl⟩
        have bz : Below Y0.heap.size Y0 w49 := by rw [hW]; exact (Below.refl _ _).alloc (Nat.le_refl _) _
        have TX0 : Blk w49 Y0.heap.size #[.slice none 0 0] 26 := by rw [hW]; exact Blk.made _ _ _
        rw [← hW]
        clear hW
        obtain ⟨Xw, hX⟩ : ∃ z, z = Y0.heap.size := ⟨_, rfl⟩
        have TX : Hid (Blk w49 Xw #[.slice none 0 0] 26 ∧ w36.heap.size ≤ Xw) := ⟨by rw [hX]; exact TX0, by have := BS.out.size; omega⟩
        have HSN : Hid (Blk w49 (w.heap.size) cs0 48 ∧ Blk w49 (w.heap.size + 1) cs1 52) := ⟨HSN.out.1.below bz, HSN.out.2.below bz⟩
        have BZ : Hid (Below w.heap.size w w49) := Below.next BZ.out bz
        have BS : Hid (Below w36.heap.size w36 w49) := Below.next BS.out bz
        rw [← hX]
        clear hX TX0 bz
        refine onlyH (o := ?o69) 1 (by kernel_rfl) ?h69 ?r69
        case h69 => simp only [aT, aS, aZ]; rfl
        intro K hK
        refine op_call1 19 _ _ Tryz.f19 (fun v w' => ∃ X, RdRw w' v s X ∧ Below w49.heap.size w49 w') rfl rfl Tryz.func19 (by kernel_rfl) (by kernel_rfl) ((toRw_any _ s F w49 (HH0.out.1.below BZ.out) HF0.out).mono (by rintro e w' ⟨v, X, rfl, h1, _, h3⟩; exact ⟨_, rfl, X, h1, h3⟩)) ?_
        rintro zT0 w50 ⟨XT0, rz, bz⟩
        have HSN : Hid (Blk w50 (w.heap.size) cs0 48 ∧ Blk w50 (w.heap.size + 1) cs1 52) := ⟨HSN.out.1.below bz, HSN.out.2.below bz⟩
        have BZ : Hid (Below w.heap.size w w50) := Below.next BZ.out bz
        have BS : Hid (Below w36.heap.size w36 w50) := Below.next BS.out bz
        have TX : Hid (Blk w50 Xw #[.slice none 0 0] 26 ∧ w36.heap.size ≤ Xw) := ⟨TX.out.1.below bz, TX.out.2⟩
        have T0 : Hid (RdRw w50 zT0 s XT0) := rz
        refine ⟨_, by simp [Act.put]; rfl, hK _ _ ⟨HSN.out, ?_⟩⟩
        clear hK rz bz
        refine onlyH (o := ?o70) 3 (by kernel_rfl) ?h70 ?r70
        case h70 => simp only [aT, aS, aZ]; rfl
        intro K hK
        refine op_call1 20 _ _ Tryz.f20 (fun v w' => ∃ X, RdE w' v t X ∧ Below w50.heap.size w50 w') rfl rfl Tryz.func20 (by kernel_rfl) (by kernel_rfl) ((toE_any _ t G w50 (HH1.out.1.below BZ.out) HF1.out).mono (by rintro e w' ⟨v, X, rfl, h1, _, h3⟩; exact ⟨_, rfl, X, h1, h3⟩)) ?_
        rintro zT1 w51 ⟨XT1, rz, bz⟩
        have HSN : Hid (Blk w51 (w.heap.size) cs0 48 ∧ Blk w51 (w.heap.size + 1) cs1 52) := ⟨HSN.out.1.below bz, HSN.out.2.below bz⟩
        have BZ : Hid (Below w.heap.size w w51) := Below.next BZ.out bz
        have BS : Hid (Below w36.heap.size w36 w51) := Below.next BS.out bz
        have T0 : Hid (RdRw w51 zT0 s XT0) := T0.out.below bz
        have TX : Hid (Blk w51 Xw #[.slice none 0 0] 26 ∧ w36.heap.size ≤ Xw) := ⟨TX.out.1.below bz, TX.out.2⟩
        have T1 : Hid (RdE w51 zT1 t XT1) := rz
        refine ⟨_, by simp [Act.put]; rfl, hK _ _ ⟨HSN.out, ?_⟩⟩
        clear hK rz bz
        refine onlyH (o := ?o71) 5 (by kernel_rfl) ?h71 ?r71
        case h71 => simp only [aT, aS, aZ]; rfl
        intro K hK
        refine op_call3v 8 _ _ _ _ Tryz.f8 (fun v w' => ∃ z Y, v = .tuple #[z, .bool rc] ∧ RdRw w' z ra Y ∧ Own w51.heap.size w' Y ∧ Below w51.heap.size w51 w') rfl rfl Tryz.func8 (by kernel_rfl) (by kernel_rfl) ((rowPushImpl_any zT0 zT1 s XT0 t XT1 j w51 (T0.out) (T1.out) HSP.out).mono (by intro e w' hres; rw [← HZ.out] at hres; obtain ⟨z, Y, rfl, h1, h2, h3⟩ := hres; exact ⟨_, rfl, z, Y, rfl, h1, h2, h3⟩)) ?_
        rintro zt w52 ⟨zv, Yw, rfl, ry, oy, bz⟩
        obtain ⟨cw, rfl, szw, onw⟩ := ry.cells
        have s1 := BS.out.size
        have TXN : Hid (Xw ∉ Yw) := fun hx => by have := oy.ge _ hx; have := TX.out.1.lt; omega
        have HSN : Hid (Blk w52 (w.heap.size) cs0 48 ∧ Blk w52 (w.heap.size + 1) cs1 52) := ⟨HSN.out.1.below bz, HSN.out.2.below bz⟩
        have BZ : Hid (Below w.heap.size w w52) := Below.next BZ.out bz
        have BS : Hid (Below w36.heap.size w36 w52) := Below.next BS.out bz
        have TX : Hid (Blk w52 Xw #[.slice none 0 0] 26 ∧ w36.heap.size ≤ Xw) := ⟨TX.out.1.below bz, TX.out.2⟩
        have TT : Hid (RdRw w52 (.agg cw) ra Yw ∧ Own w36.heap.size w52 Yw ∧ cw.size = 1 ∧ cw.all (·.oneCell') = true) := ⟨ry, oy.mono s1, szw, onw⟩
        refine ⟨_, by simp [Act.put]; rfl, hK _ _ ⟨HSN.out, ?_⟩⟩
        clear hK ry oy bz szw onw s1 T0 T1
        refine takeH (o := ?o72) 6 (.tuple #[.agg cw, .bool rc]) ?h72 ?r72
        case h72 => simp only [aT, aS, aZ]; rfl
        refine ⟨_, by simp [Act.put]; rfl, by kernel_rfl, by kernel_rfl, by kernel_rfl, fun _ _ _ h => h, (.inl ⟨rfl, fun W _ => by kernel_rfl⟩), HSN.out, ?_⟩
        refine takeH (o := ?o73) 7 (.agg cw) ?h73 ?r73
        case h73 => simp only [aT, aS, aZ]; rfl
        refine ⟨_, by simp [Act.put]; rfl, by kernel_rfl, by kernel_rfl, by kernel_rfl, fun _ _ _ h => h, (.inl ⟨rfl, fun W _ => by kernel_rfl⟩), HSN.out, ?_⟩
        refine takeH (o := ?o74) 8 (.bool rc) ?h74 ?r74
        case h74 => simp only [aT, aS, aZ]; rfl
        refine ⟨_, by simp [Act.put]; rfl, by kernel_rfl, by kernel_rfl, by kernel_rfl, fun _ _ _ h => h, (.inl ⟨rfl, fun W _ => by kernel_rfl⟩), HSN.out, ?_⟩
        refine onlyH (o := ?o75) 10 (by kernel_rfl) ?h75 ?r75
        case h75 => simp only [aT, aS, aZ]; rfl
        intro K hK
        have lp := LP.out
        have lx := TX.out.2
        refine op_store 26 Xw #[.slice none 0 0] cw 26 rfl rfl rfl rfl TX.out.1 (rwSize TT.out.2.2.1) TT.out.2.2.1.symm TT.out.2.2.2 ⟨_, by simp [Act.put]; rfl, hK _ _ ⟨⟨HSN.out.1.setRowOther (by omega), HSN.out.2.setRowOther (by omega)⟩, ?_⟩⟩
        clear hK
        refine takeH (o := ?o76) 11 (.bool rc) ?h76 ?r76
        case h76 => simp only [aT, aS, aZ]; rfl
        refine ⟨_, by simp [Act.put]; rfl, by kernel_rfl, by kernel_rfl, by kernel_rfl, fun _ _ _ h => h, (.inl ⟨rfl, fun W _ => by kernel_rfl⟩), ⟨HSN.out.1.setRowOther (by omega), HSN.out.2.setRowOther (by omega)⟩, ?_⟩
        refine wpAnyH_done (by kernel_rfl) ?_ _
        go_wp2_with fail
        go_meet
        case rel => exact ⟨Xw, cw, Yw, rfl, rfl, below_setRow BS.out lx _, varRw_stored TX.out.1 TT.out.1 TT.out.2.2.1 TT.out.2.1 TT.out.1.lt lx TXN.out⟩
    case rest =>
      obtain ⟨gh, ch, Yh, rfl, rfl, hbw, hvar⟩ := hcut
      obtain ⟨w54, hWn⟩ : ∃ W, W = wc := ⟨_, rfl⟩
      rw [← hWn] at hbw hvar ⊢
      clear hWn
      have BX0 : Hid (Blk w54 (w.heap.size) cs0 48) := BX0.out.below hbw
      have BX1 : Hid (Blk w54 (w.heap.size + 1) cs1 52) := BX1.out.below hbw
      have BEL : Hid (Below w.heap.size w w54) := Below.next BEL.out hbw
      have Vw : Hid (VarRw w54 w2.heap.size w20.heap.size gw cw ra Yw) := Vw.out.below hbw
      have Vg : Hid (VarRw w54 w24.heap.size w26.heap.size w25.heap.size cg (ra.marked 1) Yg) := Vg.out.below hbw
      have Vh : Hid (VarRw w54 w36.heap.size w54.heap.size gh ch ra Yh) := hvar
      have O7 : Hid (w36.heap.size ≤ w54.heap.size) := by show _ ≤ _; exact hbw.size
      clear hvar hbw LP
      go_wp2_with (first | go_skip | (with_reducible refine stopLoad 48 rfl ?_) | (with_reducible refine stopLoad 26 rfl ?_) | (with_reducible refine stopLoad 52 rfl ?_) | (with_reducible refine stopLoad 33 rfl ?_) | (with_reducible refine stopStore 26 rfl ?_) | (with_reducible refine stopStore 33 rfl ?_))
      refine load_any 26 _ ch 26 _ Vh.out.blk rfl rfl rfl Tryz.underlying26 rfl (rwSize Vh.out.sz) ?_
      go_wp2_with (first | go_skip | (with_reducible refine stopLoad 48 rfl ?_) | (with_reducible refine stopLoad 26 rfl ?_) | (with_reducible refine stopLoad 52 rfl ?_) | (with_reducible refine stopLoad 33 rfl ?_) | (with_reducible refine stopStore 26 rfl ?_) | (with_reducible refine stopStore 33 rfl ?_))
      refine load_any 26 _ cw 26 _ Vw.out.blk rfl rfl rfl Tryz.underlying26 rfl (rwSize Vw.out.sz) ?_
      go_wp2_with fail
      refine (eqRw_any _ _ ra ra Yh Yw _ Vh.out.rd Vw.out.rd HM.out.1 HM.out.1).mono ?_
      rintro e w55 ⟨rfl, hb⟩
      have BX0 : Hid (Blk w55 (w.heap.size) cs0 48) := BX0.out.below hb
      have BX1 : Hid (Blk w55 (w.heap.size + 1) cs1 52) := BX1.out.below hb
      have BEL : Hid (Below w.heap.size w w55) := Below.next BEL.out hb
      have Vw : Hid (VarRw w55 w2.heap.size w20.heap.size gw cw ra Yw) := Vw.out.below hb
      have Vg : Hid (VarRw w55 w24.heap.size w26.heap.size w25.heap.size cg (ra.marked 1) Yg) := Vg.out.below hb
      have Vh : Hid (VarRw w55 w36.heap.size w54.heap.size gh ch ra Yh) := Vh.out.below hb
      clear hb
      have hdec : decide (ra = ra) = true := by simp
      rw [hdec]
      clear hdec
      go_wp2_with (first | go_skip | (with_reducible refine stopLoad 48 rfl ?_) | (with_reducible refine stopLoad 26 rfl ?_) | (with_reducible refine stopLoad 52 rfl ?_) | (with_reducible refine stopLoad 33 rfl ?_) | (with_reducible refine stopStore 26 rfl ?_) | (with_reducible refine stopStore 33 rfl ?_))
      refine load_any 26 _ cg 26 _ Vg.out.blk rfl rfl rfl Tryz.underlying26 rfl (rwSize Vg.out.sz) ?_
      go_wp2_with fail
      refine (heldRw_any _ ra Yg 1 _ Vg.out.rd HM.out.1 (by omega) (by have := HM.out; omega)).mono ?_
      rintro e w56 ⟨rfl, hb⟩
      have BX0 : Hid (Blk w56 (w.heap.size) cs0 48) := BX0.out.below hb
      have BX1 : Hid (Blk w56 (w.heap.size + 1) cs1 52) := BX1.out.below hb
      have BEL : Hid (Below w.heap.size w w56) := Below.next BEL.out hb
      have Vw : Hid (VarRw w56 w2.heap.size w20.heap.size gw cw ra Yw) := Vw.out.below hb
      have Vg : Hid (VarRw w56 w24.heap.size w26.heap.size w25.heap.size cg (ra.marked 1) Yg) := Vg.out.below hb
      have Vh : Hid (VarRw w56 w36.heap.size w54.heap.size gh ch ra Yh) := Vh.out.below hb
      clear hb
      rw [← HKM.out]
      go_wp2
      go_ret
      exact ⟨rfl, BEL.out⟩
set_option maxRecDepth 200000 in
theorem lifted (os : Os) (started : os.Started) (H : Type) (enc : TypeId × Value → H) :
    ReturnsInHanded {} Tryz.checked os 4 .any (Rows.fnExactRowPushSpec.pre6 enc Tryz.prog Tryz.f4 Rows.fnExactRowPushRow.domain false) (Rows.fnExactRowPushSpec.post enc Tryz.prog Tryz.f4 false true false false) := by
  refine returnsInHanded_of_change (C := Tryz.checked) own started (by kernel_rfl) Tryz.func4
    (ChangeSpec.witness6 (enc := enc) (C := Tryz.checked) false ⟨#[], #[.agg #[.slice none 0 0], .agg #[.int .i64 0, .int .i64 0, .slice none 0 0, .int .i64 0, .int .i64 0, .int .i64 0, .int .i64 0, .slice none 0 0, .slice none 0 0, .slice none 0 0], .bool false], []⟩ 8 (by kernel_rfl) (by kernel_rfl) (by kernel_rfl) (by kernel_rfl)) ?_
  intro W base args ds gs before hval0 hW hcnd _
  have hval : ∀ (j : Nat) t v, Tryz.f4.params[j]? = some t → args[j]? = some v → Value.okWide Tryz.prog W .any base t v := hval0
  have hW' := hW
  obtain ⟨p, q, hA0, hV, rfl, hfz, hnd⟩ := hW
  have hA : DataW.TrodAll enc Tryz.prog W 0 (fun _ => true) true Tryz.f4.params.toList args.toList ds p := hA0
  rw [Tryz.params4] at hA hval
  obtain ⟨v0, vs0, d0, ds0, p0, q0, hargs0, rfl, rfl, h0, r0⟩ := trodAll_cons hA
  obtain ⟨v1, vs1, d1, ds1, p1, q1, hargs1, rfl, rfl, h1, r1⟩ := trodAll_cons r0
  obtain ⟨v2, vs2, d2, ds2, p2, q2, hargs2, rfl, rfl, h2, r2⟩ := trodAll_cons r1
  obtain ⟨rfl, rfl, rfl⟩ := trodAll_nil r2
  obtain rfl : args = #[v0, v1, v2] := by cases args; simp_all
  obtain ⟨rfl, rfl⟩ := trodVars_none hV
  have k0 := h0
  have lt0 : ∀ x ∈ p0, x.block < W.heap.size := by obtain ⟨m, hm⟩ := k0; exact DataW.trod_lt m _ _ _ hm
  have k1 := h1
  have lt1 : ∀ x ∈ p1, x.block < W.heap.size := by obtain ⟨m, hm⟩ := k1; exact DataW.trod_lt m _ _ _ hm
  obtain ⟨s0, F0, hR0, hv0⟩ := open_Rw (hval 0 48 v0 rfl rfl) h0
  obtain ⟨s1, F1, hR1, hv1⟩ := open_E (hval 1 52 v1 rfl rfl) h1
  obtain ⟨a2, rfl, rfl, rfl⟩ := open_bool Tryz.underlying4 (hval 2 4 v2 rfl rfl) h2
  clear hA0 hval0
  refine (walk  v0 s0 F0 v1 s1 F1 a2 W hR0 hv0 hR1 hv1).mono fun e W' ⟨he, bel⟩ => ?_
  subst he
  exact ⟨_, rfl, _, _, _, [], _, [], hW', trodAll_mk1 (shut_bool Tryz.underlying4 _), (trodAll_cons_mk (Below.trod laidOut (by kernel_rfl) (of_decide_eq_true (by kernel_rfl)) k0 bel lt0) (trodAll_cons_mk (Below.trod laidOut (by kernel_rfl) (of_decide_eq_true (by kernel_rfl)) k1 bel lt1) (trodAll_cons_mk (shut_bool Tryz.underlying4 _) trodAll_mk0))), rfl, bel.frame _, fun h => by cases h⟩
theorem over : Rows.fnExactRowPushRow.holds Tryz.pinned (OpenSpec.ofChange Rows.fnExactRowPushSpec) :=
  OpenClaim.holds_of_wide 4 Tryz.f4 rfl rfl rfl rfl rfl rfl rfl ⟨rfl, rfl, rfl, rfl, rfl⟩ rfl rfl rfl rfl rfl (by kernel_rfl) Tryz.func4 (by kernel_rfl)
    (of_decide_eq_true (by kernel_rfl)) (by unfold Func.isWrapper; first | (rw [if_pos (by decide +kernel)]; kernel_rfl) | (rw [if_neg (by decide +kernel)]; exact ⟨rfl, rfl⟩))
    (fun os started H enc _ => lifted os started H enc)
theorem proved : Rows.FnExactRowPushSaid := over
#print axioms proved
end Go.Proofs.YtillnoeailnnfaaGreat.fnExactRowPush
