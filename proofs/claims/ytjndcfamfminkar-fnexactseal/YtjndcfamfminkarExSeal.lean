/- For every agent, all numbers and every summary (no condition): laws.FnExactSeal returns true, and its arguments read afterwards as they did: the program's Seal answers as the model's, writes nothing into its arguments, and its answer owns its memory. -/
import Derived.Test.YtjndcfamfminkarB4
import Derived.Test.YtjndcfamfminkarSkLaw
import Derived.Test.YtjndcfamfminkarFrVar
import Derived.Test.YtjndcfamfminkarRows
import Derived.WalkKit
import Derived.ProofKit
import Derived.OpenShut
import Derived.ShutString
import Derived.ChangeOld
import Derived.Below
import Derived.Deep.DeepCutAuto
namespace Go.Proofs.Ytjndcfamfminkar.fnExactSeal
open Go.ChangeShapes Go.WideShapes Go.ChangeAt Go.RowKit
set_option linter.unusedVariables false
theorem own : ownKnob Try.prog.godebug = none := by kernel_rfl
set_option maxRecDepth 200000 in
set_option maxHeartbeats 16000000 in
theorem walk (c : Int) (k : Int) (n : Int) (v0 : Value) (s : Ag) (F : List Nat) (v4 : Value) (t : Sk) (G : List Nat) (w : World) (h0 : RdA w v0 s F) (hv0 : s.vast) (h4 : RdSk w v4 t G) (hv4 : t.vast) :
    Calls Try.prog 4 #[v0, .int .i64 c, .int .i64 k, .int .i64 n, v4] w fun e w' => e = .returned (.bool true) ∧ Below w.heap.size w w' := by
  have HH0 : Hid (RdA w v0 s F ∧ s.vast) := ⟨h0, hv0⟩
  obtain ⟨cs0, rfl, hc0, _⟩ := h0.cells
  have HC0 : Hid (cs0.size = 7) := hc0
  have HH4 : Hid (RdSk w v4 t G ∧ t.vast) := ⟨h4, hv4⟩
  obtain ⟨cs4, rfl, hc4, _⟩ := h4.cells
  have HC4 : Hid (cs4.size = 7) := hc4
  have BX0 : Hid (Blk ((w.alloc (.cells cs0 34)).alloc (.cells cs4 38)) (w.heap.size) cs0 34) := (Blk.made _ _ _).alloc _
  have BX4 : Hid (Blk ((w.alloc (.cells cs0 34)).alloc (.cells cs4 38)) (w.heap.size + 1) cs4 38) := Blk.made_eq (by simp)
  have BEL : Hid (Below w.heap.size w ((w.alloc (.cells cs0 34)).alloc (.cells cs4 38))) := Below.allocW _ (Below.allocW _ (Below.refl _ _) (Nat.le_refl _)) (Nat.le_refl _)
  clear h0 hv0 hc0 h4 hv4 hc4
  go_enter Try.func4, Try.ntmps4
  go_wp2_with (first | go_skip | (with_reducible refine stopLoad 34 rfl ?_) | (with_reducible refine stopLoad 25 rfl ?_) | (with_reducible refine stopLoad 38 rfl ?_) | (with_reducible refine stopLoad 44 rfl ?_) | (with_reducible refine stopStore 25 rfl ?_) | (with_reducible refine stopStore 44 rfl ?_))
  refine load_any 34 (w.heap.size) cs0 34 _ BX0.out rfl rfl rfl Try.underlying34 rfl (lagSize HC0.out) ?_
  go_wp2_with fail
  refine (szA_vast _ s F 1048576 _ (HH0.out.1.below BEL.out) HH0.out.2 (by omega) (by omega)).mono ?_
  rintro e w1 ⟨⟨r0, rfl, ra, rb, rc⟩, hb1⟩
  have BX0 : Hid (Blk w1 (w.heap.size) cs0 34) := BX0.out.below hb1
  have BX4 : Hid (Blk w1 (w.heap.size + 1) cs4 38) := BX4.out.below hb1
  have BEL : Hid (Below w.heap.size w w1) := Below.next BEL.out hb1
  by_cases q : r0 < 0
  · clear ra rb rc hb1
    have hq : decide (r0 < 0) = true := dec_true q
    go_wp2
    go_ret
    exact ⟨rfl, BEL.out⟩
  have q' : 0 ≤ r0 := by omega
  have hq : decide (r0 < 0) = false := dec_false q
  have HSZ0 : Hid (s.size ≤ 1048576) := by have := rb q'; show _ ≤ _; omega
  have HR0 : Hid (0 ≤ r0 ∧ r0 ≤ 1048576) := ⟨q', by omega⟩
  have HF0 : Hid (s.fits) := (show s.fits from HSZ0.out)
  have HMI0 : Hid (0 ≤ s.many ∧ s.many ≤ 16777216) := ⟨Ag.many_nonneg s, by have := Ag.fits.many (show s.fits from HSZ0.out); omega⟩
  clear ra rb rc hb1 q q'
  go_wp2_with (first | go_skip | (with_reducible refine stopLoad 34 rfl ?_) | (with_reducible refine stopLoad 25 rfl ?_) | (with_reducible refine stopLoad 38 rfl ?_) | (with_reducible refine stopLoad 44 rfl ?_) | (with_reducible refine stopStore 25 rfl ?_) | (with_reducible refine stopStore 44 rfl ?_))
  refine load_any 38 (w.heap.size + 1) cs4 38 _ BX4.out rfl rfl rfl Try.underlying38 rfl (lskSize HC4.out) ?_
  go_wp2_with fail
  refine (szSketch_vast _ t G r0 _ (HH4.out.1.below BEL.out) HH4.out.2 (by have := HR0.out; omega) (by have := HR0.out; omega)).mono ?_
  rintro e w2 ⟨⟨r1, rfl, ra, rb, rc⟩, hb1⟩
  have BX0 : Hid (Blk w2 (w.heap.size) cs0 34) := BX0.out.below hb1
  have BX4 : Hid (Blk w2 (w.heap.size + 1) cs4 38) := BX4.out.below hb1
  have BEL : Hid (Below w.heap.size w w2) := Below.next BEL.out hb1
  by_cases q : r1 < 0
  · clear ra rb rc hb1
    have hq : decide (r1 < 0) = true := dec_true q
    go_wp2
    go_ret
    exact ⟨rfl, BEL.out⟩
  have q' : 0 ≤ r1 := by omega
  have hq : decide (r1 < 0) = false := dec_false q
  have HSZ4 : Hid (t.size ≤ 1048576) := by have := rb q'; have := HR0.out; show _ ≤ _; omega
  have HR1 : Hid (0 ≤ r1 ∧ r1 ≤ 1048576) := ⟨q', by have := HR0.out; omega⟩
  have HF4 : Hid (t.fits) := Sk.fits_of HSZ4.out
  have HMI4 : Hid (0 ≤ t.many ∧ t.many ≤ 16777216) := (by have := many_fits HSZ4.out; show 0 ≤ _ ∧ _ ≤ _; omega)
  clear ra rb rc hb1 q q'
  have LB0 : Hid (w.heap.size + 1 + 1 ≤ w2.heap.size) := BX4.out.lt
  obtain ⟨ra, rc, hz⟩ : ∃ ra rc, (ra, rc) = s.seal c k n t := ⟨(s.seal c k n t).1, (s.seal c k n t).2, rfl⟩
  have HZ : Hid ((ra, rc) = s.seal c k n t) := hz
  have HM0 := seal_wide c k n HF0.out HSZ4.out
  rw [← hz] at HM0
  have HM : Hid (ra.wide ∧ 0 ≤ ra.many ∧ ra.many ≤ 16777216) := HM0
  have hrc : (rc != rc) = false := by simp
  clear HM0 hz
  have LP : Hid (w.heap.size + 1 < w2.heap.size) := BX4.out.lt
  go_upto_region 8 with fail
  go_cut [12, 13] (fun a6 a7 wx => ∃ (g : Nat) (cs : Array Value) (X : List Nat), a6 = .pointer (some ⟨g, 0, none⟩) ∧ a7 = .int .i64 rc ∧ Below w2.heap.size w2 wx ∧ VarA wx w2.heap.size wx.heap.size g cs ra X)
  case first =>
    have bd := (Below.refl w2.heap.size w2).drew
    have HSN : Hid (Blk w2.drew (w.heap.size) cs0 34 ∧ Blk w2.drew (w.heap.size + 1) cs4 38) := ⟨BX0.out.below bd, BX4.out.below bd⟩
    have BZ : Hid (Below w.heap.size w w2.drew) := Below.next BEL.out bd
    have BS : Hid (Below w2.heap.size w2 w2.drew) := bd
    obtain ⟨Y0, hY0⟩ : ∃ Y, Y = w2.drew := ⟨_, rfl⟩
    rw [← hY0] at HSN BZ BS
    clear bd
    refine wp_region_held (S := fun W => Blk W (w.heap.size) cs0 34 ∧ Blk W (w.heap.size + 1) cs4 38) (by kernel_rfl) ?_
    change wpAnyH _ _ _ _ _ _ _ _ (World.drew _)
    rw [← hY0]
    clear hY0
    refine takeH (o := ?o85) 2 (.int .i64 c) ?h85 ?r85
    case h85 => simp only [aT, aS, aZ]; rfl
    refine ⟨_, by simp [Act.put]; rfl, by kernel_rfl, by kernel_rfl, by kernel_rfl, fun _ _ _ h => h, (.inl ⟨rfl, fun W _ => by kernel_rfl⟩), HSN.out, ?_⟩
    refine takeH (o := ?o86) 3 (.int .i64 k) ?h86 ?r86
    case h86 => simp only [aT, aS, aZ]; rfl
    refine ⟨_, by simp [Act.put]; rfl, by kernel_rfl, by kernel_rfl, by kernel_rfl, fun _ _ _ h => h, (.inl ⟨rfl, fun W _ => by kernel_rfl⟩), HSN.out, ?_⟩
    refine takeH (o := ?o87) 4 (.int .i64 n) ?h87 ?r87
    case h87 => simp only [aT, aS, aZ]; rfl
    refine ⟨_, by simp [Act.put]; rfl, by kernel_rfl, by kernel_rfl, by kernel_rfl, fun _ _ _ h => h, (.inl ⟨rfl, fun W _ => by kernel_rfl⟩), HSN.out, ?_⟩
    refine takeH (o := ?o88) 0 (.agg cs0) ?h88 ?r88
    case h88 => simp only [aT, aZ]; rfl
    refine ⟨_, by simp [Act.put]; rfl, by kernel_rfl, by kernel_rfl, by kernel_rfl, fun _ _ _ h => h, (yields_whole 34 _ cs0 34 _ rfl rfl rfl Try.underlying34 rfl (lagSize HC0.out) (fun W hW => hW.1)), HSN.out, ?_⟩
    refine takeH (o := ?o89) 5 (.agg cs4) ?h89 ?r89
    case h89 => simp only [aT, aS, aZ]; rfl
    refine ⟨_, by simp [Act.put]; rfl, by kernel_rfl, by kernel_rfl, by kernel_rfl, fun _ _ _ h => h, (yields_whole 38 _ cs4 38 _ rfl rfl rfl Try.underlying38 rfl (lskSize HC4.out) (fun W hW => hW.2)), HSN.out, ?_⟩
    refine twoH (o := ?o90) (o' := ?p90) 1 11 (by kernel_rfl) ?h90 ?g90 ?r90 ?s90
    case h90 => simp only [aT, aS, aZ]; rfl
    case g90 => simp only [aT, aS, aZ]; rfl
    case r90 =>
      intro K hK
      refine op_call1 16 _ _ Try.f16 (fun v w' => ∃ X, RdA w' v s X ∧ Below Y0.heap.size Y0 w') rfl rfl Try.func16 (by kernel_rfl) (by kernel_rfl) ((toA_any _ s F Y0 (HH0.out.1.below BZ.out) HF0.out).mono (by rintro e w' ⟨v, X, rfl, h1, _, h3⟩; exact ⟨_, rfl, X, h1, h3⟩)) ?_
      rintro zT0 w3 ⟨XT0, rz, bz⟩
      have HSN : Hid (Blk w3 (w.heap.size) cs0 34 ∧ Blk w3 (w.heap.size + 1) cs4 38) := ⟨HSN.out.1.below bz, HSN.out.2.below bz⟩
      have BZ : Hid (Below w.heap.size w w3) := Below.next BZ.out bz
      have BS : Hid (Below w2.heap.size w2 w3) := Below.next BS.out bz
      have T0 : Hid (RdA w3 zT0 s XT0) := rz
      refine ⟨_, by simp [Act.put]; rfl, hK _ _ ⟨HSN.out, ?_⟩⟩
      clear hK rz bz
      refine twoH (o := ?o91) (o' := ?p91) 6 11 (by kernel_rfl) ?h91 ?g91 ?r91 ?s91
      case h91 => simp only [aT, aS, aZ]; rfl
      case g91 => simp only [aT, aS, aZ]; rfl
      case r91 =>
        intro K hK
        refine op_call1 17 _ _ Try.f17 (fun v w' => ∃ X, RdSk w' v t X ∧ Below w3.heap.size w3 w') rfl rfl Try.func17 (by kernel_rfl) (by kernel_rfl) ((toSketch_any _ t G w3 (HH4.out.1.below BZ.out) HF4.out).mono (by rintro e w' ⟨v, X, rfl, h1, _, h3⟩; exact ⟨_, rfl, X, h1, h3⟩)) ?_
        rintro zT1 w4 ⟨XT1, rz, bz⟩
        have HSN : Hid (Blk w4 (w.heap.size) cs0 34 ∧ Blk w4 (w.heap.size + 1) cs4 38) := ⟨HSN.out.1.below bz, HSN.out.2.below bz⟩
        have BZ : Hid (Below w.heap.size w w4) := Below.next BZ.out bz
        have BS : Hid (Below w2.heap.size w2 w4) := Below.next BS.out bz
        have T0 : Hid (RdA w4 zT0 s XT0) := T0.out.below bz
        have T1 : Hid (RdSk w4 zT1 t XT1) := rz
        refine ⟨_, by simp [Act.put]; rfl, hK _ _ ⟨HSN.out, ?_⟩⟩
        clear hK rz bz
        refine twoH (o := ?o92) (o' := ?p92) 7 11 (by kernel_rfl) ?h92 ?g92 ?r92 ?s92
        case h92 => simp only [aT, aS, aZ]; rfl
        case g92 => simp only [aT, aS, aZ]; rfl
        case r92 =>
          intro K hK
          refine op_call5v 15 _ _ _ _ _ _ Try.f15 (fun v w' => ∃ z Y, v = .tuple #[z, .int .i64 rc] ∧ RdA w' z ra Y ∧ Own w4.heap.size w' Y ∧ Below w4.heap.size w4 w') rfl rfl Try.func15 (by kernel_rfl) (by kernel_rfl) ((sealSpecA_any zT0 zT1 s c k n t XT0 XT1 w4 (T0.out) (T1.out) HF0.out HF4.out).mono (by intro e w' hres; rw [← HZ.out] at hres; obtain ⟨z, Y, rfl, h1, h2, h3⟩ := hres; exact ⟨_, rfl, z, Y, rfl, h1, h2, h3⟩)) ?_
          rintro zt w5 ⟨zv, Yw, rfl, ry, oy, bz⟩
          obtain ⟨cw, rfl, szw, onw⟩ := ry.cells
          have s1 := BS.out.size
          have HSN : Hid (Blk w5 (w.heap.size) cs0 34 ∧ Blk w5 (w.heap.size + 1) cs4 38) := ⟨HSN.out.1.below bz, HSN.out.2.below bz⟩
          have BZ : Hid (Below w.heap.size w w5) := Below.next BZ.out bz
          have BS : Hid (Below w2.heap.size w2 w5) := Below.next BS.out bz
          have TT : Hid (RdA w5 (.agg cw) ra Yw ∧ Own w2.heap.size w5 Yw ∧ cw.size = 7 ∧ cw.all (·.oneCell') = true) := ⟨ry, oy.mono s1, szw, onw⟩
          refine ⟨_, by simp [Act.put]; rfl, hK _ _ ⟨HSN.out, ?_⟩⟩
          clear hK ry oy bz szw onw s1 T0 T1
          refine takeH (o := ?o93) 8 (.tuple #[.agg cw, .int .i64 rc]) ?h93 ?r93
          case h93 => simp only [aT, aS, aZ]; rfl
          refine ⟨_, by simp [Act.put]; rfl, by kernel_rfl, by kernel_rfl, by kernel_rfl, fun _ _ _ h => h, (.inl ⟨rfl, fun W _ => by kernel_rfl⟩), HSN.out, ?_⟩
          refine takeH (o := ?o94) 9 (.agg cw) ?h94 ?r94
          case h94 => simp only [aT, aS, aZ]; rfl
          refine ⟨_, by simp [Act.put]; rfl, by kernel_rfl, by kernel_rfl, by kernel_rfl, fun _ _ _ h => h, (.inl ⟨rfl, fun W _ => by kernel_rfl⟩), HSN.out, ?_⟩
          refine takeH (o := ?o95) 10 (.int .i64 rc) ?h95 ?r95
          case h95 => simp only [aT, aS, aZ]; rfl
          refine ⟨_, by simp [Act.put]; rfl, by kernel_rfl, by kernel_rfl, by kernel_rfl, fun _ _ _ h => h, (.inl ⟨rfl, fun W _ => by kernel_rfl⟩), HSN.out, ?_⟩
          refine onlyH (o := ?o96) 11 (by kernel_rfl) ?h96 ?r96
          case h96 => simp only [aT, aS, aZ]; rfl
          intro K hK
          refine op_turn (.pointer (some ⟨w5.heap.size, 0, none⟩)) (w5.alloc (.cells #[.int .i64 0, .int .i64 0, .bool false, .int .i64 0, .slice none 0 0, .slice none 0 0, .int .i64 0] 25)) rfl (by kernel_rfl) ⟨_, by simp [Act.put]; rfl, hK _ _ ⟨⟨HSN.out.1.alloc _, HSN.out.2.alloc _⟩, ?_⟩⟩
          clear hK
          obtain ⟨w6, hW⟩ : ∃ Z, Z = (w5.alloc (.cells #[.int .i64 0, .int .i64 0, .bool false, .int .i64 0, .slice none 0 0, .slice none 0 0, .int .i64 0] 25)) := ⟨_, rfl⟩
          have bz : Below w5.heap.size w5 w6 := by rw [hW]; exact (Below.refl _ _).alloc (Nat.le_refl _) _
          have TX0 : Blk w6 w5.heap.size #[.int .i64 0, .int .i64 0, .bool false, .int .i64 0, .slice none 0 0, .slice none 0 0, .int .i64 0] 25 := by rw [hW]; exact Blk.made _ _ _
          rw [← hW]
          clear hW
          obtain ⟨Xw, hX⟩ : ∃ z, z = w5.heap.size := ⟨_, rfl⟩
          have TX : Hid (Blk w6 Xw #[.int .i64 0, .int .i64 0, .bool false, .int .i64 0, .slice none 0 0, .slice none 0 0, .int .i64 0] 25 ∧ w2.heap.size ≤ Xw) := ⟨by rw [hX]; exact TX0, by have := BS.out.size; omega⟩
          have TXN : Hid (Xw ∉ Yw) := fun hx => by have := TT.out.1.lt _ hx; omega
          have HSN : Hid (Blk w6 (w.heap.size) cs0 34 ∧ Blk w6 (w.heap.size + 1) cs4 38) := ⟨HSN.out.1.below bz, HSN.out.2.below bz⟩
          have BZ : Hid (Below w.heap.size w w6) := Below.next BZ.out bz
          have BS : Hid (Below w2.heap.size w2 w6) := Below.next BS.out bz
          have TT : Hid (RdA w6 (.agg cw) ra Yw ∧ Own w2.heap.size w6 Yw ∧ cw.size = 7 ∧ cw.all (·.oneCell') = true) := ⟨TT.out.1.below bz, TT.out.2.1.below TT.out.1.lt bz, TT.out.2.2⟩
          rw [← hX]
          clear hX TX0 bz
          refine onlyH (o := ?o97) 12 (by kernel_rfl) ?h97 ?r97
          case h97 => simp only [aT, aS, aZ]; rfl
          intro K hK
          have lp := LP.out
          have lx := TX.out.2
          refine op_store 25 Xw #[.int .i64 0, .int .i64 0, .bool false, .int .i64 0, .slice none 0 0, .slice none 0 0, .int .i64 0] cw 25 rfl rfl rfl rfl TX.out.1 (agSize TT.out.2.2.1) TT.out.2.2.1.symm TT.out.2.2.2 ⟨_, by simp [Act.put]; rfl, hK _ _ ⟨⟨HSN.out.1.setRowOther (by omega), HSN.out.2.setRowOther (by omega)⟩, ?_⟩⟩
          clear hK
          refine takeH (o := ?o98) 13 (.int .i64 rc) ?h98 ?r98
          case h98 => simp only [aT, aS, aZ]; rfl
          refine ⟨_, by simp [Act.put]; rfl, by kernel_rfl, by kernel_rfl, by kernel_rfl, fun _ _ _ h => h, (.inl ⟨rfl, fun W _ => by kernel_rfl⟩), ⟨HSN.out.1.setRowOther (by omega), HSN.out.2.setRowOther (by omega)⟩, ?_⟩
          refine wpAnyH_done (by kernel_rfl) ?_ _
          go_wp2_with fail
          go_meet
          case rel => exact ⟨Xw, cw, Yw, rfl, rfl, below_setRow BS.out lx _, varA_stored TX.out.1 TT.out.1 TT.out.2.2.1 TT.out.2.1 TT.out.1.lt lx TXN.out⟩
        case s92 =>
          intro K hK
          refine op_turn (.pointer (some ⟨w4.heap.size, 0, none⟩)) (w4.alloc (.cells #[.int .i64 0, .int .i64 0, .bool false, .int .i64 0, .slice none 0 0, .slice none 0 0, .int .i64 0] 25)) rfl (by kernel_rfl) ⟨_, by simp [Act.put]; rfl, hK _ _ ⟨⟨HSN.out.1.alloc _, HSN.out.2.alloc _⟩, ?_⟩⟩
          clear hK
          obtain ⟨w8, hW⟩ : ∃ Z, Z = (w4.alloc (.cells #[.int .i64 0, .int .i64 0, .bool false, .int .i64 0, .slice none 0 0, .slice none 0 0, .int .i64 0] 25)) := ⟨_, rfl⟩
          have bz : Below w4.heap.size w4 w8 := by rw [hW]; exact (Below.refl _ _).alloc (Nat.le_refl _) _
          have TX0 : Blk w8 w4.heap.size #[.int .i64 0, .int .i64 0, .bool false, .int .i64 0, .slice none 0 0, .slice none 0 0, .int .i64 0] 25 := by rw [hW]; exact Blk.made _ _ _
          rw [← hW]
          clear hW
          obtain ⟨Xw, hX⟩ : ∃ z, z = w4.heap.size := ⟨_, rfl⟩
          have TX : Hid (Blk w8 Xw #[.int .i64 0, .int .i64 0, .bool false, .int .i64 0, .slice none 0 0, .slice none 0 0, .int .i64 0] 25 ∧ w2.heap.size ≤ Xw) := ⟨by rw [hX]; exact TX0, by have := BS.out.size; omega⟩
          have HSN : Hid (Blk w8 (w.heap.size) cs0 34 ∧ Blk w8 (w.heap.size + 1) cs4 38) := ⟨HSN.out.1.below bz, HSN.out.2.below bz⟩
          have BZ : Hid (Below w.heap.size w w8) := Below.next BZ.out bz
          have BS : Hid (Below w2.heap.size w2 w8) := Below.next BS.out bz
          have T0 : Hid (RdA w8 zT0 s XT0) := T0.out.below bz
          have T1 : Hid (RdSk w8 zT1 t XT1) := T1.out.below bz
          rw [← hX]
          clear hX TX0 bz
          refine onlyH (o := ?o99) 7 (by kernel_rfl) ?h99 ?r99
          case h99 => simp only [aT, aS, aZ]; rfl
          intro K hK
          refine op_call5v 15 _ _ _ _ _ _ Try.f15 (fun v w' => ∃ z Y, v = .tuple #[z, .int .i64 rc] ∧ RdA w' z ra Y ∧ Own w8.heap.size w' Y ∧ Below w8.heap.size w8 w') rfl rfl Try.func15 (by kernel_rfl) (by kernel_rfl) ((sealSpecA_any zT0 zT1 s c k n t XT0 XT1 w8 (T0.out) (T1.out) HF0.out HF4.out).mono (by intro e w' hres; rw [← HZ.out] at hres; obtain ⟨z, Y, rfl, h1, h2, h3⟩ := hres; exact ⟨_, rfl, z, Y, rfl, h1, h2, h3⟩)) ?_
          rintro zt w9 ⟨zv, Yw, rfl, ry, oy, bz⟩
          obtain ⟨cw, rfl, szw, onw⟩ := ry.cells
          have s1 := BS.out.size
          have TXN : Hid (Xw ∉ Yw) := fun hx => by have := oy.ge _ hx; have := TX.out.1.lt; omega
          have HSN : Hid (Blk w9 (w.heap.size) cs0 34 ∧ Blk w9 (w.heap.size + 1) cs4 38) := ⟨HSN.out.1.below bz, HSN.out.2.below bz⟩
          have BZ : Hid (Below w.heap.size w w9) := Below.next BZ.out bz
          have BS : Hid (Below w2.heap.size w2 w9) := Below.next BS.out bz
          have TX : Hid (Blk w9 Xw #[.int .i64 0, .int .i64 0, .bool false, .int .i64 0, .slice none 0 0, .slice none 0 0, .int .i64 0] 25 ∧ w2.heap.size ≤ Xw) := ⟨TX.out.1.below bz, TX.out.2⟩
          have TT : Hid (RdA w9 (.agg cw) ra Yw ∧ Own w2.heap.size w9 Yw ∧ cw.size = 7 ∧ cw.all (·.oneCell') = true) := ⟨ry, oy.mono s1, szw, onw⟩
          refine ⟨_, by simp [Act.put]; rfl, hK _ _ ⟨HSN.out, ?_⟩⟩
          clear hK ry oy bz szw onw s1 T0 T1
          refine takeH (o := ?o100) 8 (.tuple #[.agg cw, .int .i64 rc]) ?h100 ?r100
          case h100 => simp only [aT, aS, aZ]; rfl
          refine ⟨_, by simp [Act.put]; rfl, by kernel_rfl, by kernel_rfl, by kernel_rfl, fun _ _ _ h => h, (.inl ⟨rfl, fun W _ => by kernel_rfl⟩), HSN.out, ?_⟩
          refine takeH (o := ?o101) 9 (.agg cw) ?h101 ?r101
          case h101 => simp only [aT, aS, aZ]; rfl
          refine ⟨_, by simp [Act.put]; rfl, by kernel_rfl, by kernel_rfl, by kernel_rfl, fun _ _ _ h => h, (.inl ⟨rfl, fun W _ => by kernel_rfl⟩), HSN.out, ?_⟩
          refine takeH (o := ?o102) 10 (.int .i64 rc) ?h102 ?r102
          case h102 => simp only [aT, aS, aZ]; rfl
          refine ⟨_, by simp [Act.put]; rfl, by kernel_rfl, by kernel_rfl, by kernel_rfl, fun _ _ _ h => h, (.inl ⟨rfl, fun W _ => by kernel_rfl⟩), HSN.out, ?_⟩
          refine onlyH (o := ?o103) 12 (by kernel_rfl) ?h103 ?r103
          case h103 => simp only [aT, aS, aZ]; rfl
          intro K hK
          have lp := LP.out
          have lx := TX.out.2
          refine op_store 25 Xw #[.int .i64 0, .int .i64 0, .bool false, .int .i64 0, .slice none 0 0, .slice none 0 0, .int .i64 0] cw 25 rfl rfl rfl rfl TX.out.1 (agSize TT.out.2.2.1) TT.out.2.2.1.symm TT.out.2.2.2 ⟨_, by simp [Act.put]; rfl, hK _ _ ⟨⟨HSN.out.1.setRowOther (by omega), HSN.out.2.setRowOther (by omega)⟩, ?_⟩⟩
          clear hK
          refine takeH (o := ?o104) 13 (.int .i64 rc) ?h104 ?r104
          case h104 => simp only [aT, aS, aZ]; rfl
          refine ⟨_, by simp [Act.put]; rfl, by kernel_rfl, by kernel_rfl, by kernel_rfl, fun _ _ _ h => h, (.inl ⟨rfl, fun W _ => by kernel_rfl⟩), ⟨HSN.out.1.setRowOther (by omega), HSN.out.2.setRowOther (by omega)⟩, ?_⟩
          refine wpAnyH_done (by kernel_rfl) ?_ _
          go_wp2_with fail
          go_meet
          case rel => exact ⟨Xw, cw, Yw, rfl, rfl, below_setRow BS.out lx _, varA_stored TX.out.1 TT.out.1 TT.out.2.2.1 TT.out.2.1 TT.out.1.lt lx TXN.out⟩
      case s91 =>
        intro K hK
        refine op_turn (.pointer (some ⟨w3.heap.size, 0, none⟩)) (w3.alloc (.cells #[.int .i64 0, .int .i64 0, .bool false, .int .i64 0, .slice none 0 0, .slice none 0 0, .int .i64 0] 25)) rfl (by kernel_rfl) ⟨_, by simp [Act.put]; rfl, hK _ _ ⟨⟨HSN.out.1.alloc _, HSN.out.2.alloc _⟩, ?_⟩⟩
        clear hK
        obtain ⟨w11, hW⟩ : ∃ Z, Z = (w3.alloc (.cells #[.int .i64 0, .int .i64 0, .bool false, .int .i64 0, .slice none 0 0, .slice none 0 0, .int .i64 0] 25)) := ⟨_, rfl⟩
        have bz : Below w3.heap.size w3 w11 := by rw [hW]; exact (Below.refl _ _).alloc (Nat.le_refl _) _
        have TX0 : Blk w11 w3.heap.size #[.int .i64 0, .int .i64 0, .bool false, .int .i64 0, .slice none 0 0, .slice none 0 0, .int .i64 0] 25 := by rw [hW]; exact Blk.made _ _ _
        rw [← hW]
        clear hW
        obtain ⟨Xw, hX⟩ : ∃ z, z = w3.heap.size := ⟨_, rfl⟩
        have TX : Hid (Blk w11 Xw #[.int .i64 0, .int .i64 0, .bool false, .int .i64 0, .slice none 0 0, .slice none 0 0, .int .i64 0] 25 ∧ w2.heap.size ≤ Xw) := ⟨by rw [hX]; exact TX0, by have := BS.out.size; omega⟩
        have HSN : Hid (Blk w11 (w.heap.size) cs0 34 ∧ Blk w11 (w.heap.size + 1) cs4 38) := ⟨HSN.out.1.below bz, HSN.out.2.below bz⟩
        have BZ : Hid (Below w.heap.size w w11) := Below.next BZ.out bz
        have BS : Hid (Below w2.heap.size w2 w11) := Below.next BS.out bz
        have T0 : Hid (RdA w11 zT0 s XT0) := T0.out.below bz
        rw [← hX]
        clear hX TX0 bz
        refine onlyH (o := ?o105) 6 (by kernel_rfl) ?h105 ?r105
        case h105 => simp only [aT, aS, aZ]; rfl
        intro K hK
        refine op_call1 17 _ _ Try.f17 (fun v w' => ∃ X, RdSk w' v t X ∧ Below w11.heap.size w11 w') rfl rfl Try.func17 (by kernel_rfl) (by kernel_rfl) ((toSketch_any _ t G w11 (HH4.out.1.below BZ.out) HF4.out).mono (by rintro e w' ⟨v, X, rfl, h1, _, h3⟩; exact ⟨_, rfl, X, h1, h3⟩)) ?_
        rintro zT1 w12 ⟨XT1, rz, bz⟩
        have HSN : Hid (Blk w12 (w.heap.size) cs0 34 ∧ Blk w12 (w.heap.size + 1) cs4 38) := ⟨HSN.out.1.below bz, HSN.out.2.below bz⟩
        have BZ : Hid (Below w.heap.size w w12) := Below.next BZ.out bz
        have BS : Hid (Below w2.heap.size w2 w12) := Below.next BS.out bz
        have T0 : Hid (RdA w12 zT0 s XT0) := T0.out.below bz
        have TX : Hid (Blk w12 Xw #[.int .i64 0, .int .i64 0, .bool false, .int .i64 0, .slice none 0 0, .slice none 0 0, .int .i64 0] 25 ∧ w2.heap.size ≤ Xw) := ⟨TX.out.1.below bz, TX.out.2⟩
        have T1 : Hid (RdSk w12 zT1 t XT1) := rz
        refine ⟨_, by simp [Act.put]; rfl, hK _ _ ⟨HSN.out, ?_⟩⟩
        clear hK rz bz
        refine onlyH (o := ?o106) 7 (by kernel_rfl) ?h106 ?r106
        case h106 => simp only [aT, aS, aZ]; rfl
        intro K hK
        refine op_call5v 15 _ _ _ _ _ _ Try.f15 (fun v w' => ∃ z Y, v = .tuple #[z, .int .i64 rc] ∧ RdA w' z ra Y ∧ Own w12.heap.size w' Y ∧ Below w12.heap.size w12 w') rfl rfl Try.func15 (by kernel_rfl) (by kernel_rfl) ((sealSpecA_any zT0 zT1 s c k n t XT0 XT1 w12 (T0.out) (T1.out) HF0.out HF4.out).mono (by intro e w' hres; rw [← HZ.out] at hres; obtain ⟨z, Y, rfl, h1, h2, h3⟩ := hres; exact ⟨_, rfl, z, Y, rfl, h1, h2, h3⟩)) ?_
        rintro zt w13 ⟨zv, Yw, rfl, ry, oy, bz⟩
        obtain ⟨cw, rfl, szw, onw⟩ := ry.cells
        have s1 := BS.out.size
        have TXN : Hid (Xw ∉ Yw) := fun hx => by have := oy.ge _ hx; have := TX.out.1.lt; omega
        have HSN : Hid (Blk w13 (w.heap.size) cs0 34 ∧ Blk w13 (w.heap.size + 1) cs4 38) := ⟨HSN.out.1.below bz, HSN.out.2.below bz⟩
        have BZ : Hid (Below w.heap.size w w13) := Below.next BZ.out bz
        have BS : Hid (Below w2.heap.size w2 w13) := Below.next BS.out bz
        have TX : Hid (Blk w13 Xw #[.int .i64 0, .int .i64 0, .bool false, .int .i64 0, .slice none 0 0, .slice none 0 0, .int .i64 0] 25 ∧ w2.heap.size ≤ Xw) := ⟨TX.out.1.below bz, TX.out.2⟩
        have TT : Hid (RdA w13 (.agg cw) ra Yw ∧ Own w2.heap.size w13 Yw ∧ cw.size = 7 ∧ cw.all (·.oneCell') = true) := ⟨ry, oy.mono s1, szw, onw⟩
        refine ⟨_, by simp [Act.put]; rfl, hK _ _ ⟨HSN.out, ?_⟩⟩
        clear hK ry oy bz szw onw s1 T0 T1
        refine takeH (o := ?o107) 8 (.tuple #[.agg cw, .int .i64 rc]) ?h107 ?r107
        case h107 => simp only [aT, aS, aZ]; rfl
        refine ⟨_, by simp [Act.put]; rfl, by kernel_rfl, by kernel_rfl, by kernel_rfl, fun _ _ _ h => h, (.inl ⟨rfl, fun W _ => by kernel_rfl⟩), HSN.out, ?_⟩
        refine takeH (o := ?o108) 9 (.agg cw) ?h108 ?r108
        case h108 => simp only [aT, aS, aZ]; rfl
        refine ⟨_, by simp [Act.put]; rfl, by kernel_rfl, by kernel_rfl, by kernel_rfl, fun _ _ _ h => h, (.inl ⟨rfl, fun W _ => by kernel_rfl⟩), HSN.out, ?_⟩
        refine takeH (o := ?o109) 10 (.int .i64 rc) ?h109 ?r109
        case h109 => simp only [aT, aS, aZ]; rfl
        refine ⟨_, by simp [Act.put]; rfl, by kernel_rfl, by kernel_rfl, by kernel_rfl, fun _ _ _ h => h, (.inl ⟨rfl, fun W _ => by kernel_rfl⟩), HSN.out, ?_⟩
        refine onlyH (o := ?o110) 12 (by kernel_rfl) ?h110 ?r110
        case h110 => simp only [aT, aS, aZ]; rfl
        intro K hK
        have lp := LP.out
        have lx := TX.out.2
        refine op_store 25 Xw #[.int .i64 0, .int .i64 0, .bool false, .int .i64 0, .slice none 0 0, .slice none 0 0, .int .i64 0] cw 25 rfl rfl rfl rfl TX.out.1 (agSize TT.out.2.2.1) TT.out.2.2.1.symm TT.out.2.2.2 ⟨_, by simp [Act.put]; rfl, hK _ _ ⟨⟨HSN.out.1.setRowOther (by omega), HSN.out.2.setRowOther (by omega)⟩, ?_⟩⟩
        clear hK
        refine takeH (o := ?o111) 13 (.int .i64 rc) ?h111 ?r111
        case h111 => simp only [aT, aS, aZ]; rfl
        refine ⟨_, by simp [Act.put]; rfl, by kernel_rfl, by kernel_rfl, by kernel_rfl, fun _ _ _ h => h, (.inl ⟨rfl, fun W _ => by kernel_rfl⟩), ⟨HSN.out.1.setRowOther (by omega), HSN.out.2.setRowOther (by omega)⟩, ?_⟩
        refine wpAnyH_done (by kernel_rfl) ?_ _
        go_wp2_with fail
        go_meet
        case rel => exact ⟨Xw, cw, Yw, rfl, rfl, below_setRow BS.out lx _, varA_stored TX.out.1 TT.out.1 TT.out.2.2.1 TT.out.2.1 TT.out.1.lt lx TXN.out⟩
    case s90 =>
      intro K hK
      refine op_turn (.pointer (some ⟨Y0.heap.size, 0, none⟩)) (Y0.alloc (.cells #[.int .i64 0, .int .i64 0, .bool false, .int .i64 0, .slice none 0 0, .slice none 0 0, .int .i64 0] 25)) rfl (by kernel_rfl) ⟨_, by simp [Act.put]; rfl, hK _ _ ⟨⟨HSN.out.1.alloc _, HSN.out.2.alloc _⟩, ?_⟩⟩
      clear hK
      obtain ⟨w15, hW⟩ : ∃ Z, Z = (Y0.alloc (.cells #[.int .i64 0, .int .i64 0, .bool false, .int .i64 0, .slice none 0 0, .slice none 0 0, .int .i64 0] 25)) := ⟨_, rfl⟩
      have bz : Below Y0.heap.size Y0 w15 := by rw [hW]; exact (Below.refl _ _).alloc (Nat.le_refl _) _
      have TX0 : Blk w15 Y0.heap.size #[.int .i64 0, .int .i64 0, .bool false, .int .i64 0, .slice none 0 0, .slice none 0 0, .int .i64 0] 25 := by rw [hW]; exact Blk.made _ _ _
      rw [← hW]
      clear hW
      obtain ⟨Xw, hX⟩ : ∃ z, z = Y0.heap.size := ⟨_, rfl⟩
      have TX : Hid (Blk w15 Xw #[.int .i64 0, .int .i64 0, .bool false, .int .i64 0, .slice none 0 0, .slice none 0 0, .int .i64 0] 25 ∧ w2.heap.size ≤ Xw) := ⟨by rw [hX]; exact TX0, by have := BS.out.size; omega⟩
      have HSN : Hid (Blk w15 (w.heap.size) cs0 34 ∧ Blk w15 (w.heap.size + 1) cs4 38) := ⟨HSN.out.1.below bz, HSN.out.2.below bz⟩
      have BZ : Hid (Below w.heap.size w w15) := Below.next BZ.out bz
      have BS : Hid (Below w2.heap.size w2 w15) := Below.next BS.out bz
      rw [← hX]
      clear hX TX0 bz
      refine onlyH (o := ?o112) 1 (by kernel_rfl) ?h112 ?r112
      case h112 => simp only [aT, aS, aZ]; rfl
      intro K hK
      refine op_call1 16 _ _ Try.f16 (fun v w' => ∃ X, RdA w' v s X ∧ Below w15.heap.size w15 w') rfl rfl Try.func16 (by kernel_rfl) (by kernel_rfl) ((toA_any _ s F w15 (HH0.out.1.below BZ.out) HF0.out).mono (by rintro e w' ⟨v, X, rfl, h1, _, h3⟩; exact ⟨_, rfl, X, h1, h3⟩)) ?_
      rintro zT0 w16 ⟨XT0, rz, bz⟩
      have HSN : Hid (Blk w16 (w.heap.size) cs0 34 ∧ Blk w16 (w.heap.size + 1) cs4 38) := ⟨HSN.out.1.below bz, HSN.out.2.below bz⟩
      have BZ : Hid (Below w.heap.size w w16) := Below.next BZ.out bz
      have BS : Hid (Below w2.heap.size w2 w16) := Below.next BS.out bz
      have TX : Hid (Blk w16 Xw #[.int .i64 0, .int .i64 0, .bool false, .int .i64 0, .slice none 0 0, .slice none 0 0, .int .i64 0] 25 ∧ w2.heap.size ≤ Xw) := ⟨TX.out.1.below bz, TX.out.2⟩
      have T0 : Hid (RdA w16 zT0 s XT0) := rz
      refine ⟨_, by simp [Act.put]; rfl, hK _ _ ⟨HSN.out, ?_⟩⟩
      clear hK rz bz
      refine onlyH (o := ?o113) 6 (by kernel_rfl) ?h113 ?r113
      case h113 => simp only [aT, aS, aZ]; rfl
      intro K hK
      refine op_call1 17 _ _ Try.f17 (fun v w' => ∃ X, RdSk w' v t X ∧ Below w16.heap.size w16 w') rfl rfl Try.func17 (by kernel_rfl) (by kernel_rfl) ((toSketch_any _ t G w16 (HH4.out.1.below BZ.out) HF4.out).mono (by rintro e w' ⟨v, X, rfl, h1, _, h3⟩; exact ⟨_, rfl, X, h1, h3⟩)) ?_
      rintro zT1 w17 ⟨XT1, rz, bz⟩
      have HSN : Hid (Blk w17 (w.heap.size) cs0 34 ∧ Blk w17 (w.heap.size + 1) cs4 38) := ⟨HSN.out.1.below bz, HSN.out.2.below bz⟩
      have BZ : Hid (Below w.heap.size w w17) := Below.next BZ.out bz
      have BS : Hid (Below w2.heap.size w2 w17) := Below.next BS.out bz
      have T0 : Hid (RdA w17 zT0 s XT0) := T0.out.below bz
      have TX : Hid (Blk w17 Xw #[.int .i64 0, .int .i64 0, .bool false, .int .i64 0, .slice none 0 0, .slice none 0 0, .int .i64 0] 25 ∧ w2.heap.size ≤ Xw) := ⟨TX.out.1.below bz, TX.out.2⟩
      have T1 : Hid (RdSk w17 zT1 t XT1) := rz
      refine ⟨_, by simp [Act.put]; rfl, hK _ _ ⟨HSN.out, ?_⟩⟩
      clear hK rz bz
      refine onlyH (o := ?o114) 7 (by kernel_rfl) ?h114 ?r114
      case h114 => simp only [aT, aS, aZ]; rfl
      intro K hK
      refine op_call5v 15 _ _ _ _ _ _ Try.f15 (fun v w' => ∃ z Y, v = .tuple #[z, .int .i64 rc] ∧ RdA w' z ra Y ∧ Own w17.heap.size w' Y ∧ Below w17.heap.size w17 w') rfl rfl Try.func15 (by kernel_rfl) (by kernel_rfl) ((sealSpecA_any zT0 zT1 s c k n t XT0 XT1 w17 (T0.out) (T1.out) HF0.out HF4.out).mono (by intro e w' hres; rw [← HZ.out] at hres; obtain ⟨z, Y, rfl, h1, h2, h3⟩ := hres; exact ⟨_, rfl, z, Y, rfl, h1, h2, h3⟩)) ?_
      rintro zt w18 ⟨zv, Yw, rfl, ry, oy, bz⟩
      obtain ⟨cw, rfl, szw, onw⟩ := ry.cells
      have s1 := BS.out.size
      have TXN : Hid (Xw ∉ Yw) := fun hx => by have := oy.ge _ hx; have := TX.out.1.lt; omega
      have HSN : Hid (Blk w18 (w.heap.size) cs0 34 ∧ Blk w18 (w.heap.size + 1) cs4 38) := ⟨HSN.out.1.below bz, HSN.out.2.below bz⟩
      have BZ : Hid (Below w.heap.size w w18) := Below.next BZ.out bz
      have BS : Hid (Below w2.heap.size w2 w18) := Below.next BS.out bz
      have TX : Hid (Blk w18 Xw #[.int .i64 0, .int .i64 0, .bool false, .int .i64 0, .slice none 0 0, .slice none 0 0, .int .i64 0] 25 ∧ w2.heap.size ≤ Xw) := ⟨TX.out.1.below bz, TX.out.2⟩
      have TT : Hid (RdA w18 (.agg cw) ra Yw ∧ Own w2.heap.size w18 Yw ∧ cw.size = 7 ∧ cw.all (·.oneCell') = true) := ⟨ry, oy.mono s1, szw, onw⟩
      refine ⟨_, by simp [Act.put]; rfl, hK _ _ ⟨HSN.out, ?_⟩⟩
      clear hK ry oy bz szw onw s1 T0 T1
      refine takeH (o := ?o115) 8 (.tuple #[.agg cw, .int .i64 rc]) ?h115 ?r115
      case h115 => simp only [aT, aS, aZ]; rfl
      refine ⟨_, by simp [Act.put]; rfl, by kernel_rfl, by kernel_rfl, by kernel_rfl, fun _ _ _ h => h, (.inl ⟨rfl, fun W _ => by kernel_rfl⟩), HSN.out, ?_⟩
      refine takeH (o := ?o116) 9 (.agg cw) ?h116 ?r116
      case h116 => simp only [aT, aS, aZ]; rfl
      refine ⟨_, by simp [Act.put]; rfl, by kernel_rfl, by kernel_rfl, by kernel_rfl, fun _ _ _ h => h, (.inl ⟨rfl, fun W _ => by kernel_rfl⟩), HSN.out, ?_⟩
      refine takeH (o := ?o117) 10 (.int .i64 rc) ?h117 ?r117
      case h117 => simp only [aT, aS, aZ]; rfl
      refine ⟨_, by simp [Act.put]; rfl, by kernel_rfl, by kernel_rfl, by kernel_rfl, fun _ _ _ h => h, (.inl ⟨rfl, fun W _ => by kernel_rfl⟩), HSN.out, ?_⟩
      refine onlyH (o := ?o118) 12 (by kernel_rfl) ?h118 ?r118
      case h118 => simp only [aT, aS, aZ]; rfl
      intro K hK
      have lp := LP.out
      have lx := TX.out.2
      refine op_store 25 Xw #[.int .i64 0, .int .i64 0, .bool false, .int .i64 0, .slice none 0 0, .slice none 0 0, .int .i64 0] cw 25 rfl rfl rfl rfl TX.out.1 (agSize TT.out.2.2.1) TT.out.2.2.1.symm TT.out.2.2.2 ⟨_, by simp [Act.put]; rfl, hK _ _ ⟨⟨HSN.out.1.setRowOther (by omega), HSN.out.2.setRowOther (by omega)⟩, ?_⟩⟩
      clear hK
      refine takeH (o := ?o119) 13 (.int .i64 rc) ?h119 ?r119
      case h119 => simp only [aT, aS, aZ]; rfl
      refine ⟨_, by simp [Act.put]; rfl, by kernel_rfl, by kernel_rfl, by kernel_rfl, fun _ _ _ h => h, (.inl ⟨rfl, fun W _ => by kernel_rfl⟩), ⟨HSN.out.1.setRowOther (by omega), HSN.out.2.setRowOther (by omega)⟩, ?_⟩
      refine wpAnyH_done (by kernel_rfl) ?_ _
      go_wp2_with fail
      go_meet
      case rel => exact ⟨Xw, cw, Yw, rfl, rfl, below_setRow BS.out lx _, varA_stored TX.out.1 TT.out.1 TT.out.2.2.1 TT.out.2.1 TT.out.1.lt lx TXN.out⟩
  case rest =>
    obtain ⟨gw, cw, Yw, rfl, rfl, hbw, hvar⟩ := hcut
    obtain ⟨w20, hWn⟩ : ∃ W, W = wc := ⟨_, rfl⟩
    rw [← hWn] at hbw hvar ⊢
    clear hWn
    have BX0 : Hid (Blk w20 (w.heap.size) cs0 34) := BX0.out.below hbw
    have BX4 : Hid (Blk w20 (w.heap.size + 1) cs4 38) := BX4.out.below hbw
    have BEL : Hid (Below w.heap.size w w20) := Below.next BEL.out hbw
    have Vw : Hid (VarA w20 w2.heap.size w20.heap.size gw cw ra Yw) := hvar
    have O1 : Hid (w2.heap.size ≤ w20.heap.size) := by show _ ≤ _; exact hbw.size
    clear hvar hbw LP
    go_wp2_with (first | go_skip | (with_reducible refine stopLoad 34 rfl ?_) | (with_reducible refine stopLoad 25 rfl ?_) | (with_reducible refine stopLoad 38 rfl ?_) | (with_reducible refine stopLoad 44 rfl ?_) | (with_reducible refine stopStore 25 rfl ?_) | (with_reducible refine stopStore 44 rfl ?_))
    refine load_any 34 (w.heap.size) cs0 34 _ BX0.out rfl rfl rfl Try.underlying34 rfl (lagSize HC0.out) ?_
    go_wp2_with fail
    refine (toA_any _ s F _ (HH0.out.1.below BEL.out) HF0.out).mono ?_
    rintro e w21 ⟨zx0, Xx0, rfl, rz, oz, bz⟩
    have BX0 : Hid (Blk w21 (w.heap.size) cs0 34) := BX0.out.below bz
    have BX4 : Hid (Blk w21 (w.heap.size + 1) cs4 38) := BX4.out.below bz
    have BEL : Hid (Below w.heap.size w w21) := Below.next BEL.out bz
    have Vw : Hid (VarA w21 w2.heap.size w20.heap.size gw cw ra Yw) := Vw.out.below bz
    have Tx0 : Hid (RdA w21 zx0 s Xx0 ∧ Own w20.heap.size w21 Xx0 ∧ Below w20.heap.size w20 w21) := ⟨rz, oz, bz⟩
    have O2 : Hid (w20.heap.size ≤ w21.heap.size) := by show _ ≤ _; exact bz.size
    clear rz oz bz
    obtain ⟨cx0, rfl, szx0, onx0⟩ := Tx0.out.1.cells
    have SZ : Hid (cx0.size = 7 ∧ cx0.all (·.oneCell') = true) := ⟨szx0, onx0⟩
    clear szx0 onx0
    go_wp2_with (first | go_skip | (with_reducible refine stopLoad 34 rfl ?_) | (with_reducible refine stopLoad 25 rfl ?_) | (with_reducible refine stopLoad 38 rfl ?_) | (with_reducible refine stopLoad 44 rfl ?_) | (with_reducible refine stopStore 25 rfl ?_) | (with_reducible refine stopStore 44 rfl ?_))
    refine store_fresh 25 w21.heap.size rfl #[.int .i64 0, .int .i64 0, .bool false, .int .i64 0, .slice none 0 0, .slice none 0 0, .int .i64 0] cx0 25 rfl rfl rfl rfl (agSize SZ.out.1) SZ.out.1.symm SZ.out.2 ?_
    intro w22 hg hb
    have BX0 : Hid (Blk w22 (w.heap.size) cs0 34) := BX0.out.below hb
    have BX4 : Hid (Blk w22 (w.heap.size + 1) cs4 38) := BX4.out.below hb
    have BEL : Hid (Below w.heap.size w w22) := Below.next BEL.out hb
    have Vw : Hid (VarA w22 w2.heap.size w20.heap.size gw cw ra Yw) := Vw.out.below hb
    have Vx0 : Hid (VarA w22 w20.heap.size w22.heap.size w21.heap.size cx0 s Xx0) := VarA.fresh Tx0.out.1 Tx0.out.2.1 Tx0.out.2.2 SZ.out.1 hg hb
    have O3 : Hid (w20.heap.size ≤ w22.heap.size) := by show _ ≤ _; have := Tx0.out.2.2.size; have := hb.size; omega
    clear hg hb Tx0 SZ
    go_wp2_with (first | go_skip | (with_reducible refine stopLoad 34 rfl ?_) | (with_reducible refine stopLoad 25 rfl ?_) | (with_reducible refine stopLoad 38 rfl ?_) | (with_reducible refine stopLoad 44 rfl ?_) | (with_reducible refine stopStore 25 rfl ?_) | (with_reducible refine stopStore 44 rfl ?_))
    refine load_any 38 (w.heap.size + 1) cs4 38 _ BX4.out rfl rfl rfl Try.underlying38 rfl (lskSize HC4.out) ?_
    go_wp2_with fail
    refine (toSketch_any _ t G _ (HH4.out.1.below BEL.out) HF4.out).mono ?_
    rintro e w23 ⟨zx4, Xx4, rfl, rz, oz, bz⟩
    have BX0 : Hid (Blk w23 (w.heap.size) cs0 34) := BX0.out.below bz
    have BX4 : Hid (Blk w23 (w.heap.size + 1) cs4 38) := BX4.out.below bz
    have BEL : Hid (Below w.heap.size w w23) := Below.next BEL.out bz
    have Vw : Hid (VarA w23 w2.heap.size w20.heap.size gw cw ra Yw) := Vw.out.below bz
    have Vx0 : Hid (VarA w23 w20.heap.size w22.heap.size w21.heap.size cx0 s Xx0) := Vx0.out.below bz
    have Tx4 : Hid (RdSk w23 zx4 t Xx4 ∧ Own w22.heap.size w23 Xx4 ∧ Below w22.heap.size w22 w23) := ⟨rz, oz, bz⟩
    have O4 : Hid (w22.heap.size ≤ w23.heap.size) := by show _ ≤ _; exact bz.size
    clear rz oz bz
    obtain ⟨cx4, rfl, szx4, onx4⟩ := Tx4.out.1.cells
    have SZ : Hid (cx4.size = 7 ∧ cx4.all (·.oneCell') = true) := ⟨szx4, onx4⟩
    clear szx4 onx4
    go_wp2_with (first | go_skip | (with_reducible refine stopLoad 34 rfl ?_) | (with_reducible refine stopLoad 25 rfl ?_) | (with_reducible refine stopLoad 38 rfl ?_) | (with_reducible refine stopLoad 44 rfl ?_) | (with_reducible refine stopStore 25 rfl ?_) | (with_reducible refine stopStore 44 rfl ?_))
    refine store_fresh 44 w23.heap.size rfl #[.int .i64 0, .int .i64 0, .int .i64 0, .int .i64 0, .slice none 0 0, .slice none 0 0, .slice none 0 0] cx4 44 rfl rfl rfl rfl (skSize SZ.out.1) SZ.out.1.symm SZ.out.2 ?_
    intro w24 hg hb
    have BX0 : Hid (Blk w24 (w.heap.size) cs0 34) := BX0.out.below hb
    have BX4 : Hid (Blk w24 (w.heap.size + 1) cs4 38) := BX4.out.below hb
    have BEL : Hid (Below w.heap.size w w24) := Below.next BEL.out hb
    have Vw : Hid (VarA w24 w2.heap.size w20.heap.size gw cw ra Yw) := Vw.out.below hb
    have Vx0 : Hid (VarA w24 w20.heap.size w22.heap.size w21.heap.size cx0 s Xx0) := Vx0.out.below hb
    have Vx4 : Hid (Var w24 w22.heap.size w24.heap.size w23.heap.size cx4 t Xx4) := Var.fresh Tx4.out.1 Tx4.out.2.1 Tx4.out.2.2 SZ.out.1 hg hb
    have O5 : Hid (w22.heap.size ≤ w24.heap.size) := by show _ ≤ _; have := Tx4.out.2.2.size; have := hb.size; omega
    clear hg hb Tx4 SZ
    go_wp2_with (first | go_skip | (with_reducible refine stopLoad 34 rfl ?_) | (with_reducible refine stopLoad 25 rfl ?_) | (with_reducible refine stopLoad 38 rfl ?_) | (with_reducible refine stopLoad 44 rfl ?_) | (with_reducible refine stopStore 25 rfl ?_) | (with_reducible refine stopStore 44 rfl ?_))
    refine load_any 25 _ cx0 25 _ Vx0.out.blk rfl rfl rfl Try.underlying25 rfl (agSize Vx0.out.sz) ?_
    go_wp2_with (first | go_skip | (with_reducible refine stopLoad 34 rfl ?_) | (with_reducible refine stopLoad 25 rfl ?_) | (with_reducible refine stopLoad 38 rfl ?_) | (with_reducible refine stopLoad 44 rfl ?_) | (with_reducible refine stopStore 25 rfl ?_) | (with_reducible refine stopStore 44 rfl ?_))
    refine load_any 44 _ cx4 44 _ Vx4.out.blk rfl rfl rfl Try.underlying44 rfl (skSize Vx4.out.sz) ?_
    go_wp2_with fail
    refine (sealImplA_any _ _ s c k n t Xx0 Xx4 _ (Vx0.out.rd) (Vx4.out.rd) HF0.out HF4.out).mono ?_
    intro e w25 hres
    rw [← HZ.out] at hres
    obtain ⟨zv, Yg, rfl, ry, oy, bz⟩ := hres
    obtain ⟨cg, rfl, szg, ong⟩ := ry.cells
    have BX0 : Hid (Blk w25 (w.heap.size) cs0 34) := BX0.out.below bz
    have BX4 : Hid (Blk w25 (w.heap.size + 1) cs4 38) := BX4.out.below bz
    have BEL : Hid (Below w.heap.size w w25) := Below.next BEL.out bz
    have Vw : Hid (VarA w25 w2.heap.size w20.heap.size gw cw ra Yw) := Vw.out.below bz
    have Vx0 : Hid (VarA w25 w20.heap.size w22.heap.size w21.heap.size cx0 s Xx0) := Vx0.out.below bz
    have Vx4 : Hid (Var w25 w22.heap.size w24.heap.size w23.heap.size cx4 t Xx4) := Vx4.out.below bz
    have TT : Hid (RdA w25 (.agg cg) ra Yg ∧ Own w24.heap.size w25 Yg ∧ Below w24.heap.size w24 w25 ∧ cg.size = 7 ∧ cg.all (·.oneCell') = true) := ⟨ry, oy, bz, szg, ong⟩
    clear ry oy bz szg ong
    go_wp2_with (first | go_skip | (with_reducible refine stopLoad 34 rfl ?_) | (with_reducible refine stopLoad 25 rfl ?_) | (with_reducible refine stopLoad 38 rfl ?_) | (with_reducible refine stopLoad 44 rfl ?_) | (with_reducible refine stopStore 25 rfl ?_) | (with_reducible refine stopStore 44 rfl ?_))
    refine store_fresh 25 w25.heap.size rfl #[.int .i64 0, .int .i64 0, .bool false, .int .i64 0, .slice none 0 0, .slice none 0 0, .int .i64 0] cg 25 rfl rfl rfl rfl (agSize TT.out.2.2.2.1) TT.out.2.2.2.1.symm TT.out.2.2.2.2 ?_
    intro w26 hg hb
    have BX0 : Hid (Blk w26 (w.heap.size) cs0 34) := BX0.out.below hb
    have BX4 : Hid (Blk w26 (w.heap.size + 1) cs4 38) := BX4.out.below hb
    have BEL : Hid (Below w.heap.size w w26) := Below.next BEL.out hb
    have Vw : Hid (VarA w26 w2.heap.size w20.heap.size gw cw ra Yw) := Vw.out.below hb
    have Vx0 : Hid (VarA w26 w20.heap.size w22.heap.size w21.heap.size cx0 s Xx0) := Vx0.out.below hb
    have Vx4 : Hid (Var w26 w22.heap.size w24.heap.size w23.heap.size cx4 t Xx4) := Vx4.out.below hb
    have Vg : Hid (VarA w26 w24.heap.size w26.heap.size w25.heap.size cg ra Yg) := VarA.fresh TT.out.1 TT.out.2.1 TT.out.2.2.1 TT.out.2.2.2.1 hg hb
    have O6 : Hid (w24.heap.size ≤ w26.heap.size) := by show _ ≤ _; have := TT.out.2.2.1.size; have := hb.size; omega
    clear hg hb TT
    go_wp2_with (first | go_skip | (with_reducible refine stopLoad 34 rfl ?_) | (with_reducible refine stopLoad 25 rfl ?_) | (with_reducible refine stopLoad 38 rfl ?_) | (with_reducible refine stopLoad 44 rfl ?_) | (with_reducible refine stopStore 25 rfl ?_) | (with_reducible refine stopStore 44 rfl ?_))
    refine load_any 25 _ cg 25 _ Vg.out.blk rfl rfl rfl Try.underlying25 rfl (agSize Vg.out.sz) ?_
    go_wp2_with (first | go_skip | (with_reducible refine stopLoad 34 rfl ?_) | (with_reducible refine stopLoad 25 rfl ?_) | (with_reducible refine stopLoad 38 rfl ?_) | (with_reducible refine stopLoad 44 rfl ?_) | (with_reducible refine stopStore 25 rfl ?_) | (with_reducible refine stopStore 44 rfl ?_))
    refine load_any 25 _ cw 25 _ Vw.out.blk rfl rfl rfl Try.underlying25 rfl (agSize Vw.out.sz) ?_
    go_wp2_with fail
    refine (eqA_any _ _ ra ra Yg Yw _ Vg.out.rd Vw.out.rd HM.out.1 HM.out.1).mono ?_
    rintro e w27 ⟨rfl, hb⟩
    have BX0 : Hid (Blk w27 (w.heap.size) cs0 34) := BX0.out.below hb
    have BX4 : Hid (Blk w27 (w.heap.size + 1) cs4 38) := BX4.out.below hb
    have BEL : Hid (Below w.heap.size w w27) := Below.next BEL.out hb
    have Vw : Hid (VarA w27 w2.heap.size w20.heap.size gw cw ra Yw) := Vw.out.below hb
    have Vx0 : Hid (VarA w27 w20.heap.size w22.heap.size w21.heap.size cx0 s Xx0) := Vx0.out.below hb
    have Vx4 : Hid (Var w27 w22.heap.size w24.heap.size w23.heap.size cx4 t Xx4) := Vx4.out.below hb
    have Vg : Hid (VarA w27 w24.heap.size w26.heap.size w25.heap.size cg ra Yg) := Vg.out.below hb
    clear hb
    have hdec : decide (ra = ra) = true := by simp
    rw [hdec]
    clear hdec
    go_wp2_with fail
    have BD := (Below.refl w27.heap.size w27).drew
    obtain ⟨Y14, hY14⟩ : ∃ Y, Y = w27.drew := ⟨_, rfl⟩
    rw [← hY14] at BD
    have BX0 : Hid (Blk Y14 (w.heap.size) cs0 34) := BX0.out.below BD
    have BX4 : Hid (Blk Y14 (w.heap.size + 1) cs4 38) := BX4.out.below BD
    have BEL : Hid (Below w.heap.size w Y14) := Below.next BEL.out BD
    have Vw : Hid (VarA Y14 w2.heap.size w20.heap.size gw cw ra Yw) := Vw.out.below BD
    have Vx0 : Hid (VarA Y14 w20.heap.size w22.heap.size w21.heap.size cx0 s Xx0) := Vx0.out.below BD
    have Vx4 : Hid (Var Y14 w22.heap.size w24.heap.size w23.heap.size cx4 t Xx4) := Vx4.out.below BD
    have Vg : Hid (VarA Y14 w24.heap.size w26.heap.size w25.heap.size cg ra Yg) := Vg.out.below BD
    refine wp_region_held (S := fun W => Blk W (w.heap.size) cs0 34 ∧ Blk W (w21.heap.size) cx0 25) (by kernel_rfl) ?_
    change wpAnyH _ _ _ _ _ _ _ _ (World.drew _)
    rw [← hY14]
    clear hY14 BD
    refine takeH (o := ?o120) 0 (.agg cx0) ?h120 ?r120
    case h120 => simp only [aT, aZ]; rfl
    refine ⟨_, by simp [Act.put]; rfl, by kernel_rfl, by kernel_rfl, by kernel_rfl, fun _ _ _ h => h, (yields_whole 25 _ cx0 25 _ rfl rfl rfl Try.underlying25 rfl (agSize Vx0.out.sz) (fun W hW => hW.2)), ⟨BX0.out, Vx0.out.blk⟩, ?_⟩
    refine takeH (o := ?o121) 1 (.agg cs0) ?h121 ?r121
    case h121 => simp only [aT, aS, aZ]; rfl
    refine ⟨_, by simp [Act.put]; rfl, by kernel_rfl, by kernel_rfl, by kernel_rfl, fun _ _ _ h => h, (yields_whole 34 _ cs0 34 _ rfl rfl rfl Try.underlying34 rfl (lagSize HC0.out) (fun W hW => hW.1)), ⟨BX0.out, Vx0.out.blk⟩, ?_⟩
    refine onlyH (o := ?o122) 2 (by kernel_rfl) ?h122 ?r122
    case h122 => simp only [aT, aS, aZ]; rfl
    intro K hK
    refine op_call1 16 _ _ Try.f16 (fun v w' => ∃ X, RdA w' v s X ∧ Below Y14.heap.size Y14 w') rfl rfl Try.func16 (by kernel_rfl) (by kernel_rfl) ((toA_any _ s F Y14 (HH0.out.1.below BEL.out) HF0.out).mono (by rintro e w' ⟨v, X, rfl, h1, _, h3⟩; exact ⟨_, rfl, X, h1, h3⟩)) ?_
    rintro zq w28 ⟨Xq, rz, bz⟩
    have BX0 : Hid (Blk w28 (w.heap.size) cs0 34) := BX0.out.below bz
    have BX4 : Hid (Blk w28 (w.heap.size + 1) cs4 38) := BX4.out.below bz
    have BEL : Hid (Below w.heap.size w w28) := Below.next BEL.out bz
    have Vw : Hid (VarA w28 w2.heap.size w20.heap.size gw cw ra Yw) := Vw.out.below bz
    have Vx0 : Hid (VarA w28 w20.heap.size w22.heap.size w21.heap.size cx0 s Xx0) := Vx0.out.below bz
    have Vx4 : Hid (Var w28 w22.heap.size w24.heap.size w23.heap.size cx4 t Xx4) := Vx4.out.below bz
    have Vg : Hid (VarA w28 w24.heap.size w26.heap.size w25.heap.size cg ra Yg) := Vg.out.below bz
    have TQ : Hid (RdA w28 zq s Xq) := rz
    refine ⟨_, by simp [Act.put]; rfl, hK _ _ ⟨⟨BX0.out, Vx0.out.blk⟩, ?_⟩⟩
    clear hK rz bz
    refine onlyH (o := ?o123) 3 (by kernel_rfl) ?h123 ?r123
    case h123 => simp only [aT, aS, aZ]; rfl
    intro K hK
    refine op_call2 10 _ _ _ Try.f10 (fun w' => Below w28.heap.size w28 w') (.bool (decide (s = s))) rfl rfl Try.func10 (by kernel_rfl) (by kernel_rfl) (eqA_any (.agg cx0) zq s s Xx0 Xq w28 Vx0.out.rd TQ.out HF0.out.wide HF0.out.wide) ⟨_, by simp [Act.put]; rfl, ?_⟩
    intro w29 bz
    have BX0 : Hid (Blk w29 (w.heap.size) cs0 34) := BX0.out.below bz
    have BX4 : Hid (Blk w29 (w.heap.size + 1) cs4 38) := BX4.out.below bz
    have BEL : Hid (Below w.heap.size w w29) := Below.next BEL.out bz
    have Vw : Hid (VarA w29 w2.heap.size w20.heap.size gw cw ra Yw) := Vw.out.below bz
    have Vx0 : Hid (VarA w29 w20.heap.size w22.heap.size w21.heap.size cx0 s Xx0) := Vx0.out.below bz
    have Vx4 : Hid (Var w29 w22.heap.size w24.heap.size w23.heap.size cx4 t Xx4) := Vx4.out.below bz
    have Vg : Hid (VarA w29 w24.heap.size w26.heap.size w25.heap.size cg ra Yg) := Vg.out.below bz
    refine hK _ _ ⟨⟨BX0.out, Vx0.out.blk⟩, ?_⟩
    clear hK bz TQ
    refine takeH (o := ?o124) 4 (.bool false) ?h124 ?r124
    case h124 => simp only [aT, aS, aZ]; rfl
    refine ⟨_, by simp [Act.put]; rfl, by kernel_rfl, by kernel_rfl, by kernel_rfl, fun _ _ _ h => h, (.inl ⟨rfl, fun W _ => by go_simp⟩), ⟨BX0.out, Vx0.out.blk⟩, ?_⟩
    refine wpAnyH_done (by kernel_rfl) ?_ _
    go_wp2_with fail
    have BD := (Below.refl w29.heap.size w29).drew
    obtain ⟨Y16, hY16⟩ : ∃ Y, Y = w29.drew := ⟨_, rfl⟩
    rw [← hY16] at BD
    have BX0 : Hid (Blk Y16 (w.heap.size) cs0 34) := BX0.out.below BD
    have BX4 : Hid (Blk Y16 (w.heap.size + 1) cs4 38) := BX4.out.below BD
    have BEL : Hid (Below w.heap.size w Y16) := Below.next BEL.out BD
    have Vw : Hid (VarA Y16 w2.heap.size w20.heap.size gw cw ra Yw) := Vw.out.below BD
    have Vx0 : Hid (VarA Y16 w20.heap.size w22.heap.size w21.heap.size cx0 s Xx0) := Vx0.out.below BD
    have Vx4 : Hid (Var Y16 w22.heap.size w24.heap.size w23.heap.size cx4 t Xx4) := Vx4.out.below BD
    have Vg : Hid (VarA Y16 w24.heap.size w26.heap.size w25.heap.size cg ra Yg) := Vg.out.below BD
    refine wp_region_held (S := fun W => Blk W (w.heap.size + 1) cs4 38 ∧ Blk W (w23.heap.size) cx4 44) (by kernel_rfl) ?_
    change wpAnyH _ _ _ _ _ _ _ _ (World.drew _)
    rw [← hY16]
    clear hY16 BD
    refine takeH (o := ?o125) 0 (.agg cx4) ?h125 ?r125
    case h125 => simp only [aT, aZ]; rfl
    refine ⟨_, by simp [Act.put]; rfl, by kernel_rfl, by kernel_rfl, by kernel_rfl, fun _ _ _ h => h, (yields_whole 44 _ cx4 44 _ rfl rfl rfl Try.underlying44 rfl (skSize Vx4.out.sz) (fun W hW => hW.2)), ⟨BX4.out, Vx4.out.blk⟩, ?_⟩
    refine takeH (o := ?o126) 1 (.agg cs4) ?h126 ?r126
    case h126 => simp only [aT, aS, aZ]; rfl
    refine ⟨_, by simp [Act.put]; rfl, by kernel_rfl, by kernel_rfl, by kernel_rfl, fun _ _ _ h => h, (yields_whole 38 _ cs4 38 _ rfl rfl rfl Try.underlying38 rfl (lskSize HC4.out) (fun W hW => hW.1)), ⟨BX4.out, Vx4.out.blk⟩, ?_⟩
    refine onlyH (o := ?o127) 2 (by kernel_rfl) ?h127 ?r127
    case h127 => simp only [aT, aS, aZ]; rfl
    intro K hK
    refine op_call1 17 _ _ Try.f17 (fun v w' => ∃ X, RdSk w' v t X ∧ Below Y16.heap.size Y16 w') rfl rfl Try.func17 (by kernel_rfl) (by kernel_rfl) ((toSketch_any _ t G Y16 (HH4.out.1.below BEL.out) HF4.out).mono (by rintro e w' ⟨v, X, rfl, h1, _, h3⟩; exact ⟨_, rfl, X, h1, h3⟩)) ?_
    rintro zq w30 ⟨Xq, rz, bz⟩
    have BX0 : Hid (Blk w30 (w.heap.size) cs0 34) := BX0.out.below bz
    have BX4 : Hid (Blk w30 (w.heap.size + 1) cs4 38) := BX4.out.below bz
    have BEL : Hid (Below w.heap.size w w30) := Below.next BEL.out bz
    have Vw : Hid (VarA w30 w2.heap.size w20.heap.size gw cw ra Yw) := Vw.out.below bz
    have Vx0 : Hid (VarA w30 w20.heap.size w22.heap.size w21.heap.size cx0 s Xx0) := Vx0.out.below bz
    have Vx4 : Hid (Var w30 w22.heap.size w24.heap.size w23.heap.size cx4 t Xx4) := Vx4.out.below bz
    have Vg : Hid (VarA w30 w24.heap.size w26.heap.size w25.heap.size cg ra Yg) := Vg.out.below bz
    have TQ : Hid (RdSk w30 zq t Xq) := rz
    refine ⟨_, by simp [Act.put]; rfl, hK _ _ ⟨⟨BX4.out, Vx4.out.blk⟩, ?_⟩⟩
    clear hK rz bz
    refine onlyH (o := ?o128) 3 (by kernel_rfl) ?h128 ?r128
    case h128 => simp only [aT, aS, aZ]; rfl
    intro K hK
    refine op_call2 19 _ _ _ Try.f19 (fun w' => Below w30.heap.size w30 w') (.bool (decide (t = t))) rfl rfl Try.func19 (by kernel_rfl) (by kernel_rfl) (eqSketch_any (.agg cx4) zq t t Xx4 Xq w30 Vx4.out.rd TQ.out HF4.out.wide HF4.out.wide) ⟨_, by simp [Act.put]; rfl, ?_⟩
    intro w31 bz
    have BX0 : Hid (Blk w31 (w.heap.size) cs0 34) := BX0.out.below bz
    have BX4 : Hid (Blk w31 (w.heap.size + 1) cs4 38) := BX4.out.below bz
    have BEL : Hid (Below w.heap.size w w31) := Below.next BEL.out bz
    have Vw : Hid (VarA w31 w2.heap.size w20.heap.size gw cw ra Yw) := Vw.out.below bz
    have Vx0 : Hid (VarA w31 w20.heap.size w22.heap.size w21.heap.size cx0 s Xx0) := Vx0.out.below bz
    have Vx4 : Hid (Var w31 w22.heap.size w24.heap.size w23.heap.size cx4 t Xx4) := Vx4.out.below bz
    have Vg : Hid (VarA w31 w24.heap.size w26.heap.size w25.heap.size cg ra Yg) := Vg.out.below bz
    refine hK _ _ ⟨⟨BX4.out, Vx4.out.blk⟩, ?_⟩
    clear hK bz TQ
    refine takeH (o := ?o129) 4 (.bool false) ?h129 ?r129
    case h129 => simp only [aT, aS, aZ]; rfl
    refine ⟨_, by simp [Act.put]; rfl, by kernel_rfl, by kernel_rfl, by kernel_rfl, fun _ _ _ h => h, (.inl ⟨rfl, fun W _ => by go_simp⟩), ⟨BX4.out, Vx4.out.blk⟩, ?_⟩
    refine wpAnyH_done (by kernel_rfl) ?_ _
    go_wp2_with (first | go_skip | (with_reducible refine stopLoad 34 rfl ?_) | (with_reducible refine stopLoad 25 rfl ?_) | (with_reducible refine stopLoad 38 rfl ?_) | (with_reducible refine stopLoad 44 rfl ?_) | (with_reducible refine stopStore 25 rfl ?_) | (with_reducible refine stopStore 44 rfl ?_))
    refine load_any 25 _ cx0 25 _ Vx0.out.blk rfl rfl rfl Try.underlying25 rfl (agSize Vx0.out.sz) ?_
    go_wp2_with fail
    refine (markA_any _ _ s Xx0 1 _ Vx0.out.rd Vx0.out.own HF0.out.wide (by omega) (by have := HMI0.out; omega)).mono ?_
    rintro e w32 ⟨rfl, mk⟩
    have NBX0 : Hid (Blk w32 (w.heap.size) cs0 34) := BX0.out.agree (mk.only.block _ BX0.out.lt (fun hb => by have := Vx0.out.own.ge _ hb; have := LB0.out; have := O1.out; have := O2.out; have := O3.out; have := O4.out; have := O5.out; have := O6.out; omega))
    have NBX4 : Hid (Blk w32 (w.heap.size + 1) cs4 38) := BX4.out.agree (mk.only.block _ BX4.out.lt (fun hb => by have := Vx0.out.own.ge _ hb; have := LB0.out; have := O1.out; have := O2.out; have := O3.out; have := O4.out; have := O5.out; have := O6.out; omega))
    have NBEL : Hid (Below w.heap.size w w32) := mk.only.below BEL.out BEL.out.size (fun b hb => by have := Vx0.out.own.ge b hb; have := LB0.out; have := O1.out; have := O2.out; have := O3.out; have := O4.out; have := O5.out; have := O6.out; omega)
    have NVw : Hid (VarA w32 w2.heap.size w20.heap.size gw cw ra Yw) := Vw.out.only' mk.only Vx0.out.lt Vx0.out.own.ge (.inl (by have := LB0.out; have := O1.out; have := O2.out; have := O3.out; have := O4.out; have := O5.out; have := O6.out; omega))
    have NVx4 : Hid (Var w32 w22.heap.size w24.heap.size w23.heap.size cx4 t Xx4) := Vx4.out.only' mk.only Vx0.out.lt Vx0.out.own.ge (.inr (by have := LB0.out; have := O1.out; have := O2.out; have := O3.out; have := O4.out; have := O5.out; have := O6.out; omega))
    have NVg : Hid (VarA w32 w24.heap.size w26.heap.size w25.heap.size cg ra Yg) := Vg.out.only' mk.only Vx0.out.lt Vx0.out.own.ge (.inr (by have := LB0.out; have := O1.out; have := O2.out; have := O3.out; have := O4.out; have := O5.out; have := O6.out; omega))
    have BX0 : Hid (Blk w32 (w.heap.size) cs0 34) := NBX0.out
    have BX4 : Hid (Blk w32 (w.heap.size + 1) cs4 38) := NBX4.out
    have BEL : Hid (Below w.heap.size w w32) := NBEL.out
    have Vw : Hid (VarA w32 w2.heap.size w20.heap.size gw cw ra Yw) := NVw.out
    have Vx4 : Hid (Var w32 w22.heap.size w24.heap.size w23.heap.size cx4 t Xx4) := NVx4.out
    have Vg : Hid (VarA w32 w24.heap.size w26.heap.size w25.heap.size cg ra Yg) := NVg.out
    clear NBX0 NBX4 NBEL NVw NVx4 NVg
    obtain ⟨ki0, hki⟩ : ∃ k, k = 1 + s.many := ⟨_, rfl⟩
    rw [← hki]
    have HKI0 : Hid (0 ≤ ki0 ∧ ki0 ≤ 20000000) := by have := HMI0.out; exact ⟨by omega, by omega⟩
    clear hki mk Vx0
    go_wp2_with (first | go_skip | (with_reducible refine stopLoad 34 rfl ?_) | (with_reducible refine stopLoad 25 rfl ?_) | (with_reducible refine stopLoad 38 rfl ?_) | (with_reducible refine stopLoad 44 rfl ?_) | (with_reducible refine stopStore 25 rfl ?_) | (with_reducible refine stopStore 44 rfl ?_))
    refine load_any 44 _ cx4 44 _ Vx4.out.blk rfl rfl rfl Try.underlying44 rfl (skSize Vx4.out.sz) ?_
    go_wp2_with fail
    refine (markSketch_any _ _ t Xx4 ki0 _ Vx4.out.rd Vx4.out.own HF4.out.wide (by have := HKI0.out; omega) (by have := HMI4.out; have := HKI0.out; omega)).mono ?_
    rintro e w33 ⟨rfl, mk⟩
    have NBX0 : Hid (Blk w33 (w.heap.size) cs0 34) := BX0.out.agree (mk.only.block _ BX0.out.lt (fun hb => by have := Vx4.out.own.ge _ hb; have := LB0.out; have := O1.out; have := O2.out; have := O3.out; have := O4.out; have := O5.out; have := O6.out; omega))
    have NBX4 : Hid (Blk w33 (w.heap.size + 1) cs4 38) := BX4.out.agree (mk.only.block _ BX4.out.lt (fun hb => by have := Vx4.out.own.ge _ hb; have := LB0.out; have := O1.out; have := O2.out; have := O3.out; have := O4.out; have := O5.out; have := O6.out; omega))
    have NBEL : Hid (Below w.heap.size w w33) := mk.only.below BEL.out BEL.out.size (fun b hb => by have := Vx4.out.own.ge b hb; have := LB0.out; have := O1.out; have := O2.out; have := O3.out; have := O4.out; have := O5.out; have := O6.out; omega)
    have NVw : Hid (VarA w33 w2.heap.size w20.heap.size gw cw ra Yw) := Vw.out.only' mk.only Vx4.out.lt Vx4.out.own.ge (.inl (by have := LB0.out; have := O1.out; have := O2.out; have := O3.out; have := O4.out; have := O5.out; have := O6.out; omega))
    have NVg : Hid (VarA w33 w24.heap.size w26.heap.size w25.heap.size cg ra Yg) := Vg.out.only' mk.only Vx4.out.lt Vx4.out.own.ge (.inr (by have := LB0.out; have := O1.out; have := O2.out; have := O3.out; have := O4.out; have := O5.out; have := O6.out; omega))
    have BX0 : Hid (Blk w33 (w.heap.size) cs0 34) := NBX0.out
    have BX4 : Hid (Blk w33 (w.heap.size + 1) cs4 38) := NBX4.out
    have BEL : Hid (Below w.heap.size w w33) := NBEL.out
    have Vw : Hid (VarA w33 w2.heap.size w20.heap.size gw cw ra Yw) := NVw.out
    have Vg : Hid (VarA w33 w24.heap.size w26.heap.size w25.heap.size cg ra Yg) := NVg.out
    clear NBX0 NBX4 NBEL NVw NVg
    obtain ⟨ki1, hki⟩ : ∃ k, k = ki0 + t.many := ⟨_, rfl⟩
    rw [← hki]
    have HKI1 : Hid (0 ≤ ki1 ∧ ki1 ≤ 40000000) := by have := HKI0.out; have := HMI4.out; exact ⟨by omega, by omega⟩
    clear hki mk Vx4
    have hkid : decide (ki1 < 0) = false := dec_false (by have := HKI1.out; omega)
    go_wp2_with (first | go_skip | (with_reducible refine stopLoad 34 rfl ?_) | (with_reducible refine stopLoad 25 rfl ?_) | (with_reducible refine stopLoad 38 rfl ?_) | (with_reducible refine stopLoad 44 rfl ?_) | (with_reducible refine stopStore 25 rfl ?_) | (with_reducible refine stopStore 44 rfl ?_))
    refine load_any 25 _ cg 25 _ Vg.out.blk rfl rfl rfl Try.underlying25 rfl (agSize Vg.out.sz) ?_
    go_wp2_with (first | go_skip | (with_reducible refine stopLoad 34 rfl ?_) | (with_reducible refine stopLoad 25 rfl ?_) | (with_reducible refine stopLoad 38 rfl ?_) | (with_reducible refine stopLoad 44 rfl ?_) | (with_reducible refine stopStore 25 rfl ?_) | (with_reducible refine stopStore 44 rfl ?_))
    refine load_any 25 _ cw 25 _ Vw.out.blk rfl rfl rfl Try.underlying25 rfl (agSize Vw.out.sz) ?_
    go_wp2_with fail
    refine (eqA_any _ _ ra ra Yg Yw _ Vg.out.rd Vw.out.rd HM.out.1 HM.out.1).mono ?_
    rintro e w34 ⟨rfl, hb⟩
    have BX0 : Hid (Blk w34 (w.heap.size) cs0 34) := BX0.out.below hb
    have BX4 : Hid (Blk w34 (w.heap.size + 1) cs4 38) := BX4.out.below hb
    have BEL : Hid (Below w.heap.size w w34) := Below.next BEL.out hb
    have Vw : Hid (VarA w34 w2.heap.size w20.heap.size gw cw ra Yw) := Vw.out.below hb
    have Vg : Hid (VarA w34 w24.heap.size w26.heap.size w25.heap.size cg ra Yg) := Vg.out.below hb
    clear hb
    have hdec : decide (ra = ra) = true := by simp
    rw [hdec]
    clear hdec
    go_wp2_with (first | go_skip | (with_reducible refine stopLoad 34 rfl ?_) | (with_reducible refine stopLoad 25 rfl ?_) | (with_reducible refine stopLoad 38 rfl ?_) | (with_reducible refine stopLoad 44 rfl ?_) | (with_reducible refine stopStore 25 rfl ?_) | (with_reducible refine stopStore 44 rfl ?_))
    refine load_any 25 _ cg 25 _ Vg.out.blk rfl rfl rfl Try.underlying25 rfl (agSize Vg.out.sz) ?_
    go_wp2_with fail
    refine (markA_any w24.heap.size _ ra Yg 1 _ Vg.out.rd Vg.out.own HM.out.1 (by omega) (by have := HM.out; omega)).mono ?_
    rintro e w35 ⟨rfl, mk⟩
    have NG : Hid (VarA w35 w24.heap.size w26.heap.size w25.heap.size cg (ra.marked 1) Yg) := Vg.out.mark mk
    have NBX0 : Hid (Blk w35 (w.heap.size) cs0 34) := BX0.out.agree (mk.only.block _ BX0.out.lt (fun hb => by have := Vg.out.own.ge _ hb; have := LB0.out; have := O1.out; have := O2.out; have := O3.out; have := O4.out; have := O5.out; have := O6.out; omega))
    have NBX4 : Hid (Blk w35 (w.heap.size + 1) cs4 38) := BX4.out.agree (mk.only.block _ BX4.out.lt (fun hb => by have := Vg.out.own.ge _ hb; have := LB0.out; have := O1.out; have := O2.out; have := O3.out; have := O4.out; have := O5.out; have := O6.out; omega))
    have NBEL : Hid (Below w.heap.size w w35) := mk.only.below BEL.out BEL.out.size (fun b hb => by have := Vg.out.own.ge b hb; have := LB0.out; have := O1.out; have := O2.out; have := O3.out; have := O4.out; have := O5.out; have := O6.out; omega)
    have NVw : Hid (VarA w35 w2.heap.size w20.heap.size gw cw ra Yw) := Vw.out.only' mk.only Vg.out.lt Vg.out.own.ge (.inl (by have := LB0.out; have := O1.out; have := O2.out; have := O3.out; have := O4.out; have := O5.out; have := O6.out; omega))
    have BX0 : Hid (Blk w35 (w.heap.size) cs0 34) := NBX0.out
    have BX4 : Hid (Blk w35 (w.heap.size + 1) cs4 38) := NBX4.out
    have BEL : Hid (Below w.heap.size w w35) := NBEL.out
    have Vw : Hid (VarA w35 w2.heap.size w20.heap.size gw cw ra Yw) := NVw.out
    clear NBX0 NBX4 NBEL NVw
    have Vg : Hid (VarA w35 w24.heap.size w26.heap.size w25.heap.size cg (ra.marked 1) Yg) := NG.out
    obtain ⟨km, hkm⟩ : ∃ k, k = 1 + ra.many := ⟨_, rfl⟩
    rw [← hkm]
    have HKM : Hid (km = 1 + ra.many) := hkm
    have hkm0 : 0 ≤ km := by have := HM.out; omega
    have hkmn : decide (km < 0) = false := dec_false (by omega)
    have hkme : (km != km) = false := by simp
    clear hkm mk NG
    go_wp2_with (first | go_skip | (with_reducible refine stopLoad 34 rfl ?_) | (with_reducible refine stopLoad 25 rfl ?_) | (with_reducible refine stopLoad 38 rfl ?_) | (with_reducible refine stopLoad 44 rfl ?_) | (with_reducible refine stopStore 25 rfl ?_) | (with_reducible refine stopStore 44 rfl ?_))
    refine load_any 25 _ cg 25 _ Vg.out.blk rfl rfl rfl Try.underlying25 rfl (agSize Vg.out.sz) ?_
    go_wp2_with fail
    refine (heldA_any _ ra Yg 1 _ Vg.out.rd HM.out.1 (by omega) (by have := HM.out; omega)).mono ?_
    rintro e w36 ⟨rfl, hb⟩
    have BX0 : Hid (Blk w36 (w.heap.size) cs0 34) := BX0.out.below hb
    have BX4 : Hid (Blk w36 (w.heap.size + 1) cs4 38) := BX4.out.below hb
    have BEL : Hid (Below w.heap.size w w36) := Below.next BEL.out hb
    have Vw : Hid (VarA w36 w2.heap.size w20.heap.size gw cw ra Yw) := Vw.out.below hb
    have Vg : Hid (VarA w36 w24.heap.size w26.heap.size w25.heap.size cg (ra.marked 1) Yg) := Vg.out.below hb
    clear hb
    rw [← HKM.out]
    have LP : Hid (w.heap.size + 1 < w36.heap.size) := BX4.out.lt
    go_upto_region 31 with fail
    go_cut [21, 22] (fun a6 a7 wx => ∃ (g : Nat) (cs : Array Value) (X : List Nat), a6 = .pointer (some ⟨g, 0, none⟩) ∧ a7 = .int .i64 rc ∧ Below w36.heap.size w36 wx ∧ VarA wx w36.heap.size wx.heap.size g cs ra X)
    case first =>
      have bd := (Below.refl w36.heap.size w36).drew
      have HSN : Hid (Blk w36.drew (w.heap.size) cs0 34 ∧ Blk w36.drew (w.heap.size + 1) cs4 38) := ⟨BX0.out.below bd, BX4.out.below bd⟩
      have BZ : Hid (Below w.heap.size w w36.drew) := Below.next BEL.out bd
      have BS : Hid (Below w36.heap.size w36 w36.drew) := bd
      obtain ⟨Y0, hY0⟩ : ∃ Y, Y = w36.drew := ⟨_, rfl⟩
      rw [← hY0] at HSN BZ BS
      clear bd
      refine wp_region_held (S := fun W => Blk W (w.heap.size) cs0 34 ∧ Blk W (w.heap.size + 1) cs4 38) (by kernel_rfl) ?_
      change wpAnyH _ _ _ _ _ _ _ _ (World.drew _)
      rw [← hY0]
      clear hY0
      refine takeH (o := ?o130) 2 (.int .i64 c) ?h130 ?r130
      case h130 => simp only [aT, aS, aZ]; rfl
      refine ⟨_, by simp [Act.put]; rfl, by kernel_rfl, by kernel_rfl, by kernel_rfl, fun _ _ _ h => h, (.inl ⟨rfl, fun W _ => by kernel_rfl⟩), HSN.out, ?_⟩
      refine takeH (o := ?o131) 3 (.int .i64 k) ?h131 ?r131
      case h131 => simp only [aT, aS, aZ]; rfl
      refine ⟨_, by simp [Act.put]; rfl, by kernel_rfl, by kernel_rfl, by kernel_rfl, fun _ _ _ h => h, (.inl ⟨rfl, fun W _ => by kernel_rfl⟩), HSN.out, ?_⟩
      refine takeH (o := ?o132) 4 (.int .i64 n) ?h132 ?r132
      case h132 => simp only [aT, aS, aZ]; rfl
      refine ⟨_, by simp [Act.put]; rfl, by kernel_rfl, by kernel_rfl, by kernel_rfl, fun _ _ _ h => h, (.inl ⟨rfl, fun W _ => by kernel_rfl⟩), HSN.out, ?_⟩
      refine takeH (o := ?o133) 0 (.agg cs0) ?h133 ?r133
      case h133 => simp only [aT, aZ]; rfl
      refine ⟨_, by simp [Act.put]; rfl, by kernel_rfl, by kernel_rfl, by kernel_rfl, fun _ _ _ h => h, (yields_whole 34 _ cs0 34 _ rfl rfl rfl Try.underlying34 rfl (lagSize HC0.out) (fun W hW => hW.1)), HSN.out, ?_⟩
      refine takeH (o := ?o134) 5 (.agg cs4) ?h134 ?r134
      case h134 => simp only [aT, aS, aZ]; rfl
      refine ⟨_, by simp [Act.put]; rfl, by kernel_rfl, by kernel_rfl, by kernel_rfl, fun _ _ _ h => h, (yields_whole 38 _ cs4 38 _ rfl rfl rfl Try.underlying38 rfl (lskSize HC4.out) (fun W hW => hW.2)), HSN.out, ?_⟩
      refine twoH (o := ?o135) (o' := ?p135) 1 11 (by kernel_rfl) ?h135 ?g135 ?r135 ?s135
      case h135 => simp only [aT, aS, aZ]; rfl
      case g135 => simp only [aT, aS, aZ]; rfl
      case r135 =>
        intro K hK
        refine op_call1 16 _ _ Try.f16 (fun v w' => ∃ X, RdA w' v s X ∧ Below Y0.heap.size Y0 w') rfl rfl Try.func16 (by kernel_rfl) (by kernel_rfl) ((toA_any _ s F Y0 (HH0.out.1.below BZ.out) HF0.out).mono (by rintro e w' ⟨v, X, rfl, h1, _, h3⟩; exact ⟨_, rfl, X, h1, h3⟩)) ?_
        rintro zT0 w37 ⟨XT0, rz, bz⟩
        have HSN : Hid (Blk w37 (w.heap.size) cs0 34 ∧ Blk w37 (w.heap.size + 1) cs4 38) := ⟨HSN.out.1.below bz, HSN.out.2.below bz⟩
        have BZ : Hid (Below w.heap.size w w37) := Below.next BZ.out bz
        have BS : Hid (Below w36.heap.size w36 w37) := Below.next BS.out bz
        have T0 : Hid (RdA w37 zT0 s XT0) := rz
        refine ⟨_, by simp [Act.put]; rfl, hK _ _ ⟨HSN.out, ?_⟩⟩
        clear hK rz bz
        refine twoH (o := ?o136) (o' := ?p136) 6 11 (by kernel_rfl) ?h136 ?g136 ?r136 ?s136
        case h136 => simp only [aT, aS, aZ]; rfl
        case g136 => simp only [aT, aS, aZ]; rfl
        case r136 =>
          intro K hK
          refine op_call1 17 _ _ Try.f17 (fun v w' => ∃ X, RdSk w' v t X ∧ Below w37.heap.size w37 w') rfl rfl Try.func17 (by kernel_rfl) (by kernel_rfl) ((toSketch_any _ t G w37 (HH4.out.1.below BZ.out) HF4.out).mono (by rintro e w' ⟨v, X, rfl, h1, _, h3⟩; exact ⟨_, rfl, X, h1, h3⟩)) ?_
          rintro zT1 w38 ⟨XT1, rz, bz⟩
          have HSN : Hid (Blk w38 (w.heap.size) cs0 34 ∧ Blk w38 (w.heap.size + 1) cs4 38) := ⟨HSN.out.1.below bz, HSN.out.2.below bz⟩
          have BZ : Hid (Below w.heap.size w w38) := Below.next BZ.out bz
          have BS : Hid (Below w36.heap.size w36 w38) := Below.next BS.out bz
          have T0 : Hid (RdA w38 zT0 s XT0) := T0.out.below bz
          have T1 : Hid (RdSk w38 zT1 t XT1) := rz
          refine ⟨_, by simp [Act.put]; rfl, hK _ _ ⟨HSN.out, ?_⟩⟩
          clear hK rz bz
          refine twoH (o := ?o137) (o' := ?p137) 7 11 (by kernel_rfl) ?h137 ?g137 ?r137 ?s137
          case h137 => simp only [aT, aS, aZ]; rfl
          case g137 => simp only [aT, aS, aZ]; rfl
          case r137 =>
            intro K hK
            refine op_call5v 18 _ _ _ _ _ _ Try.f18 (fun v w' => ∃ z Y, v = .tuple #[z, .int .i64 rc] ∧ RdA w' z ra Y ∧ Own w38.heap.size w' Y ∧ Below w38.heap.size w38 w') rfl rfl Try.func18 (by kernel_rfl) (by kernel_rfl) ((sealImplA_any zT0 zT1 s c k n t XT0 XT1 w38 (T0.out) (T1.out) HF0.out HF4.out).mono (by intro e w' hres; rw [← HZ.out] at hres; obtain ⟨z, Y, rfl, h1, h2, h3⟩ := hres; exact ⟨_, rfl, z, Y, rfl, h1, h2, h3⟩)) ?_
            rintro zt w39 ⟨zv, Yw, rfl, ry, oy, bz⟩
            obtain ⟨cw, rfl, szw, onw⟩ := ry.cells
            have s1 := BS.out.size
            have HSN : Hid (Blk w39 (w.heap.size) cs0 34 ∧ Blk w39 (w.heap.size + 1) cs4 38) := ⟨HSN.out.1.below bz, HSN.out.2.below bz⟩
            have BZ : Hid (Below w.heap.size w w39) := Below.next BZ.out bz
            have BS : Hid (Below w36.heap.size w36 w39) := Below.next BS.out bz
            have TT : Hid (RdA w39 (.agg cw) ra Yw ∧ Own w36.heap.size w39 Yw ∧ cw.size = 7 ∧ cw.all (·.oneCell') = true) := ⟨ry, oy.mono s1, szw, onw⟩
            refine ⟨_, by simp [Act.put]; rfl, hK _ _ ⟨HSN.out, ?_⟩⟩
            clear hK ry oy bz szw onw s1 T0 T1
            refine takeH (o := ?o138) 8 (.tuple #[.agg cw, .int .i64 rc]) ?h138 ?r138
            case h138 => simp only [aT, aS, aZ]; rfl
            refine ⟨_, by simp [Act.put]; rfl, by kernel_rfl, by kernel_rfl, by kernel_rfl, fun _ _ _ h => h, (.inl ⟨rfl, fun W _ => by kernel_rfl⟩), HSN.out, ?_⟩
            refine takeH (o := ?o139) 9 (.agg cw) ?h139 ?r139
            case h139 => simp only [aT, aS, aZ]; rfl
            refine ⟨_, by simp [Act.put]; rfl, by kernel_rfl, by kernel_rfl, by kernel_rfl, fun _ _ _ h => h, (.inl ⟨rfl, fun W _ => by kernel_rfl⟩), HSN.out, ?_⟩
            refine takeH (o := ?o140) 10 (.int .i64 rc) ?h140 ?r140
            case h140 => simp only [aT, aS, aZ]; rfl
            refine ⟨_, by simp [Act.put]; rfl, by kernel_rfl, by kernel_rfl, by kernel_rfl, fun _ _ _ h => h, (.inl ⟨rfl, fun W _ => by kernel_rfl⟩), HSN.out, ?_⟩
            refine onlyH (o := ?o141) 11 (by kernel_rfl) ?h141 ?r141
            case h141 => simp only [aT, aS, aZ]; rfl
            intro K hK
            refine op_turn (.pointer (some ⟨w39.heap.size, 0, none⟩)) (w39.alloc (.cells #[.int .i64 0, .int .i64 0, .bool false, .int .i64 0, .slice none 0 0, .slice none 0 0, .int .i64 0] 25)) rfl (by kernel_rfl) ⟨_, by simp [Act.put]; rfl, hK _ _ ⟨⟨HSN.out.1.alloc _, HSN.out.2.alloc _⟩, ?_⟩⟩
            clear hK
            obtain ⟨w40, hW⟩ : ∃ Z, Z = (w39.alloc (.cells #[.int .i64 0, .int .i64 0, .bool false, .int .i64 0, .slice none 0 0, .slice none 0 0, .int .i64 0] 25)) := ⟨_, rfl⟩
            have bz : Below w39.heap.size w39 w40 := by rw [hW]; exact (Below.refl _ _).alloc (Nat.le_refl _) _
            have TX0 : Blk w40 w39.heap.size #[.int .i64 0, .int .i64 0, .bool false, .int .i64 0, .slice none 0 0, .slice none 0 0, .int .i64 0] 25 := by rw [hW]; exact Blk.made _ _ _
            rw [← hW]
            clear hW
            obtain ⟨Xw, hX⟩ : ∃ z, z = w39.heap.size := ⟨_, rfl⟩
            have TX : Hid (Blk w40 Xw #[.int .i64 0, .int .i64 0, .bool false, .int .i64 0, .slice none 0 0, .slice none 0 0, .int .i64 0] 25 ∧ w36.heap.size ≤ Xw) := ⟨by rw [hX]; exact TX0, by have := BS.out.size; omega⟩
            have TXN : Hid (Xw ∉ Yw) := fun hx => by have := TT.out.1.lt _ hx; omega
            have HSN : Hid (Blk w40 (w.heap.size) cs0 34 ∧ Blk w40 (w.heap.size + 1) cs4 38) := ⟨HSN.out.1.below bz, HSN.out.2.below bz⟩
            have BZ : Hid (Below w.heap.size w w40) := Below.next BZ.out bz
            have BS : Hid (Below w36.heap.size w36 w40) := Below.next BS.out bz
            have TT : Hid (RdA w40 (.agg cw) ra Yw ∧ Own w36.heap.size w40 Yw ∧ cw.size = 7 ∧ cw.all (·.oneCell') = true) := ⟨TT.out.1.below bz, TT.out.2.1.below TT.out.1.lt bz, TT.out.2.2⟩
            rw [← hX]
            clear hX TX0 bz
            refine onlyH (o := ?o142) 12 (by kernel_rfl) ?h142 ?r142
            case h142 => simp only [aT, aS, aZ]; rfl
            intro K hK
            have lp := LP.out
            have lx := TX.out.2
            refine op_store 25 Xw #[.int .i64 0, .int .i64 0, .bool false, .int .i64 0, .slice none 0 0, .slice none 0 0, .int .i64 0] cw 25 rfl rfl rfl rfl TX.out.1 (agSize TT.out.2.2.1) TT.out.2.2.1.symm TT.out.2.2.2 ⟨_, by simp [Act.put]; rfl, hK _ _ ⟨⟨HSN.out.1.setRowOther (by omega), HSN.out.2.setRowOther (by omega)⟩, ?_⟩⟩
            clear hK
            refine takeH (o := ?o143) 13 (.int .i64 rc) ?h143 ?r143
            case h143 => simp only [aT, aS, aZ]; rfl
            refine ⟨_, by simp [Act.put]; rfl, by kernel_rfl, by kernel_rfl, by kernel_rfl, fun _ _ _ h => h, (.inl ⟨rfl, fun W _ => by kernel_rfl⟩), ⟨HSN.out.1.setRowOther (by omega), HSN.out.2.setRowOther (by omega)⟩, ?_⟩
            refine wpAnyH_done (by kernel_rfl) ?_ _
            go_wp2_with fail
            go_meet
            case rel => exact ⟨Xw, cw, Yw, rfl, rfl, below_setRow BS.out lx _, varA_stored TX.out.1 TT.out.1 TT.out.2.2.1 TT.out.2.1 TT.out.1.lt lx TXN.out⟩
          case s137 =>
            intro K hK
            refine op_turn (.pointer (some ⟨w38.heap.size, 0, none⟩)) (w38.alloc (.cells #[.int .i64 0, .int .i64 0, .bool false, .int .i64 0, .slice none 0 0, .slice none 0 0, .int .i64 0] 25)) rfl (by kernel_rfl) ⟨_, by simp [Act.put]; rfl, hK _ _ ⟨⟨HSN.out.1.alloc _, HSN.out.2.alloc _⟩, ?_⟩⟩
            clear hK
            obtain ⟨w42, hW⟩ : ∃ Z, Z = (w38.alloc (.cells #[.int .i64 0, .int .i64 0, .bool false, .int .i64 0, .slice none 0 0, .slice none 0 0, .int .i64 0] 25)) := ⟨_, rfl⟩
            have bz : Below w38.heap.size w38 w42 := by rw [hW]; exact (Below.refl _ _).alloc (Nat.le_refl _) _
            have TX0 : Blk w42 w38.heap.size #[.int .i64 0, .int .i64 0, .bool false, .int .i64 0, .slice none 0 0, .slice none 0 0, .int .i64 0] 25 := by rw [hW]; exact Blk.made _ _ _
            rw [← hW]
            clear hW
            obtain ⟨Xw, hX⟩ : ∃ z, z = w38.heap.size := ⟨_, rfl⟩
            have TX : Hid (Blk w42 Xw #[.int .i64 0, .int .i64 0, .bool false, .int .i64 0, .slice none 0 0, .slice none 0 0, .int .i64 0] 25 ∧ w36.heap.size ≤ Xw) := ⟨by rw [hX]; exact TX0, by have := BS.out.size; omega⟩
            have HSN : Hid (Blk w42 (w.heap.size) cs0 34 ∧ Blk w42 (w.heap.size + 1) cs4 38) := ⟨HSN.out.1.below bz, HSN.out.2.below bz⟩
            have BZ : Hid (Below w.heap.size w w42) := Below.next BZ.out bz
            have BS : Hid (Below w36.heap.size w36 w42) := Below.next BS.out bz
            have T0 : Hid (RdA w42 zT0 s XT0) := T0.out.below bz
            have T1 : Hid (RdSk w42 zT1 t XT1) := T1.out.below bz
            rw [← hX]
            clear hX TX0 bz
            refine onlyH (o := ?o144) 7 (by kernel_rfl) ?h144 ?r144
            case h144 => simp only [aT, aS, aZ]; rfl
            intro K hK
            refine op_call5v 18 _ _ _ _ _ _ Try.f18 (fun v w' => ∃ z Y, v = .tuple #[z, .int .i64 rc] ∧ RdA w' z ra Y ∧ Own w42.heap.size w' Y ∧ Below w42.heap.size w42 w') rfl rfl Try.func18 (by kernel_rfl) (by kernel_rfl) ((sealImplA_any zT0 zT1 s c k n t XT0 XT1 w42 (T0.out) (T1.out) HF0.out HF4.out).mono (by intro e w' hres; rw [← HZ.out] at hres; obtain ⟨z, Y, rfl, h1, h2, h3⟩ := hres; exact ⟨_, rfl, z, Y, rfl, h1, h2, h3⟩)) ?_
            rintro zt w43 ⟨zv, Yw, rfl, ry, oy, bz⟩
            obtain ⟨cw, rfl, szw, onw⟩ := ry.cells
            have s1 := BS.out.size
            have TXN : Hid (Xw ∉ Yw) := fun hx => by have := oy.ge _ hx; have := TX.out.1.lt; omega
            have HSN : Hid (Blk w43 (w.heap.size) cs0 34 ∧ Blk w43 (w.heap.size + 1) cs4 38) := ⟨HSN.out.1.below bz, HSN.out.2.below bz⟩
            have BZ : Hid (Below w.heap.size w w43) := Below.next BZ.out bz
            have BS : Hid (Below w36.heap.size w36 w43) := Below.next BS.out bz
            have TX : Hid (Blk w43 Xw #[.int .i64 0, .int .i64 0, .bool false, .int .i64 0, .slice none 0 0, .slice none 0 0, .int .i64 0] 25 ∧ w36.heap.size ≤ Xw) := ⟨TX.out.1.below bz, TX.out.2⟩
            have TT : Hid (RdA w43 (.agg cw) ra Yw ∧ Own w36.heap.size w43 Yw ∧ cw.size = 7 ∧ cw.all (·.oneCell') = true) := ⟨ry, oy.mono s1, szw, onw⟩
            refine ⟨_, by simp [Act.put]; rfl, hK _ _ ⟨HSN.out, ?_⟩⟩
            clear hK ry oy bz szw onw s1 T0 T1
            refine takeH (o := ?o145) 8 (.tuple #[.agg cw, .int .i64 rc]) ?h145 ?r145
            case h145 => simp only [aT, aS, aZ]; rfl
            refine ⟨_, by simp [Act.put]; rfl, by kernel_rfl, by kernel_rfl, by kernel_rfl, fun _ _ _ h => h, (.inl ⟨rfl, fun W _ => by kernel_rfl⟩), HSN.out, ?_⟩
            refine takeH (o := ?o146) 9 (.agg cw) ?h146 ?r146
            case h146 => simp only [aT, aS, aZ]; rfl
            refine ⟨_, by simp [Act.put]; rfl, by kernel_rfl, by kernel_rfl, by kernel_rfl, fun _ _ _ h => h, (.inl ⟨rfl, fun W _ => by kernel_rfl⟩), HSN.out, ?_⟩
            refine takeH (o := ?o147) 10 (.int .i64 rc) ?h147 ?r147
            case h147 => simp only [aT, aS, aZ]; rfl
            refine ⟨_, by simp [Act.put]; rfl, by kernel_rfl, by kernel_rfl, by kernel_rfl, fun _ _ _ h => h, (.inl ⟨rfl, fun W _ => by kernel_rfl⟩), HSN.out, ?_⟩
            refine onlyH (o := ?o148) 12 (by kernel_rfl) ?h148 ?r148
            case h148 => simp only [aT, aS, aZ]; rfl
            intro K hK
            have lp := LP.out
            have lx := TX.out.2
            refine op_store 25 Xw #[.int .i64 0, .int .i64 0, .bool false, .int .i64 0, .slice none 0 0, .slice none 0 0, .int .i64 0] cw 25 rfl rfl rfl rfl TX.out.1 (agSize TT.out.2.2.1) TT.out.2.2.1.symm TT.out.2.2.2 ⟨_, by simp [Act.put]; rfl, hK _ _ ⟨⟨HSN.out.1.setRowOther (by omega), HSN.out.2.setRowOther (by omega)⟩, ?_⟩⟩
            clear hK
            refine takeH (o := ?o149) 13 (.int .i64 rc) ?h149 ?r149
            case h149 => simp only [aT, aS, aZ]; rfl
            refine ⟨_, by simp [Act.put]; rfl, by kernel_rfl, by kernel_rfl, by kernel_rfl, fun _ _ _ h => h, (.inl ⟨rfl, fun W _ => by kernel_rfl⟩), ⟨HSN.out.1.setRowOther (by omega), HSN.out.2.setRowOther (by omega)⟩, ?_⟩
            refine wpAnyH_done (by kernel_rfl) ?_ _
            go_wp2_with fail
            go_meet
            case rel => exact ⟨Xw, cw, Yw, rfl, rfl, below_setRow BS.out lx _, varA_stored TX.out.1 TT.out.1 TT.out.2.2.1 TT.out.2.1 TT.out.1.lt lx TXN.out⟩
        case s136 =>
          intro K hK
          refine op_turn (.pointer (some ⟨w37.heap.size, 0, none⟩)) (w37.alloc (.cells #[.int .i64 0, .int .i64 0, .bool false, .int .i64 0, .slice none 0 0, .slice none 0 0, .int .i64 0] 25)) rfl (by kernel_rfl) ⟨_, by simp [Act.put]; rfl, hK _ _ ⟨⟨HSN.out.1.alloc _, HSN.out.2.alloc _⟩, ?_⟩⟩
          clear hK
          obtain ⟨w45, hW⟩ : ∃ Z, Z = (w37.alloc (.cells #[.int .i64 0, .int .i64 0, .bool false, .int .i64 0, .slice none 0 0, .slice none 0 0, .int .i64 0] 25)) := ⟨_, rfl⟩
          have bz : Below w37.heap.size w37 w45 := by rw [hW]; exact (Below.refl _ _).alloc (Nat.le_refl _) _
          have TX0 : Blk w45 w37.heap.size #[.int .i64 0, .int .i64 0, .bool false, .int .i64 0, .slice none 0 0, .slice none 0 0, .int .i64 0] 25 := by rw [hW]; exact Blk.made _ _ _
          rw [← hW]
          clear hW
          obtain ⟨Xw, hX⟩ : ∃ z, z = w37.heap.size := ⟨_, rfl⟩
          have TX : Hid (Blk w45 Xw #[.int .i64 0, .int .i64 0, .bool false, .int .i64 0, .slice none 0 0, .slice none 0 0, .int .i64 0] 25 ∧ w36.heap.size ≤ Xw) := ⟨by rw [hX]; exact TX0, by have := BS.out.size; omega⟩
          have HSN : Hid (Blk w45 (w.heap.size) cs0 34 ∧ Blk w45 (w.heap.size + 1) cs4 38) := ⟨HSN.out.1.below bz, HSN.out.2.below bz⟩
          have BZ : Hid (Below w.heap.size w w45) := Below.next BZ.out bz
          have BS : Hid (Below w36.heap.size w36 w45) := Below.next BS.out bz
          have T0 : Hid (RdA w45 zT0 s XT0) := T0.out.below bz
          rw [← hX]
          clear hX TX0 bz
          refine onlyH (o := ?o150) 6 (by kernel_rfl) ?h150 ?r150
          case h150 => simp only [aT, aS, aZ]; rfl
          intro K hK
          refine op_call1 17 _ _ Try.f17 (fun v w' => ∃ X, RdSk w' v t X ∧ Below w45.heap.size w45 w') rfl rfl Try.func17 (by kernel_rfl) (by kernel_rfl) ((toSketch_any _ t G w45 (HH4.out.1.below BZ.out) HF4.out).mono (by rintro e w' ⟨v, X, rfl, h1, _, h3⟩; exact ⟨_, rfl, X, h1, h3⟩)) ?_
          rintro zT1 w46 ⟨XT1, rz, bz⟩
          have HSN : Hid (Blk w46 (w.heap.size) cs0 34 ∧ Blk w46 (w.heap.size + 1) cs4 38) := ⟨HSN.out.1.below bz, HSN.out.2.below bz⟩
          have BZ : Hid (Below w.heap.size w w46) := Below.next BZ.out bz
          have BS : Hid (Below w36.heap.size w36 w46) := Below.next BS.out bz
          have T0 : Hid (RdA w46 zT0 s XT0) := T0.out.below bz
          have TX : Hid (Blk w46 Xw #[.int .i64 0, .int .i64 0, .bool false, .int .i64 0, .slice none 0 0, .slice none 0 0, .int .i64 0] 25 ∧ w36.heap.size ≤ Xw) := ⟨TX.out.1.below bz, TX.out.2⟩
          have T1 : Hid (RdSk w46 zT1 t XT1) := rz
          refine ⟨_, by simp [Act.put]; rfl, hK _ _ ⟨HSN.out, ?_⟩⟩
          clear hK rz bz
          refine onlyH (o := ?o151) 7 (by kernel_rfl) ?h151 ?r151
          case h151 => simp only [aT, aS, aZ]; rfl
          intro K hK
          refine op_call5v 18 _ _ _ _ _ _ Try.f18 (fun v w' => ∃ z Y, v = .tuple #[z, .int .i64 rc] ∧ RdA w' z ra Y ∧ Own w46.heap.size w' Y ∧ Below w46.heap.size w46 w') rfl rfl Try.func18 (by kernel_rfl) (by kernel_rfl) ((sealImplA_any zT0 zT1 s c k n t XT0 XT1 w46 (T0.out) (T1.out) HF0.out HF4.out).mono (by intro e w' hres; rw [← HZ.out] at hres; obtain ⟨z, Y, rfl, h1, h2, h3⟩ := hres; exact ⟨_, rfl, z, Y, rfl, h1, h2, h3⟩)) ?_
          rintro zt w47 ⟨zv, Yw, rfl, ry, oy, bz⟩
          obtain ⟨cw, rfl, szw, onw⟩ := ry.cells
          have s1 := BS.out.size
          have TXN : Hid (Xw ∉ Yw) := fun hx => by have := oy.ge _ hx; have := TX.out.1.lt; omega
          have HSN : Hid (Blk w47 (w.heap.size) cs0 34 ∧ Blk w47 (w.heap.size + 1) cs4 38) := ⟨HSN.out.1.below bz, HSN.out.2.below bz⟩
          have BZ : Hid (Below w.heap.size w w47) := Below.next BZ.out bz
          have BS : Hid (Below w36.heap.size w36 w47) := Below.next BS.out bz
          have TX : Hid (Blk w47 Xw #[.int .i64 0, .int .i64 0, .bool false, .int .i64 0, .slice none 0 0, .slice none 0 0, .int .i64 0] 25 ∧ w36.heap.size ≤ Xw) := ⟨TX.out.1.below bz, TX.out.2⟩
          have TT : Hid (RdA w47 (.agg cw) ra Yw ∧ Own w36.heap.size w47 Yw ∧ cw.size = 7 ∧ cw.all (·.oneCell') = true) := ⟨ry, oy.mono s1, szw, onw⟩
          refine ⟨_, by simp [Act.put]; rfl, hK _ _ ⟨HSN.out, ?_⟩⟩
          clear hK ry oy bz szw onw s1 T0 T1
          refine takeH (o := ?o152) 8 (.tuple #[.agg cw, .int .i64 rc]) ?h152 ?r152
          case h152 => simp only [aT, aS, aZ]; rfl
          refine ⟨_, by simp [Act.put]; rfl, by kernel_rfl, by kernel_rfl, by kernel_rfl, fun _ _ _ h => h, (.inl ⟨rfl, fun W _ => by kernel_rfl⟩), HSN.out, ?_⟩
          refine takeH (o := ?o153) 9 (.agg cw) ?h153 ?r153
          case h153 => simp only [aT, aS, aZ]; rfl
          refine ⟨_, by simp [Act.put]; rfl, by kernel_rfl, by kernel_rfl, by kernel_rfl, fun _ _ _ h => h, (.inl ⟨rfl, fun W _ => by kernel_rfl⟩), HSN.out, ?_⟩
          refine takeH (o := ?o154) 10 (.int .i64 rc) ?h154 ?r154
          case h154 => simp only [aT, aS, aZ]; rfl
          refine ⟨_, by simp [Act.put]; rfl, by kernel_rfl, by kernel_rfl, by kernel_rfl, fun _ _ _ h => h, (.inl ⟨rfl, fun W _ => by kernel_rfl⟩), HSN.out, ?_⟩
          refine onlyH (o := ?o155) 12 (by kernel_rfl) ?h155 ?r155
          case h155 => simp only [aT, aS, aZ]; rfl
          intro K hK
          have lp := LP.out
          have lx := TX.out.2
          refine op_store 25 Xw #[.int .i64 0, .int .i64 0, .bool false, .int .i64 0, .slice none 0 0, .slice none 0 0, .int .i64 0] cw 25 rfl rfl rfl rfl TX.out.1 (agSize TT.out.2.2.1) TT.out.2.2.1.symm TT.out.2.2.2 ⟨_, by simp [Act.put]; rfl, hK _ _ ⟨⟨HSN.out.1.setRowOther (by omega), HSN.out.2.setRowOther (by omega)⟩, ?_⟩⟩
          clear hK
          refine takeH (o := ?o156) 13 (.int .i64 rc) ?h156 ?r156
          case h156 => simp only [aT, aS, aZ]; rfl
          refine ⟨_, by simp [Act.put]; rfl, by kernel_rfl, by kernel_rfl, by kernel_rfl, fun _ _ _ h => h, (.inl ⟨rfl, fun W _ => by kernel_rfl⟩), ⟨HSN.out.1.setRowOther (by omega), HSN.out.2.setRowOther (by omega)⟩, ?_⟩
          refine wpAnyH_done (by kernel_rfl) ?_ _
          go_wp2_with fail
          go_meet
          case rel => exact ⟨Xw, cw, Yw, rfl, rfl, below_setRow BS.out lx _, varA_stored TX.out.1 TT.out.1 TT.out.2.2.1 TT.out.2.1 TT.out.1.lt lx TXN.out⟩
      case s135 =>
        intro K hK
        refine op_turn (.pointer (some ⟨Y0.heap.size, 0, none⟩)) (Y0.alloc (.cells #[.int .i64 0, .int .i64 0, .bool false, .int .i64 0, .slice none 0 0, .slice none 0 0, .int .i64 0] 25)) rfl (by kernel_rfl) ⟨_, by simp [Act.put]; rfl, hK _ _ ⟨⟨HSN.out.1.alloc _, HSN.out.2.alloc _⟩, ?_⟩⟩
        clear hK
        obtain ⟨w49, hW⟩ : ∃ Z, Z = (Y0.alloc (.cells #[.int .i64 0, .int .i64 0, .bool false, .int .i64 0, .slice none 0 0, .slice none 0 0, .int .i64 0] 25)) := ⟨_, rfl⟩
        have bz : Below Y0.heap.size Y0 w49 := by rw [hW]; exact (Below.refl _ _).alloc (Nat.le_refl _) _
        have TX0 : Blk w49 Y0.heap.size #[.int .i64 0, .int .i64 0, .bool false, .int .i64 0, .slice none 0 0, .slice none 0 0, .int .i64 0] 25 := by rw [hW]; exact Blk.made _ _ _
        rw [← hW]
        clear hW
        obtain ⟨Xw, hX⟩ : ∃ z, z = Y0.heap.size := ⟨_, rfl⟩
        have TX : Hid (Blk w49 Xw #[.int .i64 0, .int .i64 0, .bool false, .int .i64 0, .slice none 0 0, .slice none 0 0, .int .i64 0] 25 ∧ w36.heap.size ≤ Xw) := ⟨by rw [hX]; exact TX0, by have := BS.out.size; omega⟩
        have HSN : Hid (Blk w49 (w.heap.size) cs0 34 ∧ Blk w49 (w.heap.size + 1) cs4 38) := ⟨HSN.out.1.below bz, HSN.out.2.below bz⟩
        have BZ : Hid (Below w.heap.size w w49) := Below.next BZ.out bz
        have BS : Hid (Below w36.heap.size w36 w49) := Below.next BS.out bz
        rw [← hX]
        clear hX TX0 bz
        refine onlyH (o := ?o157) 1 (by kernel_rfl) ?h157 ?r157
        case h157 => simp only [aT, aS, aZ]; rfl
        intro K hK
        refine op_call1 16 _ _ Try.f16 (fun v w' => ∃ X, RdA w' v s X ∧ Below w49.heap.size w49 w') rfl rfl Try.func16 (by kernel_rfl) (by kernel_rfl) ((toA_any _ s F w49 (HH0.out.1.below BZ.out) HF0.out).mono (by rintro e w' ⟨v, X, rfl, h1, _, h3⟩; exact ⟨_, rfl, X, h1, h3⟩)) ?_
        rintro zT0 w50 ⟨XT0, rz, bz⟩
        have HSN : Hid (Blk w50 (w.heap.size) cs0 34 ∧ Blk w50 (w.heap.size + 1) cs4 38) := ⟨HSN.out.1.below bz, HSN.out.2.below bz⟩
        have BZ : Hid (Below w.heap.size w w50) := Below.next BZ.out bz
        have BS : Hid (Below w36.heap.size w36 w50) := Below.next BS.out bz
        have TX : Hid (Blk w50 Xw #[.int .i64 0, .int .i64 0, .bool false, .int .i64 0, .slice none 0 0, .slice none 0 0, .int .i64 0] 25 ∧ w36.heap.size ≤ Xw) := ⟨TX.out.1.below bz, TX.out.2⟩
        have T0 : Hid (RdA w50 zT0 s XT0) := rz
        refine ⟨_, by simp [Act.put]; rfl, hK _ _ ⟨HSN.out, ?_⟩⟩
        clear hK rz bz
        refine onlyH (o := ?o158) 6 (by kernel_rfl) ?h158 ?r158
        case h158 => simp only [aT, aS, aZ]; rfl
        intro K hK
        refine op_call1 17 _ _ Try.f17 (fun v w' => ∃ X, RdSk w' v t X ∧ Below w50.heap.size w50 w') rfl rfl Try.func17 (by kernel_rfl) (by kernel_rfl) ((toSketch_any _ t G w50 (HH4.out.1.below BZ.out) HF4.out).mono (by rintro e w' ⟨v, X, rfl, h1, _, h3⟩; exact ⟨_, rfl, X, h1, h3⟩)) ?_
        rintro zT1 w51 ⟨XT1, rz, bz⟩
        have HSN : Hid (Blk w51 (w.heap.size) cs0 34 ∧ Blk w51 (w.heap.size + 1) cs4 38) := ⟨HSN.out.1.below bz, HSN.out.2.below bz⟩
        have BZ : Hid (Below w.heap.size w w51) := Below.next BZ.out bz
        have BS : Hid (Below w36.heap.size w36 w51) := Below.next BS.out bz
        have T0 : Hid (RdA w51 zT0 s XT0) := T0.out.below bz
        have TX : Hid (Blk w51 Xw #[.int .i64 0, .int .i64 0, .bool false, .int .i64 0, .slice none 0 0, .slice none 0 0, .int .i64 0] 25 ∧ w36.heap.size ≤ Xw) := ⟨TX.out.1.below bz, TX.out.2⟩
        have T1 : Hid (RdSk w51 zT1 t XT1) := rz
        refine ⟨_, by simp [Act.put]; rfl, hK _ _ ⟨HSN.out, ?_⟩⟩
        clear hK rz bz
        refine onlyH (o := ?o159) 7 (by kernel_rfl) ?h159 ?r159
        case h159 => simp only [aT, aS, aZ]; rfl
        intro K hK
        refine op_call5v 18 _ _ _ _ _ _ Try.f18 (fun v w' => ∃ z Y, v = .tuple #[z, .int .i64 rc] ∧ RdA w' z ra Y ∧ Own w51.heap.size w' Y ∧ Below w51.heap.size w51 w') rfl rfl Try.func18 (by kernel_rfl) (by kernel_rfl) ((sealImplA_any zT0 zT1 s c k n t XT0 XT1 w51 (T0.out) (T1.out) HF0.out HF4.out).mono (by intro e w' hres; rw [← HZ.out] at hres; obtain ⟨z, Y, rfl, h1, h2, h3⟩ := hres; exact ⟨_, rfl, z, Y, rfl, h1, h2, h3⟩)) ?_
        rintro zt w52 ⟨zv, Yw, rfl, ry, oy, bz⟩
        obtain ⟨cw, rfl, szw, onw⟩ := ry.cells
        have s1 := BS.out.size
        have TXN : Hid (Xw ∉ Yw) := fun hx => by have := oy.ge _ hx; have := TX.out.1.lt; omega
        have HSN : Hid (Blk w52 (w.heap.size) cs0 34 ∧ Blk w52 (w.heap.size + 1) cs4 38) := ⟨HSN.out.1.below bz, HSN.out.2.below bz⟩
        have BZ : Hid (Below w.heap.size w w52) := Below.next BZ.out bz
        have BS : Hid (Below w36.heap.size w36 w52) := Below.next BS.out bz
        have TX : Hid (Blk w52 Xw #[.int .i64 0, .int .i64 0, .bool false, .int .i64 0, .slice none 0 0, .slice none 0 0, .int .i64 0] 25 ∧ w36.heap.size ≤ Xw) := ⟨TX.out.1.below bz, TX.out.2⟩
        have TT : Hid (RdA w52 (.agg cw) ra Yw ∧ Own w36.heap.size w52 Yw ∧ cw.size = 7 ∧ cw.all (·.oneCell') = true) := ⟨ry, oy.mono s1, szw, onw⟩
        refine ⟨_, by simp [Act.put]; rfl, hK _ _ ⟨HSN.out, ?_⟩⟩
        clear hK ry oy bz szw onw s1 T0 T1
        refine takeH (o := ?o160) 8 (.tuple #[.agg cw, .int .i64 rc]) ?h160 ?r160
        case h160 => simp only [aT, aS, aZ]; rfl
        refine ⟨_, by simp [Act.put]; rfl, by kernel_rfl, by kernel_rfl, by kernel_rfl, fun _ _ _ h => h, (.inl ⟨rfl, fun W _ => by kernel_rfl⟩), HSN.out, ?_⟩
        refine takeH (o := ?o161) 9 (.agg cw) ?h161 ?r161
        case h161 => simp only [aT, aS, aZ]; rfl
        refine ⟨_, by simp [Act.put]; rfl, by kernel_rfl, by kernel_rfl, by kernel_rfl, fun _ _ _ h => h, (.inl ⟨rfl, fun W _ => by kernel_rfl⟩), HSN.out, ?_⟩
        refine takeH (o := ?o162) 10 (.int .i64 rc) ?h162 ?r162
        case h162 => simp only [aT, aS, aZ]; rfl
        refine ⟨_, by simp [Act.put]; rfl, by kernel_rfl, by kernel_rfl, by kernel_rfl, fun _ _ _ h => h, (.inl ⟨rfl, fun W _ => by kernel_rfl⟩), HSN.out, ?_⟩
        refine onlyH (o := ?o163) 12 (by kernel_rfl) ?h163 ?r163
        case h163 => simp only [aT, aS, aZ]; rfl
        intro K hK
        have lp := LP.out
        have lx := TX.out.2
        refine op_store 25 Xw #[.int .i64 0, .int .i64 0, .bool false, .int .i64 0, .slice none 0 0, .slice none 0 0, .int .i64 0] cw 25 rfl rfl rfl rfl TX.out.1 (agSize TT.out.2.2.1) TT.out.2.2.1.symm TT.out.2.2.2 ⟨_, by simp [Act.put]; rfl, hK _ _ ⟨⟨HSN.out.1.setRowOther (by omega), HSN.out.2.setRowOther (by omega)⟩, ?_⟩⟩
        clear hK
        refine takeH (o := ?o164) 13 (.int .i64 rc) ?h164 ?r164
        case h164 => simp only [aT, aS, aZ]; rfl
        refine ⟨_, by simp [Act.put]; rfl, by kernel_rfl, by kernel_rfl, by kernel_rfl, fun _ _ _ h => h, (.inl ⟨rfl, fun W _ => by kernel_rfl⟩), ⟨HSN.out.1.setRowOther (by omega), HSN.out.2.setRowOther (by omega)⟩, ?_⟩
        refine wpAnyH_done (by kernel_rfl) ?_ _
        go_wp2_with fail
        go_meet
        case rel => exact ⟨Xw, cw, Yw, rfl, rfl, below_setRow BS.out lx _, varA_stored TX.out.1 TT.out.1 TT.out.2.2.1 TT.out.2.1 TT.out.1.lt lx TXN.out⟩
    case rest =>
      obtain ⟨gh, ch, Yh, rfl, rfl, hbw, hvar⟩ := hcut
      obtain ⟨w54, hWn⟩ : ∃ W, W = wc := ⟨_, rfl⟩
      rw [← hWn] at hbw hvar ⊢
      clear hWn
      have BX0 : Hid (Blk w54 (w.heap.size) cs0 34) := BX0.out.below hbw
      have BX4 : Hid (Blk w54 (w.heap.size + 1) cs4 38) := BX4.out.below hbw
      have BEL : Hid (Below w.heap.size w w54) := Below.next BEL.out hbw
      have Vw : Hid (VarA w54 w2.heap.size w20.heap.size gw cw ra Yw) := Vw.out.below hbw
      have Vg : Hid (VarA w54 w24.heap.size w26.heap.size w25.heap.size cg (ra.marked 1) Yg) := Vg.out.below hbw
      have Vh : Hid (VarA w54 w36.heap.size w54.heap.size gh ch ra Yh) := hvar
      have O7 : Hid (w36.heap.size ≤ w54.heap.size) := by show _ ≤ _; exact hbw.size
      clear hvar hbw LP
      go_wp2_with (first | go_skip | (with_reducible refine stopLoad 34 rfl ?_) | (with_reducible refine stopLoad 25 rfl ?_) | (with_reducible refine stopLoad 38 rfl ?_) | (with_reducible refine stopLoad 44 rfl ?_) | (with_reducible refine stopStore 25 rfl ?_) | (with_reducible refine stopStore 44 rfl ?_))
      refine load_any 25 _ ch 25 _ Vh.out.blk rfl rfl rfl Try.underlying25 rfl (agSize Vh.out.sz) ?_
      go_wp2_with (first | go_skip | (with_reducible refine stopLoad 34 rfl ?_) | (with_reducible refine stopLoad 25 rfl ?_) | (with_reducible refine stopLoad 38 rfl ?_) | (with_reducible refine stopLoad 44 rfl ?_) | (with_reducible refine stopStore 25 rfl ?_) | (with_reducible refine stopStore 44 rfl ?_))
      refine load_any 25 _ cw 25 _ Vw.out.blk rfl rfl rfl Try.underlying25 rfl (agSize Vw.out.sz) ?_
      go_wp2_with fail
      refine (eqA_any _ _ ra ra Yh Yw _ Vh.out.rd Vw.out.rd HM.out.1 HM.out.1).mono ?_
      rintro e w55 ⟨rfl, hb⟩
      have BX0 : Hid (Blk w55 (w.heap.size) cs0 34) := BX0.out.below hb
      have BX4 : Hid (Blk w55 (w.heap.size + 1) cs4 38) := BX4.out.below hb
      have BEL : Hid (Below w.heap.size w w55) := Below.next BEL.out hb
      have Vw : Hid (VarA w55 w2.heap.size w20.heap.size gw cw ra Yw) := Vw.out.below hb
      have Vg : Hid (VarA w55 w24.heap.size w26.heap.size w25.heap.size cg (ra.marked 1) Yg) := Vg.out.below hb
      have Vh : Hid (VarA w55 w36.heap.size w54.heap.size gh ch ra Yh) := Vh.out.below hb
      clear hb
      have hdec : decide (ra = ra) = true := by simp
      rw [hdec]
      clear hdec
      go_wp2_with (first | go_skip | (with_reducible refine stopLoad 34 rfl ?_) | (with_reducible refine stopLoad 25 rfl ?_) | (with_reducible refine stopLoad 38 rfl ?_) | (with_reducible refine stopLoad 44 rfl ?_) | (with_reducible refine stopStore 25 rfl ?_) | (with_reducible refine stopStore 44 rfl ?_))
      refine load_any 25 _ cg 25 _ Vg.out.blk rfl rfl rfl Try.underlying25 rfl (agSize Vg.out.sz) ?_
      go_wp2_with fail
      refine (heldA_any _ ra Yg 1 _ Vg.out.rd HM.out.1 (by omega) (by have := HM.out; omega)).mono ?_
      rintro e w56 ⟨rfl, hb⟩
      have BX0 : Hid (Blk w56 (w.heap.size) cs0 34) := BX0.out.below hb
      have BX4 : Hid (Blk w56 (w.heap.size + 1) cs4 38) := BX4.out.below hb
      have BEL : Hid (Below w.heap.size w w56) := Below.next BEL.out hb
      have Vw : Hid (VarA w56 w2.heap.size w20.heap.size gw cw ra Yw) := Vw.out.below hb
      have Vg : Hid (VarA w56 w24.heap.size w26.heap.size w25.heap.size cg (ra.marked 1) Yg) := Vg.out.below hb
      have Vh : Hid (VarA w56 w36.heap.size w54.heap.size gh ch ra Yh) := Vh.out.below hb
      clear hb
      rw [← HKM.out]
      go_wp2
      go_ret
      exact ⟨rfl, BEL.out⟩
set_option maxRecDepth 200000 in
theorem lifted (os : Os) (started : os.Started) (H : Type) (enc : TypeId × Value → H) :
    ReturnsInHanded {} Try.checked os 4 .any (Rows.fnExactSealSpec.pre6 enc Try.prog Try.f4 Rows.fnExactSealRow.domain false) (Rows.fnExactSealSpec.post enc Try.prog Try.f4 false true false false) := by
  refine returnsInHanded_of_change (C := Try.checked) own started (by kernel_rfl) Try.func4
    (ChangeSpec.witness6 (enc := enc) (C := Try.checked) false ⟨#[], #[.agg #[.int .i64 0, .int .i64 0, .bool false, .int .i64 0, .slice none 0 0, .slice none 0 0, .int .i64 0], .int .i64 0, .int .i64 0, .int .i64 0, .agg #[.int .i64 0, .int .i64 0, .int .i64 0, .int .i64 0, .slice none 0 0, .slice none 0 0, .slice none 0 0]], []⟩ 8 (by kernel_rfl) (by kernel_rfl) (by kernel_rfl) (by kernel_rfl)) ?_
  intro W base args ds gs before hval0 hW hcnd _
  have hval : ∀ (j : Nat) t v, Try.f4.params[j]? = some t → args[j]? = some v → Value.okWide Try.prog W .any base t v := hval0
  have hW' := hW
  obtain ⟨p, q, hA0, hV, rfl, hfz, hnd⟩ := hW
  have hA : DataW.TrodAll enc Try.prog W 0 (fun _ => true) true Try.f4.params.toList args.toList ds p := hA0
  rw [Try.params4] at hA hval
  obtain ⟨v0, vs0, d0, ds0, p0, q0, hargs0, rfl, rfl, h0, r0⟩ := trodAll_cons hA
  obtain ⟨v1, vs1, d1, ds1, p1, q1, hargs1, rfl, rfl, h1, r1⟩ := trodAll_cons r0
  obtain ⟨v2, vs2, d2, ds2, p2, q2, hargs2, rfl, rfl, h2, r2⟩ := trodAll_cons r1
  obtain ⟨v3, vs3, d3, ds3, p3, q3, hargs3, rfl, rfl, h3, r3⟩ := trodAll_cons r2
  obtain ⟨v4, vs4, d4, ds4, p4, q4, hargs4, rfl, rfl, h4, r4⟩ := trodAll_cons r3
  obtain ⟨rfl, rfl, rfl⟩ := trodAll_nil r4
  obtain rfl : args = #[v0, v1, v2, v3, v4] := by cases args; simp_all
  obtain ⟨rfl, rfl⟩ := trodVars_none hV
  have k0 := h0
  have lt0 : ∀ x ∈ p0, x.block < W.heap.size := by obtain ⟨m, hm⟩ := k0; exact DataW.trod_lt m _ _ _ hm
  have k4 := h4
  have lt4 : ∀ x ∈ p4, x.block < W.heap.size := by obtain ⟨m, hm⟩ := k4; exact DataW.trod_lt m _ _ _ hm
  obtain ⟨s0, F0, hR0, hv0⟩ := open_A (hval 0 34 v0 rfl rfl) h0
  obtain ⟨a1, rfl, rfl, rfl, w1⟩ := open_int Try.underlying3 (hval 1 3 v1 rfl rfl) h1
  obtain ⟨a2, rfl, rfl, rfl, w2⟩ := open_int Try.underlying3 (hval 2 3 v2 rfl rfl) h2
  obtain ⟨a3, rfl, rfl, rfl, w3⟩ := open_int Try.underlying3 (hval 3 3 v3 rfl rfl) h3
  obtain ⟨s4, F4, hR4, hv4⟩ := open_sk (hval 4 38 v4 rfl rfl) h4
  clear hA0 hval0
  refine (walk a1 a2 a3 v0 s0 F0 v4 s4 F4 W hR0 hv0 hR4 hv4).mono fun e W' ⟨he, bel⟩ => ?_
  subst he
  exact ⟨_, rfl, _, _, _, [], _, [], hW', trodAll_mk1 (shut_bool Try.underlying4 _), (trodAll_cons_mk (Below.trod laidOut (by kernel_rfl) (of_decide_eq_true (by kernel_rfl)) k0 bel lt0) (trodAll_cons_mk (shut_int Try.underlying3 w1) (trodAll_cons_mk (shut_int Try.underlying3 w2) (trodAll_cons_mk (shut_int Try.underlying3 w3) (trodAll_cons_mk (Below.trod laidOut (by kernel_rfl) (of_decide_eq_true (by kernel_rfl)) k4 bel lt4) trodAll_mk0))))), rfl, bel.frame _, fun h => by cases h⟩
theorem over : Rows.fnExactSealRow.holds Try.pinned (OpenSpec.ofChange Rows.fnExactSealSpec) :=
  OpenClaim.holds_of_wide 4 Try.f4 rfl rfl rfl rfl rfl rfl rfl ⟨rfl, rfl, rfl, rfl, rfl⟩ rfl rfl rfl rfl rfl (by kernel_rfl) Try.func4 (by kernel_rfl)
    (of_decide_eq_true (by kernel_rfl)) (by unfold Func.isWrapper; first | (rw [if_pos (by decide +kernel)]; kernel_rfl) | (rw [if_neg (by decide +kernel)]; exact ⟨rfl, rfl⟩))
    (fun os started H enc _ => lifted os started H enc)
theorem proved : Rows.FnExactSealSaid := over
#print axioms proved
end Go.Proofs.Ytjndcfamfminkar.fnExactSeal
