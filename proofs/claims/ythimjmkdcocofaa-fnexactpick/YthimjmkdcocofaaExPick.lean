/- For all sizes, weights, every quantum and every turn (no condition): laws.FnExactPick returns true, and its arguments read afterwards as they did: the program's Pick answers as the model's, writes nothing into its arguments, and its answer owns its memory. -/
import Derived.Test.YthimjmkdcocofaaB1
import Derived.Test.YthimjmkdcocofaaSkLaw
import Derived.Test.YthimjmkdcocofaaRows
import Derived.WalkKit
import Derived.ProofKit
import Derived.OpenShut
import Derived.ShutString
import Derived.ChangeOld
import Derived.Below
import Derived.Deep.DeepCutAuto
namespace Go.Proofs.Ythimjmkdcocofaa.fnExactPick
open Go.ChangeShapes Go.WideShapes Go.ChangeAt Go.RowKit
set_option linter.unusedVariables false
theorem own : ownKnob Try.prog.godebug = none := by kernel_rfl
theorem pick_fits {ss ws : List Int} {q : Int} {x : Tu} (h : x.fits) : (pick ss ws q x).2.fits := by
  rcases pick_case ss ws q x with k | ⟨k, z⟩ | ⟨k, z⟩
  · rw [pick_bad k]; exact h
  · rw [pick_zero k z]; exact (by decide : 3 ≤ 1048576)
  · rw [pick_some k z]
    obtain ⟨a, b, d, e, _⟩ := ok_three (pickN_got 20000 (picks_in k z) (mu_le (picks_all k).2.2.2)).1
    unfold Tu.fits
    show (pickN ss ws q 20000 x).left.length ≤ _
    rw [e]; exact (by decide : 3 ≤ 1048576)
set_option maxRecDepth 200000 in
set_option maxHeartbeats 16000000 in
theorem walk (a0 : Option Addr) (n0 k0 : Nat) (ss : List Int) (F0 : List Nat) (a1 : Option Addr) (n1 k1 : Nat) (ws : List Int) (F1 : List Nat) (c : Int) (v3 : Value) (s : Tu) (F : List Nat) (w : World) (h0 : RdI w a0 n0 ss F0) (hl0 : n0 ≤ 9223372036854775807) (h1 : RdI w a1 n1 ws F1) (hl1 : n1 ≤ 9223372036854775807) (h3 : RdTu w v3 s F) (hv3 : s.vast) :
    Calls Try.prog 6 #[.slice a0 n0 k0, .slice a1 n1 k1, .int .i64 c, v3] w fun e w' => e = .returned (.bool true) ∧ Below w.heap.size w w' := by
  have HH3 : Hid (RdTu w v3 s F ∧ s.vast) := ⟨h3, hv3⟩
  obtain ⟨cs3, rfl, hc3, _⟩ := h3.cells
  have HC3 : Hid (cs3.size = 3) := hc3
  have BX3 : Hid (Blk (w.alloc (.cells cs3 33)) w.heap.size cs3 33) := Blk.made _ _ _
  have BEL : Hid (Below w.heap.size w (w.alloc (.cells cs3 33))) := Below.allocW _ (Below.refl _ _) (Nat.le_refl _)
  have HS0v : Hid (RdI w a0 n0 ss F0) := h0
  have HS1v : Hid (RdI w a1 n1 ws F1) := h1
  clear h3 hv3 hc3 h0 h1
  go_enter Try.func6, Try.ntmps6
  by_cases q0 : n0 > 1048576
  · have qq : (1048576 : Int) < (n0 : Int) := by omega
    go_wp2
    go_ret
    exact ⟨rfl, BEL.out⟩
  have qq0 : ¬ (1048576 : Int) < (n0 : Int) := by omega
  have hn0 : n0 ≤ 1048576 := by omega
  have HS0 : Hid (RdI w a0 n0 ss F0 ∧ n0 ≤ 1048576) := ⟨HS0v.out, hn0⟩
  clear q0 hn0 hl0 HS0v
  by_cases q1 : n1 > 1048576
  · have qq : (1048576 : Int) < (n1 : Int) := by omega
    go_wp2
    go_ret
    exact ⟨rfl, BEL.out⟩
  have qq1 : ¬ (1048576 : Int) < (n1 : Int) := by omega
  have hn1 : n1 ≤ 1048576 := by omega
  have HS1 : Hid (RdI w a1 n1 ws F1 ∧ n1 ≤ 1048576) := ⟨HS1v.out, hn1⟩
  clear q1 hn1 hl1 HS1v
  go_wp2_with (first | go_skip | (with_reducible refine stopLoad 33 rfl ?_) | (with_reducible refine stopLoad 26 rfl ?_) | (with_reducible refine stopStore 26 rfl ?_))
  refine load_any 33 (w.heap.size) cs3 33 _ BX3.out rfl rfl rfl Try.underlying33 rfl (ltuSize HC3.out) ?_
  go_wp2_with fail
  refine (szTu_vast _ s F 1048576 _ (HH3.out.1.below BEL.out) HH3.out.2 (by omega) (by omega)).mono ?_
  rintro e w1 ⟨⟨r0, rfl, ra, rb, rc⟩, hb1⟩
  have BX3 : Hid (Blk w1 w.heap.size cs3 33) := BX3.out.below hb1
  have BEL : Hid (Below w.heap.size w w1) := Below.next BEL.out hb1
  by_cases q : r0 < 0
  · clear ra rb rc hb1
    have hq : decide (r0 < 0) = true := dec_true q
    go_wp2
    go_ret
    exact ⟨rfl, BEL.out⟩
  have q' : 0 ≤ r0 := by omega
  have hq : decide (r0 < 0) = false := dec_false q
  have HF3 : Hid (s.fits) := by have := rb q'; show s.left.length ≤ 1048576; omega
  have HMI3 : Hid (0 ≤ s.many ∧ s.many ≤ 16777216) := ⟨(Tu.many_fits HF3.out).1, by have := (Tu.many_fits HF3.out).2; omega⟩
  clear ra rb rc hb1 q q'
  have LB0 : Hid (w.heap.size + 1 ≤ w1.heap.size) := BX3.out.lt
  obtain ⟨rk, ra, hz⟩ : ∃ rk ra, (rk, ra) = pick ss ws c s := ⟨(pick ss ws c s).1, (pick ss ws c s).2, rfl⟩
  have HZ : Hid ((rk, ra) = pick ss ws c s) := hz
  have HM0 : (pick ss ws c s).2.fits := pick_fits HF3.out
  rw [← hz] at HM0
  replace HM0 : ra.fits := HM0
  have HM : Hid (ra.wide ∧ 0 ≤ ra.many ∧ ra.many ≤ 16777216) := ⟨Tu.fits.wide HM0, (Tu.many_fits HM0).1, by have := (Tu.many_fits HM0).2; omega⟩
  have hrk : (rk != rk) = false := by simp
  clear HM0 hz
  have LP : Hid (w.heap.size < w1.heap.size) := BX3.out.lt
  go_upto_region 9 with fail
  go_cut [10, 11] (fun a6 a7 wx => ∃ (g : Nat) (cs : Array Value) (X : List Nat), a6 = .int .i64 rk ∧ a7 = .pointer (some ⟨g, 0, none⟩) ∧ Below w1.heap.size w1 wx ∧ VarTu wx w1.heap.size wx.heap.size g cs ra X)
  case first =>
    have bd := (Below.refl w1.heap.size w1).drew
    have HSN : Hid (Blk w1.drew w.heap.size cs3 33) := BX3.out.below bd
    have BZ : Hid (Below w.heap.size w w1.drew) := Below.next BEL.out bd
    have BS : Hid (Below w1.heap.size w1 w1.drew) := bd
    obtain ⟨Y0, hY0⟩ : ∃ Y, Y = w1.drew := ⟨_, rfl⟩
    rw [← hY0] at HSN BZ BS
    clear bd
    refine wp_region_held (S := fun W => Blk W w.heap.size cs3 33) (by kernel_rfl) ?_
    change wpAnyH _ _ _ _ _ _ _ _ (World.drew _)
    rw [← hY0]
    clear hY0
    refine takeH (o := ?o1) 0 (.slice a0 n0 k0) ?h1 ?r1
    case h1 => simp only [aT, aZ]; rfl
    refine ⟨_, by simp [Act.put]; rfl, by kernel_rfl, by kernel_rfl, by kernel_rfl, fun _ _ _ h => h, (.inl ⟨rfl, fun W _ => by kernel_rfl⟩), HSN.out, ?_⟩
    refine takeH (o := ?o2) 2 (.slice a1 n1 k1) ?h2 ?r2
    case h2 => simp only [aT, aS, aZ]; rfl
    refine ⟨_, by simp [Act.put]; rfl, by kernel_rfl, by kernel_rfl, by kernel_rfl, fun _ _ _ h => h, (.inl ⟨rfl, fun W _ => by kernel_rfl⟩), HSN.out, ?_⟩
    refine takeH (o := ?o3) 4 (.int .i64 c) ?h3 ?r3
    case h3 => simp only [aT, aS, aZ]; rfl
    refine ⟨_, by simp [Act.put]; rfl, by kernel_rfl, by kernel_rfl, by kernel_rfl, fun _ _ _ h => h, (.inl ⟨rfl, fun W _ => by kernel_rfl⟩), HSN.out, ?_⟩
    refine takeH (o := ?o4) 5 (.agg cs3) ?h4 ?r4
    case h4 => simp only [aT, aS, aZ]; rfl
    refine ⟨_, by simp [Act.put]; rfl, by kernel_rfl, by kernel_rfl, by kernel_rfl, fun _ _ _ h => h, (yields_whole 33 _ cs3 33 _ rfl rfl rfl Try.underlying33 rfl (ltuSize HC3.out) (fun W hW => hW)), HSN.out, ?_⟩
    refine twoH (o := ?o5) (o' := ?p5) 1 11 (by kernel_rfl) ?h5 ?g5 ?r5 ?s5
    case h5 => simp only [aT, aS, aZ]; rfl
    case g5 => simp only [aT, aS, aZ]; rfl
    case r5 =>
      intro K hK
      refine op_call1 21 _ _ Try.f21 (fun v w' => ∃ a n k X, v = .slice a n k ∧ RdI w' a n ss X ∧ Below Y0.heap.size Y0 w') rfl rfl Try.func21 (by kernel_rfl) (by kernel_rfl) ((toIntS_any a0 n0 k0 ss F0 Y0 (HS0.out.1.below BZ.out) HS0.out.2).mono (by rintro e w' ⟨a, n, k, X, rfl, h1, _, h3⟩; exact ⟨_, rfl, a, n, k, X, rfl, h1, h3⟩)) ?_
      rintro _ w2 ⟨aT0, nT0, kT0, XT0, rfl, rz, bz⟩
      have HSN : Hid (Blk w2 w.heap.size cs3 33) := HSN.out.below bz
      have BZ : Hid (Below w.heap.size w w2) := Below.next BZ.out bz
      have BS : Hid (Below w1.heap.size w1 w2) := Below.next BS.out bz
      have T0 : Hid (RdI w2 aT0 nT0 ss XT0) := rz
      refine ⟨_, by simp [Act.put]; rfl, hK _ _ ⟨HSN.out, ?_⟩⟩
      clear hK rz bz
      refine twoH (o := ?o6) (o' := ?p6) 3 11 (by kernel_rfl) ?h6 ?g6 ?r6 ?s6
      case h6 => simp only [aT, aS, aZ]; rfl
      case g6 => simp only [aT, aS, aZ]; rfl
      case r6 =>
        intro K hK
        refine op_call1 21 _ _ Try.f21 (fun v w' => ∃ a n k X, v = .slice a n k ∧ RdI w' a n ws X ∧ Below w2.heap.size w2 w') rfl rfl Try.func21 (by kernel_rfl) (by kernel_rfl) ((toIntS_any a1 n1 k1 ws F1 w2 (HS1.out.1.below BZ.out) HS1.out.2).mono (by rintro e w' ⟨a, n, k, X, rfl, h1, _, h3⟩; exact ⟨_, rfl, a, n, k, X, rfl, h1, h3⟩)) ?_
        rintro _ w3 ⟨aT1, nT1, kT1, XT1, rfl, rz, bz⟩
        have HSN : Hid (Blk w3 w.heap.size cs3 33) := HSN.out.below bz
        have BZ : Hid (Below w.heap.size w w3) := Below.next BZ.out bz
        have BS : Hid (Below w1.heap.size w1 w3) := Below.next BS.out bz
        have T0 : Hid (RdI w3 aT0 nT0 ss XT0) := T0.out.below bz
        have T1 : Hid (RdI w3 aT1 nT1 ws XT1) := rz
        refine ⟨_, by simp [Act.put]; rfl, hK _ _ ⟨HSN.out, ?_⟩⟩
        clear hK rz bz
        refine twoH (o := ?o7) (o' := ?p7) 6 11 (by kernel_rfl) ?h7 ?g7 ?r7 ?s7
        case h7 => simp only [aT, aS, aZ]; rfl
        case g7 => simp only [aT, aS, aZ]; rfl
        case r7 =>
          intro K hK
          refine op_call1 15 _ _ Try.f15 (fun v w' => ∃ X, RdTu w' v s X ∧ Below w3.heap.size w3 w') rfl rfl Try.func15 (by kernel_rfl) (by kernel_rfl) ((toTu_any _ s F w3 (HH3.out.1.below BZ.out) HF3.out).mono (by rintro e w' ⟨v, X, rfl, h1, _, h3⟩; exact ⟨_, rfl, X, h1, h3⟩)) ?_
          rintro zT3 w4 ⟨XT3, rz, bz⟩
          have HSN : Hid (Blk w4 w.heap.size cs3 33) := HSN.out.below bz
          have BZ : Hid (Below w.heap.size w w4) := Below.next BZ.out bz
          have BS : Hid (Below w1.heap.size w1 w4) := Below.next BS.out bz
          have T0 : Hid (RdI w4 aT0 nT0 ss XT0) := T0.out.below bz
          have T1 : Hid (RdI w4 aT1 nT1 ws XT1) := T1.out.below bz
          have T3 : Hid (RdTu w4 zT3 s XT3) := rz
          refine ⟨_, by simp [Act.put]; rfl, hK _ _ ⟨HSN.out, ?_⟩⟩
          clear hK rz bz
          refine twoH (o := ?o8) (o' := ?p8) 7 11 (by kernel_rfl) ?h8 ?g8 ?r8 ?s8
          case h8 => simp only [aT, aS, aZ]; rfl
          case g8 => simp only [aT, aS, aZ]; rfl
          case r8 =>
            intro K hK
            refine op_callT4 10 _ _ _ _ _ Try.f10 (fun v w' => ∃ z Y, v = .tuple #[.int .i64 rk, z] ∧ RdTu w' z ra Y ∧ Own w4.heap.size w' Y ∧ Below w4.heap.size w4 w') rfl rfl Try.func10 (by kernel_rfl) (by kernel_rfl) ((pick_spec_any aT0 aT1 nT0 kT0 nT1 kT1 ss ws XT0 XT1 c zT3 s XT3 w4 T0.out T1.out T3.out (by rw [← T0.out.length, HS0.out.1.length]; exact HS0.out.2) (by rw [← T1.out.length, HS1.out.1.length]; exact HS1.out.2) HF3.out).mono (by intro e w' hres; rw [← HZ.out] at hres; obtain ⟨z, Y, rfl, h1, h2, h3⟩ := hres; exact ⟨_, rfl, z, Y, rfl, h1, h2, h3⟩)) ?_
            rintro zt w5 ⟨zv, Yw, rfl, ry, oy, bz⟩
            obtain ⟨cw, rfl, szw, onw⟩ := ry.cells
            have s1 := BS.out.size
            have HSN : Hid (Blk w5 w.heap.size cs3 33) := HSN.out.below bz
            have BZ : Hid (Below w.heap.size w w5) := Below.next BZ.out bz
            have BS : Hid (Below w1.heap.size w1 w5) := Below.next BS.out bz
            have TT : Hid (RdTu w5 (.agg cw) ra Yw ∧ Own w1.heap.size w5 Yw ∧ cw.size = 3 ∧ cw.all (·.oneCell') = true) := ⟨ry, oy.mono s1, szw, onw⟩
            refine ⟨_, by simp [Act.put]; rfl, hK _ _ ⟨HSN.out, ?_⟩⟩
            clear hK ry oy bz szw onw s1 T0 T1 T3
            refine takeH (o := ?o9) 8 (.tuple #[.int .i64 rk, .agg cw]) ?h9 ?r9
            case h9 => simp only [aT, aS, aZ]; rfl
            refine ⟨_, by simp [Act.put]; rfl, by kernel_rfl, by kernel_rfl, by kernel_rfl, fun _ _ _ h => h, (.inl ⟨rfl, fun W _ => by kernel_rfl⟩), HSN.out, ?_⟩
            refine takeH (o := ?o10) 9 (.int .i64 rk) ?h10 ?r10
            case h10 => simp only [aT, aS, aZ]; rfl
            refine ⟨_, by simp [Act.put]; rfl, by kernel_rfl, by kernel_rfl, by kernel_rfl, fun _ _ _ h => h, (.inl ⟨rfl, fun W _ => by kernel_rfl⟩), HSN.out, ?_⟩
            refine takeH (o := ?o11) 10 (.agg cw) ?h11 ?r11
            case h11 => simp only [aT, aS, aZ]; rfl
            refine ⟨_, by simp [Act.put]; rfl, by kernel_rfl, by kernel_rfl, by kernel_rfl, fun _ _ _ h => h, (.inl ⟨rfl, fun W _ => by kernel_rfl⟩), HSN.out, ?_⟩
            refine onlyH (o := ?o12) 11 (by kernel_rfl) ?h12 ?r12
            case h12 => simp only [aT, aS, aZ]; rfl
            intro K hK
            refine op_turn (.pointer (some ⟨w5.heap.size, 0, none⟩)) (w5.alloc (.cells #[.int .i64 0, .bool false, .slice none 0 0] 26)) rfl (by kernel_rfl) ⟨_, by simp [Act.put]; rfl, hK _ _ ⟨HSN.out.alloc _, ?_⟩⟩
            clear hK
            obtain ⟨w6, hW⟩ : ∃ Z, Z = (w5.alloc (.cells #[.int .i64 0, .bool false, .slice none 0 0] 26)) := ⟨_, rfl⟩
            have bz : Below w5.heap.size w5 w6 := by rw [hW]; exact (Below.refl _ _).alloc (Nat.le_refl _) _
            have TX0 : Blk w6 w5.heap.size #[.int .i64 0, .bool false, .slice none 0 0] 26 := by rw [hW]; exact Blk.made _ _ _
            rw [← hW]
            clear hW
            obtain ⟨Xw, hX⟩ : ∃ z, z = w5.heap.size := ⟨_, rfl⟩
            have TX : Hid (Blk w6 Xw #[.int .i64 0, .bool false, .slice none 0 0] 26 ∧ w1.heap.size ≤ Xw) := ⟨by rw [hX]; exact TX0, by have := BS.out.size; omega⟩
            have TXN : Hid (Xw ∉ Yw) := fun hx => by have := TT.out.1.lt _ hx; omega
            have HSN : Hid (Blk w6 w.heap.size cs3 33) := HSN.out.below bz
            have BZ : Hid (Below w.heap.size w w6) := Below.next BZ.out bz
            have BS : Hid (Below w1.heap.size w1 w6) := Below.next BS.out bz
            have TT : Hid (RdTu w6 (.agg cw) ra Yw ∧ Own w1.heap.size w6 Yw ∧ cw.size = 3 ∧ cw.all (·.oneCell') = true) := ⟨TT.out.1.below bz, TT.out.2.1.below TT.out.1.lt bz, TT.out.2.2⟩
            rw [← hX]
            clear hX TX0 bz
            refine takeH (o := ?o13) 12 (.int .i64 rk) ?h13 ?r13
            case h13 => simp only [aT, aS, aZ]; rfl
            refine ⟨_, by simp [Act.put]; rfl, by kernel_rfl, by kernel_rfl, by kernel_rfl, fun _ _ _ h => h, (.inl ⟨rfl, fun W _ => by kernel_rfl⟩), HSN.out, ?_⟩
            refine onlyH (o := ?o14) 13 (by kernel_rfl) ?h14 ?r14
            case h14 => simp only [aT, aS, aZ]; rfl
            intro K hK
            have lp := LP.out
            have lx := TX.out.2
            refine op_store 26 Xw #[.int .i64 0, .bool false, .slice none 0 0] cw 26 rfl rfl rfl rfl TX.out.1 (tuSize TT.out.2.2.1) TT.out.2.2.1.symm TT.out.2.2.2 ⟨_, by simp [Act.put]; rfl, hK _ _ ⟨HSN.out.setRowOther (by omega), ?_⟩⟩
            clear hK
            refine wpAnyH_done (by kernel_rfl) ?_ _
            go_wp2_with fail
            go_meet
            case rel => exact ⟨Xw, cw, Yw, rfl, rfl, below_setRow BS.out lx _, varTu_stored TX.out.1 TT.out.1 TT.out.2.2.1 TT.out.2.1 TT.out.1.lt lx TXN.out⟩
          case s8 =>
            intro K hK
            refine op_turn (.pointer (some ⟨w4.heap.size, 0, none⟩)) (w4.alloc (.cells #[.int .i64 0, .bool false, .slice none 0 0] 26)) rfl (by kernel_rfl) ⟨_, by simp [Act.put]; rfl, hK _ _ ⟨HSN.out.alloc _, ?_⟩⟩
            clear hK
            obtain ⟨w8, hW⟩ : ∃ Z, Z = (w4.alloc (.cells #[.int .i64 0, .bool false, .slice none 0 0] 26)) := ⟨_, rfl⟩
            have bz : Below w4.heap.size w4 w8 := by rw [hW]; exact (Below.refl _ _).alloc (Nat.le_refl _) _
            have TX0 : Blk w8 w4.heap.size #[.int .i64 0, .bool false, .slice none 0 0] 26 := by rw [hW]; exact Blk.made _ _ _
            rw [← hW]
            clear hW
            obtain ⟨Xw, hX⟩ : ∃ z, z = w4.heap.size := ⟨_, rfl⟩
            have TX : Hid (Blk w8 Xw #[.int .i64 0, .bool false, .slice none 0 0] 26 ∧ w1.heap.size ≤ Xw) := ⟨by rw [hX]; exact TX0, by have := BS.out.size; omega⟩
            have HSN : Hid (Blk w8 w.heap.size cs3 33) := HSN.out.below bz
            have BZ : Hid (Below w.heap.size w w8) := Below.next BZ.out bz
            have BS : Hid (Below w1.heap.size w1 w8) := Below.next BS.out bz
            have T0 : Hid (RdI w8 aT0 nT0 ss XT0) := T0.out.below bz
            have T1 : Hid (RdI w8 aT1 nT1 ws XT1) := T1.out.below bz
            have T3 : Hid (RdTu w8 zT3 s XT3) := T3.out.below bz
            rw [← hX]
            clear hX TX0 bz
            refine onlyH (o := ?o15) 7 (by kernel_rfl) ?h15 ?r15
            case h15 => simp only [aT, aS, aZ]; rfl
            intro K hK
            refine op_callT4 10 _ _ _ _ _ Try.f10 (fun v w' => ∃ z Y, v = .tuple #[.int .i64 rk, z] ∧ RdTu w' z ra Y ∧ Own w8.heap.size w' Y ∧ Below w8.heap.size w8 w') rfl rfl Try.func10 (by kernel_rfl) (by kernel_rfl) ((pick_spec_any aT0 aT1 nT0 kT0 nT1 kT1 ss ws XT0 XT1 c zT3 s XT3 w8 T0.out T1.out T3.out (by rw [← T0.out.length, HS0.out.1.length]; exact HS0.out.2) (by rw [← T1.out.length, HS1.out.1.length]; exact HS1.out.2) HF3.out).mono (by intro e w' hres; rw [← HZ.out] at hres; obtain ⟨z, Y, rfl, h1, h2, h3⟩ := hres; exact ⟨_, rfl, z, Y, rfl, h1, h2, h3⟩)) ?_
            rintro zt w9 ⟨zv, Yw, rfl, ry, oy, bz⟩
            obtain ⟨cw, rfl, szw, onw⟩ := ry.cells
            have s1 := BS.out.size
            have TXN : Hid (Xw ∉ Yw) := fun hx => by have := oy.ge _ hx; have := TX.out.1.lt; omega
            have HSN : Hid (Blk w9 w.heap.size cs3 33) := HSN.out.below bz
            have BZ : Hid (Below w.heap.size w w9) := Below.next BZ.out bz
            have BS : Hid (Below w1.heap.size w1 w9) := Below.next BS.out bz
            have TX : Hid (Blk w9 Xw #[.int .i64 0, .bool false, .slice none 0 0] 26 ∧ w1.heap.size ≤ Xw) := ⟨TX.out.1.below bz, TX.out.2⟩
            have TT : Hid (RdTu w9 (.agg cw) ra Yw ∧ Own w1.heap.size w9 Yw ∧ cw.size = 3 ∧ cw.all (·.oneCell') = true) := ⟨ry, oy.mono s1, szw, onw⟩
            refine ⟨_, by simp [Act.put]; rfl, hK _ _ ⟨HSN.out, ?_⟩⟩
            clear hK ry oy bz szw onw s1 T0 T1 T3
            refine takeH (o := ?o16) 8 (.tuple #[.int .i64 rk, .agg cw]) ?h16 ?r16
            case h16 => simp only [aT, aS, aZ]; rfl
            refine ⟨_, by simp [Act.put]; rfl, by kernel_rfl, by kernel_rfl, by kernel_rfl, fun _ _ _ h => h, (.inl ⟨rfl, fun W _ => by kernel_rfl⟩), HSN.out, ?_⟩
            refine takeH (o := ?o17) 9 (.int .i64 rk) ?h17 ?r17
            case h17 => simp only [aT, aS, aZ]; rfl
            refine ⟨_, by simp [Act.put]; rfl, by kernel_rfl, by kernel_rfl, by kernel_rfl, fun _ _ _ h => h, (.inl ⟨rfl, fun W _ => by kernel_rfl⟩), HSN.out, ?_⟩
            refine takeH (o := ?o18) 10 (.agg cw) ?h18 ?r18
            case h18 => simp only [aT, aS, aZ]; rfl
            refine ⟨_, by simp [Act.put]; rfl, by kernel_rfl, by kernel_rfl, by kernel_rfl, fun _ _ _ h => h, (.inl ⟨rfl, fun W _ => by kernel_rfl⟩), HSN.out, ?_⟩
            refine takeH (o := ?o19) 12 (.int .i64 rk) ?h19 ?r19
            case h19 => simp only [aT, aS, aZ]; rfl
            refine ⟨_, by simp [Act.put]; rfl, by kernel_rfl, by kernel_rfl, by kernel_rfl, fun _ _ _ h => h, (.inl ⟨rfl, fun W _ => by kernel_rfl⟩), HSN.out, ?_⟩
            refine onlyH (o := ?o20) 13 (by kernel_rfl) ?h20 ?r20
            case h20 => simp only [aT, aS, aZ]; rfl
            intro K hK
            have lp := LP.out
            have lx := TX.out.2
            refine op_store 26 Xw #[.int .i64 0, .bool false, .slice none 0 0] cw 26 rfl rfl rfl rfl TX.out.1 (tuSize TT.out.2.2.1) TT.out.2.2.1.symm TT.out.2.2.2 ⟨_, by simp [Act.put]; rfl, hK _ _ ⟨HSN.out.setRowOther (by omega), ?_⟩⟩
            clear hK
            refine wpAnyH_done (by kernel_rfl) ?_ _
            go_wp2_with fail
            go_meet
            case rel => exact ⟨Xw, cw, Yw, rfl, rfl, below_setRow BS.out lx _, varTu_stored TX.out.1 TT.out.1 TT.out.2.2.1 TT.out.2.1 TT.out.1.lt lx TXN.out⟩
        case s7 =>
          intro K hK
          refine op_turn (.pointer (some ⟨w3.heap.size, 0, none⟩)) (w3.alloc (.cells #[.int .i64 0, .bool false, .slice none 0 0] 26)) rfl (by kernel_rfl) ⟨_, by simp [Act.put]; rfl, hK _ _ ⟨HSN.out.alloc _, ?_⟩⟩
          clear hK
          obtain ⟨w11, hW⟩ : ∃ Z, Z = (w3.alloc (.cells #[.int .i64 0, .bool false, .slice none 0 0] 26)) := ⟨_, rfl⟩
          have bz : Below w3.heap.size w3 w11 := by rw [hW]; exact (Below.refl _ _).alloc (Nat.le_refl _) _
          have TX0 : Blk w11 w3.heap.size #[.int .i64 0, .bool false, .slice none 0 0] 26 := by rw [hW]; exact Blk.made _ _ _
          rw [← hW]
          clear hW
          obtain ⟨Xw, hX⟩ : ∃ z, z = w3.heap.size := ⟨_, rfl⟩
          have TX : Hid (Blk w11 Xw #[.int .i64 0, .bool false, .slice none 0 0] 26 ∧ w1.heap.size ≤ Xw) := ⟨by rw [hX]; exact TX0, by have := BS.out.size; omega⟩
          have HSN : Hid (Blk w11 w.heap.size cs3 33) := HSN.out.below bz
          have BZ : Hid (Below w.heap.size w w11) := Below.next BZ.out bz
          have BS : Hid (Below w1.heap.size w1 w11) := Below.next BS.out bz
          have T0 : Hid (RdI w11 aT0 nT0 ss XT0) := T0.out.below bz
          have T1 : Hid (RdI w11 aT1 nT1 ws XT1) := T1.out.below bz
          rw [← hX]
          clear hX TX0 bz
          refine onlyH (o := ?o21) 6 (by kernel_rfl) ?h21 ?r21
          case h21 => simp only [aT, aS, aZ]; rfl
          intro K hK
          refine op_call1 15 _ _ Try.f15 (fun v w' => ∃ X, RdTu w' v s X ∧ Below w11.heap.size w11 w') rfl rfl Try.func15 (by kernel_rfl) (by kernel_rfl) ((toTu_any _ s F w11 (HH3.out.1.below BZ.out) HF3.out).mono (by rintro e w' ⟨v, X, rfl, h1, _, h3⟩; exact ⟨_, rfl, X, h1, h3⟩)) ?_
          rintro zT3 w12 ⟨XT3, rz, bz⟩
          have HSN : Hid (Blk w12 w.heap.size cs3 33) := HSN.out.below bz
          have BZ : Hid (Below w.heap.size w w12) := Below.next BZ.out bz
          have BS : Hid (Below w1.heap.size w1 w12) := Below.next BS.out bz
          have T0 : Hid (RdI w12 aT0 nT0 ss XT0) := T0.out.below bz
          have T1 : Hid (RdI w12 aT1 nT1 ws XT1) := T1.out.below bz
          have TX : Hid (Blk w12 Xw #[.int .i64 0, .bool false, .slice none 0 0] 26 ∧ w1.heap.size ≤ Xw) := ⟨TX.out.1.below bz, TX.out.2⟩
          have T3 : Hid (RdTu w12 zT3 s XT3) := rz
          refine ⟨_, by simp [Act.put]; rfl, hK _ _ ⟨HSN.out, ?_⟩⟩
          clear hK rz bz
          refine onlyH (o := ?o22) 7 (by kernel_rfl) ?h22 ?r22
          case h22 => simp only [aT, aS, aZ]; rfl
          intro K hK
          refine op_callT4 10 _ _ _ _ _ Try.f10 (fun v w' => ∃ z Y, v = .tuple #[.int .i64 rk, z] ∧ RdTu w' z ra Y ∧ Own w12.heap.size w' Y ∧ Below w12.heap.size w12 w') rfl rfl Try.func10 (by kernel_rfl) (by kernel_rfl) ((pick_spec_any aT0 aT1 nT0 kT0 nT1 kT1 ss ws XT0 XT1 c zT3 s XT3 w12 T0.out T1.out T3.out (by rw [← T0.out.length, HS0.out.1.length]; exact HS0.out.2) (by rw [← T1.out.length, HS1.out.1.length]; exact HS1.out.2) HF3.out).mono (by intro e w' hres; rw [← HZ.out] at hres; obtain ⟨z, Y, rfl, h1, h2, h3⟩ := hres; exact ⟨_, rfl, z, Y, rfl, h1, h2, h3⟩)) ?_
          rintro zt w13 ⟨zv, Yw, rfl, ry, oy, bz⟩
          obtain ⟨cw, rfl, szw, onw⟩ := ry.cells
          have s1 := BS.out.size
          have TXN : Hid (Xw ∉ Yw) := fun hx => by have := oy.ge _ hx; have := TX.out.1.lt; omega
          have HSN : Hid (Blk w13 w.heap.size cs3 33) := HSN.out.below bz
          have BZ : Hid (Below w.heap.size w w13) := Below.next BZ.out bz
          have BS : Hid (Below w1.heap.size w1 w13) := Below.next BS.out bz
          have TX : Hid (Blk w13 Xw #[.int .i64 0, .bool false, .slice none 0 0] 26 ∧ w1.heap.size ≤ Xw) := ⟨TX.out.1.below bz, TX.out.2⟩
          have TT : Hid (RdTu w13 (.agg cw) ra Yw ∧ Own w1.heap.size w13 Yw ∧ cw.size = 3 ∧ cw.all (·.oneCell') = true) := ⟨ry, oy.mono s1, szw, onw⟩
          refine ⟨_, by simp [Act.put]; rfl, hK _ _ ⟨HSN.out, ?_⟩⟩
          clear hK ry oy bz szw onw s1 T0 T1 T3
          refine takeH (o := ?o23) 8 (.tuple #[.int .i64 rk, .agg cw]) ?h23 ?r23
          case h23 => simp only [aT, aS, aZ]; rfl
          refine ⟨_, by simp [Act.put]; rfl, by kernel_rfl, by kernel_rfl, by kernel_rfl, fun _ _ _ h => h, (.inl ⟨rfl, fun W _ => by kernel_rfl⟩), HSN.out, ?_⟩
          refine takeH (o := ?o24) 9 (.int .i64 rk) ?h24 ?r24
          case h24 => simp only [aT, aS, aZ]; rfl
          refine ⟨_, by simp [Act.put]; rfl, by kernel_rfl, by kernel_rfl, by kernel_rfl, fun _ _ _ h => h, (.inl ⟨rfl, fun W _ => by kernel_rfl⟩), HSN.out, ?_⟩
          refine takeH (o := ?o25) 10 (.agg cw) ?h25 ?r25
          case h25 => simp only [aT, aS, aZ]; rfl
          refine ⟨_, by simp [Act.put]; rfl, by kernel_rfl, by kernel_rfl, by kernel_rfl, fun _ _ _ h => h, (.inl ⟨rfl, fun W _ => by kernel_rfl⟩), HSN.out, ?_⟩
          refine takeH (o := ?o26) 12 (.int .i64 rk) ?h26 ?r26
          case h26 => simp only [aT, aS, aZ]; rfl
          refine ⟨_, by simp [Act.put]; rfl, by kernel_rfl, by kernel_rfl, by kernel_rfl, fun _ _ _ h => h, (.inl ⟨rfl, fun W _ => by kernel_rfl⟩), HSN.out, ?_⟩
          refine onlyH (o := ?o27) 13 (by kernel_rfl) ?h27 ?r27
          case h27 => simp only [aT, aS, aZ]; rfl
          intro K hK
          have lp := LP.out
          have lx := TX.out.2
          refine op_store 26 Xw #[.int .i64 0, .bool false, .slice none 0 0] cw 26 rfl rfl rfl rfl TX.out.1 (tuSize TT.out.2.2.1) TT.out.2.2.1.symm TT.out.2.2.2 ⟨_, by simp [Act.put]; rfl, hK _ _ ⟨HSN.out.setRowOther (by omega), ?_⟩⟩
          clear hK
          refine wpAnyH_done (by kernel_rfl) ?_ _
          go_wp2_with fail
          go_meet
          case rel => exact ⟨Xw, cw, Yw, rfl, rfl, below_setRow BS.out lx _, varTu_stored TX.out.1 TT.out.1 TT.out.2.2.1 TT.out.2.1 TT.out.1.lt lx TXN.out⟩
      case s6 =>
        intro K hK
        refine op_turn (.pointer (some ⟨w2.heap.size, 0, none⟩)) (w2.alloc (.cells #[.int .i64 0, .bool false, .slice none 0 0] 26)) rfl (by kernel_rfl) ⟨_, by simp [Act.put]; rfl, hK _ _ ⟨HSN.out.alloc _, ?_⟩⟩
        clear hK
        obtain ⟨w15, hW⟩ : ∃ Z, Z = (w2.alloc (.cells #[.int .i64 0, .bool false, .slice none 0 0] 26)) := ⟨_, rfl⟩
        have bz : Below w2.heap.size w2 w15 := by rw [hW]; exact (Below.refl _ _).alloc (Nat.le_refl _) _
        have TX0 : Blk w15 w2.heap.size #[.int .i64 0, .bool false, .slice none 0 0] 26 := by rw [hW]; exact Blk.made _ _ _
        rw [← hW]
        clear hW
        obtain ⟨Xw, hX⟩ : ∃ z, z = w2.heap.size := ⟨_, rfl⟩
        have TX : Hid (Blk w15 Xw #[.int .i64 0, .bool false, .slice none 0 0] 26 ∧ w1.heap.size ≤ Xw) := ⟨by rw [hX]; exact TX0, by have := BS.out.size; omega⟩
        have HSN : Hid (Blk w15 w.heap.size cs3 33) := HSN.out.below bz
        have BZ : Hid (Below w.heap.size w w15) := Below.next BZ.out bz
        have BS : Hid (Below w1.heap.size w1 w15) := Below.next BS.out bz
        have T0 : Hid (RdI w15 aT0 nT0 ss XT0) := T0.out.below bz
        rw [← hX]
        clear hX TX0 bz
        refine onlyH (o := ?o28) 3 (by kernel_rfl) ?h28 ?r28
        case h28 => simp only [aT, aS, aZ]; rfl
        intro K hK
        refine op_call1 21 _ _ Try.f21 (fun v w' => ∃ a n k X, v = .slice a n k ∧ RdI w' a n ws X ∧ Below w15.heap.size w15 w') rfl rfl Try.func21 (by kernel_rfl) (by kernel_rfl) ((toIntS_any a1 n1 k1 ws F1 w15 (HS1.out.1.below BZ.out) HS1.out.2).mono (by rintro e w' ⟨a, n, k, X, rfl, h1, _, h3⟩; exact ⟨_, rfl, a, n, k, X, rfl, h1, h3⟩)) ?_
        rintro _ w16 ⟨aT1, nT1, kT1, XT1, rfl, rz, bz⟩
        have HSN : Hid (Blk w16 w.heap.size cs3 33) := HSN.out.below bz
        have BZ : Hid (Below w.heap.size w w16) := Below.next BZ.out bz
        have BS : Hid (Below w1.heap.size w1 w16) := Below.next BS.out bz
        have T0 : Hid (RdI w16 aT0 nT0 ss XT0) := T0.out.below bz
        have TX : Hid (Blk w16 Xw #[.int .i64 0, .bool false, .slice none 0 0] 26 ∧ w1.heap.size ≤ Xw) := ⟨TX.out.1.below bz, TX.out.2⟩
        have T1 : Hid (RdI w16 aT1 nT1 ws XT1) := rz
        refine ⟨_, by simp [Act.put]; rfl, hK _ _ ⟨HSN.out, ?_⟩⟩
        clear hK rz bz
        refine onlyH (o := ?o29) 6 (by kernel_rfl) ?h29 ?r29
        case h29 => simp only [aT, aS, aZ]; rfl
        intro K hK
        refine op_call1 15 _ _ Try.f15 (fun v w' => ∃ X, RdTu w' v s X ∧ Below w16.heap.size w16 w') rfl rfl Try.func15 (by kernel_rfl) (by kernel_rfl) ((toTu_any _ s F w16 (HH3.out.1.below BZ.out) HF3.out).mono (by rintro e w' ⟨v, X, rfl, h1, _, h3⟩; exact ⟨_, rfl, X, h1, h3⟩)) ?_
        rintro zT3 w17 ⟨XT3, rz, bz⟩
        have HSN : Hid (Blk w17 w.heap.size cs3 33) := HSN.out.below bz
        have BZ : Hid (Below w.heap.size w w17) := Below.next BZ.out bz
        have BS : Hid (Below w1.heap.size w1 w17) := Below.next BS.out bz
        have T0 : Hid (RdI w17 aT0 nT0 ss XT0) := T0.out.below bz
        have T1 : Hid (RdI w17 aT1 nT1 ws XT1) := T1.out.below bz
        have TX : Hid (Blk w17 Xw #[.int .i64 0, .bool false, .slice none 0 0] 26 ∧ w1.heap.size ≤ Xw) := ⟨TX.out.1.below bz, TX.out.2⟩
        have T3 : Hid (RdTu w17 zT3 s XT3) := rz
        refine ⟨_, by simp [Act.put]; rfl, hK _ _ ⟨HSN.out, ?_⟩⟩
        clear hK rz bz
        refine onlyH (o := ?o30) 7 (by kernel_rfl) ?h30 ?r30
        case h30 => simp only [aT, aS, aZ]; rfl
        intro K hK
        refine op_callT4 10 _ _ _ _ _ Try.f10 (fun v w' => ∃ z Y, v = .tuple #[.int .i64 rk, z] ∧ RdTu w' z ra Y ∧ Own w17.heap.size w' Y ∧ Below w17.heap.size w17 w') rfl rfl Try.func10 (by kernel_rfl) (by kernel_rfl) ((pick_spec_any aT0 aT1 nT0 kT0 nT1 kT1 ss ws XT0 XT1 c zT3 s XT3 w17 T0.out T1.out T3.out (by rw [← T0.out.length, HS0.out.1.length]; exact HS0.out.2) (by rw [← T1.out.length, HS1.out.1.length]; exact HS1.out.2) HF3.out).mono (by intro e w' hres; rw [← HZ.out] at hres; obtain ⟨z, Y, rfl, h1, h2, h3⟩ := hres; exact ⟨_, rfl, z, Y, rfl, h1, h2, h3⟩)) ?_
        rintro zt w18 ⟨zv, Yw, rfl, ry, oy, bz⟩
        obtain ⟨cw, rfl, szw, onw⟩ := ry.cells
        have s1 := BS.out.size
        have TXN : Hid (Xw ∉ Yw) := fun hx => by have := oy.ge _ hx; have := TX.out.1.lt; omega
        have HSN : Hid (Blk w18 w.heap.size cs3 33) := HSN.out.below bz
        have BZ : Hid (Below w.heap.size w w18) := Below.next BZ.out bz
        have BS : Hid (Below w1.heap.size w1 w18) := Below.next BS.out bz
        have TX : Hid (Blk w18 Xw #[.int .i64 0, .bool false, .slice none 0 0] 26 ∧ w1.heap.size ≤ Xw) := ⟨TX.out.1.below bz, TX.out.2⟩
        have TT : Hid (RdTu w18 (.agg cw) ra Yw ∧ Own w1.heap.size w18 Yw ∧ cw.size = 3 ∧ cw.all (·.oneCell') = true) := ⟨ry, oy.mono s1, szw, onw⟩
        refine ⟨_, by simp [Act.put]; rfl, hK _ _ ⟨HSN.out, ?_⟩⟩
        clear hK ry oy bz szw onw s1 T0 T1 T3
        refine takeH (o := ?o31) 8 (.tuple #[.int .i64 rk, .agg cw]) ?h31 ?r31
        case h31 => simp only [aT, aS, aZ]; rfl
        refine ⟨_, by simp [Act.put]; rfl, by kernel_rfl, by kernel_rfl, by kernel_rfl, fun _ _ _ h => h, (.inl ⟨rfl, fun W _ => by kernel_rfl⟩), HSN.out, ?_⟩
        refine takeH (o := ?o32) 9 (.int .i64 rk) ?h32 ?r32
        case h32 => simp only [aT, aS, aZ]; rfl
        refine ⟨_, by simp [Act.put]; rfl, by kernel_rfl, by kernel_rfl, by kernel_rfl, fun _ _ _ h => h, (.inl ⟨rfl, fun W _ => by kernel_rfl⟩), HSN.out, ?_⟩
        refine takeH (o := ?o33) 10 (.agg cw) ?h33 ?r33
        case h33 => simp only [aT, aS, aZ]; rfl
        refine ⟨_, by simp [Act.put]; rfl, by kernel_rfl, by kernel_rfl, by kernel_rfl, fun _ _ _ h => h, (.inl ⟨rfl, fun W _ => by kernel_rfl⟩), HSN.out, ?_⟩
        refine takeH (o := ?o34) 12 (.int .i64 rk) ?h34 ?r34
        case h34 => simp only [aT, aS, aZ]; rfl
        refine ⟨_, by simp [Act.put]; rfl, by kernel_rfl, by kernel_rfl, by kernel_rfl, fun _ _ _ h => h, (.inl ⟨rfl, fun W _ => by kernel_rfl⟩), HSN.out, ?_⟩
        refine onlyH (o := ?o35) 13 (by kernel_rfl) ?h35 ?r35
        case h35 => simp only [aT, aS, aZ]; rfl
        intro K hK
        have lp := LP.out
        have lx := TX.out.2
        refine op_store 26 Xw #[.int .i64 0, .bool false, .slice none 0 0] cw 26 rfl rfl rfl rfl TX.out.1 (tuSize TT.out.2.2.1) TT.out.2.2.1.symm TT.out.2.2.2 ⟨_, by simp [Act.put]; rfl, hK _ _ ⟨HSN.out.setRowOther (by omega), ?_⟩⟩
        clear hK
        refine wpAnyH_done (by kernel_rfl) ?_ _
        go_wp2_with fail
        go_meet
        case rel => exact ⟨Xw, cw, Yw, rfl, rfl, below_setRow BS.out lx _, varTu_stored TX.out.1 TT.out.1 TT.out.2.2.1 TT.out.2.1 TT.out.1.lt lx TXN.out⟩
    case s5 =>
      intro K hK
      refine op_turn (.pointer (some ⟨Y0.heap.size, 0, none⟩)) (Y0.alloc (.cells #[.int .i64 0, .bool false, .slice none 0 0] 26)) rfl (by kernel_rfl) ⟨_, by simp [Act.put]; rfl, hK _ _ ⟨HSN.out.alloc _, ?_⟩⟩
      clear hK
      obtain ⟨w20, hW⟩ : ∃ Z, Z = (Y0.alloc (.cells #[.int .i64 0, .bool false, .slice none 0 0] 26)) := ⟨_, rfl⟩
      have bz : Below Y0.heap.size Y0 w20 := by rw [hW]; exact (Below.refl _ _).alloc (Nat.le_refl _) _
      have TX0 : Blk w20 Y0.heap.size #[.int .i64 0, .bool false, .slice none 0 0] 26 := by rw [hW]; exact Blk.made _ _ _
      rw [← hW]
      clear hW
      obtain ⟨Xw, hX⟩ : ∃ z, z = Y0.heap.size := ⟨_, rfl⟩
      have TX : Hid (Blk w20 Xw #[.int .i64 0, .bool false, .slice none 0 0] 26 ∧ w1.heap.size ≤ Xw) := ⟨by rw [hX]; exact TX0, by have := BS.out.size; omega⟩
      have HSN : Hid (Blk w20 w.heap.size cs3 33) := HSN.out.below bz
      have BZ : Hid (Below w.heap.size w w20) := Below.next BZ.out bz
      have BS : Hid (Below w1.heap.size w1 w20) := Below.next BS.out bz
      rw [← hX]
      clear hX TX0 bz
      refine onlyH (o := ?o36) 1 (by kernel_rfl) ?h36 ?r36
      case h36 => simp only [aT, aS, aZ]; rfl
      intro K hK
      refine op_call1 21 _ _ Try.f21 (fun v w' => ∃ a n k X, v = .slice a n k ∧ RdI w' a n ss X ∧ Below w20.heap.size w20 w') rfl rfl Try.func21 (by kernel_rfl) (by kernel_rfl) ((toIntS_any a0 n0 k0 ss F0 w20 (HS0.out.1.below BZ.out) HS0.out.2).mono (by rintro e w' ⟨a, n, k, X, rfl, h1, _, h3⟩; exact ⟨_, rfl, a, n, k, X, rfl, h1, h3⟩)) ?_
      rintro _ w21 ⟨aT0, nT0, kT0, XT0, rfl, rz, bz⟩
      have HSN : Hid (Blk w21 w.heap.size cs3 33) := HSN.out.below bz
      have BZ : Hid (Below w.heap.size w w21) := Below.next BZ.out bz
      have BS : Hid (Below w1.heap.size w1 w21) := Below.next BS.out bz
      have TX : Hid (Blk w21 Xw #[.int .i64 0, .bool false, .slice none 0 0] 26 ∧ w1.heap.size ≤ Xw) := ⟨TX.out.1.below bz, TX.out.2⟩
      have T0 : Hid (RdI w21 aT0 nT0 ss XT0) := rz
      refine ⟨_, by simp [Act.put]; rfl, hK _ _ ⟨HSN.out, ?_⟩⟩
      clear hK rz bz
      refine onlyH (o := ?o37) 3 (by kernel_rfl) ?h37 ?r37
      case h37 => simp only [aT, aS, aZ]; rfl
      intro K hK
      refine op_call1 21 _ _ Try.f21 (fun v w' => ∃ a n k X, v = .slice a n k ∧ RdI w' a n ws X ∧ Below w21.heap.size w21 w') rfl rfl Try.func21 (by kernel_rfl) (by kernel_rfl) ((toIntS_any a1 n1 k1 ws F1 w21 (HS1.out.1.below BZ.out) HS1.out.2).mono (by rintro e w' ⟨a, n, k, X, rfl, h1, _, h3⟩; exact ⟨_, rfl, a, n, k, X, rfl, h1, h3⟩)) ?_
      rintro _ w22 ⟨aT1, nT1, kT1, XT1, rfl, rz, bz⟩
      have HSN : Hid (Blk w22 w.heap.size cs3 33) := HSN.out.below bz
      have BZ : Hid (Below w.heap.size w w22) := Below.next BZ.out bz
      have BS : Hid (Below w1.heap.size w1 w22) := Below.next BS.out bz
      have T0 : Hid (RdI w22 aT0 nT0 ss XT0) := T0.out.below bz
      have TX : Hid (Blk w22 Xw #[.int .i64 0, .bool false, .slice none 0 0] 26 ∧ w1.heap.size ≤ Xw) := ⟨TX.out.1.below bz, TX.out.2⟩
      have T1 : Hid (RdI w22 aT1 nT1 ws XT1) := rz
      refine ⟨_, by simp [Act.put]; rfl, hK _ _ ⟨HSN.out, ?_⟩⟩
      clear hK rz bz
      refine onlyH (o := ?o38) 6 (by kernel_rfl) ?h38 ?r38
      case h38 => simp only [aT, aS, aZ]; rfl
      intro K hK
      refine op_call1 15 _ _ Try.f15 (fun v w' => ∃ X, RdTu w' v s X ∧ Below w22.heap.size w22 w') rfl rfl Try.func15 (by kernel_rfl) (by kernel_rfl) ((toTu_any _ s F w22 (HH3.out.1.below BZ.out) HF3.out).mono (by rintro e w' ⟨v, X, rfl, h1, _, h3⟩; exact ⟨_, rfl, X, h1, h3⟩)) ?_
      rintro zT3 w23 ⟨XT3, rz, bz⟩
      have HSN : Hid (Blk w23 w.heap.size cs3 33) := HSN.out.below bz
      have BZ : Hid (Below w.heap.size w w23) := Below.next BZ.out bz
      have BS : Hid (Below w1.heap.size w1 w23) := Below.next BS.out bz
      have T0 : Hid (RdI w23 aT0 nT0 ss XT0) := T0.out.below bz
      have T1 : Hid (RdI w23 aT1 nT1 ws XT1) := T1.out.below bz
      have TX : Hid (Blk w23 Xw #[.int .i64 0, .bool false, .slice none 0 0] 26 ∧ w1.heap.size ≤ Xw) := ⟨TX.out.1.below bz, TX.out.2⟩
      have T3 : Hid (RdTu w23 zT3 s XT3) := rz
      refine ⟨_, by simp [Act.put]; rfl, hK _ _ ⟨HSN.out, ?_⟩⟩
      clear hK rz bz
      refine onlyH (o := ?o39) 7 (by kernel_rfl) ?h39 ?r39
      case h39 => simp only [aT, aS, aZ]; rfl
      intro K hK
      refine op_callT4 10 _ _ _ _ _ Try.f10 (fun v w' => ∃ z Y, v = .tuple #[.int .i64 rk, z] ∧ RdTu w' z ra Y ∧ Own w23.heap.size w' Y ∧ Below w23.heap.size w23 w') rfl rfl Try.func10 (by kernel_rfl) (by kernel_rfl) ((pick_spec_any aT0 aT1 nT0 kT0 nT1 kT1 ss ws XT0 XT1 c zT3 s XT3 w23 T0.out T1.out T3.out (by rw [← T0.out.length, HS0.out.1.length]; exact HS0.out.2) (by rw [← T1.out.length, HS1.out.1.length]; exact HS1.out.2) HF3.out).mono (by intro e w' hres; rw [← HZ.out] at hres; obtain ⟨z, Y, rfl, h1, h2, h3⟩ := hres; exact ⟨_, rfl, z, Y, rfl, h1, h2, h3⟩)) ?_
      rintro zt w24 ⟨zv, Yw, rfl, ry, oy, bz⟩
      obtain ⟨cw, rfl, szw, onw⟩ := ry.cells
      have s1 := BS.out.size
      have TXN : Hid (Xw ∉ Yw) := fun hx => by have := oy.ge _ hx; have := TX.out.1.lt; omega
      have HSN : Hid (Blk w24 w.heap.size cs3 33) := HSN.out.below bz
      have BZ : Hid (Below w.heap.size w w24) := Below.next BZ.out bz
      have BS : Hid (Below w1.heap.size w1 w24) := Below.next BS.out bz
      have TX : Hid (Blk w24 Xw #[.int .i64 0, .bool false, .slice none 0 0] 26 ∧ w1.heap.size ≤ Xw) := ⟨TX.out.1.below bz, TX.out.2⟩
      have TT : Hid (RdTu w24 (.agg cw) ra Yw ∧ Own w1.heap.size w24 Yw ∧ cw.size = 3 ∧ cw.all (·.oneCell') = true) := ⟨ry, oy.mono s1, szw, onw⟩
      refine ⟨_, by simp [Act.put]; rfl, hK _ _ ⟨HSN.out, ?_⟩⟩
      clear hK ry oy bz szw onw s1 T0 T1 T3
      refine takeH (o := ?o40) 8 (.tuple #[.int .i64 rk, .agg cw]) ?h40 ?r40
      case h40 => simp only [aT, aS, aZ]; rfl
      refine ⟨_, by simp [Act.put]; rfl, by kernel_rfl, by kernel_rfl, by kernel_rfl, fun _ _ _ h => h, (.inl ⟨rfl, fun W _ => by kernel_rfl⟩), HSN.out, ?_⟩
      refine takeH (o := ?o41) 9 (.int .i64 rk) ?h41 ?r41
      case h41 => simp only [aT, aS, aZ]; rfl
      refine ⟨_, by simp [Act.put]; rfl, by kernel_rfl, by kernel_rfl, by kernel_rfl, fun _ _ _ h => h, (.inl ⟨rfl, fun W _ => by kernel_rfl⟩), HSN.out, ?_⟩
      refine takeH (o := ?o42) 10 (.agg cw) ?h42 ?r42
      case h42 => simp only [aT, aS, aZ]; rfl
      refine ⟨_, by simp [Act.put]; rfl, by kernel_rfl, by kernel_rfl, by kernel_rfl, fun _ _ _ h => h, (.inl ⟨rfl, fun W _ => by kernel_rfl⟩), HSN.out, ?_⟩
      refine takeH (o := ?o43) 12 (.int .i64 rk) ?h43 ?r43
      case h43 => simp only [aT, aS, aZ]; rfl
      refine ⟨_, by simp [Act.put]; rfl, by kernel_rfl, by kernel_rfl, by kernel_rfl, fun _ _ _ h => h, (.inl ⟨rfl, fun W _ => by kernel_rfl⟩), HSN.out, ?_⟩
      refine onlyH (o := ?o44) 13 (by kernel_rfl) ?h44 ?r44
      case h44 => simp only [aT, aS, aZ]; rfl
      intro K hK
      have lp := LP.out
      have lx := TX.out.2
      refine op_store 26 Xw #[.int .i64 0, .bool false, .slice none 0 0] cw 26 rfl rfl rfl rfl TX.out.1 (tuSize TT.out.2.2.1) TT.out.2.2.1.symm TT.out.2.2.2 ⟨_, by simp [Act.put]; rfl, hK _ _ ⟨HSN.out.setRowOther (by omega), ?_⟩⟩
      clear hK
      refine wpAnyH_done (by kernel_rfl) ?_ _
      go_wp2_with fail
      go_meet
      case rel => exact ⟨Xw, cw, Yw, rfl, rfl, below_setRow BS.out lx _, varTu_stored TX.out.1 TT.out.1 TT.out.2.2.1 TT.out.2.1 TT.out.1.lt lx TXN.out⟩
  case rest =>
    obtain ⟨gw, cw, Yw, rfl, rfl, hbw, hvar⟩ := hcut
    obtain ⟨w26, hWn⟩ : ∃ W, W = wc := ⟨_, rfl⟩
    rw [← hWn] at hbw hvar ⊢
    clear hWn
    have BX3 : Hid (Blk w26 w.heap.size cs3 33) := BX3.out.below hbw
    have BEL : Hid (Below w.heap.size w w26) := Below.next BEL.out hbw
    have Vw : Hid (VarTu w26 w1.heap.size w26.heap.size gw cw ra Yw) := hvar
    have O1 : Hid (w1.heap.size ≤ w26.heap.size) := by show _ ≤ _; exact hbw.size
    clear hvar hbw LP
    go_wp2_with fail
    refine (toIntS_any _ _ _ ss F0 _ (HS0.out.1.below BEL.out) HS0.out.2).mono ?_
    rintro e w27 ⟨ax0, nx0, kx0, Yx0, rfl, ry, oy, bz⟩
    have BX3 : Hid (Blk w27 w.heap.size cs3 33) := BX3.out.below bz
    have BEL : Hid (Below w.heap.size w w27) := Below.next BEL.out bz
    have Vw : Hid (VarTu w27 w1.heap.size w26.heap.size gw cw ra Yw) := Vw.out.below bz
    have Ix0 : Hid (RdI w27 ax0 nx0 ss Yx0 ∧ Own w26.heap.size w27 Yx0 ∧ ∀ b ∈ Yx0, b < w27.heap.size) := ⟨ry, oy, ry.lt⟩
    have O2 : Hid (w26.heap.size ≤ w27.heap.size) := by show _ ≤ _; have := bz.size; omega
    clear ry oy bz
    have HNx0 : Hid (nx0 ≤ 1048576) := by show _ ≤ _; rw [← Ix0.out.1.length, HS0.out.1.length]; exact HS0.out.2
    go_wp2_with fail
    refine (toIntS_any _ _ _ ws F1 _ (HS1.out.1.below BEL.out) HS1.out.2).mono ?_
    rintro e w28 ⟨ax1, nx1, kx1, Yx1, rfl, ry, oy, bz⟩
    have BX3 : Hid (Blk w28 w.heap.size cs3 33) := BX3.out.below bz
    have BEL : Hid (Below w.heap.size w w28) := Below.next BEL.out bz
    have Vw : Hid (VarTu w28 w1.heap.size w26.heap.size gw cw ra Yw) := Vw.out.below bz
    have Ix0 : Hid (RdI w28 ax0 nx0 ss Yx0 ∧ Own w26.heap.size w28 Yx0 ∧ ∀ b ∈ Yx0, b < w27.heap.size) := ⟨Ix0.out.1.below bz, Ix0.out.2.1.below Ix0.out.1.lt bz, Ix0.out.2.2⟩
    have Ix1 : Hid (RdI w28 ax1 nx1 ws Yx1 ∧ Own w27.heap.size w28 Yx1 ∧ ∀ b ∈ Yx1, b < w28.heap.size) := ⟨ry, oy, ry.lt⟩
    have O3 : Hid (w27.heap.size ≤ w28.heap.size) := by show _ ≤ _; have := bz.size; omega
    clear ry oy bz
    have HNx1 : Hid (nx1 ≤ 1048576) := by show _ ≤ _; rw [← Ix1.out.1.length, HS1.out.1.length]; exact HS1.out.2
    go_wp2_with (first | go_skip | (with_reducible refine stopLoad 33 rfl ?_) | (with_reducible refine stopLoad 26 rfl ?_) | (with_reducible refine stopStore 26 rfl ?_))
    refine load_any 33 (w.heap.size) cs3 33 _ BX3.out rfl rfl rfl Try.underlying33 rfl (ltuSize HC3.out) ?_
    go_wp2_with fail
    refine (toTu_any _ s F _ (HH3.out.1.below BEL.out) HF3.out).mono ?_
    rintro e w29 ⟨zx3, Xx3, rfl, rz, oz, bz⟩
    have BX3 : Hid (Blk w29 w.heap.size cs3 33) := BX3.out.below bz
    have BEL : Hid (Below w.heap.size w w29) := Below.next BEL.out bz
    have Vw : Hid (VarTu w29 w1.heap.size w26.heap.size gw cw ra Yw) := Vw.out.below bz
    have Ix0 : Hid (RdI w29 ax0 nx0 ss Yx0 ∧ Own w26.heap.size w29 Yx0 ∧ ∀ b ∈ Yx0, b < w27.heap.size) := ⟨Ix0.out.1.below bz, Ix0.out.2.1.below Ix0.out.1.lt bz, Ix0.out.2.2⟩
    have Ix1 : Hid (RdI w29 ax1 nx1 ws Yx1 ∧ Own w27.heap.size w29 Yx1 ∧ ∀ b ∈ Yx1, b < w28.heap.size) := ⟨Ix1.out.1.below bz, Ix1.out.2.1.below Ix1.out.1.lt bz, Ix1.out.2.2⟩
    have Tx3 : Hid (RdTu w29 zx3 s Xx3 ∧ Own w28.heap.size w29 Xx3 ∧ Below w28.heap.size w28 w29) := ⟨rz, oz, bz⟩
    have O4 : Hid (w28.heap.size ≤ w29.heap.size) := by show _ ≤ _; exact bz.size
    clear rz oz bz
    obtain ⟨cx3, rfl, szx3, onx3⟩ := Tx3.out.1.cells
    have SZ : Hid (cx3.size = 3 ∧ cx3.all (·.oneCell') = true) := ⟨szx3, onx3⟩
    clear szx3 onx3
    go_wp2_with (first | go_skip | (with_reducible refine stopLoad 33 rfl ?_) | (with_reducible refine stopLoad 26 rfl ?_) | (with_reducible refine stopStore 26 rfl ?_))
    refine store_fresh 26 w29.heap.size rfl #[.int .i64 0, .bool false, .slice none 0 0] cx3 26 rfl rfl rfl rfl (tuSize SZ.out.1) SZ.out.1.symm SZ.out.2 ?_
    intro w30 hg hb
    have BX3 : Hid (Blk w30 w.heap.size cs3 33) := BX3.out.below hb
    have BEL : Hid (Below w.heap.size w w30) := Below.next BEL.out hb
    have Vw : Hid (VarTu w30 w1.heap.size w26.heap.size gw cw ra Yw) := Vw.out.below hb
    have Ix0 : Hid (RdI w30 ax0 nx0 ss Yx0 ∧ Own w26.heap.size w30 Yx0 ∧ ∀ b ∈ Yx0, b < w27.heap.size) := ⟨Ix0.out.1.below hb, Ix0.out.2.1.below Ix0.out.1.lt hb, Ix0.out.2.2⟩
    have Ix1 : Hid (RdI w30 ax1 nx1 ws Yx1 ∧ Own w27.heap.size w30 Yx1 ∧ ∀ b ∈ Yx1, b < w28.heap.size) := ⟨Ix1.out.1.below hb, Ix1.out.2.1.below Ix1.out.1.lt hb, Ix1.out.2.2⟩
    have Vx3 : Hid (VarTu w30 w28.heap.size w30.heap.size w29.heap.size cx3 s Xx3) := VarTu.fresh Tx3.out.1 Tx3.out.2.1 Tx3.out.2.2 SZ.out.1 hg hb
    have O5 : Hid (w28.heap.size ≤ w30.heap.size) := by show _ ≤ _; have := Tx3.out.2.2.size; have := hb.size; omega
    clear hg hb Tx3 SZ
    go_wp2_with (first | go_skip | (with_reducible refine stopLoad 33 rfl ?_) | (with_reducible refine stopLoad 26 rfl ?_) | (with_reducible refine stopStore 26 rfl ?_))
    refine load_any 26 _ cx3 26 _ Vx3.out.blk rfl rfl rfl Try.underlying26 rfl (tuSize Vx3.out.sz) ?_
    go_wp2_with fail
    refine (pick_impl_any _ _ _ _ _ _ ss ws Yx0 Yx1 c _ s Xx3 _ Ix0.out.1 Ix1.out.1 Vx3.out.rd HNx0.out HNx1.out HF3.out).mono ?_
    intro e w31 hres
    rw [← HZ.out] at hres
    obtain ⟨zv, Yg, rfl, ry, oy, bz⟩ := hres
    obtain ⟨cg, rfl, szg, ong⟩ := ry.cells
    have BX3 : Hid (Blk w31 w.heap.size cs3 33) := BX3.out.below bz
    have BEL : Hid (Below w.heap.size w w31) := Below.next BEL.out bz
    have Vw : Hid (VarTu w31 w1.heap.size w26.heap.size gw cw ra Yw) := Vw.out.below bz
    have Ix0 : Hid (RdI w31 ax0 nx0 ss Yx0 ∧ Own w26.heap.size w31 Yx0 ∧ ∀ b ∈ Yx0, b < w27.heap.size) := ⟨Ix0.out.1.below bz, Ix0.out.2.1.below Ix0.out.1.lt bz, Ix0.out.2.2⟩
    have Ix1 : Hid (RdI w31 ax1 nx1 ws Yx1 ∧ Own w27.heap.size w31 Yx1 ∧ ∀ b ∈ Yx1, b < w28.heap.size) := ⟨Ix1.out.1.below bz, Ix1.out.2.1.below Ix1.out.1.lt bz, Ix1.out.2.2⟩
    have Vx3 : Hid (VarTu w31 w28.heap.size w30.heap.size w29.heap.size cx3 s Xx3) := Vx3.out.below bz
    have TT : Hid (RdTu w31 (.agg cg) ra Yg ∧ Own w30.heap.size w31 Yg ∧ Below w30.heap.size w30 w31 ∧ cg.size = 3 ∧ cg.all (·.oneCell') = true) := ⟨ry, oy, bz, szg, ong⟩
    clear ry oy bz szg ong
    go_wp2_with (first | go_skip | (with_reducible refine stopLoad 33 rfl ?_) | (with_reducible refine stopLoad 26 rfl ?_) | (with_reducible refine stopStore 26 rfl ?_))
    refine store_fresh 26 w31.heap.size rfl #[.int .i64 0, .bool false, .slice none 0 0] cg 26 rfl rfl rfl rfl (tuSize TT.out.2.2.2.1) TT.out.2.2.2.1.symm TT.out.2.2.2.2 ?_
    intro w32 hg hb
    have BX3 : Hid (Blk w32 w.heap.size cs3 33) := BX3.out.below hb
    have BEL : Hid (Below w.heap.size w w32) := Below.next BEL.out hb
    have Vw : Hid (VarTu w32 w1.heap.size w26.heap.size gw cw ra Yw) := Vw.out.below hb
    have Ix0 : Hid (RdI w32 ax0 nx0 ss Yx0 ∧ Own w26.heap.size w32 Yx0 ∧ ∀ b ∈ Yx0, b < w27.heap.size) := ⟨Ix0.out.1.below hb, Ix0.out.2.1.below Ix0.out.1.lt hb, Ix0.out.2.2⟩
    have Ix1 : Hid (RdI w32 ax1 nx1 ws Yx1 ∧ Own w27.heap.size w32 Yx1 ∧ ∀ b ∈ Yx1, b < w28.heap.size) := ⟨Ix1.out.1.below hb, Ix1.out.2.1.below Ix1.out.1.lt hb, Ix1.out.2.2⟩
    have Vx3 : Hid (VarTu w32 w28.heap.size w30.heap.size w29.heap.size cx3 s Xx3) := Vx3.out.below hb
    have Vg : Hid (VarTu w32 w30.heap.size w32.heap.size w31.heap.size cg ra Yg) := VarTu.fresh TT.out.1 TT.out.2.1 TT.out.2.2.1 TT.out.2.2.2.1 hg hb
    have O6 : Hid (w30.heap.size ≤ w32.heap.size) := by show _ ≤ _; have := TT.out.2.2.1.size; have := hb.size; omega
    clear hg hb TT
    go_wp2_with (first | go_skip | (with_reducible refine stopLoad 33 rfl ?_) | (with_reducible refine stopLoad 26 rfl ?_) | (with_reducible refine stopStore 26 rfl ?_))
    refine load_any 26 _ cg 26 _ Vg.out.blk rfl rfl rfl Try.underlying26 rfl (tuSize Vg.out.sz) ?_
    go_wp2_with (first | go_skip | (with_reducible refine stopLoad 33 rfl ?_) | (with_reducible refine stopLoad 26 rfl ?_) | (with_reducible refine stopStore 26 rfl ?_))
    refine load_any 26 _ cw 26 _ Vw.out.blk rfl rfl rfl Try.underlying26 rfl (tuSize Vw.out.sz) ?_
    go_wp2_with fail
    refine (eqTu_any _ _ ra ra Yg Yw _ Vg.out.rd Vw.out.rd HM.out.1 HM.out.1).mono ?_
    rintro e w33 ⟨rfl, hb⟩
    have BX3 : Hid (Blk w33 w.heap.size cs3 33) := BX3.out.below hb
    have BEL : Hid (Below w.heap.size w w33) := Below.next BEL.out hb
    have Vw : Hid (VarTu w33 w1.heap.size w26.heap.size gw cw ra Yw) := Vw.out.below hb
    have Ix0 : Hid (RdI w33 ax0 nx0 ss Yx0 ∧ Own w26.heap.size w33 Yx0 ∧ ∀ b ∈ Yx0, b < w27.heap.size) := ⟨Ix0.out.1.below hb, Ix0.out.2.1.below Ix0.out.1.lt hb, Ix0.out.2.2⟩
    have Ix1 : Hid (RdI w33 ax1 nx1 ws Yx1 ∧ Own w27.heap.size w33 Yx1 ∧ ∀ b ∈ Yx1, b < w28.heap.size) := ⟨Ix1.out.1.below hb, Ix1.out.2.1.below Ix1.out.1.lt hb, Ix1.out.2.2⟩
    have Vx3 : Hid (VarTu w33 w28.heap.size w30.heap.size w29.heap.size cx3 s Xx3) := Vx3.out.below hb
    have Vg : Hid (VarTu w33 w30.heap.size w32.heap.size w31.heap.size cg ra Yg) := Vg.out.below hb
    clear hb
    have hdec : decide (ra = ra) = true := by simp
    rw [hdec]
    clear hdec
    go_wp2_with fail
    refine (toIntS_any _ _ _ ss F0 _ (HS0.out.1.below BEL.out) HS0.out.2).mono ?_
    rintro e w34 ⟨aq, nq, kq, Yq, rfl, rq, oq, bz⟩
    have BX3 : Hid (Blk w34 w.heap.size cs3 33) := BX3.out.below bz
    have BEL : Hid (Below w.heap.size w w34) := Below.next BEL.out bz
    have Vw : Hid (VarTu w34 w1.heap.size w26.heap.size gw cw ra Yw) := Vw.out.below bz
    have Ix0 : Hid (RdI w34 ax0 nx0 ss Yx0 ∧ Own w26.heap.size w34 Yx0 ∧ ∀ b ∈ Yx0, b < w27.heap.size) := ⟨Ix0.out.1.below bz, Ix0.out.2.1.below Ix0.out.1.lt bz, Ix0.out.2.2⟩
    have Ix1 : Hid (RdI w34 ax1 nx1 ws Yx1 ∧ Own w27.heap.size w34 Yx1 ∧ ∀ b ∈ Yx1, b < w28.heap.size) := ⟨Ix1.out.1.below bz, Ix1.out.2.1.below Ix1.out.1.lt bz, Ix1.out.2.2⟩
    have Vx3 : Hid (VarTu w34 w28.heap.size w30.heap.size w29.heap.size cx3 s Xx3) := Vx3.out.below bz
    have Vg : Hid (VarTu w34 w30.heap.size w32.heap.size w31.heap.size cg ra Yg) := Vg.out.below bz
    have RQ : Hid (RdI w34 aq nq ss Yq ∧ nq ≤ 1048576) := ⟨rq, by rw [← rq.length, HS0.out.1.length]; exact HS0.out.2⟩
    clear rq oq bz
    go_wp2_with fail
    refine (eqIntS_any _ _ _ _ _ _ ss ss Yx0 Yq _ Ix0.out.1 RQ.out.1 (by have := HNx0.out; omega) (by have := RQ.out.2; omega)).mono ?_
    rintro e w35 ⟨rfl, hb⟩
    have BX3 : Hid (Blk w35 w.heap.size cs3 33) := BX3.out.below hb
    have BEL : Hid (Below w.heap.size w w35) := Below.next BEL.out hb
    have Vw : Hid (VarTu w35 w1.heap.size w26.heap.size gw cw ra Yw) := Vw.out.below hb
    have Ix0 : Hid (RdI w35 ax0 nx0 ss Yx0 ∧ Own w26.heap.size w35 Yx0 ∧ ∀ b ∈ Yx0, b < w27.heap.size) := ⟨Ix0.out.1.below hb, Ix0.out.2.1.below Ix0.out.1.lt hb, Ix0.out.2.2⟩
    have Ix1 : Hid (RdI w35 ax1 nx1 ws Yx1 ∧ Own w27.heap.size w35 Yx1 ∧ ∀ b ∈ Yx1, b < w28.heap.size) := ⟨Ix1.out.1.below hb, Ix1.out.2.1.below Ix1.out.1.lt hb, Ix1.out.2.2⟩
    have Vx3 : Hid (VarTu w35 w28.heap.size w30.heap.size w29.heap.size cx3 s Xx3) := Vx3.out.below hb
    have Vg : Hid (VarTu w35 w30.heap.size w32.heap.size w31.heap.size cg ra Yg) := Vg.out.below hb
    clear hb RQ
    have hdec : decide (ss = ss) = true := by simp
    rw [hdec]
    clear hdec
    go_wp2_with fail
    refine (toIntS_any _ _ _ ws F1 _ (HS1.out.1.below BEL.out) HS1.out.2).mono ?_
    rintro e w36 ⟨aq, nq, kq, Yq, rfl, rq, oq, bz⟩
    have BX3 : Hid (Blk w36 w.heap.size cs3 33) := BX3.out.below bz
    have BEL : Hid (Below w.heap.size w w36) := Below.next BEL.out bz
    have Vw : Hid (VarTu w36 w1.heap.size w26.heap.size gw cw ra Yw) := Vw.out.below bz
    have Ix0 : Hid (RdI w36 ax0 nx0 ss Yx0 ∧ Own w26.heap.size w36 Yx0 ∧ ∀ b ∈ Yx0, b < w27.heap.size) := ⟨Ix0.out.1.below bz, Ix0.out.2.1.below Ix0.out.1.lt bz, Ix0.out.2.2⟩
    have Ix1 : Hid (RdI w36 ax1 nx1 ws Yx1 ∧ Own w27.heap.size w36 Yx1 ∧ ∀ b ∈ Yx1, b < w28.heap.size) := ⟨Ix1.out.1.below bz, Ix1.out.2.1.below Ix1.out.1.lt bz, Ix1.out.2.2⟩
    have Vx3 : Hid (VarTu w36 w28.heap.size w30.heap.size w29.heap.size cx3 s Xx3) := Vx3.out.below bz
    have Vg : Hid (VarTu w36 w30.heap.size w32.heap.size w31.heap.size cg ra Yg) := Vg.out.below bz
    have RQ : Hid (RdI w36 aq nq ws Yq ∧ nq ≤ 1048576) := ⟨rq, by rw [← rq.length, HS1.out.1.length]; exact HS1.out.2⟩
    clear rq oq bz
    go_wp2_with fail
    refine (eqIntS_any _ _ _ _ _ _ ws ws Yx1 Yq _ Ix1.out.1 RQ.out.1 (by have := HNx1.out; omega) (by have := RQ.out.2; omega)).mono ?_
    rintro e w37 ⟨rfl, hb⟩
    have BX3 : Hid (Blk w37 w.heap.size cs3 33) := BX3.out.below hb
    have BEL : Hid (Below w.heap.size w w37) := Below.next BEL.out hb
    have Vw : Hid (VarTu w37 w1.heap.size w26.heap.size gw cw ra Yw) := Vw.out.below hb
    have Ix0 : Hid (RdI w37 ax0 nx0 ss Yx0 ∧ Own w26.heap.size w37 Yx0 ∧ ∀ b ∈ Yx0, b < w27.heap.size) := ⟨Ix0.out.1.below hb, Ix0.out.2.1.below Ix0.out.1.lt hb, Ix0.out.2.2⟩
    have Ix1 : Hid (RdI w37 ax1 nx1 ws Yx1 ∧ Own w27.heap.size w37 Yx1 ∧ ∀ b ∈ Yx1, b < w28.heap.size) := ⟨Ix1.out.1.below hb, Ix1.out.2.1.below Ix1.out.1.lt hb, Ix1.out.2.2⟩
    have Vx3 : Hid (VarTu w37 w28.heap.size w30.heap.size w29.heap.size cx3 s Xx3) := Vx3.out.below hb
    have Vg : Hid (VarTu w37 w30.heap.size w32.heap.size w31.heap.size cg ra Yg) := Vg.out.below hb
    clear hb RQ
    have hdec : decide (ws = ws) = true := by simp
    rw [hdec]
    clear hdec
    go_wp2_with fail
    have BD := (Below.refl w37.heap.size w37).drew
    obtain ⟨Y20, hY20⟩ : ∃ Y, Y = w37.drew := ⟨_, rfl⟩
    rw [← hY20] at BD
    have BX3 : Hid (Blk Y20 w.heap.size cs3 33) := BX3.out.below BD
    have BEL : Hid (Below w.heap.size w Y20) := Below.next BEL.out BD
    have Vw : Hid (VarTu Y20 w1.heap.size w26.heap.size gw cw ra Yw) := Vw.out.below BD
    have Ix0 : Hid (RdI Y20 ax0 nx0 ss Yx0 ∧ Own w26.heap.size Y20 Yx0 ∧ ∀ b ∈ Yx0, b < w27.heap.size) := ⟨Ix0.out.1.below BD, Ix0.out.2.1.below Ix0.out.1.lt BD, Ix0.out.2.2⟩
    have Ix1 : Hid (RdI Y20 ax1 nx1 ws Yx1 ∧ Own w27.heap.size Y20 Yx1 ∧ ∀ b ∈ Yx1, b < w28.heap.size) := ⟨Ix1.out.1.below BD, Ix1.out.2.1.below Ix1.out.1.lt BD, Ix1.out.2.2⟩
    have Vx3 : Hid (VarTu Y20 w28.heap.size w30.heap.size w29.heap.size cx3 s Xx3) := Vx3.out.below BD
    have Vg : Hid (VarTu Y20 w30.heap.size w32.heap.size w31.heap.size cg ra Yg) := Vg.out.below BD
    refine wp_region_held (S := fun W => Blk W (w.heap.size) cs3 33 ∧ Blk W (w29.heap.size) cx3 26) (by kernel_rfl) ?_
    change wpAnyH _ _ _ _ _ _ _ _ (World.drew _)
    rw [← hY20]
    clear hY20 BD
    refine takeH (o := ?o45) 0 (.agg cx3) ?h45 ?r45
    case h45 => simp only [aT, aZ]; rfl
    refine ⟨_, by simp [Act.put]; rfl, by kernel_rfl, by kernel_rfl, by kernel_rfl, fun _ _ _ h => h, (yields_whole 26 _ cx3 26 _ rfl rfl rfl Try.underlying26 rfl (tuSize Vx3.out.sz) (fun W hW => hW.2)), ⟨BX3.out, Vx3.out.blk⟩, ?_⟩
    refine takeH (o := ?o46) 1 (.agg cs3) ?h46 ?r46
    case h46 => simp only [aT, aS, aZ]; rfl
    refine ⟨_, by simp [Act.put]; rfl, by kernel_rfl, by kernel_rfl, by kernel_rfl, fun _ _ _ h => h, (yields_whole 33 _ cs3 33 _ rfl rfl rfl Try.underlying33 rfl (ltuSize HC3.out) (fun W hW => hW.1)), ⟨BX3.out, Vx3.out.blk⟩, ?_⟩
    refine onlyH (o := ?o47) 2 (by kernel_rfl) ?h47 ?r47
    case h47 => simp only [aT, aS, aZ]; rfl
    intro K hK
    refine op_call1 15 _ _ Try.f15 (fun v w' => ∃ X, RdTu w' v s X ∧ Below Y20.heap.size Y20 w') rfl rfl Try.func15 (by kernel_rfl) (by kernel_rfl) ((toTu_any _ s F Y20 (HH3.out.1.below BEL.out) HF3.out).mono (by rintro e w' ⟨v, X, rfl, h1, _, h3⟩; exact ⟨_, rfl, X, h1, h3⟩)) ?_
    rintro zq w38 ⟨Xq, rz, bz⟩
    have BX3 : Hid (Blk w38 w.heap.size cs3 33) := BX3.out.below bz
    have BEL : Hid (Below w.heap.size w w38) := Below.next BEL.out bz
    have Vw : Hid (VarTu w38 w1.heap.size w26.heap.size gw cw ra Yw) := Vw.out.below bz
    have Ix0 : Hid (RdI w38 ax0 nx0 ss Yx0 ∧ Own w26.heap.size w38 Yx0 ∧ ∀ b ∈ Yx0, b < w27.heap.size) := ⟨Ix0.out.1.below bz, Ix0.out.2.1.below Ix0.out.1.lt bz, Ix0.out.2.2⟩
    have Ix1 : Hid (RdI w38 ax1 nx1 ws Yx1 ∧ Own w27.heap.size w38 Yx1 ∧ ∀ b ∈ Yx1, b < w28.heap.size) := ⟨Ix1.out.1.below bz, Ix1.out.2.1.below Ix1.out.1.lt bz, Ix1.out.2.2⟩
    have Vx3 : Hid (VarTu w38 w28.heap.size w30.heap.size w29.heap.size cx3 s Xx3) := Vx3.out.below bz
    have Vg : Hid (VarTu w38 w30.heap.size w32.heap.size w31.heap.size cg ra Yg) := Vg.out.below bz
    have TQ : Hid (RdTu w38 zq s Xq) := rz
    refine ⟨_, by simp [Act.put]; rfl, hK _ _ ⟨⟨BX3.out, Vx3.out.blk⟩, ?_⟩⟩
    clear hK rz bz
    refine onlyH (o := ?o48) 3 (by kernel_rfl) ?h48 ?r48
    case h48 => simp only [aT, aS, aZ]; rfl
    intro K hK
    refine op_call2 16 _ _ _ Try.f16 (fun w' => Below w38.heap.size w38 w') (.bool (decide (s = s))) rfl rfl Try.func16 (by kernel_rfl) (by kernel_rfl) (eqTu_any (.agg cx3) zq s s Xx3 Xq w38 Vx3.out.rd TQ.out HF3.out.wide HF3.out.wide) ⟨_, by simp [Act.put]; rfl, ?_⟩
    intro w39 bz
    have BX3 : Hid (Blk w39 w.heap.size cs3 33) := BX3.out.below bz
    have BEL : Hid (Below w.heap.size w w39) := Below.next BEL.out bz
    have Vw : Hid (VarTu w39 w1.heap.size w26.heap.size gw cw ra Yw) := Vw.out.below bz
    have Ix0 : Hid (RdI w39 ax0 nx0 ss Yx0 ∧ Own w26.heap.size w39 Yx0 ∧ ∀ b ∈ Yx0, b < w27.heap.size) := ⟨Ix0.out.1.below bz, Ix0.out.2.1.below Ix0.out.1.lt bz, Ix0.out.2.2⟩
    have Ix1 : Hid (RdI w39 ax1 nx1 ws Yx1 ∧ Own w27.heap.size w39 Yx1 ∧ ∀ b ∈ Yx1, b < w28.heap.size) := ⟨Ix1.out.1.below bz, Ix1.out.2.1.below Ix1.out.1.lt bz, Ix1.out.2.2⟩
    have Vx3 : Hid (VarTu w39 w28.heap.size w30.heap.size w29.heap.size cx3 s Xx3) := Vx3.out.below bz
    have Vg : Hid (VarTu w39 w30.heap.size w32.heap.size w31.heap.size cg ra Yg) := Vg.out.below bz
    refine hK _ _ ⟨⟨BX3.out, Vx3.out.blk⟩, ?_⟩
    clear hK bz TQ
    refine takeH (o := ?o49) 4 (.bool false) ?h49 ?r49
    case h49 => simp only [aT, aS, aZ]; rfl
    refine ⟨_, by simp [Act.put]; rfl, by kernel_rfl, by kernel_rfl, by kernel_rfl, fun _ _ _ h => h, (.inl ⟨rfl, fun W _ => by go_simp⟩), ⟨BX3.out, Vx3.out.blk⟩, ?_⟩
    refine wpAnyH_done (by kernel_rfl) ?_ _
    go_wp2_with fail
    refine (markIntS_any _ ax0 nx0 _ ss Yx0 1 _ Ix0.out.1 Ix0.out.2.1 (by omega) (by have := HNx0.out; omega)).mono ?_
    rintro e w40 ⟨rfl, mk⟩
    have NBX3 : Hid (Blk w40 w.heap.size cs3 33) := BX3.out.agree (mk.only.block _ BX3.out.lt (fun hb => by have := Ix0.out.2.1.ge _ hb; have := LB0.out; have := O1.out; have := O2.out; have := O3.out; have := O4.out; have := O5.out; have := O6.out; omega))
    have NBEL : Hid (Below w.heap.size w w40) := mk.only.below BEL.out BEL.out.size (fun b hb => by have := Ix0.out.2.1.ge b hb; have := LB0.out; have := O1.out; have := O2.out; have := O3.out; have := O4.out; have := O5.out; have := O6.out; omega)
    have NVw : Hid (VarTu w40 w1.heap.size w26.heap.size gw cw ra Yw) := Vw.out.only' mk.only Ix0.out.2.2 Ix0.out.2.1.ge (.inl (by have := LB0.out; have := O1.out; have := O2.out; have := O3.out; have := O4.out; have := O5.out; have := O6.out; omega))
    have NIx1 : Hid (RdI w40 ax1 nx1 ws Yx1 ∧ Own w27.heap.size w40 Yx1 ∧ ∀ b ∈ Yx1, b < w28.heap.size) := ⟨Ix1.out.1.agree (mk.only.agree Ix1.out.1.lt (fun b hb q => by have h1 := Ix1.out.2.1.ge b hb; have h2 := Ix1.out.2.2 b hb; have h3 := Ix0.out.2.2 b q; have h4 := Ix0.out.2.1.ge b q; have := LB0.out; have := O1.out; have := O2.out; have := O3.out; have := O4.out; have := O5.out; have := O6.out; omega)), Ix1.out.2.1.agree (mk.only.agree Ix1.out.1.lt (fun b hb q => by have h1 := Ix1.out.2.1.ge b hb; have h2 := Ix1.out.2.2 b hb; have h3 := Ix0.out.2.2 b q; have h4 := Ix0.out.2.1.ge b q; have := LB0.out; have := O1.out; have := O2.out; have := O3.out; have := O4.out; have := O5.out; have := O6.out; omega)), Ix1.out.2.2⟩
    have NVx3 : Hid (VarTu w40 w28.heap.size w30.heap.size w29.heap.size cx3 s Xx3) := Vx3.out.only' mk.only Ix0.out.2.2 Ix0.out.2.1.ge (.inr (by have := LB0.out; have := O1.out; have := O2.out; have := O3.out; have := O4.out; have := O5.out; have := O6.out; omega))
    have NVg : Hid (VarTu w40 w30.heap.size w32.heap.size w31.heap.size cg ra Yg) := Vg.out.only' mk.only Ix0.out.2.2 Ix0.out.2.1.ge (.inr (by have := LB0.out; have := O1.out; have := O2.out; have := O3.out; have := O4.out; have := O5.out; have := O6.out; omega))
    have BX3 : Hid (Blk w40 w.heap.size cs3 33) := NBX3.out
    have BEL : Hid (Below w.heap.size w w40) := NBEL.out
    have Vw : Hid (VarTu w40 w1.heap.size w26.heap.size gw cw ra Yw) := NVw.out
    have Ix1 : Hid (RdI w40 ax1 nx1 ws Yx1 ∧ Own w27.heap.size w40 Yx1 ∧ ∀ b ∈ Yx1, b < w28.heap.size) := NIx1.out
    have Vx3 : Hid (VarTu w40 w28.heap.size w30.heap.size w29.heap.size cx3 s Xx3) := NVx3.out
    have Vg : Hid (VarTu w40 w30.heap.size w32.heap.size w31.heap.size cg ra Yg) := NVg.out
    clear NBX3 NBEL NVw NIx1 NVx3 NVg
    obtain ⟨ki0, hki⟩ : ∃ k, k = 1 + (nx0 : Int) := ⟨_, rfl⟩
    rw [← hki]
    have HKI0 : Hid (0 ≤ ki0 ∧ ki0 ≤ 20000000) := by have := HNx0.out; exact ⟨by omega, by omega⟩
    clear hki mk Ix0
    go_wp2_with fail
    refine (markIntS_any _ ax1 nx1 _ ws Yx1 ki0 _ Ix1.out.1 Ix1.out.2.1 (by have := HKI0.out; omega) (by have := HNx1.out; have := HKI0.out; omega)).mono ?_
    rintro e w41 ⟨rfl, mk⟩
    have NBX3 : Hid (Blk w41 w.heap.size cs3 33) := BX3.out.agree (mk.only.block _ BX3.out.lt (fun hb => by have := Ix1.out.2.1.ge _ hb; have := LB0.out; have := O1.out; have := O2.out; have := O3.out; have := O4.out; have := O5.out; have := O6.out; omega))
    have NBEL : Hid (Below w.heap.size w w41) := mk.only.below BEL.out BEL.out.size (fun b hb => by have := Ix1.out.2.1.ge b hb; have := LB0.out; have := O1.out; have := O2.out; have := O3.out; have := O4.out; have := O5.out; have := O6.out; omega)
    have NVw : Hid (VarTu w41 w1.heap.size w26.heap.size gw cw ra Yw) := Vw.out.only' mk.only Ix1.out.2.2 Ix1.out.2.1.ge (.inl (by have := LB0.out; have := O1.out; have := O2.out; have := O3.out; have := O4.out; have := O5.out; have := O6.out; omega))
    have NVx3 : Hid (VarTu w41 w28.heap.size w30.heap.size w29.heap.size cx3 s Xx3) := Vx3.out.only' mk.only Ix1.out.2.2 Ix1.out.2.1.ge (.inr (by have := LB0.out; have := O1.out; have := O2.out; have := O3.out; have := O4.out; have := O5.out; have := O6.out; omega))
    have NVg : Hid (VarTu w41 w30.heap.size w32.heap.size w31.heap.size cg ra Yg) := Vg.out.only' mk.only Ix1.out.2.2 Ix1.out.2.1.ge (.inr (by have := LB0.out; have := O1.out; have := O2.out; have := O3.out; have := O4.out; have := O5.out; have := O6.out; omega))
    have BX3 : Hid (Blk w41 w.heap.size cs3 33) := NBX3.out
    have BEL : Hid (Below w.heap.size w w41) := NBEL.out
    have Vw : Hid (VarTu w41 w1.heap.size w26.heap.size gw cw ra Yw) := NVw.out
    have Vx3 : Hid (VarTu w41 w28.heap.size w30.heap.size w29.heap.size cx3 s Xx3) := NVx3.out
    have Vg : Hid (VarTu w41 w30.heap.size w32.heap.size w31.heap.size cg ra Yg) := NVg.out
    clear NBX3 NBEL NVw NVx3 NVg
    obtain ⟨ki1, hki⟩ : ∃ k, k = ki0 + (nx1 : Int) := ⟨_, rfl⟩
    rw [← hki]
    have HKI1 : Hid (0 ≤ ki1 ∧ ki1 ≤ 40000000) := by have := HKI0.out; have := HNx1.out; exact ⟨by omega, by omega⟩
    clear hki mk Ix1
    go_wp2_with (first | go_skip | (with_reducible refine stopLoad 33 rfl ?_) | (with_reducible refine stopLoad 26 rfl ?_) | (with_reducible refine stopStore 26 rfl ?_))
    refine load_any 26 _ cx3 26 _ Vx3.out.blk rfl rfl rfl Try.underlying26 rfl (tuSize Vx3.out.sz) ?_
    go_wp2_with fail
    refine (markTu_any _ _ s Xx3 ki1 _ Vx3.out.rd Vx3.out.own HF3.out.wide (by have := HKI1.out; omega) (by have := HMI3.out; have := HKI1.out; omega)).mono ?_
    rintro e w42 ⟨rfl, mk⟩
    have NBX3 : Hid (Blk w42 w.heap.size cs3 33) := BX3.out.agree (mk.only.block _ BX3.out.lt (fun hb => by have := Vx3.out.own.ge _ hb; have := LB0.out; have := O1.out; have := O2.out; have := O3.out; have := O4.out; have := O5.out; have := O6.out; omega))
    have NBEL : Hid (Below w.heap.size w w42) := mk.only.below BEL.out BEL.out.size (fun b hb => by have := Vx3.out.own.ge b hb; have := LB0.out; have := O1.out; have := O2.out; have := O3.out; have := O4.out; have := O5.out; have := O6.out; omega)
    have NVw : Hid (VarTu w42 w1.heap.size w26.heap.size gw cw ra Yw) := Vw.out.only' mk.only Vx3.out.lt Vx3.out.own.ge (.inl (by have := LB0.out; have := O1.out; have := O2.out; have := O3.out; have := O4.out; have := O5.out; have := O6.out; omega))
    have NVg : Hid (VarTu w42 w30.heap.size w32.heap.size w31.heap.size cg ra Yg) := Vg.out.only' mk.only Vx3.out.lt Vx3.out.own.ge (.inr (by have := LB0.out; have := O1.out; have := O2.out; have := O3.out; have := O4.out; have := O5.out; have := O6.out; omega))
    have BX3 : Hid (Blk w42 w.heap.size cs3 33) := NBX3.out
    have BEL : Hid (Below w.heap.size w w42) := NBEL.out
    have Vw : Hid (VarTu w42 w1.heap.size w26.heap.size gw cw ra Yw) := NVw.out
    have Vg : Hid (VarTu w42 w30.heap.size w32.heap.size w31.heap.size cg ra Yg) := NVg.out
    clear NBX3 NBEL NVw NVg
    obtain ⟨ki2, hki⟩ : ∃ k, k = ki1 + s.many := ⟨_, rfl⟩
    rw [← hki]
    have HKI2 : Hid (0 ≤ ki2 ∧ ki2 ≤ 80000000) := by have := HKI1.out; have := HMI3.out; exact ⟨by omega, by omega⟩
    clear hki mk Vx3
    have hkid : decide (ki2 < 0) = false := dec_false (by have := HKI2.out; omega)
    go_wp2_with (first | go_skip | (with_reducible refine stopLoad 33 rfl ?_) | (with_reducible refine stopLoad 26 rfl ?_) | (with_reducible refine stopStore 26 rfl ?_))
    refine load_any 26 _ cg 26 _ Vg.out.blk rfl rfl rfl Try.underlying26 rfl (tuSize Vg.out.sz) ?_
    go_wp2_with (first | go_skip | (with_reducible refine stopLoad 33 rfl ?_) | (with_reducible refine stopLoad 26 rfl ?_) | (with_reducible refine stopStore 26 rfl ?_))
    refine load_any 26 _ cw 26 _ Vw.out.blk rfl rfl rfl Try.underlying26 rfl (tuSize Vw.out.sz) ?_
    go_wp2_with fail
    refine (eqTu_any _ _ ra ra Yg Yw _ Vg.out.rd Vw.out.rd HM.out.1 HM.out.1).mono ?_
    rintro e w43 ⟨rfl, hb⟩
    have BX3 : Hid (Blk w43 w.heap.size cs3 33) := BX3.out.below hb
    have BEL : Hid (Below w.heap.size w w43) := Below.next BEL.out hb
    have Vw : Hid (VarTu w43 w1.heap.size w26.heap.size gw cw ra Yw) := Vw.out.below hb
    have Vg : Hid (VarTu w43 w30.heap.size w32.heap.size w31.heap.size cg ra Yg) := Vg.out.below hb
    clear hb
    have hdec : decide (ra = ra) = true := by simp
    rw [hdec]
    clear hdec
    go_wp2_with (first | go_skip | (with_reducible refine stopLoad 33 rfl ?_) | (with_reducible refine stopLoad 26 rfl ?_) | (with_reducible refine stopStore 26 rfl ?_))
    refine load_any 26 _ cg 26 _ Vg.out.blk rfl rfl rfl Try.underlying26 rfl (tuSize Vg.out.sz) ?_
    go_wp2_with fail
    refine (markTu_any w30.heap.size _ ra Yg 1 _ Vg.out.rd Vg.out.own HM.out.1 (by omega) (by have := HM.out; omega)).mono ?_
    rintro e w44 ⟨rfl, mk⟩
    have NG : Hid (VarTu w44 w30.heap.size w32.heap.size w31.heap.size cg (ra.marked 1) Yg) := Vg.out.mark mk
    have NBX3 : Hid (Blk w44 w.heap.size cs3 33) := BX3.out.agree (mk.only.block _ BX3.out.lt (fun hb => by have := Vg.out.own.ge _ hb; have := LB0.out; have := O1.out; have := O2.out; have := O3.out; have := O4.out; have := O5.out; have := O6.out; omega))
    have NBEL : Hid (Below w.heap.size w w44) := mk.only.below BEL.out BEL.out.size (fun b hb => by have := Vg.out.own.ge b hb; have := LB0.out; have := O1.out; have := O2.out; have := O3.out; have := O4.out; have := O5.out; have := O6.out; omega)
    have NVw : Hid (VarTu w44 w1.heap.size w26.heap.size gw cw ra Yw) := Vw.out.only' mk.only Vg.out.lt Vg.out.own.ge (.inl (by have := LB0.out; have := O1.out; have := O2.out; have := O3.out; have := O4.out; have := O5.out; have := O6.out; omega))
    have BX3 : Hid (Blk w44 w.heap.size cs3 33) := NBX3.out
    have BEL : Hid (Below w.heap.size w w44) := NBEL.out
    have Vw : Hid (VarTu w44 w1.heap.size w26.heap.size gw cw ra Yw) := NVw.out
    clear NBX3 NBEL NVw
    have Vg : Hid (VarTu w44 w30.heap.size w32.heap.size w31.heap.size cg (ra.marked 1) Yg) := NG.out
    obtain ⟨km, hkm⟩ : ∃ k, k = 1 + ra.many := ⟨_, rfl⟩
    rw [← hkm]
    have HKM : Hid (km = 1 + ra.many) := hkm
    have hkm0 : 0 ≤ km := by have := HM.out; omega
    have hkmn : decide (km < 0) = false := dec_false (by omega)
    have hkme : (km != km) = false := by simp
    clear hkm mk NG
    go_wp2_with (first | go_skip | (with_reducible refine stopLoad 33 rfl ?_) | (with_reducible refine stopLoad 26 rfl ?_) | (with_reducible refine stopStore 26 rfl ?_))
    refine load_any 26 _ cg 26 _ Vg.out.blk rfl rfl rfl Try.underlying26 rfl (tuSize Vg.out.sz) ?_
    go_wp2_with fail
    refine (heldTu_any _ ra Yg 1 _ Vg.out.rd HM.out.1 (by omega) (by have := HM.out; omega)).mono ?_
    rintro e w45 ⟨rfl, hb⟩
    have BX3 : Hid (Blk w45 w.heap.size cs3 33) := BX3.out.below hb
    have BEL : Hid (Below w.heap.size w w45) := Below.next BEL.out hb
    have Vw : Hid (VarTu w45 w1.heap.size w26.heap.size gw cw ra Yw) := Vw.out.below hb
    have Vg : Hid (VarTu w45 w30.heap.size w32.heap.size w31.heap.size cg (ra.marked 1) Yg) := Vg.out.below hb
    clear hb
    rw [← HKM.out]
    have LP : Hid (w.heap.size < w45.heap.size) := BX3.out.lt
    go_upto_region 36 with fail
    go_cut [20, 21] (fun a6 a7 wx => ∃ (g : Nat) (cs : Array Value) (X : List Nat), a6 = .int .i64 rk ∧ a7 = .pointer (some ⟨g, 0, none⟩) ∧ Below w45.heap.size w45 wx ∧ VarTu wx w45.heap.size wx.heap.size g cs ra X)
    case first =>
      have bd := (Below.refl w45.heap.size w45).drew
      have HSN : Hid (Blk w45.drew w.heap.size cs3 33) := BX3.out.below bd
      have BZ : Hid (Below w.heap.size w w45.drew) := Below.next BEL.out bd
      have BS : Hid (Below w45.heap.size w45 w45.drew) := bd
      obtain ⟨Y0, hY0⟩ : ∃ Y, Y = w45.drew := ⟨_, rfl⟩
      rw [← hY0] at HSN BZ BS
      clear bd
      refine wp_region_held (S := fun W => Blk W w.heap.size cs3 33) (by kernel_rfl) ?_
      change wpAnyH _ _ _ _ _ _ _ _ (World.drew _)
      rw [← hY0]
      clear hY0
      refine takeH (o := ?o50) 0 (.slice a0 n0 k0) ?h50 ?r50
      case h50 => simp only [aT, aZ]; rfl
      refine ⟨_, by simp [Act.put]; rfl, by kernel_rfl, by kernel_rfl, by kernel_rfl, fun _ _ _ h => h, (.inl ⟨rfl, fun W _ => by kernel_rfl⟩), HSN.out, ?_⟩
      refine takeH (o := ?o51) 2 (.slice a1 n1 k1) ?h51 ?r51
      case h51 => simp only [aT, aS, aZ]; rfl
      refine ⟨_, by simp [Act.put]; rfl, by kernel_rfl, by kernel_rfl, by kernel_rfl, fun _ _ _ h => h, (.inl ⟨rfl, fun W _ => by kernel_rfl⟩), HSN.out, ?_⟩
      refine takeH (o := ?o52) 4 (.int .i64 c) ?h52 ?r52
      case h52 => simp only [aT, aS, aZ]; rfl
      refine ⟨_, by simp [Act.put]; rfl, by kernel_rfl, by kernel_rfl, by kernel_rfl, fun _ _ _ h => h, (.inl ⟨rfl, fun W _ => by kernel_rfl⟩), HSN.out, ?_⟩
      refine takeH (o := ?o53) 5 (.agg cs3) ?h53 ?r53
      case h53 => simp only [aT, aS, aZ]; rfl
      refine ⟨_, by simp [Act.put]; rfl, by kernel_rfl, by kernel_rfl, by kernel_rfl, fun _ _ _ h => h, (yields_whole 33 _ cs3 33 _ rfl rfl rfl Try.underlying33 rfl (ltuSize HC3.out) (fun W hW => hW)), HSN.out, ?_⟩
      refine twoH (o := ?o54) (o' := ?p54) 1 11 (by kernel_rfl) ?h54 ?g54 ?r54 ?s54
      case h54 => simp only [aT, aS, aZ]; rfl
      case g54 => simp only [aT, aS, aZ]; rfl
      case r54 =>
        intro K hK
        refine op_call1 21 _ _ Try.f21 (fun v w' => ∃ a n k X, v = .slice a n k ∧ RdI w' a n ss X ∧ Below Y0.heap.size Y0 w') rfl rfl Try.func21 (by kernel_rfl) (by kernel_rfl) ((toIntS_any a0 n0 k0 ss F0 Y0 (HS0.out.1.below BZ.out) HS0.out.2).mono (by rintro e w' ⟨a, n, k, X, rfl, h1, _, h3⟩; exact ⟨_, rfl, a, n, k, X, rfl, h1, h3⟩)) ?_
        rintro _ w46 ⟨aT0, nT0, kT0, XT0, rfl, rz, bz⟩
        have HSN : Hid (Blk w46 w.heap.size cs3 33) := HSN.out.below bz
        have BZ : Hid (Below w.heap.size w w46) := Below.next BZ.out bz
        have BS : Hid (Below w45.heap.size w45 w46) := Below.next BS.out bz
        have T0 : Hid (RdI w46 aT0 nT0 ss XT0) := rz
        refine ⟨_, by simp [Act.put]; rfl, hK _ _ ⟨HSN.out, ?_⟩⟩
        clear hK rz bz
        refine twoH (o := ?o55) (o' := ?p55) 3 11 (by kernel_rfl) ?h55 ?g55 ?r55 ?s55
        case h55 => simp only [aT, aS, aZ]; rfl
        case g55 => simp only [aT, aS, aZ]; rfl
        case r55 =>
          intro K hK
          refine op_call1 21 _ _ Try.f21 (fun v w' => ∃ a n k X, v = .slice a n k ∧ RdI w' a n ws X ∧ Below w46.heap.size w46 w') rfl rfl Try.func21 (by kernel_rfl) (by kernel_rfl) ((toIntS_any a1 n1 k1 ws F1 w46 (HS1.out.1.below BZ.out) HS1.out.2).mono (by rintro e w' ⟨a, n, k, X, rfl, h1, _, h3⟩; exact ⟨_, rfl, a, n, k, X, rfl, h1, h3⟩)) ?_
          rintro _ w47 ⟨aT1, nT1, kT1, XT1, rfl, rz, bz⟩
          have HSN : Hid (Blk w47 w.heap.size cs3 33) := HSN.out.below bz
          have BZ : Hid (Below w.heap.size w w47) := Below.next BZ.out bz
          have BS : Hid (Below w45.heap.size w45 w47) := Below.next BS.out bz
          have T0 : Hid (RdI w47 aT0 nT0 ss XT0) := T0.out.below bz
          have T1 : Hid (RdI w47 aT1 nT1 ws XT1) := rz
          refine ⟨_, by simp [Act.put]; rfl, hK _ _ ⟨HSN.out, ?_⟩⟩
          clear hK rz bz
          refine twoH (o := ?o56) (o' := ?p56) 6 11 (by kernel_rfl) ?h56 ?g56 ?r56 ?s56
          case h56 => simp only [aT, aS, aZ]; rfl
          case g56 => simp only [aT, aS, aZ]; rfl
          case r56 =>
            intro K hK
            refine op_call1 15 _ _ Try.f15 (fun v w' => ∃ X, RdTu w' v s X ∧ Below w47.heap.size w47 w') rfl rfl Try.func15 (by kernel_rfl) (by kernel_rfl) ((toTu_any _ s F w47 (HH3.out.1.below BZ.out) HF3.out).mono (by rintro e w' ⟨v, X, rfl, h1, _, h3⟩; exact ⟨_, rfl, X, h1, h3⟩)) ?_
            rintro zT3 w48 ⟨XT3, rz, bz⟩
            have HSN : Hid (Blk w48 w.heap.size cs3 33) := HSN.out.below bz
            have BZ : Hid (Below w.heap.size w w48) := Below.next BZ.out bz
            have BS : Hid (Below w45.heap.size w45 w48) := Below.next BS.out bz
            have T0 : Hid (RdI w48 aT0 nT0 ss XT0) := T0.out.below bz
            have T1 : Hid (RdI w48 aT1 nT1 ws XT1) := T1.out.below bz
            have T3 : Hid (RdTu w48 zT3 s XT3) := rz
            refine ⟨_, by simp [Act.put]; rfl, hK _ _ ⟨HSN.out, ?_⟩⟩
            clear hK rz bz
            refine twoH (o := ?o57) (o' := ?p57) 7 11 (by kernel_rfl) ?h57 ?g57 ?r57 ?s57
            case h57 => simp only [aT, aS, aZ]; rfl
            case g57 => simp only [aT, aS, aZ]; rfl
            case r57 =>
              intro K hK
              refine op_callT4 9 _ _ _ _ _ Try.f9 (fun v w' => ∃ z Y, v = .tuple #[.int .i64 rk, z] ∧ RdTu w' z ra Y ∧ Own w48.heap.size w' Y ∧ Below w48.heap.size w48 w') rfl rfl Try.func9 (by kernel_rfl) (by kernel_rfl) ((pick_impl_any aT0 aT1 nT0 kT0 nT1 kT1 ss ws XT0 XT1 c zT3 s XT3 w48 T0.out T1.out T3.out (by rw [← T0.out.length, HS0.out.1.length]; exact HS0.out.2) (by rw [← T1.out.length, HS1.out.1.length]; exact HS1.out.2) HF3.out).mono (by intro e w' hres; rw [← HZ.out] at hres; obtain ⟨z, Y, rfl, h1, h2, h3⟩ := hres; exact ⟨_, rfl, z, Y, rfl, h1, h2, h3⟩)) ?_
              rintro zt w49 ⟨zv, Yw, rfl, ry, oy, bz⟩
              obtain ⟨cw, rfl, szw, onw⟩ := ry.cells
              have s1 := BS.out.size
              have HSN : Hid (Blk w49 w.heap.size cs3 33) := HSN.out.below bz
              have BZ : Hid (Below w.heap.size w w49) := Below.next BZ.out bz
              have BS : Hid (Below w45.heap.size w45 w49) := Below.next BS.out bz
              have TT : Hid (RdTu w49 (.agg cw) ra Yw ∧ Own w45.heap.size w49 Yw ∧ cw.size = 3 ∧ cw.all (·.oneCell') = true) := ⟨ry, oy.mono s1, szw, onw⟩
              refine ⟨_, by simp [Act.put]; rfl, hK _ _ ⟨HSN.out, ?_⟩⟩
              clear hK ry oy bz szw onw s1 T0 T1 T3
              refine takeH (o := ?o58) 8 (.tuple #[.int .i64 rk, .agg cw]) ?h58 ?r58
              case h58 => simp only [aT, aS, aZ]; rfl
              refine ⟨_, by simp [Act.put]; rfl, by kernel_rfl, by kernel_rfl, by kernel_rfl, fun _ _ _ h => h, (.inl ⟨rfl, fun W _ => by kernel_rfl⟩), HSN.out, ?_⟩
              refine takeH (o := ?o59) 9 (.int .i64 rk) ?h59 ?r59
              case h59 => simp only [aT, aS, aZ]; rfl
              refine ⟨_, by simp [Act.put]; rfl, by kernel_rfl, by kernel_rfl, by kernel_rfl, fun _ _ _ h => h, (.inl ⟨rfl, fun W _ => by kernel_rfl⟩), HSN.out, ?_⟩
              refine takeH (o := ?o60) 10 (.agg cw) ?h60 ?r60
              case h60 => simp only [aT, aS, aZ]; rfl
              refine ⟨_, by simp [Act.put]; rfl, by kernel_rfl, by kernel_rfl, by kernel_rfl, fun _ _ _ h => h, (.inl ⟨rfl, fun W _ => by kernel_rfl⟩), HSN.out, ?_⟩
              refine onlyH (o := ?o61) 11 (by kernel_rfl) ?h61 ?r61
              case h61 => simp only [aT, aS, aZ]; rfl
              intro K hK
              refine op_turn (.pointer (some ⟨w49.heap.size, 0, none⟩)) (w49.alloc (.cells #[.int .i64 0, .bool false, .slice none 0 0] 26)) rfl (by kernel_rfl) ⟨_, by simp [Act.put]; rfl, hK _ _ ⟨HSN.out.alloc _, ?_⟩⟩
              clear hK
              obtain ⟨w50, hW⟩ : ∃ Z, Z = (w49.alloc (.cells #[.int .i64 0, .bool false, .slice none 0 0] 26)) := ⟨_, rfl⟩
              have bz : Below w49.heap.size w49 w50 := by rw [hW]; exact (Below.refl _ _).alloc (Nat.le_refl _) _
              have TX0 : Blk w50 w49.heap.size #[.int .i64 0, .bool false, .slice none 0 0] 26 := by rw [hW]; exact Blk.made _ _ _
              rw [← hW]
              clear hW
              obtain ⟨Xw, hX⟩ : ∃ z, z = w49.heap.size := ⟨_, rfl⟩
              have TX : Hid (Blk w50 Xw #[.int .i64 0, .bool false, .slice none 0 0] 26 ∧ w45.heap.size ≤ Xw) := ⟨by rw [hX]; exact TX0, by have := BS.out.size; omega⟩
              have TXN : Hid (Xw ∉ Yw) := fun hx => by have := TT.out.1.lt _ hx; omega
              have HSN : Hid (Blk w50 w.heap.size cs3 33) := HSN.out.below bz
              have BZ : Hid (Below w.heap.size w w50) := Below.next BZ.out bz
              have BS : Hid (Below w45.heap.size w45 w50) := Below.next BS.out bz
              have TT : Hid (RdTu w50 (.agg cw) ra Yw ∧ Own w45.heap.size w50 Yw ∧ cw.size = 3 ∧ cw.all (·.oneCell') = true) := ⟨TT.out.1.below bz, TT.out.2.1.below TT.out.1.lt bz, TT.out.2.2⟩
              rw [← hX]
              clear hX TX0 bz
              refine takeH (o := ?o62) 12 (.int .i64 rk) ?h62 ?r62
              case h62 => simp only [aT, aS, aZ]; rfl
              refine ⟨_, by simp [Act.put]; rfl, by kernel_rfl, by kernel_rfl, by kernel_rfl, fun _ _ _ h => h, (.inl ⟨rfl, fun W _ => by kernel_rfl⟩), HSN.out, ?_⟩
              refine onlyH (o := ?o63) 13 (by kernel_rfl) ?h63 ?r63
              case h63 => simp only [aT, aS, aZ]; rfl
              intro K hK
              have lp := LP.out
              have lx := TX.out.2
              refine op_store 26 Xw #[.int .i64 0, .bool false, .slice none 0 0] cw 26 rfl rfl rfl rfl TX.out.1 (tuSize TT.out.2.2.1) TT.out.2.2.1.symm TT.out.2.2.2 ⟨_, by simp [Act.put]; rfl, hK _ _ ⟨HSN.out.setRowOther (by omega), ?_⟩⟩
              clear hK
              refine wpAnyH_done (by kernel_rfl) ?_ _
              go_wp2_with fail
              go_meet
              case rel => exact ⟨Xw, cw, Yw, rfl, rfl, below_setRow BS.out lx _, varTu_stored TX.out.1 TT.out.1 TT.out.2.2.1 TT.out.2.1 TT.out.1.lt lx TXN.out⟩
            case s57 =>
              intro K hK
              refine op_turn (.pointer (some ⟨w48.heap.size, 0, none⟩)) (w48.alloc (.cells #[.int .i64 0, .bool false, .slice none 0 0] 26)) rfl (by kernel_rfl) ⟨_, by simp [Act.put]; rfl, hK _ _ ⟨HSN.out.alloc _, ?_⟩⟩
              clear hK
              obtain ⟨w52, hW⟩ : ∃ Z, Z = (w48.alloc (.cells #[.int .i64 0, .bool false, .slice none 0 0] 26)) := ⟨_, rfl⟩
              have bz : Below w48.heap.size w48 w52 := by rw [hW]; exact (Below.refl _ _).alloc (Nat.le_refl _) _
              have TX0 : Blk w52 w48.heap.size #[.int .i64 0, .bool false, .slice none 0 0] 26 := by rw [hW]; exact Blk.made _ _ _
              rw [← hW]
              clear hW
              obtain ⟨Xw, hX⟩ : ∃ z, z = w48.heap.size := ⟨_, rfl⟩
              have TX : Hid (Blk w52 Xw #[.int .i64 0, .bool false, .slice none 0 0] 26 ∧ w45.heap.size ≤ Xw) := ⟨by rw [hX]; exact TX0, by have := BS.out.size; omega⟩
              have HSN : Hid (Blk w52 w.heap.size cs3 33) := HSN.out.below bz
              have BZ : Hid (Below w.heap.size w w52) := Below.next BZ.out bz
              have BS : Hid (Below w45.heap.size w45 w52) := Below.next BS.out bz
              have T0 : Hid (RdI w52 aT0 nT0 ss XT0) := T0.out.below bz
              have T1 : Hid (RdI w52 aT1 nT1 ws XT1) := T1.out.below bz
              have T3 : Hid (RdTu w52 zT3 s XT3) := T3.out.below bz
              rw [← hX]
              clear hX TX0 bz
              refine onlyH (o := ?o64) 7 (by kernel_rfl) ?h64 ?r64
              case h64 => simp only [aT, aS, aZ]; rfl
              intro K hK
              refine op_callT4 9 _ _ _ _ _ Try.f9 (fun v w' => ∃ z Y, v = .tuple #[.int .i64 rk, z] ∧ RdTu w' z ra Y ∧ Own w52.heap.size w' Y ∧ Below w52.heap.size w52 w') rfl rfl Try.func9 (by kernel_rfl) (by kernel_rfl) ((pick_impl_any aT0 aT1 nT0 kT0 nT1 kT1 ss ws XT0 XT1 c zT3 s XT3 w52 T0.out T1.out T3.out (by rw [← T0.out.length, HS0.out.1.length]; exact HS0.out.2) (by rw [← T1.out.length, HS1.out.1.length]; exact HS1.out.2) HF3.out).mono (by intro e w' hres; rw [← HZ.out] at hres; obtain ⟨z, Y, rfl, h1, h2, h3⟩ := hres; exact ⟨_, rfl, z, Y, rfl, h1, h2, h3⟩)) ?_
              rintro zt w53 ⟨zv, Yw, rfl, ry, oy, bz⟩
              obtain ⟨cw, rfl, szw, onw⟩ := ry.cells
              have s1 := BS.out.size
              have TXN : Hid (Xw ∉ Yw) := fun hx => by have := oy.ge _ hx; have := TX.out.1.lt; omega
              have HSN : Hid (Blk w53 w.heap.size cs3 33) := HSN.out.below bz
              have BZ : Hid (Below w.heap.size w w53) := Below.next BZ.out bz
              have BS : Hid (Below w45.heap.size w45 w53) := Below.next BS.out bz
              have TX : Hid (Blk w53 Xw #[.int .i64 0, .bool false, .slice none 0 0] 26 ∧ w45.heap.size ≤ Xw) := ⟨TX.out.1.below bz, TX.out.2⟩
              have TT : Hid (RdTu w53 (.agg cw) ra Yw ∧ Own w45.heap.size w53 Yw ∧ cw.size = 3 ∧ cw.all (·.oneCell') = true) := ⟨ry, oy.mono s1, szw, onw⟩
              refine ⟨_, by simp [Act.put]; rfl, hK _ _ ⟨HSN.out, ?_⟩⟩
              clear hK ry oy bz szw onw s1 T0 T1 T3
              refine takeH (o := ?o65) 8 (.tuple #[.int .i64 rk, .agg cw]) ?h65 ?r65
              case h65 => simp only [aT, aS, aZ]; rfl
              refine ⟨_, by simp [Act.put]; rfl, by kernel_rfl, by kernel_rfl, by kernel_rfl, fun _ _ _ h => h, (.inl ⟨rfl, fun W _ => by kernel_rfl⟩), HSN.out, ?_⟩
              refine takeH (o := ?o66) 9 (.int .i64 rk) ?h66 ?r66
              case h66 => simp only [aT, aS, aZ]; rfl
              refine ⟨_, by simp [Act.put]; rfl, by kernel_rfl, by kernel_rfl, by kernel_rfl, fun _ _ _ h => h, (.inl ⟨rfl, fun W _ => by kernel_rfl⟩), HSN.out, ?_⟩
              refine takeH (o := ?o67) 10 (.agg cw) ?h67 ?r67
              case h67 => simp only [aT, aS, aZ]; rfl
              refine ⟨_, by simp [Act.put]; rfl, by kernel_rfl, by kernel_rfl, by kernel_rfl, fun _ _ _ h => h, (.inl ⟨rfl, fun W _ => by kernel_rfl⟩), HSN.out, ?_⟩
              refine takeH (o := ?o68) 12 (.int .i64 rk) ?h68 ?r68
              case h68 => simp only [aT, aS, aZ]; rfl
              refine ⟨_, by simp [Act.put]; rfl, by kernel_rfl, by kernel_rfl, by kernel_rfl, fun _ _ _ h => h, (.inl ⟨rfl, fun W _ => by kernel_rfl⟩), HSN.out, ?_⟩
              refine onlyH (o := ?o69) 13 (by kernel_rfl) ?h69 ?r69
              case h69 => simp only [aT, aS, aZ]; rfl
              intro K hK
              have lp := LP.out
              have lx := TX.out.2
              refine op_store 26 Xw #[.int .i64 0, .bool false, .slice none 0 0] cw 26 rfl rfl rfl rfl TX.out.1 (tuSize TT.out.2.2.1) TT.out.2.2.1.symm TT.out.2.2.2 ⟨_, by simp [Act.put]; rfl, hK _ _ ⟨HSN.out.setRowOther (by omega), ?_⟩⟩
              clear hK
              refine wpAnyH_done (by kernel_rfl) ?_ _
              go_wp2_with fail
              go_meet
              case rel => exact ⟨Xw, cw, Yw, rfl, rfl, below_setRow BS.out lx _, varTu_stored TX.out.1 TT.out.1 TT.out.2.2.1 TT.out.2.1 TT.out.1.lt lx TXN.out⟩
          case s56 =>
            intro K hK
            refine op_turn (.pointer (some ⟨w47.heap.size, 0, none⟩)) (w47.alloc (.cells #[.int .i64 0, .bool false, .slice none 0 0] 26)) rfl (by kernel_rfl) ⟨_, by simp [Act.put]; rfl, hK _ _ ⟨HSN.out.alloc _, ?_⟩⟩
            clear hK
            obtain ⟨w55, hW⟩ : ∃ Z, Z = (w47.alloc (.cells #[.int .i64 0, .bool false, .slice none 0 0] 26)) := ⟨_, rfl⟩
            have bz : Below w47.heap.size w47 w55 := by rw [hW]; exact (Below.refl _ _).alloc (Nat.le_refl _) _
            have TX0 : Blk w55 w47.heap.size #[.int .i64 0, .bool false, .slice none 0 0] 26 := by rw [hW]; exact Blk.made _ _ _
            rw [← hW]
            clear hW
            obtain ⟨Xw, hX⟩ : ∃ z, z = w47.heap.size := ⟨_, rfl⟩
            have TX : Hid (Blk w55 Xw #[.int .i64 0, .bool false, .slice none 0 0] 26 ∧ w45.heap.size ≤ Xw) := ⟨by rw [hX]; exact TX0, by have := BS.out.size; omega⟩
            have HSN : Hid (Blk w55 w.heap.size cs3 33) := HSN.out.below bz
            have BZ : Hid (Below w.heap.size w w55) := Below.next BZ.out bz
            have BS : Hid (Below w45.heap.size w45 w55) := Below.next BS.out bz
            have T0 : Hid (RdI w55 aT0 nT0 ss XT0) := T0.out.below bz
            have T1 : Hid (RdI w55 aT1 nT1 ws XT1) := T1.out.below bz
            rw [← hX]
            clear hX TX0 bz
            refine onlyH (o := ?o70) 6 (by kernel_rfl) ?h70 ?r70
            case h70 => simp only [aT, aS, aZ]; rfl
            intro K hK
            refine op_call1 15 _ _ Try.f15 (fun v w' => ∃ X, RdTu w' v s X ∧ Below w55.heap.size w55 w') rfl rfl Try.func15 (by kernel_rfl) (by kernel_rfl) ((toTu_any _ s F w55 (HH3.out.1.below BZ.out) HF3.out).mono (by rintro e w' ⟨v, X, rfl, h1, _, h3⟩; exact ⟨_, rfl, X, h1, h3⟩)) ?_
            rintro zT3 w56 ⟨XT3, rz, bz⟩
            have HSN : Hid (Blk w56 w.heap.size cs3 33) := HSN.out.below bz
            have BZ : Hid (Below w.heap.size w w56) := Below.next BZ.out bz
            have BS : Hid (Below w45.heap.size w45 w56) := Below.next BS.out bz
            have T0 : Hid (RdI w56 aT0 nT0 ss XT0) := T0.out.below bz
            have T1 : Hid (RdI w56 aT1 nT1 ws XT1) := T1.out.below bz
            have TX : Hid (Blk w56 Xw #[.int .i64 0, .bool false, .slice none 0 0] 26 ∧ w45.heap.size ≤ Xw) := ⟨TX.out.1.below bz, TX.out.2⟩
            have T3 : Hid (RdTu w56 zT3 s XT3) := rz
            refine ⟨_, by simp [Act.put]; rfl, hK _ _ ⟨HSN.out, ?_⟩⟩
            clear hK rz bz
            refine onlyH (o := ?o71) 7 (by kernel_rfl) ?h71 ?r71
            case h71 => simp only [aT, aS, aZ]; rfl
            intro K hK
            refine op_callT4 9 _ _ _ _ _ Try.f9 (fun v w' => ∃ z Y, v = .tuple #[.int .i64 rk, z] ∧ RdTu w' z ra Y ∧ Own w56.heap.size w' Y ∧ Below w56.heap.size w56 w') rfl rfl Try.func9 (by kernel_rfl) (by kernel_rfl) ((pick_impl_any aT0 aT1 nT0 kT0 nT1 kT1 ss ws XT0 XT1 c zT3 s XT3 w56 T0.out T1.out T3.out (by rw [← T0.out.length, HS0.out.1.length]; exact HS0.out.2) (by rw [← T1.out.length, HS1.out.1.length]; exact HS1.out.2) HF3.out).mono (by intro e w' hres; rw [← HZ.out] at hres; obtain ⟨z, Y, rfl, h1, h2, h3⟩ := hres; exact ⟨_, rfl, z, Y, rfl, h1, h2, h3⟩)) ?_
            rintro zt w57 ⟨zv, Yw, rfl, ry, oy, bz⟩
            obtain ⟨cw, rfl, szw, onw⟩ := ry.cells
            have s1 := BS.out.size
            have TXN : Hid (Xw ∉ Yw) := fun hx => by have := oy.ge _ hx; have := TX.out.1.lt; omega
            have HSN : Hid (Blk w57 w.heap.size cs3 33) := HSN.out.below bz
            have BZ : Hid (Below w.heap.size w w57) := Below.next BZ.out bz
            have BS : Hid (Below w45.heap.size w45 w57) := Below.next BS.out bz
            have TX : Hid (Blk w57 Xw #[.int .i64 0, .bool false, .slice none 0 0] 26 ∧ w45.heap.size ≤ Xw) := ⟨TX.out.1.below bz, TX.out.2⟩
            have TT : Hid (RdTu w57 (.agg cw) ra Yw ∧ Own w45.heap.size w57 Yw ∧ cw.size = 3 ∧ cw.all (·.oneCell') = true) := ⟨ry, oy.mono s1, szw, onw⟩
            refine ⟨_, by simp [Act.put]; rfl, hK _ _ ⟨HSN.out, ?_⟩⟩
            clear hK ry oy bz szw onw s1 T0 T1 T3
            refine takeH (o := ?o72) 8 (.tuple #[.int .i64 rk, .agg cw]) ?h72 ?r72
            case h72 => simp only [aT, aS, aZ]; rfl
            refine ⟨_, by simp [Act.put]; rfl, by kernel_rfl, by kernel_rfl, by kernel_rfl, fun _ _ _ h => h, (.inl ⟨rfl, fun W _ => by kernel_rfl⟩), HSN.out, ?_⟩
            refine takeH (o := ?o73) 9 (.int .i64 rk) ?h73 ?r73
            case h73 => simp only [aT, aS, aZ]; rfl
            refine ⟨_, by simp [Act.put]; rfl, by kernel_rfl, by kernel_rfl, by kernel_rfl, fun _ _ _ h => h, (.inl ⟨rfl, fun W _ => by kernel_rfl⟩), HSN.out, ?_⟩
            refine takeH (o := ?o74) 10 (.agg cw) ?h74 ?r74
            case h74 => simp only [aT, aS, aZ]; rfl
            refine ⟨_, by simp [Act.put]; rfl, by kernel_rfl, by kernel_rfl, by kernel_rfl, fun _ _ _ h => h, (.inl ⟨rfl, fun W _ => by kernel_rfl⟩), HSN.out, ?_⟩
            refine takeH (o := ?o75) 12 (.int .i64 rk) ?h75 ?r75
            case h75 => simp only [aT, aS, aZ]; rfl
            refine ⟨_, by simp [Act.put]; rfl, by kernel_rfl, by kernel_rfl, by kernel_rfl, fun _ _ _ h => h, (.inl ⟨rfl, fun W _ => by kernel_rfl⟩), HSN.out, ?_⟩
            refine onlyH (o := ?o76) 13 (by kernel_rfl) ?h76 ?r76
            case h76 => simp only [aT, aS, aZ]; rfl
            intro K hK
            have lp := LP.out
            have lx := TX.out.2
            refine op_store 26 Xw #[.int .i64 0, .bool false, .slice none 0 0] cw 26 rfl rfl rfl rfl TX.out.1 (tuSize TT.out.2.2.1) TT.out.2.2.1.symm TT.out.2.2.2 ⟨_, by simp [Act.put]; rfl, hK _ _ ⟨HSN.out.setRowOther (by omega), ?_⟩⟩
            clear hK
            refine wpAnyH_done (by kernel_rfl) ?_ _
            go_wp2_with fail
            go_meet
            case rel => exact ⟨Xw, cw, Yw, rfl, rfl, below_setRow BS.out lx _, varTu_stored TX.out.1 TT.out.1 TT.out.2.2.1 TT.out.2.1 TT.out.1.lt lx TXN.out⟩
        case s55 =>
          intro K hK
          refine op_turn (.pointer (some ⟨w46.heap.size, 0, none⟩)) (w46.alloc (.cells #[.int .i64 0, .bool false, .slice none 0 0] 26)) rfl (by kernel_rfl) ⟨_, by simp [Act.put]; rfl, hK _ _ ⟨HSN.out.alloc _, ?_⟩⟩
          clear hK
          obtain ⟨w59, hW⟩ : ∃ Z, Z = (w46.alloc (.cells #[.int .i64 0, .bool false, .slice none 0 0] 26)) := ⟨_, rfl⟩
          have bz : Below w46.heap.size w46 w59 := by rw [hW]; exact (Below.refl _ _).alloc (Nat.le_refl _) _
          have TX0 : Blk w59 w46.heap.size #[.int .i64 0, .bool false, .slice none 0 0] 26 := by rw [hW]; exact Blk.made _ _ _
          rw [← hW]
          clear hW
          obtain ⟨Xw, hX⟩ : ∃ z, z = w46.heap.size := ⟨_, rfl⟩
          have TX : Hid (Blk w59 Xw #[.int .i64 0, .bool false, .slice none 0 0] 26 ∧ w45.heap.size ≤ Xw) := ⟨by rw [hX]; exact TX0, by have := BS.out.size; omega⟩
          have HSN : Hid (Blk w59 w.heap.size cs3 33) := HSN.out.below bz
          have BZ : Hid (Below w.heap.size w w59) := Below.next BZ.out bz
          have BS : Hid (Below w45.heap.size w45 w59) := Below.next BS.out bz
          have T0 : Hid (RdI w59 aT0 nT0 ss XT0) := T0.out.below bz
          rw [← hX]
          clear hX TX0 bz
          refine onlyH (o := ?o77) 3 (by kernel_rfl) ?h77 ?r77
          case h77 => simp only [aT, aS, aZ]; rfl
          intro K hK
          refine op_call1 21 _ _ Try.f21 (fun v w' => ∃ a n k X, v = .slice a n k ∧ RdI w' a n ws X ∧ Below w59.heap.size w59 w') rfl rfl Try.func21 (by kernel_rfl) (by kernel_rfl) ((toIntS_any a1 n1 k1 ws F1 w59 (HS1.out.1.below BZ.out) HS1.out.2).mono (by rintro e w' ⟨a, n, k, X, rfl, h1, _, h3⟩; exact ⟨_, rfl, a, n, k, X, rfl, h1, h3⟩)) ?_
          rintro _ w60 ⟨aT1, nT1, kT1, XT1, rfl, rz, bz⟩
          have HSN : Hid (Blk w60 w.heap.size cs3 33) := HSN.out.below bz
          have BZ : Hid (Below w.heap.size w w60) := Below.next BZ.out bz
          have BS : Hid (Below w45.heap.size w45 w60) := Below.next BS.out bz
          have T0 : Hid (RdI w60 aT0 nT0 ss XT0) := T0.out.below bz
          have TX : Hid (Blk w60 Xw #[.int .i64 0, .bool false, .slice none 0 0] 26 ∧ w45.heap.size ≤ Xw) := ⟨TX.out.1.below bz, TX.out.2⟩
          have T1 : Hid (RdI w60 aT1 nT1 ws XT1) := rz
          refine ⟨_, by simp [Act.put]; rfl, hK _ _ ⟨HSN.out, ?_⟩⟩
          clear hK rz bz
          refine onlyH (o := ?o78) 6 (by kernel_rfl) ?h78 ?r78
          case h78 => simp only [aT, aS, aZ]; rfl
          intro K hK
          refine op_call1 15 _ _ Try.f15 (fun v w' => ∃ X, RdTu w' v s X ∧ Below w60.heap.size w60 w') rfl rfl Try.func15 (by kernel_rfl) (by kernel_rfl) ((toTu_any _ s F w60 (HH3.out.1.below BZ.out) HF3.out).mono (by rintro e w' ⟨v, X, rfl, h1, _, h3⟩; exact ⟨_, rfl, X, h1, h3⟩)) ?_
          rintro zT3 w61 ⟨XT3, rz, bz⟩
          have HSN : Hid (Blk w61 w.heap.size cs3 33) := HSN.out.below bz
          have BZ : Hid (Below w.heap.size w w61) := Below.next BZ.out bz
          have BS : Hid (Below w45.heap.size w45 w61) := Below.next BS.out bz
          have T0 : Hid (RdI w61 aT0 nT0 ss XT0) := T0.out.below bz
          have T1 : Hid (RdI w61 aT1 nT1 ws XT1) := T1.out.below bz
          have TX : Hid (Blk w61 Xw #[.int .i64 0, .bool false, .slice none 0 0] 26 ∧ w45.heap.size ≤ Xw) := ⟨TX.out.1.below bz, TX.out.2⟩
          have T3 : Hid (RdTu w61 zT3 s XT3) := rz
          refine ⟨_, by simp [Act.put]; rfl, hK _ _ ⟨HSN.out, ?_⟩⟩
          clear hK rz bz
          refine onlyH (o := ?o79) 7 (by kernel_rfl) ?h79 ?r79
          case h79 => simp only [aT, aS, aZ]; rfl
          intro K hK
          refine op_callT4 9 _ _ _ _ _ Try.f9 (fun v w' => ∃ z Y, v = .tuple #[.int .i64 rk, z] ∧ RdTu w' z ra Y ∧ Own w61.heap.size w' Y ∧ Below w61.heap.size w61 w') rfl rfl Try.func9 (by kernel_rfl) (by kernel_rfl) ((pick_impl_any aT0 aT1 nT0 kT0 nT1 kT1 ss ws XT0 XT1 c zT3 s XT3 w61 T0.out T1.out T3.out (by rw [← T0.out.length, HS0.out.1.length]; exact HS0.out.2) (by rw [← T1.out.length, HS1.out.1.length]; exact HS1.out.2) HF3.out).mono (by intro e w' hres; rw [← HZ.out] at hres; obtain ⟨z, Y, rfl, h1, h2, h3⟩ := hres; exact ⟨_, rfl, z, Y, rfl, h1, h2, h3⟩)) ?_
          rintro zt w62 ⟨zv, Yw, rfl, ry, oy, bz⟩
          obtain ⟨cw, rfl, szw, onw⟩ := ry.cells
          have s1 := BS.out.size
          have TXN : Hid (Xw ∉ Yw) := fun hx => by have := oy.ge _ hx; have := TX.out.1.lt; omega
          have HSN : Hid (Blk w62 w.heap.size cs3 33) := HSN.out.below bz
          have BZ : Hid (Below w.heap.size w w62) := Below.next BZ.out bz
          have BS : Hid (Below w45.heap.size w45 w62) := Below.next BS.out bz
          have TX : Hid (Blk w62 Xw #[.int .i64 0, .bool false, .slice none 0 0] 26 ∧ w45.heap.size ≤ Xw) := ⟨TX.out.1.below bz, TX.out.2⟩
          have TT : Hid (RdTu w62 (.agg cw) ra Yw ∧ Own w45.heap.size w62 Yw ∧ cw.size = 3 ∧ cw.all (·.oneCell') = true) := ⟨ry, oy.mono s1, szw, onw⟩
          refine ⟨_, by simp [Act.put]; rfl, hK _ _ ⟨HSN.out, ?_⟩⟩
          clear hK ry oy bz szw onw s1 T0 T1 T3
          refine takeH (o := ?o80) 8 (.tuple #[.int .i64 rk, .agg cw]) ?h80 ?r80
          case h80 => simp only [aT, aS, aZ]; rfl
          refine ⟨_, by simp [Act.put]; rfl, by kernel_rfl, by kernel_rfl, by kernel_rfl, fun _ _ _ h => h, (.inl ⟨rfl, fun W _ => by kernel_rfl⟩), HSN.out, ?_⟩
          refine takeH (o := ?o81) 9 (.int .i64 rk) ?h81 ?r81
          case h81 => simp only [aT, aS, aZ]; rfl
          refine ⟨_, by simp [Act.put]; rfl, by kernel_rfl, by kernel_rfl, by kernel_rfl, fun _ _ _ h => h, (.inl ⟨rfl, fun W _ => by kernel_rfl⟩), HSN.out, ?_⟩
          refine takeH (o := ?o82) 10 (.agg cw) ?h82 ?r82
          case h82 => simp only [aT, aS, aZ]; rfl
          refine ⟨_, by simp [Act.put]; rfl, by kernel_rfl, by kernel_rfl, by kernel_rfl, fun _ _ _ h => h, (.inl ⟨rfl, fun W _ => by kernel_rfl⟩), HSN.out, ?_⟩
          refine takeH (o := ?o83) 12 (.int .i64 rk) ?h83 ?r83
          case h83 => simp only [aT, aS, aZ]; rfl
          refine ⟨_, by simp [Act.put]; rfl, by kernel_rfl, by kernel_rfl, by kernel_rfl, fun _ _ _ h => h, (.inl ⟨rfl, fun W _ => by kernel_rfl⟩), HSN.out, ?_⟩
          refine onlyH (o := ?o84) 13 (by kernel_rfl) ?h84 ?r84
          case h84 => simp only [aT, aS, aZ]; rfl
          intro K hK
          have lp := LP.out
          have lx := TX.out.2
          refine op_store 26 Xw #[.int .i64 0, .bool false, .slice none 0 0] cw 26 rfl rfl rfl rfl TX.out.1 (tuSize TT.out.2.2.1) TT.out.2.2.1.symm TT.out.2.2.2 ⟨_, by simp [Act.put]; rfl, hK _ _ ⟨HSN.out.setRowOther (by omega), ?_⟩⟩
          clear hK
          refine wpAnyH_done (by kernel_rfl) ?_ _
          go_wp2_with fail
          go_meet
          case rel => exact ⟨Xw, cw, Yw, rfl, rfl, below_setRow BS.out lx _, varTu_stored TX.out.1 TT.out.1 TT.out.2.2.1 TT.out.2.1 TT.out.1.lt lx TXN.out⟩
      case s54 =>
        intro K hK
        refine op_turn (.pointer (some ⟨Y0.heap.size, 0, none⟩)) (Y0.alloc (.cells #[.int .i64 0, .bool false, .slice none 0 0] 26)) rfl (by kernel_rfl) ⟨_, by simp [Act.put]; rfl, hK _ _ ⟨HSN.out.alloc _, ?_⟩⟩
        clear hK
        obtain ⟨w64, hW⟩ : ∃ Z, Z = (Y0.alloc (.cells #[.int .i64 0, .bool false, .slice none 0 0] 26)) := ⟨_, rfl⟩
        have bz : Below Y0.heap.size Y0 w64 := by rw [hW]; exact (Below.refl _ _).alloc (Nat.le_refl _) _
        have TX0 : Blk w64 Y0.heap.size #[.int .i64 0, .bool false, .slice none 0 0] 26 := by rw [hW]; exact Blk.made _ _ _
        rw [← hW]
        clear hW
        obtain ⟨Xw, hX⟩ : ∃ z, z = Y0.heap.size := ⟨_, rfl⟩
        have TX : Hid (Blk w64 Xw #[.int .i64 0, .bool false, .slice none 0 0] 26 ∧ w45.heap.size ≤ Xw) := ⟨by rw [hX]; exact TX0, by have := BS.out.size; omega⟩
        have HSN : Hid (Blk w64 w.heap.size cs3 33) := HSN.out.below bz
        have BZ : Hid (Below w.heap.size w w64) := Below.next BZ.out bz
        have BS : Hid (Below w45.heap.size w45 w64) := Below.next BS.out bz
        rw [← hX]
        clear hX TX0 bz
        refine onlyH (o := ?o85) 1 (by kernel_rfl) ?h85 ?r85
        case h85 => simp only [aT, aS, aZ]; rfl
        intro K hK
        refine op_call1 21 _ _ Try.f21 (fun v w' => ∃ a n k X, v = .slice a n k ∧ RdI w' a n ss X ∧ Below w64.heap.size w64 w') rfl rfl Try.func21 (by kernel_rfl) (by kernel_rfl) ((toIntS_any a0 n0 k0 ss F0 w64 (HS0.out.1.below BZ.out) HS0.out.2).mono (by rintro e w' ⟨a, n, k, X, rfl, h1, _, h3⟩; exact ⟨_, rfl, a, n, k, X, rfl, h1, h3⟩)) ?_
        rintro _ w65 ⟨aT0, nT0, kT0, XT0, rfl, rz, bz⟩
        have HSN : Hid (Blk w65 w.heap.size cs3 33) := HSN.out.below bz
        have BZ : Hid (Below w.heap.size w w65) := Below.next BZ.out bz
        have BS : Hid (Below w45.heap.size w45 w65) := Below.next BS.out bz
        have TX : Hid (Blk w65 Xw #[.int .i64 0, .bool false, .slice none 0 0] 26 ∧ w45.heap.size ≤ Xw) := ⟨TX.out.1.below bz, TX.out.2⟩
        have T0 : Hid (RdI w65 aT0 nT0 ss XT0) := rz
        refine ⟨_, by simp [Act.put]; rfl, hK _ _ ⟨HSN.out, ?_⟩⟩
        clear hK rz bz
        refine onlyH (o := ?o86) 3 (by kernel_rfl) ?h86 ?r86
        case h86 => simp only [aT, aS, aZ]; rfl
        intro K hK
        refine op_call1 21 _ _ Try.f21 (fun v w' => ∃ a n k X, v = .slice a n k ∧ RdI w' a n ws X ∧ Below w65.heap.size w65 w') rfl rfl Try.func21 (by kernel_rfl) (by kernel_rfl) ((toIntS_any a1 n1 k1 ws F1 w65 (HS1.out.1.below BZ.out) HS1.out.2).mono (by rintro e w' ⟨a, n, k, X, rfl, h1, _, h3⟩; exact ⟨_, rfl, a, n, k, X, rfl, h1, h3⟩)) ?_
        rintro _ w66 ⟨aT1, nT1, kT1, XT1, rfl, rz, bz⟩
        have HSN : Hid (Blk w66 w.heap.size cs3 33) := HSN.out.below bz
        have BZ : Hid (Below w.heap.size w w66) := Below.next BZ.out bz
        have BS : Hid (Below w45.heap.size w45 w66) := Below.next BS.out bz
        have T0 : Hid (RdI w66 aT0 nT0 ss XT0) := T0.out.below bz
        have TX : Hid (Blk w66 Xw #[.int .i64 0, .bool false, .slice none 0 0] 26 ∧ w45.heap.size ≤ Xw) := ⟨TX.out.1.below bz, TX.out.2⟩
        have T1 : Hid (RdI w66 aT1 nT1 ws XT1) := rz
        refine ⟨_, by simp [Act.put]; rfl, hK _ _ ⟨HSN.out, ?_⟩⟩
        clear hK rz bz
        refine onlyH (o := ?o87) 6 (by kernel_rfl) ?h87 ?r87
        case h87 => simp only [aT, aS, aZ]; rfl
        intro K hK
        refine op_call1 15 _ _ Try.f15 (fun v w' => ∃ X, RdTu w' v s X ∧ Below w66.heap.size w66 w') rfl rfl Try.func15 (by kernel_rfl) (by kernel_rfl) ((toTu_any _ s F w66 (HH3.out.1.below BZ.out) HF3.out).mono (by rintro e w' ⟨v, X, rfl, h1, _, h3⟩; exact ⟨_, rfl, X, h1, h3⟩)) ?_
        rintro zT3 w67 ⟨XT3, rz, bz⟩
        have HSN : Hid (Blk w67 w.heap.size cs3 33) := HSN.out.below bz
        have BZ : Hid (Below w.heap.size w w67) := Below.next BZ.out bz
        have BS : Hid (Below w45.heap.size w45 w67) := Below.next BS.out bz
        have T0 : Hid (RdI w67 aT0 nT0 ss XT0) := T0.out.below bz
        have T1 : Hid (RdI w67 aT1 nT1 ws XT1) := T1.out.below bz
        have TX : Hid (Blk w67 Xw #[.int .i64 0, .bool false, .slice none 0 0] 26 ∧ w45.heap.size ≤ Xw) := ⟨TX.out.1.below bz, TX.out.2⟩
        have T3 : Hid (RdTu w67 zT3 s XT3) := rz
        refine ⟨_, by simp [Act.put]; rfl, hK _ _ ⟨HSN.out, ?_⟩⟩
        clear hK rz bz
        refine onlyH (o := ?o88) 7 (by kernel_rfl) ?h88 ?r88
        case h88 => simp only [aT, aS, aZ]; rfl
        intro K hK
        refine op_callT4 9 _ _ _ _ _ Try.f9 (fun v w' => ∃ z Y, v = .tuple #[.int .i64 rk, z] ∧ RdTu w' z ra Y ∧ Own w67.heap.size w' Y ∧ Below w67.heap.size w67 w') rfl rfl Try.func9 (by kernel_rfl) (by kernel_rfl) ((pick_impl_any aT0 aT1 nT0 kT0 nT1 kT1 ss ws XT0 XT1 c zT3 s XT3 w67 T0.out T1.out T3.out (by rw [← T0.out.length, HS0.out.1.length]; exact HS0.out.2) (by rw [← T1.out.length, HS1.out.1.length]; exact HS1.out.2) HF3.out).mono (by intro e w' hres; rw [← HZ.out] at hres; obtain ⟨z, Y, rfl, h1, h2, h3⟩ := hres; exact ⟨_, rfl, z, Y, rfl, h1, h2, h3⟩)) ?_
        rintro zt w68 ⟨zv, Yw, rfl, ry, oy, bz⟩
        obtain ⟨cw, rfl, szw, onw⟩ := ry.cells
        have s1 := BS.out.size
        have TXN : Hid (Xw ∉ Yw) := fun hx => by have := oy.ge _ hx; have := TX.out.1.lt; omega
        have HSN : Hid (Blk w68 w.heap.size cs3 33) := HSN.out.below bz
        have BZ : Hid (Below w.heap.size w w68) := Below.next BZ.out bz
        have BS : Hid (Below w45.heap.size w45 w68) := Below.next BS.out bz
        have TX : Hid (Blk w68 Xw #[.int .i64 0, .bool false, .slice none 0 0] 26 ∧ w45.heap.size ≤ Xw) := ⟨TX.out.1.below bz, TX.out.2⟩
        have TT : Hid (RdTu w68 (.agg cw) ra Yw ∧ Own w45.heap.size w68 Yw ∧ cw.size = 3 ∧ cw.all (·.oneCell') = true) := ⟨ry, oy.mono s1, szw, onw⟩
        refine ⟨_, by simp [Act.put]; rfl, hK _ _ ⟨HSN.out, ?_⟩⟩
        clear hK ry oy bz szw onw s1 T0 T1 T3
        refine takeH (o := ?o89) 8 (.tuple #[.int .i64 rk, .agg cw]) ?h89 ?r89
        case h89 => simp only [aT, aS, aZ]; rfl
        refine ⟨_, by simp [Act.put]; rfl, by kernel_rfl, by kernel_rfl, by kernel_rfl, fun _ _ _ h => h, (.inl ⟨rfl, fun W _ => by kernel_rfl⟩), HSN.out, ?_⟩
        refine takeH (o := ?o90) 9 (.int .i64 rk) ?h90 ?r90
        case h90 => simp only [aT, aS, aZ]; rfl
        refine ⟨_, by simp [Act.put]; rfl, by kernel_rfl, by kernel_rfl, by kernel_rfl, fun _ _ _ h => h, (.inl ⟨rfl, fun W _ => by kernel_rfl⟩), HSN.out, ?_⟩
        refine takeH (o := ?o91) 10 (.agg cw) ?h91 ?r91
        case h91 => simp only [aT, aS, aZ]; rfl
        refine ⟨_, by simp [Act.put]; rfl, by kernel_rfl, by kernel_rfl, by kernel_rfl, fun _ _ _ h => h, (.inl ⟨rfl, fun W _ => by kernel_rfl⟩), HSN.out, ?_⟩
        refine takeH (o := ?o92) 12 (.int .i64 rk) ?h92 ?r92
        case h92 => simp only [aT, aS, aZ]; rfl
        refine ⟨_, by simp [Act.put]; rfl, by kernel_rfl, by kernel_rfl, by kernel_rfl, fun _ _ _ h => h, (.inl ⟨rfl, fun W _ => by kernel_rfl⟩), HSN.out, ?_⟩
        refine onlyH (o := ?o93) 13 (by kernel_rfl) ?h93 ?r93
        case h93 => simp only [aT, aS, aZ]; rfl
        intro K hK
        have lp := LP.out
        have lx := TX.out.2
        refine op_store 26 Xw #[.int .i64 0, .bool false, .slice none 0 0] cw 26 rfl rfl rfl rfl TX.out.1 (tuSize TT.out.2.2.1) TT.out.2.2.1.symm TT.out.2.2.2 ⟨_, by simp [Act.put]; rfl, hK _ _ ⟨HSN.out.setRowOther (by omega), ?_⟩⟩
        clear hK
        refine wpAnyH_done (by kernel_rfl) ?_ _
        go_wp2_with fail
        go_meet
        case rel => exact ⟨Xw, cw, Yw, rfl, rfl, below_setRow BS.out lx _, varTu_stored TX.out.1 TT.out.1 TT.out.2.2.1 TT.out.2.1 TT.out.1.lt lx TXN.out⟩
    case rest =>
      obtain ⟨gh, ch, Yh, rfl, rfl, hbw, hvar⟩ := hcut
      obtain ⟨w70, hWn⟩ : ∃ W, W = wc := ⟨_, rfl⟩
      rw [← hWn] at hbw hvar ⊢
      clear hWn
      have BX3 : Hid (Blk w70 w.heap.size cs3 33) := BX3.out.below hbw
      have BEL : Hid (Below w.heap.size w w70) := Below.next BEL.out hbw
      have Vw : Hid (VarTu w70 w1.heap.size w26.heap.size gw cw ra Yw) := Vw.out.below hbw
      have Vg : Hid (VarTu w70 w30.heap.size w32.heap.size w31.heap.size cg (ra.marked 1) Yg) := Vg.out.below hbw
      have Vh : Hid (VarTu w70 w45.heap.size w70.heap.size gh ch ra Yh) := hvar
      have O7 : Hid (w45.heap.size ≤ w70.heap.size) := by show _ ≤ _; exact hbw.size
      clear hvar hbw LP
      go_wp2_with (first | go_skip | (with_reducible refine stopLoad 33 rfl ?_) | (with_reducible refine stopLoad 26 rfl ?_) | (with_reducible refine stopStore 26 rfl ?_))
      refine load_any 26 _ ch 26 _ Vh.out.blk rfl rfl rfl Try.underlying26 rfl (tuSize Vh.out.sz) ?_
      go_wp2_with (first | go_skip | (with_reducible refine stopLoad 33 rfl ?_) | (with_reducible refine stopLoad 26 rfl ?_) | (with_reducible refine stopStore 26 rfl ?_))
      refine load_any 26 _ cw 26 _ Vw.out.blk rfl rfl rfl Try.underlying26 rfl (tuSize Vw.out.sz) ?_
      go_wp2_with fail
      refine (eqTu_any _ _ ra ra Yh Yw _ Vh.out.rd Vw.out.rd HM.out.1 HM.out.1).mono ?_
      rintro e w71 ⟨rfl, hb⟩
      have BX3 : Hid (Blk w71 w.heap.size cs3 33) := BX3.out.below hb
      have BEL : Hid (Below w.heap.size w w71) := Below.next BEL.out hb
      have Vw : Hid (VarTu w71 w1.heap.size w26.heap.size gw cw ra Yw) := Vw.out.below hb
      have Vg : Hid (VarTu w71 w30.heap.size w32.heap.size w31.heap.size cg (ra.marked 1) Yg) := Vg.out.below hb
      have Vh : Hid (VarTu w71 w45.heap.size w70.heap.size gh ch ra Yh) := Vh.out.below hb
      clear hb
      have hdec : decide (ra = ra) = true := by simp
      rw [hdec]
      clear hdec
      go_wp2_with (first | go_skip | (with_reducible refine stopLoad 33 rfl ?_) | (with_reducible refine stopLoad 26 rfl ?_) | (with_reducible refine stopStore 26 rfl ?_))
      refine load_any 26 _ cg 26 _ Vg.out.blk rfl rfl rfl Try.underlying26 rfl (tuSize Vg.out.sz) ?_
      go_wp2_with fail
      refine (heldTu_any _ ra Yg 1 _ Vg.out.rd HM.out.1 (by omega) (by have := HM.out; omega)).mono ?_
      rintro e w72 ⟨rfl, hb⟩
      have BX3 : Hid (Blk w72 w.heap.size cs3 33) := BX3.out.below hb
      have BEL : Hid (Below w.heap.size w w72) := Below.next BEL.out hb
      have Vw : Hid (VarTu w72 w1.heap.size w26.heap.size gw cw ra Yw) := Vw.out.below hb
      have Vg : Hid (VarTu w72 w30.heap.size w32.heap.size w31.heap.size cg (ra.marked 1) Yg) := Vg.out.below hb
      have Vh : Hid (VarTu w72 w45.heap.size w70.heap.size gh ch ra Yh) := Vh.out.below hb
      clear hb
      rw [← HKM.out]
      go_wp2
      go_ret
      exact ⟨rfl, BEL.out⟩
set_option maxRecDepth 200000 in
theorem lifted (os : Os) (started : os.Started) (H : Type) (enc : TypeId × Value → H) :
    ReturnsInHanded {} Try.checked os 6 .any (Rows.fnExactPickSpec.pre6 enc Try.prog Try.f6 Rows.fnExactPickRow.domain false) (Rows.fnExactPickSpec.post enc Try.prog Try.f6 false true false false) := by
  refine returnsInHanded_of_change (C := Try.checked) own started (by kernel_rfl) Try.func6
    (ChangeSpec.witness6 (enc := enc) (C := Try.checked) false ⟨#[], #[.slice none 0 0, .slice none 0 0, .int .i64 0, .agg #[.int .i64 0, .bool false, .slice none 0 0]], []⟩ 8 (by kernel_rfl) (by kernel_rfl) (by kernel_rfl) (by kernel_rfl)) ?_
  intro W base args ds gs before hval0 hW hcnd _
  have hval : ∀ (j : Nat) t v, Try.f6.params[j]? = some t → args[j]? = some v → Value.okWide Try.prog W .any base t v := hval0
  have hW' := hW
  obtain ⟨p, q, hA0, hV, rfl, hfz, hnd⟩ := hW
  have hA : DataW.TrodAll enc Try.prog W 0 (fun _ => true) true Try.f6.params.toList args.toList ds p := hA0
  rw [Try.params6] at hA hval
  obtain ⟨v0, vs0, d0, ds0, p0, q0, hargs0, rfl, rfl, h0, r0⟩ := trodAll_cons hA
  obtain ⟨v1, vs1, d1, ds1, p1, q1, hargs1, rfl, rfl, h1, r1⟩ := trodAll_cons r0
  obtain ⟨v2, vs2, d2, ds2, p2, q2, hargs2, rfl, rfl, h2, r2⟩ := trodAll_cons r1
  obtain ⟨v3, vs3, d3, ds3, p3, q3, hargs3, rfl, rfl, h3, r3⟩ := trodAll_cons r2
  obtain ⟨rfl, rfl, rfl⟩ := trodAll_nil r3
  obtain rfl : args = #[v0, v1, v2, v3] := by cases args; simp_all
  obtain ⟨rfl, rfl⟩ := trodVars_none hV
  have k0 := h0
  have lt0 : ∀ x ∈ p0, x.block < W.heap.size := by obtain ⟨m, hm⟩ := k0; exact DataW.trod_lt m _ _ _ hm
  have k1 := h1
  have lt1 : ∀ x ∈ p1, x.block < W.heap.size := by obtain ⟨m, hm⟩ := k1; exact DataW.trod_lt m _ _ _ hm
  have k3 := h3
  have lt3 : ∀ x ∈ p3, x.block < W.heap.size := by obtain ⟨m, hm⟩ := k3; exact DataW.trod_lt m _ _ _ hm
  obtain ⟨a0, n0, c0, zs0, F0, rfl, hR0, hv0⟩ := open_numsA (hval 0 24 v0 rfl rfl) h0
  obtain ⟨a1, n1, c1, zs1, F1, rfl, hR1, hv1⟩ := open_numsA (hval 1 24 v1 rfl rfl) h1
  obtain ⟨a2, rfl, rfl, rfl, w2⟩ := open_int Try.underlying3 (hval 2 3 v2 rfl rfl) h2
  obtain ⟨s3, F3, hR3, hv3⟩ := open_Tu (hval 3 33 v3 rfl rfl) h3
  clear hA0 hval0
  refine (walk a0 n0 c0 zs0 F0 a1 n1 c1 zs1 F1 a2 v3 s3 F3 W hR0 hv0 hR1 hv1 hR3 hv3).mono fun e W' ⟨he, bel⟩ => ?_
  subst he
  exact ⟨_, rfl, _, _, _, [], _, [], hW', trodAll_mk1 (shut_bool Try.underlying4 _), (trodAll_cons_mk (Below.trod tu_laidOut (by kernel_rfl) (of_decide_eq_true (by kernel_rfl)) k0 bel lt0) (trodAll_cons_mk (Below.trod tu_laidOut (by kernel_rfl) (of_decide_eq_true (by kernel_rfl)) k1 bel lt1) (trodAll_cons_mk (shut_int Try.underlying3 w2) (trodAll_cons_mk (Below.trod tu_laidOut (by kernel_rfl) (of_decide_eq_true (by kernel_rfl)) k3 bel lt3) trodAll_mk0)))), rfl, bel.frame _, fun h => by cases h⟩
theorem over : Rows.fnExactPickRow.holds Try.pinned (OpenSpec.ofChange Rows.fnExactPickSpec) :=
  OpenClaim.holds_of_wide 6 Try.f6 rfl rfl rfl rfl rfl rfl rfl ⟨rfl, rfl, rfl, rfl, rfl⟩ rfl rfl rfl rfl rfl (by kernel_rfl) Try.func6 (by kernel_rfl)
    (of_decide_eq_true (by kernel_rfl)) (by unfold Func.isWrapper; first | (rw [if_pos (by decide +kernel)]; kernel_rfl) | (rw [if_neg (by decide +kernel)]; exact ⟨rfl, rfl⟩))
    (fun os started H enc _ => lifted os started H enc)
theorem proved : Rows.FnExactPickSaid := over
#print axioms proved
end Go.Proofs.Ythimjmkdcocofaa.fnExactPick
