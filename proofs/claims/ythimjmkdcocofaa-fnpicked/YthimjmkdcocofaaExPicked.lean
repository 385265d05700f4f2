/- For every byte slice (no condition): laws.FnPicked returns true, and its argument reads afterwards as it did: who is picked has something, no more than it may hand over; where somebody has something somebody is picked. -/
import Derived.Test.YthimjmkdcocofaaLawBase
import Derived.Test.YthimjmkdcocofaaB1
import Derived.Test.YthimjmkdcocofaaB2
import Derived.Test.YthimjmkdcocofaaSkLaw
import Derived.Deep.DeepCutAuto
import Derived.Test.YthimjmkdcocofaaRows
import Derived.WalkKit
import Derived.ProofKit
import Derived.OpenShut
import Derived.ShutString
import Derived.ChangeOld
import Derived.Below
namespace Go.Proofs.Ythimjmkdcocofaa.fnPicked
open Go.ChangeShapes Go.WideShapes Go.ChangeAt Go.RowKit
open Go.ChangeMaps (open_string shut_string)
set_option linter.unusedVariables false

theorem own : ownKnob Try.prog.godebug = none := by kernel_rfl
theorem laidOut : laidOutB Try.prog = true := by kernel_rfl

/-- WHAT THE WALK IS TOLD OF A SLICE OF INTEGERS THAT CAME IN: it is nil; or it leads to a row of 'cap' cells, the numbers 'zs' (the first 'len' are its elements, the rest its spare room), each fitting its kind. -/
def IsRow (k : IntKind) (w : World) (a : Option Addr) (len cap : Nat) (zs : List Int) : Prop :=
  (a = none ∧ len = 0 ∧ cap = 0 ∧ zs = []) ∨
  ∃ x, a = some x ∧ len ≤ cap ∧ cap ≤ maxLen ∧ zs.length = cap ∧ (∀ i, i < zs.length → w.cell? (x.add i) = some (.int k (zs.getD i 0))) ∧ ∀ n ∈ zs, (Lit.int k n).wf = true



set_option maxHeartbeats 16000000 in
set_option maxRecDepth 200000 in
theorem walk (a0 : Option Addr) (len0 cap0 : Nat) (z0 : List Int) (w : World) (w0 : IsRow .u8 w a0 len0 cap0 z0) :
    Calls Try.prog 3 #[.slice a0 len0 cap0] w fun e w' => e = .returned (.bool true) ∧ Below w.heap.size w w' := by
  have hR0 := rdOf w0
  have hR := hR0.1
  generalize z0.take len0 = zs at hR
  clear w0 hR0
  have HR : Hid (RdB w a0 len0 zs) := hR
  clear hR
  go_enter Try.func3, Try.ntmps3
  go_wp2_with fail
  refine (big_any a0 len0 cap0 _).mono ?_
  rintro e w1 ⟨rfl, hw1⟩
  have hw1' := hw1.symm
  subst hw1'
  clear hw1
  by_cases hbig : 1048576 < len0
  · have hd : decide ((1048576 : Int) < (len0 : Int)) = true := dec_true (by omega)
    rw [hd]
    clear hd
    go_wp2
    go_ret
    exact ⟨rfl, Below.refl _ _⟩
  have hd : decide ((1048576 : Int) < (len0 : Int)) = false := dec_false (by omega)
  have hlen : len0 ≤ 1048576 := by omega
  rw [hd]
  clear hd hbig
  have BEL : Hid (Below w.heap.size w w) := Below.refl _ _
  go_wp2_with fail
  refine (drawPick_any a0 len0 cap0 zs _ HR.out hlen).mono ?_
  rintro e w1 ⟨a1, k1, ss, F1, a2, k2, ws, F2, c, v, x, F, rfl, r1, r2, rx, lx, b1⟩
  obtain ⟨b1', o1, rfl, rfl⟩ := r1.single (by omega)
  obtain ⟨b2', o2, rfl, rfl⟩ := r2.single (by omega)
  obtain ⟨bt, lt, kt, rfl, rt⟩ := rx
  have BEL : Hid (Below w.heap.size w w1) := Below.next BEL.out b1
  have HS : Hid (RdI w1 (some ⟨b1', o1, none⟩) 3 ss [b1'] ∧ RdI w1 (some ⟨b2', o2, none⟩) 3 ws [b2']) := ⟨r1, r2⟩
  have HX : Hid (RdI w1 bt lt x.left F ∧ x.left.length ≤ 3) := ⟨rt, lx⟩
  clear r1 r2 rt lx b1
  go_wp2_with (first | go_skip | (with_reducible refine stopLoad 26 rfl ?_) | (with_reducible refine stopStore 26 rfl ?_))
  refine store_fresh 26 w1.heap.size rfl #[.int .i64 0, .bool false, .slice none 0 0] #[.int .i64 x.who, .bool x.fresh, .slice bt lt kt] 26 rfl rfl rfl rfl infoTuI rfl (by simp [Value.oneCell']) ?_
  intro w2 hg hb
  have BEL : Hid (Below w.heap.size w w2) := Below.next BEL.out hb
  have HS : Hid (RdI w2 (some ⟨b1', o1, none⟩) 3 ss [b1'] ∧ RdI w2 (some ⟨b2', o2, none⟩) 3 ws [b2']) := ⟨HS.out.1.below hb, HS.out.2.below hb⟩
  have HX : Hid (RdI w2 bt lt x.left F ∧ x.left.length ≤ 3) := ⟨HX.out.1.below hb, HX.out.2⟩
  obtain ⟨gt, hgv⟩ : ∃ g, g = w1.heap.size := ⟨_, rfl⟩
  rw [← hgv] at hg ⊢
  have Vt : Hid (Blk w2 gt #[.int .i64 x.who, .bool x.fresh, .slice bt lt kt] 26) := hg
  clear hg hb hgv
  have HF : Hid (x.fits) := by show x.left.length ≤ 1048576; have := HX.out.2; omega
  obtain ⟨rk, y, hz⟩ : ∃ rk y, (rk, y) = pick ss ws c x := ⟨(pick ss ws c x).1, (pick ss ws c x).2, rfl⟩
  have HZ : Hid ((rk, y) = pick ss ws c x) := hz
  have hrk : (rk != rk) = false := by simp
  have hyw : (y.who != y.who) = false := by simp
  have hyf : (y.fresh != y.fresh) = false := by simp
  have hyl : y.left.length ≤ 1048576 := by
    have e : y = (pick ss ws c x).2 := by rw [← hz]
    rw [e]
    rcases pick_case ss ws c x with k | ⟨k, z⟩ | ⟨k, z⟩
    · rw [pick_bad k]; exact HF.out
    · rw [pick_zero k z]; exact (by decide : 3 ≤ 1048576)
    · rw [pick_some k z]
      obtain ⟨p, p', p'', e, _⟩ := ok_three (pickN_got 20000 (picks_in k z) (mu_le (picks_all k).2.2.2)).1
      show (pickN ss ws c 20000 x).left.length ≤ _
      rw [e]; exact (by decide : 3 ≤ 1048576)
  have HYL : Hid (y.left.length ≤ 1048576) := hyl
  clear hz hyl
  go_wp2_with (first | go_skip | (with_reducible refine stopLoad 26 rfl ?_) | (with_reducible refine stopStore 26 rfl ?_))
  refine load_known 26 gt #[.int .i64 x.who, .bool x.fresh, .slice bt lt kt] 26 _ Vt.out rfl rfl rfl Try.underlying26 rfl infoTuI ?_
  go_wp2_with fail
  refine (pick_impl_any _ _ _ _ _ _ ss ws [b1'] [b2'] c _ x F _ HS.out.1 HS.out.2 ⟨bt, lt, kt, rfl, HX.out.1⟩ (by omega) (by omega) HF.out).mono ?_
  intro e w3 hh
  rw [← HZ.out] at hh
  obtain ⟨zv, Fu, rfl, ⟨bu, lu, cu, rfl, rr⟩, oo, bb⟩ := hh
  have BEL : Hid (Below w.heap.size w w3) := Below.next BEL.out bb
  have HS : Hid (RdI w3 (some ⟨b1', o1, none⟩) 3 ss [b1'] ∧ RdI w3 (some ⟨b2', o2, none⟩) 3 ws [b2']) := ⟨HS.out.1.below bb, HS.out.2.below bb⟩
  have HX : Hid (RdI w3 bt lt x.left F ∧ x.left.length ≤ 3) := ⟨HX.out.1.below bb, HX.out.2⟩
  have Vt : Hid (Blk w3 gt #[.int .i64 x.who, .bool x.fresh, .slice bt lt kt] 26) := Vt.out.below bb
  have Ru : Hid (RdI w3 bu lu y.left Fu) := rr
  clear rr oo bb
  go_wp2_with (first | go_skip | (with_reducible refine stopLoad 26 rfl ?_) | (with_reducible refine stopStore 26 rfl ?_))
  refine store_fresh 26 w3.heap.size rfl #[.int .i64 0, .bool false, .slice none 0 0] #[.int .i64 y.who, .bool y.fresh, .slice bu lu cu] 26 rfl rfl rfl rfl infoTuI rfl (by simp [Value.oneCell']) ?_
  intro w4 hg hb
  have BEL : Hid (Below w.heap.size w w4) := Below.next BEL.out hb
  have HS : Hid (RdI w4 (some ⟨b1', o1, none⟩) 3 ss [b1'] ∧ RdI w4 (some ⟨b2', o2, none⟩) 3 ws [b2']) := ⟨HS.out.1.below hb, HS.out.2.below hb⟩
  have HX : Hid (RdI w4 bt lt x.left F ∧ x.left.length ≤ 3) := ⟨HX.out.1.below hb, HX.out.2⟩
  have Vt : Hid (Blk w4 gt #[.int .i64 x.who, .bool x.fresh, .slice bt lt kt] 26) := Vt.out.below hb
  have Ru : Hid (RdI w4 bu lu y.left Fu) := Ru.out.below hb
  obtain ⟨gu, hgv⟩ : ∃ g, g = w3.heap.size := ⟨_, rfl⟩
  rw [← hgv] at hg ⊢
  have Vu : Hid (Blk w4 gu #[.int .i64 y.who, .bool y.fresh, .slice bu lu cu] 26) := hg
  clear hg hb hgv
  go_wp2_with (first | go_skip | (with_reducible refine stopLoad 26 rfl ?_) | (with_reducible refine stopStore 26 rfl ?_))
  refine load_known 26 gt #[.int .i64 x.who, .bool x.fresh, .slice bt lt kt] 26 _ Vt.out rfl rfl rfl Try.underlying26 rfl infoTuI ?_
  go_wp2_with fail
  refine (pick_spec_any _ _ _ _ _ _ ss ws [b1'] [b2'] c _ x F _ HS.out.1 HS.out.2 ⟨bt, lt, kt, rfl, HX.out.1⟩ (by omega) (by omega) HF.out).mono ?_
  intro e w5 hh
  rw [← HZ.out] at hh
  obtain ⟨zv, Fv, rfl, ⟨bv, lv, cv, rfl, rr⟩, oo, bb⟩ := hh
  have BEL : Hid (Below w.heap.size w w5) := Below.next BEL.out bb
  have HS : Hid (RdI w5 (some ⟨b1', o1, none⟩) 3 ss [b1'] ∧ RdI w5 (some ⟨b2', o2, none⟩) 3 ws [b2']) := ⟨HS.out.1.below bb, HS.out.2.below bb⟩
  have HX : Hid (RdI w5 bt lt x.left F ∧ x.left.length ≤ 3) := ⟨HX.out.1.below bb, HX.out.2⟩
  have Vt : Hid (Blk w5 gt #[.int .i64 x.who, .bool x.fresh, .slice bt lt kt] 26) := Vt.out.below bb
  have Ru : Hid (RdI w5 bu lu y.left Fu) := Ru.out.below bb
  have Vu : Hid (Blk w5 gu #[.int .i64 y.who, .bool y.fresh, .slice bu lu cu] 26) := Vu.out.below bb
  have Rv : Hid (RdI w5 bv lv y.left Fv) := rr
  clear rr oo bb
  go_wp2_with (first | go_skip | (with_reducible refine stopLoad 26 rfl ?_) | (with_reducible refine stopStore 26 rfl ?_))
  refine store_fresh 26 w5.heap.size rfl #[.int .i64 0, .bool false, .slice none 0 0] #[.int .i64 y.who, .bool y.fresh, .slice bv lv cv] 26 rfl rfl rfl rfl infoTuI rfl (by simp [Value.oneCell']) ?_
  intro w6 hg hb
  have BEL : Hid (Below w.heap.size w w6) := Below.next BEL.out hb
  have HS : Hid (RdI w6 (some ⟨b1', o1, none⟩) 3 ss [b1'] ∧ RdI w6 (some ⟨b2', o2, none⟩) 3 ws [b2']) := ⟨HS.out.1.below hb, HS.out.2.below hb⟩
  have HX : Hid (RdI w6 bt lt x.left F ∧ x.left.length ≤ 3) := ⟨HX.out.1.below hb, HX.out.2⟩
  have Vt : Hid (Blk w6 gt #[.int .i64 x.who, .bool x.fresh, .slice bt lt kt] 26) := Vt.out.below hb
  have Ru : Hid (RdI w6 bu lu y.left Fu) := Ru.out.below hb
  have Vu : Hid (Blk w6 gu #[.int .i64 y.who, .bool y.fresh, .slice bu lu cu] 26) := Vu.out.below hb
  have Rv : Hid (RdI w6 bv lv y.left Fv) := Rv.out.below hb
  obtain ⟨gv, hgv⟩ : ∃ g, g = w5.heap.size := ⟨_, rfl⟩
  rw [← hgv] at hg ⊢
  have Vv : Hid (Blk w6 gv #[.int .i64 y.who, .bool y.fresh, .slice bv lv cv] 26) := hg
  clear hg hb hgv
  have cu0 := Vu.out.cell 0
  have cu1 := Vu.out.cell 1
  have cu2 := Vu.out.cell 2
  have cv0 := Vv.out.cell 0
  have cv1 := Vv.out.cell 1
  have cv2 := Vv.out.cell 2
  simp only [aT, aS, aZ] at cu0 cu1 cu2 cv0 cv1 cv2
  have hlu : lu = lv := by rw [← Ru.out.length, ← Rv.out.length]
  subst hlu
  obtain ⟨yf, hyfd⟩ : ∃ f, f = y.fresh := ⟨_, rfl⟩
  rw [← hyfd] at hyf cu1 cv1
  go_wp2_with fail
  clear cu0 cu1 cu2 cv0 cv1 cv2 hyf hyw hrk
  refine (sameInts_sameT bu bv lu cu cv y.left Fu Fv _ Ru.out Rv.out (by rw [← Ru.out.length]; exact HYL.out)).mono ?_
  rintro e w7 ⟨rfl, bb⟩
  have BEL : Hid (Below w.heap.size w w7) := Below.next BEL.out bb
  have HS : Hid (RdI w7 (some ⟨b1', o1, none⟩) 3 ss [b1'] ∧ RdI w7 (some ⟨b2', o2, none⟩) 3 ws [b2']) := ⟨HS.out.1.below bb, HS.out.2.below bb⟩
  have HX : Hid (RdI w7 bt lt x.left F ∧ x.left.length ≤ 3) := ⟨HX.out.1.below bb, HX.out.2⟩
  have Vt : Hid (Blk w7 gt #[.int .i64 x.who, .bool x.fresh, .slice bt lt kt] 26) := Vt.out.below bb
  have Ru : Hid (RdI w7 bu lu y.left Fu) := Ru.out.below bb
  have Vu : Hid (Blk w7 gu #[.int .i64 y.who, .bool y.fresh, .slice bu lu cu] 26) := Vu.out.below bb
  have Rv : Hid (RdI w7 bv lu y.left Fv) := Rv.out.below bb
  have Vv : Hid (Blk w7 gv #[.int .i64 y.who, .bool y.fresh, .slice bv lu cv] 26) := Vv.out.below bb
  clear bb hyfd
  go_wp2
  go_loop [11, 12] (fun b i => ∃ (k : Nat) (d : Bool), k ≤ 3 ∧ i = .int .i64 k ∧ b = .bool d ∧ Hid (d = ((ss.take k).any posS))) (fun _ i => 3 - (intOf i).toNat)
  case atStart => exact ⟨0, _, by omega, rfl, rfl, by show _ = _; simp⟩
  case round =>
    obtain ⟨k, d, hk, rfl, rfl, HB⟩ := hrel
    by_cases hlt : k < 3
    · have hI : (k : Int) < 3 := by omega
      have hce := HS.out.1.at k hlt
      obtain ⟨z, hz⟩ : ∃ z, z = ss.getD k 0 := ⟨_, rfl⟩
      rw [← hz] at hce
      have HN : Hid ((ss.take (k + 1)).any posS = ((ss.take k).any posS || posS z)) := by rw [hz]; exact any_next posS (by have := HS.out.1.length; omega)
      clear hz
      cases d
      · skip
        by_cases t0 : 0 < z
        · have tt0 : decide (0 < z) = true := dec_true t0
          have hp : posS z = true := by unfold posS; simp; omega
          have HP : Hid (posS z = true) := hp
          clear hp
          go_wp2
          go_round
          case rel => exact ⟨k + 1, true, by omega, by go_num, rfl, by show _ = _; rw [HN.out]; have := HB.out; rw [HP.out]; simp⟩
          case measure => simp [intOf]; omega
        have tt0 : decide (0 < z) = false := dec_false t0
        have hp : posS z = false := by unfold posS; simp; omega
        have HP : Hid (posS z = false) := hp
        clear hp
        go_wp2
        go_round
        case rel => exact ⟨k + 1, false, by omega, by go_num, rfl, by show _ = _; rw [HN.out]; have := HB.out; rw [HP.out, Bool.or_false]; exact this⟩
        case measure => simp [intOf]; omega
      · skip
        go_wp2
        go_round
        case rel => exact ⟨k + 1, true, by omega, by go_num, rfl, by show _ = _; rw [HN.out]; have := HB.out; (rw [← this]; first | done | rfl)⟩
        case measure => simp [intOf]; omega
    · obtain rfl : k = 3 := by omega
      have hI : ¬ ((3 : Nat) : Int) < 3 := by omega
      have HD : Hid (d = (ss.any posS)) := by show _ = _; have := HB.out; rw [List.take_of_length_le (by have := HS.out.1.length; omega)] at this; exact this
      clear HB
      have hcase : (rk = -1 ∧ (!(ss.any posS) || (badOf c x || ss.any outS || ws.any outW)) = true) ∨ (picks ss ws c x = true ∧ nums ss 0 0 = false) := by
        rcases pick_case ss ws c x with hp | ⟨hp, hz0⟩ | ⟨hp, hz0⟩
        · exact .inl ⟨by have := HZ.out; rw [pick_bad hp] at this; exact (Prod.mk.inj this).1, pick_none HS.out.1.length HS.out.2.length (.inl hp)⟩
        · exact .inl ⟨by have := HZ.out; rw [pick_zero hp hz0] at this; exact (Prod.mk.inj this).1, pick_none HS.out.1.length HS.out.2.length (.inr ⟨hp, hz0⟩)⟩
        · exact .inr ⟨hp, hz0⟩
      rcases hcase with ⟨hrk1, hno⟩ | ⟨hp, hz0⟩
      · skip
        subst hrk1
        have HNO : Hid ((!(ss.any posS) || (badOf c x || ss.any outS || ws.any outW)) = true) := hno
        have HS0 : Hid (d = ss.any posS) := HD.out
        obtain ⟨d0, hd0⟩ : ∃ e, e = d := ⟨_, rfl⟩
        rw [← hd0] at HS0 ⊢
        clear hd0 HD hno
        go_upto_region 14 with fail
        go_cut [13] (fun b wx => b = .bool (badOf c x) ∧ Below w7.heap.size w7 wx)
        case first =>
          go_wp2_with (first | go_skip | (with_reducible refine stopLoad 26 rfl ?_) | (with_reducible refine stopStore 26 rfl ?_))
          refine load_any 26 gt #[.int .i64 x.who, .bool x.fresh, .slice bt lt kt] 26 _ Vt.out rfl rfl rfl Try.underlying26 rfl infoTuI ?_
          go_wp2_with fail
          refine (turnOkSpec_any _ x F _ ⟨bt, lt, kt, rfl, HX.out.1⟩ HF.out.wide).mono ?_
          rintro e w8 ⟨rfl, bb⟩
          have HBB : Hid (Below w7.heap.size w7 w8) := bb
          clear bb
          obtain ⟨ok, hok⟩ : ∃ o, o = x.ok := ⟨_, rfl⟩
          rw [← hok]
          have HOK : Hid (∀ e, e = (!ok || decide (c < 1) || decide (60 < c)) → Value.bool e = .bool (badOf c x)) := fun e he => by rw [he, hok]; rfl
          clear hok
          cases ok
          · go_wp2_with fail
            go_meet
            case rel => exact ⟨HOK.out _ rfl, HBB.out⟩
          · by_cases e0 : c < 1
            · have ee0 : decide (c < 1) = true := dec_true e0
              go_wp2_with fail
              go_meet
              case rel => exact ⟨HOK.out _ (by simp [ee0]), HBB.out⟩
            have ee0 : decide (c < 1) = false := dec_false e0
            by_cases e1 : 60 < c
            · have ee1 : decide (60 < c) = true := dec_true e1
              go_wp2_with fail
              go_meet
              case rel => exact ⟨HOK.out _ (by simp [ee1]), HBB.out⟩
            have ee1 : decide (60 < c) = false := dec_false e1
            go_wp2_with fail
            go_meet
            case rel => exact ⟨HOK.out _ (by simp [ee0, ee1]), HBB.out⟩
        case rest =>
          obtain ⟨rfl, hbw⟩ := hcut
          obtain ⟨w9, hWn⟩ : ∃ W, W = wc := ⟨_, rfl⟩
          rw [← hWn] at hbw ⊢
          clear hWn
          have BEL : Hid (Below w.heap.size w w9) := Below.next BEL.out hbw
          have HS : Hid (RdI w9 (some ⟨b1', o1, none⟩) 3 ss [b1'] ∧ RdI w9 (some ⟨b2', o2, none⟩) 3 ws [b2']) := ⟨HS.out.1.below hbw, HS.out.2.below hbw⟩
          have HX : Hid (RdI w9 bt lt x.left F ∧ x.left.length ≤ 3) := ⟨HX.out.1.below hbw, HX.out.2⟩
          have Vt : Hid (Blk w9 gt #[.int .i64 x.who, .bool x.fresh, .slice bt lt kt] 26) := Vt.out.below hbw
          have Ru : Hid (RdI w9 bu lu y.left Fu) := Ru.out.below hbw
          have Vu : Hid (Blk w9 gu #[.int .i64 y.who, .bool y.fresh, .slice bu lu cu] 26) := Vu.out.below hbw
          have Rv : Hid (RdI w9 bv lu y.left Fv) := Rv.out.below hbw
          have Vv : Hid (Blk w9 gv #[.int .i64 y.who, .bool y.fresh, .slice bv lu cv] 26) := Vv.out.below hbw
          clear hbw
          obtain ⟨d1, hd1⟩ : ∃ e, e = badOf c x := ⟨_, rfl⟩
          rw [← hd1]
          have HB1 : Hid (d1 = badOf c x) := hd1
          clear hd1
          go_wp2
          go_loop [13, 14] (fun b i => ∃ (k : Nat) (d : Bool), k ≤ 3 ∧ i = .int .i64 k ∧ b = .bool d ∧ Hid (d = (badOf c x || (ss.take k).any outS))) (fun _ i => 3 - (intOf i).toNat)
          case atStart => exact ⟨0, _, by omega, rfl, rfl, by show _ = _; rw [HB1.out]; simp⟩
          case round =>
            obtain ⟨k, d, hk, rfl, rfl, HB⟩ := hrel
            by_cases hlt : k < 3
            · have hI : (k : Int) < 3 := by omega
              have hce := HS.out.1.at k hlt
              obtain ⟨z, hz⟩ : ∃ z, z = ss.getD k 0 := ⟨_, rfl⟩
              rw [← hz] at hce
              have HN : Hid ((ss.take (k + 1)).any outS = ((ss.take k).any outS || outS z)) := by rw [hz]; exact any_next outS (by have := HS.out.1.length; omega)
              clear hz
              cases d
              · skip
                by_cases t0 : z < 0
                · have tt0 : decide (z < 0) = true := dec_true t0
                  have hp : outS z = true := by unfold outS; simp; omega
                  have HP : Hid (outS z = true) := hp
                  clear hp
                  go_wp2
                  go_round
                  case rel => exact ⟨k + 1, true, by omega, by go_num, rfl, by show _ = _; rw [HN.out]; have := HB.out; rw [HP.out]; simp⟩
                  case measure => simp [intOf]; omega
                have tt0 : decide (z < 0) = false := dec_false t0
                by_cases t1 : 200 < z
                · have tt1 : decide (200 < z) = true := dec_true t1
                  have hp : outS z = true := by unfold outS; simp; omega
                  have HP : Hid (outS z = true) := hp
                  clear hp
                  go_wp2
                  go_round
                  case rel => exact ⟨k + 1, true, by omega, by go_num, rfl, by show _ = _; rw [HN.out]; have := HB.out; rw [HP.out]; simp⟩
                  case measure => simp [intOf]; omega
                have tt1 : decide (200 < z) = false := dec_false t1
                have hp : outS z = false := by unfold outS; simp; omega
                have HP : Hid (outS z = false) := hp
                clear hp
                go_wp2
                go_round
                case rel => exact ⟨k + 1, false, by omega, by go_num, rfl, by show _ = _; rw [HN.out]; have := HB.out; rw [HP.out, Bool.or_false]; exact this⟩
                case measure => simp [intOf]; omega
              · skip
                go_wp2
                go_round
                case rel => exact ⟨k + 1, true, by omega, by go_num, rfl, by show _ = _; rw [HN.out]; have := HB.out; rw [← Bool.or_assoc, ← this]; rfl⟩
                case measure => simp [intOf]; omega
            · obtain rfl : k = 3 := by omega
              have hI : ¬ ((3 : Nat) : Int) < 3 := by omega
              have HD : Hid (d = (badOf c x || ss.any outS)) := by show _ = _; have := HB.out; rw [List.take_of_length_le (by have := HS.out.1.length; omega)] at this; exact this
              clear HB
              have HD2 : Hid (d = (badOf c x || ss.any outS)) := HD.out
              clear HD
              obtain ⟨d2, hd2⟩ : ∃ e, e = d := ⟨_, rfl⟩
              rw [← hd2] at HD2 ⊢
              clear hd2
              go_wp2
              go_loop [13, 15] (fun b i => ∃ (k : Nat) (d : Bool), k ≤ 3 ∧ i = .int .i64 k ∧ b = .bool d ∧ Hid (d = ((badOf c x || ss.any outS) || (ws.take k).any outW))) (fun _ i => 3 - (intOf i).toNat)
              case atStart => exact ⟨0, _, by omega, rfl, rfl, by show _ = _; rw [HD2.out]; simp⟩
              case round =>
                obtain ⟨k, d, hk, rfl, rfl, HB⟩ := hrel
                by_cases hlt : k < 3
                · have hI : (k : Int) < 3 := by omega
                  have hce := HS.out.2.at k hlt
                  obtain ⟨z, hz⟩ : ∃ z, z = ws.getD k 0 := ⟨_, rfl⟩
                  rw [← hz] at hce
                  have HN : Hid ((ws.take (k + 1)).any outW = ((ws.take k).any outW || outW z)) := by rw [hz]; exact any_next outW (by have := HS.out.2.length; omega)
                  clear hz
                  cases d
                  · skip
                    by_cases t0 : z < 1
                    · have tt0 : decide (z < 1) = true := dec_true t0
                      have hp : outW z = true := by unfold outW; simp; omega
                      have HP : Hid (outW z = true) := hp
                      clear hp
                      go_wp2
                      go_round
                      case rel => exact ⟨k + 1, true, by omega, by go_num, rfl, by show _ = _; rw [HN.out]; have := HB.out; rw [HP.out]; simp⟩
                      case measure => simp [intOf]; omega
                    have tt0 : decide (z < 1) = false := dec_false t0
                    by_cases t1 : 4 < z
                    · have tt1 : decide (4 < z) = true := dec_true t1
                      have hp : outW z = true := by unfold outW; simp; omega
                      have HP : Hid (outW z = true) := hp
                      clear hp
                      go_wp2
                      go_round
                      case rel => exact ⟨k + 1, true, by omega, by go_num, rfl, by show _ = _; rw [HN.out]; have := HB.out; rw [HP.out]; simp⟩
                      case measure => simp [intOf]; omega
                    have tt1 : decide (4 < z) = false := dec_false t1
                    have hp : outW z = false := by unfold outW; simp; omega
                    have HP : Hid (outW z = false) := hp
                    clear hp
                    go_wp2
                    go_round
                    case rel => exact ⟨k + 1, false, by omega, by go_num, rfl, by show _ = _; rw [HN.out]; have := HB.out; rw [HP.out, Bool.or_false]; exact this⟩
                    case measure => simp [intOf]; omega
                  · skip
                    go_wp2
                    go_round
                    case rel => exact ⟨k + 1, true, by omega, by go_num, rfl, by show _ = _; rw [HN.out]; have := HB.out; rw [← Bool.or_assoc, ← this]; rfl⟩
                    case measure => simp [intOf]; omega
                · obtain rfl : k = 3 := by omega
                  have hI : ¬ ((3 : Nat) : Int) < 3 := by omega
                  have HD : Hid (d = ((badOf c x || ss.any outS) || ws.any outW)) := by show _ = _; have := HB.out; rw [List.take_of_length_le (by have := HS.out.2.length; omega)] at this; exact this
                  clear HB
                  have HD3 : Hid (d = (badOf c x || ss.any outS || ws.any outW)) := HD.out
                  clear HD
                  cases d0
                  · go_wp2
                    go_ret
                    exact ⟨rfl, BEL.out⟩
                  · go_wp2
                    go_ret
                    refine ⟨?_, BEL.out⟩
                    have h1 := HNO.out
                    have h2 := HD3.out
                    have h3 := HS0.out
                    rw [← h3, ← h2] at h1
                    cases d
                    · exact absurd h1 (by decide)
                    · rfl
      · skip
        have hI2 := picks_in hp hz0
        have hgot := pickN_got 20000 hI2 (mu_le (picks_all hp).2.2.2)
        have hyy : y = pickN ss ws c 20000 x ∧ rk = y.who := by
          have := HZ.out; rw [pick_some hp hz0] at this
          obtain ⟨q1, q2⟩ := Prod.mk.inj this
          exact ⟨q2, by rw [q1, q2]⟩
        rw [← hyy.1] at hgot
        obtain ⟨m0, m1, m2, hm, _, _, _, hk0⟩ := ok_three hgot.1
        obtain ⟨t0, t1, t2, ht, _⟩ := ok_three hI2.ok
        have HG : Hid (y.ok = true ∧ y.fresh = false ∧ 0 < ss.getD y.who.toNat 0 ∧ (∀ i, ss.getD i 0 = 0 → y.left.getD i 0 ≤ x.left.getD i 0) ∧ y.left.length = 3 ∧ x.left.length = 3) := ⟨hgot.1, hgot.2.1, hgot.2.2.1, hgot.2.2.2, by rw [hm]; rfl, by rw [ht]; rfl⟩
        obtain ⟨n, hn⟩ : ∃ n : Nat, y.who = n := ⟨y.who.toNat, by omega⟩
        have HNW : Hid (y.who = n ∧ rk = n ∧ n < 3) := ⟨hn, by rw [hyy.2, hn], by omega⟩
        have hrk1 := HNW.out.2.1
        subst hrk1
        have hn0 : ¬ ((n : Int) < 0) := by omega
        clear hI2 hgot hyy hm hk0 ht hn hp hz0 HD
        obtain rfl : lu = 3 := by rw [← Ru.out.length]; exact HG.out.2.2.2.2.1
        obtain rfl : lt = 3 := by rw [← HX.out.1.length]; exact HG.out.2.2.2.2.2
        obtain ⟨ub, uo, rfl, rfl⟩ := Ru.out.single (by omega)
        obtain ⟨tb, to', rfl, rfl⟩ := HX.out.1.single (by omega)
        go_wp2
        go_loopw [16] (fun i wr => ∃ (k : Nat), k ≤ 3 ∧ i = .int .i64 k ∧ Hid ((Below w.heap.size w wr) ∧ (RdI wr (some ⟨b1', o1, none⟩) 3 ss [b1'] ∧ RdI wr (some ⟨b2', o2, none⟩) 3 ws [b2']) ∧ (RdI wr (some ⟨tb, to', none⟩) 3 x.left [tb]) ∧ (RdI wr (some ⟨ub, uo, none⟩) 3 y.left [ub]) ∧ (Blk wr gt #[.int .i64 x.who, .bool x.fresh, .slice (some ⟨tb, to', none⟩) 3 kt] 26) ∧ (Blk wr gu #[.int .i64 y.who, .bool y.fresh, .slice (some ⟨ub, uo, none⟩) 3 cu] 26))) (fun i _ => 3 - (intOf i).toNat)
        case atStart => exact ⟨0, by omega, rfl, BEL.out, HS.out, HX.out.1, Ru.out, Vt.out, Vu.out⟩
        case round =>
          clear BEL HS HX Ru Rv Vt Vu Vv
          obtain ⟨k, hk, rfl, HH⟩ := hrel
          by_cases hlt : k < 3
          · have hI : (k : Int) < 3 := by omega
            obtain ⟨z, hz⟩ : ∃ z, z = ss.getD k 0 := ⟨_, rfl⟩
            obtain ⟨yl, hyl⟩ : ∃ z, z = y.left.getD k 0 := ⟨_, rfl⟩
            obtain ⟨xl, hxl⟩ : ∃ z, z = x.left.getD k 0 := ⟨_, rfl⟩
            have HZK : Hid (z = ss.getD k 0 ∧ yl = y.left.getD k 0 ∧ xl = x.left.getD k 0) := ⟨hz, hyl, hxl⟩
            clear hz hyl hxl
            go_wp2_with fail
            have BD := (Below.refl wr.heap.size wr).drew
            obtain ⟨Y0, hY0⟩ : ∃ Y, Y = wr.drew := ⟨_, rfl⟩
            rw [← hY0] at BD
            have HY : Hid ((Below w.heap.size w Y0) ∧ (RdI Y0 (some ⟨b1', o1, none⟩) 3 ss [b1'] ∧ RdI Y0 (some ⟨b2', o2, none⟩) 3 ws [b2']) ∧ (RdI Y0 (some ⟨tb, to', none⟩) 3 x.left [tb]) ∧ (RdI Y0 (some ⟨ub, uo, none⟩) 3 y.left [ub]) ∧ (Blk Y0 gt #[.int .i64 x.who, .bool x.fresh, .slice (some ⟨tb, to', none⟩) 3 kt] 26) ∧ (Blk Y0 gu #[.int .i64 y.who, .bool y.fresh, .slice (some ⟨ub, uo, none⟩) 3 cu] 26)) := ⟨Below.next HH.out.1 BD, ⟨HH.out.2.1.1.below BD, HH.out.2.1.2.below BD⟩, HH.out.2.2.1.below BD, HH.out.2.2.2.1.below BD, HH.out.2.2.2.2.1.below BD, HH.out.2.2.2.2.2.below BD⟩
            have HSS : Hid (Y0.cell? ⟨b1', o1 + k, none⟩ = some (.int .i64 z) ∧ Y0.cell? ⟨gu, 2, none⟩ = some (.slice (some ⟨ub, uo, none⟩) 3 cu) ∧ Y0.cell? ⟨ub, uo + k, none⟩ = some (.int .i64 yl) ∧ Y0.cell? ⟨gt, 2, none⟩ = some (.slice (some ⟨tb, to', none⟩) 3 kt) ∧ Y0.cell? ⟨tb, to' + k, none⟩ = some (.int .i64 xl)) := ⟨by rw [HZK.out.1]; exact HY.out.2.1.1.at k hlt, HY.out.2.2.2.2.2.cell 2, by rw [HZK.out.2.1]; exact HY.out.2.2.2.1.at k hlt, HY.out.2.2.2.2.1.cell 2, by rw [HZK.out.2.2]; exact HY.out.2.2.1.at k hlt⟩
            clear BD HH
            by_cases hz0 : z = 0
            · skip
              refine wp_region_held (S := fun W => W.cell? ⟨b1', o1 + k, none⟩ = some (.int .i64 z) ∧ W.cell? ⟨gu, 2, none⟩ = some (.slice (some ⟨ub, uo, none⟩) 3 cu) ∧ W.cell? ⟨ub, uo + k, none⟩ = some (.int .i64 yl) ∧ W.cell? ⟨gt, 2, none⟩ = some (.slice (some ⟨tb, to', none⟩) 3 kt) ∧ W.cell? ⟨tb, to' + k, none⟩ = some (.int .i64 xl)) (by kernel_rfl) ?_
              change wpAnyH _ _ _ _ _ _ _ _ (World.drew _)
              rw [← hY0]
              clear hY0
              have hzb : (z == 0) = true := by simpa using hz0
              have hkn : k ≠ n := fun e => by have h1 := HG.out.2.2.1; have h2 := HZK.out.1; rw [HNW.out.1] at h1; simp only [Int.toNat_natCast] at h1; rw [e] at h2; omega
              have hknb : ((k : Int) != (n : Int)) = true := by simp; omega
              have hle : yl ≤ xl := by have := HG.out.2.2.2.1 k (by rw [← HZK.out.1]; exact hz0); rw [← HZK.out.2.1, ← HZK.out.2.2] at this; exact this
              have hgt : decide (xl < yl) = false := dec_false (by omega)
              refine takeH (o := ?o1) 0 (.slice (some ⟨b1', o1, none⟩) 3 k1) ?h1 ?r1
              case h1 => simp only [aT, aZ]; rfl
              refine ⟨_, by simp [Act.put]; rfl, by kernel_rfl, by kernel_rfl, by kernel_rfl, fun _ _ _ h => h, (.inl ⟨rfl, fun W _ => by kernel_rfl⟩), HSS.out, ?_⟩
              refine takeH (o := ?o2) 1 (.int .i64 (k : Int)) ?h2 ?r2
              case h2 => simp only [aT, aS, aZ]; rfl
              refine ⟨_, by simp [Act.put]; rfl, by kernel_rfl, by kernel_rfl, by kernel_rfl, fun _ _ _ h => h, (.inl ⟨rfl, fun W _ => by kernel_rfl⟩), HSS.out, ?_⟩
              refine takeH (o := ?o3) 2 (.pointer (some ⟨b1', o1 + k, none⟩)) ?h3 ?r3
              case h3 => simp only [aT, aS, aZ]; rfl
              refine ⟨_, by simp [Act.put]; rfl, by kernel_rfl, by kernel_rfl, by kernel_rfl, fun _ _ _ h => h, (.inl ⟨rfl, fun W _ => by go_simp; first | done | (intro h; omega) | (rw [if_pos (by omega)]; rfl)⟩), HSS.out, ?_⟩
              refine takeH (o := ?o4) 3 (.int .i64 z) ?h4 ?r4
              case h4 => simp only [aT, aS, aZ]; rfl
              refine ⟨_, by simp [Act.put]; rfl, by kernel_rfl, by kernel_rfl, by kernel_rfl, fun _ _ _ h => h, (.inl ⟨rfl, fun W hW => by have c := hW.1; go_simp⟩), HSS.out, ?_⟩
              refine takeH (o := ?o5) 4 (.bool true) ?h5 ?r5
              case h5 => simp only [aT, aS, aZ]; rfl
              refine ⟨_, by simp [Act.put]; rfl, by kernel_rfl, by kernel_rfl, by kernel_rfl, fun _ _ _ h => h, (.inl ⟨rfl, fun W _ => by go_simp⟩), HSS.out, ?_⟩
              refine takeH (o := ?o6) 5 (.bool true) ?h6 ?r6
              case h6 => simp only [aT, aS, aZ]; rfl
              refine ⟨_, by simp [Act.put]; rfl, by kernel_rfl, by kernel_rfl, by kernel_rfl, fun _ _ _ h => h, (.inl ⟨rfl, fun W _ => by kernel_rfl⟩), HSS.out, ?_⟩
              refine takeH (o := ?o7) 6 (.int .i64 (k : Int)) ?h7 ?r7
              case h7 => simp only [aT, aS, aZ]; rfl
              refine ⟨_, by simp [Act.put]; rfl, by kernel_rfl, by kernel_rfl, by kernel_rfl, fun _ _ _ h => h, (.inl ⟨rfl, fun W _ => by kernel_rfl⟩), HSS.out, ?_⟩
              refine takeH (o := ?o8) 7 (.int .i64 (n : Int)) ?h8 ?r8
              case h8 => simp only [aT, aS, aZ]; rfl
              refine ⟨_, by simp [Act.put]; rfl, by kernel_rfl, by kernel_rfl, by kernel_rfl, fun _ _ _ h => h, (.inl ⟨rfl, fun W _ => by kernel_rfl⟩), HSS.out, ?_⟩
              refine takeH (o := ?o9) 8 (.bool true) ?h9 ?r9
              case h9 => simp only [aT, aS, aZ]; rfl
              refine ⟨_, by simp [Act.put]; rfl, by kernel_rfl, by kernel_rfl, by kernel_rfl, fun _ _ _ h => h, (.inl ⟨rfl, fun W _ => by go_simp⟩), HSS.out, ?_⟩
              refine takeH (o := ?o10) 9 (.bool true) ?h10 ?r10
              case h10 => simp only [aT, aS, aZ]; rfl
              refine ⟨_, by simp [Act.put]; rfl, by kernel_rfl, by kernel_rfl, by kernel_rfl, fun _ _ _ h => h, (.inl ⟨rfl, fun W _ => by kernel_rfl⟩), HSS.out, ?_⟩
              refine takeH (o := ?o11) 10 (.bool true) ?h11 ?r11
              case h11 => simp only [aT, aS, aZ]; rfl
              refine ⟨_, by simp [Act.put]; rfl, by kernel_rfl, by kernel_rfl, by kernel_rfl, fun _ _ _ h => h, (.inl ⟨rfl, fun W _ => by kernel_rfl⟩), HSS.out, ?_⟩
              refine takeH (o := ?o12) 11 (.pointer (some ⟨gu, 2, none⟩)) ?h12 ?r12
              case h12 => simp only [aT, aS, aZ]; rfl
              refine ⟨_, by simp [Act.put]; rfl, by kernel_rfl, by kernel_rfl, by kernel_rfl, fun _ _ _ h => h, (.inl ⟨rfl, fun W _ => by go_simp⟩), HSS.out, ?_⟩
              refine takeH (o := ?o13) 12 (.slice (some ⟨ub, uo, none⟩) 3 cu) ?h13 ?r13
              case h13 => simp only [aT, aS, aZ]; rfl
              refine ⟨_, by simp [Act.put]; rfl, by kernel_rfl, by kernel_rfl, by kernel_rfl, fun _ _ _ h => h, (.inl ⟨rfl, fun W hW => by have c := hW.2.1; go_simp⟩), HSS.out, ?_⟩
              refine takeH (o := ?o14) 13 (.int .i64 (k : Int)) ?h14 ?r14
              case h14 => simp only [aT, aS, aZ]; rfl
              refine ⟨_, by simp [Act.put]; rfl, by kernel_rfl, by kernel_rfl, by kernel_rfl, fun _ _ _ h => h, (.inl ⟨rfl, fun W _ => by kernel_rfl⟩), HSS.out, ?_⟩
              refine takeH (o := ?o15) 14 (.pointer (some ⟨ub, uo + k, none⟩)) ?h15 ?r15
              case h15 => simp only [aT, aS, aZ]; rfl
              refine ⟨_, by simp [Act.put]; rfl, by kernel_rfl, by kernel_rfl, by kernel_rfl, fun _ _ _ h => h, (.inl ⟨rfl, fun W _ => by go_simp; first | done | (intro h; omega) | (rw [if_pos (by omega)]; rfl)⟩), HSS.out, ?_⟩
              refine takeH (o := ?o16) 15 (.int .i64 yl) ?h16 ?r16
              case h16 => simp only [aT, aS, aZ]; rfl
              refine ⟨_, by simp [Act.put]; rfl, by kernel_rfl, by kernel_rfl, by kernel_rfl, fun _ _ _ h => h, (.inl ⟨rfl, fun W hW => by have c := hW.2.2.1; go_simp⟩), HSS.out, ?_⟩
              refine takeH (o := ?o17) 16 (.pointer (some ⟨gt, 2, none⟩)) ?h17 ?r17
              case h17 => simp only [aT, aS, aZ]; rfl
              refine ⟨_, by simp [Act.put]; rfl, by kernel_rfl, by kernel_rfl, by kernel_rfl, fun _ _ _ h => h, (.inl ⟨rfl, fun W _ => by go_simp⟩), HSS.out, ?_⟩
              refine takeH (o := ?o18) 17 (.slice (some ⟨tb, to', none⟩) 3 kt) ?h18 ?r18
              case h18 => simp only [aT, aS, aZ]; rfl
              refine ⟨_, by simp [Act.put]; rfl, by kernel_rfl, by kernel_rfl, by kernel_rfl, fun _ _ _ h => h, (.inl ⟨rfl, fun W hW => by have c := hW.2.2.2.1; go_simp⟩), HSS.out, ?_⟩
              refine takeH (o := ?o19) 18 (.int .i64 (k : Int)) ?h19 ?r19
              case h19 => simp only [aT, aS, aZ]; rfl
              refine ⟨_, by simp [Act.put]; rfl, by kernel_rfl, by kernel_rfl, by kernel_rfl, fun _ _ _ h => h, (.inl ⟨rfl, fun W _ => by kernel_rfl⟩), HSS.out, ?_⟩
              refine takeH (o := ?o20) 19 (.pointer (some ⟨tb, to' + k, none⟩)) ?h20 ?r20
              case h20 => simp only [aT, aS, aZ]; rfl
              refine ⟨_, by simp [Act.put]; rfl, by kernel_rfl, by kernel_rfl, by kernel_rfl, fun _ _ _ h => h, (.inl ⟨rfl, fun W _ => by go_simp; first | done | (intro h; omega) | (rw [if_pos (by omega)]; rfl)⟩), HSS.out, ?_⟩
              refine takeH (o := ?o21) 20 (.int .i64 xl) ?h21 ?r21
              case h21 => simp only [aT, aS, aZ]; rfl
              refine ⟨_, by simp [Act.put]; rfl, by kernel_rfl, by kernel_rfl, by kernel_rfl, fun _ _ _ h => h, (.inl ⟨rfl, fun W hW => by have c := hW.2.2.2.2; go_simp⟩), HSS.out, ?_⟩
              refine takeH (o := ?o22) 21 (.bool false) ?h22 ?r22
              case h22 => simp only [aT, aS, aZ]; rfl
              refine ⟨_, by simp [Act.put]; rfl, by kernel_rfl, by kernel_rfl, by kernel_rfl, fun _ _ _ h => h, (.inl ⟨rfl, fun W _ => by go_simp⟩), HSS.out, ?_⟩
              refine takeH (o := ?o23) 22 (.bool false) ?h23 ?r23
              case h23 => simp only [aT, aS, aZ]; rfl
              refine ⟨_, by simp [Act.put]; rfl, by kernel_rfl, by kernel_rfl, by kernel_rfl, fun _ _ _ h => h, (.inl ⟨rfl, fun W _ => by kernel_rfl⟩), HSS.out, ?_⟩
              refine wpAnyH_done (by kernel_rfl) ?_ _
              go_wp2
              go_roundw
              case rel => exact ⟨k + 1, by omega, by go_num, HY.out⟩
              case measure => simp [intOf]; omega
            · skip
              refine wp_region_held (S := fun W => W.cell? ⟨b1', o1 + k, none⟩ = some (.int .i64 z) ∧ W.cell? ⟨gu, 2, none⟩ = some (.slice (some ⟨ub, uo, none⟩) 3 cu) ∧ W.cell? ⟨ub, uo + k, none⟩ = some (.int .i64 yl) ∧ W.cell? ⟨gt, 2, none⟩ = some (.slice (some ⟨tb, to', none⟩) 3 kt) ∧ W.cell? ⟨tb, to' + k, none⟩ = some (.int .i64 xl)) (by kernel_rfl) ?_
              change wpAnyH _ _ _ _ _ _ _ _ (World.drew _)
              rw [← hY0]
              clear hY0
              have hzb : (z == 0) = false := by simpa using hz0
              refine takeH (o := ?o24) 0 (.slice (some ⟨b1', o1, none⟩) 3 k1) ?h24 ?r24
              case h24 => simp only [aT, aZ]; rfl
              refine ⟨_, by simp [Act.put]; rfl, by kernel_rfl, by kernel_rfl, by kernel_rfl, fun _ _ _ h => h, (.inl ⟨rfl, fun W _ => by kernel_rfl⟩), HSS.out, ?_⟩
              refine takeH (o := ?o25) 1 (.int .i64 (k : Int)) ?h25 ?r25
              case h25 => simp only [aT, aS, aZ]; rfl
              refine ⟨_, by simp [Act.put]; rfl, by kernel_rfl, by kernel_rfl, by kernel_rfl, fun _ _ _ h => h, (.inl ⟨rfl, fun W _ => by kernel_rfl⟩), HSS.out, ?_⟩
              refine takeH (o := ?o26) 2 (.pointer (some ⟨b1', o1 + k, none⟩)) ?h26 ?r26
              case h26 => simp only [aT, aS, aZ]; rfl
              refine ⟨_, by simp [Act.put]; rfl, by kernel_rfl, by kernel_rfl, by kernel_rfl, fun _ _ _ h => h, (.inl ⟨rfl, fun W _ => by go_simp; first | done | (intro h; omega) | (rw [if_pos (by omega)]; rfl)⟩), HSS.out, ?_⟩
              refine takeH (o := ?o27) 3 (.int .i64 z) ?h27 ?r27
              case h27 => simp only [aT, aS, aZ]; rfl
              refine ⟨_, by simp [Act.put]; rfl, by kernel_rfl, by kernel_rfl, by kernel_rfl, fun _ _ _ h => h, (.inl ⟨rfl, fun W hW => by have c := hW.1; go_simp⟩), HSS.out, ?_⟩
              refine takeH (o := ?o28) 4 (.bool false) ?h28 ?r28
              case h28 => simp only [aT, aS, aZ]; rfl
              refine ⟨_, by simp [Act.put]; rfl, by kernel_rfl, by kernel_rfl, by kernel_rfl, fun _ _ _ h => h, (.inl ⟨rfl, fun W _ => by go_simp⟩), HSS.out, ?_⟩
              refine takeH (o := ?o29) 5 (.bool false) ?h29 ?r29
              case h29 => simp only [aT, aS, aZ]; rfl
              refine ⟨_, by simp [Act.put]; rfl, by kernel_rfl, by kernel_rfl, by kernel_rfl, fun _ _ _ h => h, (.inl ⟨rfl, fun W _ => by kernel_rfl⟩), HSS.out, ?_⟩
              refine takeH (o := ?o30) 6 (undef) ?h30 ?r30
              case h30 => simp only [aT, aS, aZ]; rfl
              refine ⟨_, by simp [Act.put]; rfl, by kernel_rfl, by kernel_rfl, by kernel_rfl, fun _ _ _ h => h, (.inr ⟨rfl, rfl⟩), HSS.out, ?_⟩
              refine takeH (o := ?o31) 7 (undef) ?h31 ?r31
              case h31 => simp only [aT, aS, aZ]; rfl
              refine ⟨_, by simp [Act.put]; rfl, by kernel_rfl, by kernel_rfl, by kernel_rfl, fun _ _ _ h => h, (.inr ⟨rfl, rfl⟩), HSS.out, ?_⟩
              refine takeH (o := ?o32) 8 (undef) ?h32 ?r32
              case h32 => simp only [aT, aS, aZ]; rfl
              refine ⟨_, by simp [Act.put]; rfl, by kernel_rfl, by kernel_rfl, by kernel_rfl, fun _ _ _ h => h, (.inr ⟨rfl, rfl⟩), HSS.out, ?_⟩
              refine takeH (o := ?o33) 9 (.bool false) ?h33 ?r33
              case h33 => simp only [aT, aS, aZ]; rfl
              refine ⟨_, by simp [Act.put]; rfl, by kernel_rfl, by kernel_rfl, by kernel_rfl, fun _ _ _ h => h, (.inl ⟨rfl, fun W _ => by kernel_rfl⟩), HSS.out, ?_⟩
              refine takeH (o := ?o34) 10 (.bool false) ?h34 ?r34
              case h34 => simp only [aT, aS, aZ]; rfl
              refine ⟨_, by simp [Act.put]; rfl, by kernel_rfl, by kernel_rfl, by kernel_rfl, fun _ _ _ h => h, (.inl ⟨rfl, fun W _ => by kernel_rfl⟩), HSS.out, ?_⟩
              refine takeH (o := ?o35) 11 (undef) ?h35 ?r35
              case h35 => simp only [aT, aS, aZ]; rfl
              refine ⟨_, by simp [Act.put]; rfl, by kernel_rfl, by kernel_rfl, by kernel_rfl, fun _ _ _ h => h, (.inr ⟨rfl, rfl⟩), HSS.out, ?_⟩
              refine takeH (o := ?o36) 12 (undef) ?h36 ?r36
              case h36 => simp only [aT, aS, aZ]; rfl
              refine ⟨_, by simp [Act.put]; rfl, by kernel_rfl, by kernel_rfl, by kernel_rfl, fun _ _ _ h => h, (.inr ⟨rfl, rfl⟩), HSS.out, ?_⟩
              refine takeH (o := ?o37) 13 (undef) ?h37 ?r37
              case h37 => simp only [aT, aS, aZ]; rfl
              refine ⟨_, by simp [Act.put]; rfl, by kernel_rfl, by kernel_rfl, by kernel_rfl, fun _ _ _ h => h, (.inr ⟨rfl, rfl⟩), HSS.out, ?_⟩
              refine takeH (o := ?o38) 14 (undef) ?h38 ?r38
              case h38 => simp only [aT, aS, aZ]; rfl
              refine ⟨_, by simp [Act.put]; rfl, by kernel_rfl, by kernel_rfl, by kernel_rfl, fun _ _ _ h => h, (.inr ⟨rfl, rfl⟩), HSS.out, ?_⟩
              refine takeH (o := ?o39) 15 (undef) ?h39 ?r39
              case h39 => simp only [aT, aS, aZ]; rfl
              refine ⟨_, by simp [Act.put]; rfl, by kernel_rfl, by kernel_rfl, by kernel_rfl, fun _ _ _ h => h, (.inr ⟨rfl, rfl⟩), HSS.out, ?_⟩
              refine takeH (o := ?o40) 16 (undef) ?h40 ?r40
              case h40 => simp only [aT, aS, aZ]; rfl
              refine ⟨_, by simp [Act.put]; rfl, by kernel_rfl, by kernel_rfl, by kernel_rfl, fun _ _ _ h => h, (.inr ⟨rfl, rfl⟩), HSS.out, ?_⟩
              refine takeH (o := ?o41) 17 (undef) ?h41 ?r41
              case h41 => simp only [aT, aS, aZ]; rfl
              refine ⟨_, by simp [Act.put]; rfl, by kernel_rfl, by kernel_rfl, by kernel_rfl, fun _ _ _ h => h, (.inr ⟨rfl, rfl⟩), HSS.out, ?_⟩
              refine takeH (o := ?o42) 18 (undef) ?h42 ?r42
              case h42 => simp only [aT, aS, aZ]; rfl
              refine ⟨_, by simp [Act.put]; rfl, by kernel_rfl, by kernel_rfl, by kernel_rfl, fun _ _ _ h => h, (.inr ⟨rfl, rfl⟩), HSS.out, ?_⟩
              refine takeH (o := ?o43) 19 (undef) ?h43 ?r43
              case h43 => simp only [aT, aS, aZ]; rfl
              refine ⟨_, by simp [Act.put]; rfl, by kernel_rfl, by kernel_rfl, by kernel_rfl, fun _ _ _ h => h, (.inr ⟨rfl, rfl⟩), HSS.out, ?_⟩
              refine takeH (o := ?o44) 20 (undef) ?h44 ?r44
              case h44 => simp only [aT, aS, aZ]; rfl
              refine ⟨_, by simp [Act.put]; rfl, by kernel_rfl, by kernel_rfl, by kernel_rfl, fun _ _ _ h => h, (.inr ⟨rfl, rfl⟩), HSS.out, ?_⟩
              refine takeH (o := ?o45) 21 (undef) ?h45 ?r45
              case h45 => simp only [aT, aS, aZ]; rfl
              refine ⟨_, by simp [Act.put]; rfl, by kernel_rfl, by kernel_rfl, by kernel_rfl, fun _ _ _ h => h, (.inr ⟨rfl, rfl⟩), HSS.out, ?_⟩
              refine takeH (o := ?o46) 22 (.bool false) ?h46 ?r46
              case h46 => simp only [aT, aS, aZ]; rfl
              refine ⟨_, by simp [Act.put]; rfl, by kernel_rfl, by kernel_rfl, by kernel_rfl, fun _ _ _ h => h, (.inl ⟨rfl, fun W _ => by kernel_rfl⟩), HSS.out, ?_⟩
              refine wpAnyH_done (by kernel_rfl) ?_ _
              go_wp2
              go_roundw
              case rel => exact ⟨k + 1, by omega, by go_num, HY.out⟩
              case measure => simp [intOf]; omega
          · obtain rfl : k = 3 := by omega
            have hI : ¬ ((3 : Nat) : Int) < 3 := by omega
            obtain ⟨z, hz⟩ : ∃ z, z = ss.getD n 0 := ⟨_, rfl⟩
            have hce := HH.out.2.1.1.at n HNW.out.2.2
            rw [← hz] at hce
            have hzp : 0 < z := by have h1 := HG.out.2.2.1; rw [HNW.out.1] at h1; simp only [Int.toNat_natCast] at h1; rw [hz]; exact h1
            have hzd : decide (0 < z) = true := dec_true hzp
            have cu0 := HH.out.2.2.2.2.2.cell 0
            have cu1 := HH.out.2.2.2.2.2.cell 1
            simp only [aT, aS, aZ] at cu0 cu1
            rw [HNW.out.1] at cu0
            rw [HG.out.2.1] at cu1
            have hn3 : (n : Int) < 3 := by have := HNW.out.2.2; omega
            have hnn : ((n : Int) == (n : Int)) = true := by simp
            clear hz
            go_wp2_with (first | go_skip | (with_reducible refine stopLoad 26 rfl ?_) | (with_reducible refine stopStore 26 rfl ?_))
            refine load_any 26 gu _ 26 _ HH.out.2.2.2.2.2 rfl rfl rfl Try.underlying26 rfl infoTuI ?_
            go_wp2_with fail
            refine (turnOkImpl_any _ y [ub] _ ⟨_, _, _, rfl, HH.out.2.2.2.1⟩ (by show y.left.length ≤ _; rw [HG.out.2.2.2.2.1]; omega)).mono ?_
            rintro e w99 ⟨rfl, bb⟩
            have HEND : Hid (Below w.heap.size w w99) := Below.next HH.out.1 bb
            rw [HG.out.1]
            clear bb HH cu0 cu1 hce
            go_wp2
            go_ret
            exact ⟨rfl, HEND.out⟩

set_option maxRecDepth 100000 in
theorem lifted (os : Os) (started : os.Started) (H : Type) (enc : TypeId × Value → H) :
    ReturnsInHanded {} Try.checked os 3 .any (Rows.fnPickedSpec.pre6 enc Try.prog Try.f3 Rows.fnPickedRow.domain false) (Rows.fnPickedSpec.post enc Try.prog Try.f3 false true false false) := by
  refine returnsInHanded_of_change (C := Try.checked) own started (by kernel_rfl) Try.func3
    (ChangeSpec.witness6 (enc := enc) (C := Try.checked) false ⟨#[], #[.slice none 0 0], []⟩ 8 (by kernel_rfl) (by kernel_rfl) (by kernel_rfl) (by kernel_rfl)) ?_
  intro W base args ds gs before hval0 hW hcnd _
  have hval : ∀ (j : Nat) t v, Try.f3.params[j]? = some t → args[j]? = some v → Value.okWide Try.prog W .any base t v := hval0
  have hW' := hW
  obtain ⟨p, q, hA0, hV, rfl, hfz, hnd⟩ := hW
  have hA : DataW.TrodAll enc Try.prog W 0 (fun _ => true) true Try.f3.params.toList args.toList ds p := hA0
  rw [Try.params3] at hA hval
  obtain ⟨v0, vs0, d0, ds0, p0, q0, hargs, rfl, rfl, h0, r0⟩ := trodAll_cons hA
  obtain ⟨rfl, rfl, rfl⟩ := trodAll_nil r0
  obtain rfl : args = #[v0] := by cases args; simp_all
  obtain ⟨rfl, rfl⟩ := trodVars_none hV
  obtain ⟨a0, len0, cap0, rfl⟩ := okWide_slice Try.underlying22 (hval 0 22 v0 rfl rfl)
  have k0 := h0
  have lt0 : ∀ x ∈ p0, x.block < W.heap.size := by obtain ⟨m, hm⟩ := k0; exact DataW.trod_lt m _ _ _ hm
  obtain ⟨z0, w0⟩ : ∃ zs, IsRow .u8 W a0 len0 cap0 zs := by
    obtain ⟨fuel, hf⟩ := h0
    rcases open_ints Try.underlying22 Try.underlying5 (by kernel_rfl) hf with ⟨hcs, _⟩ | ⟨x, l, c, zs, hcs, _, hl, hm, hz, _, hcell, hwz⟩
    · simp [Value.cells] at hcs
      obtain ⟨rfl, rfl, rfl⟩ := hcs
      exact ⟨[], .inl ⟨rfl, rfl, rfl, rfl⟩⟩
    · simp [Value.cells] at hcs
      obtain ⟨rfl, rfl, rfl⟩ := hcs
      exact ⟨zs, .inr ⟨_, rfl, hl, hm, by simpa using hz, hcell, hwz⟩⟩
  clear hA0 hval0
  refine (walk a0 len0 cap0 z0 W w0).mono fun e W' ⟨he, bel⟩ => ?_
  subst he
  exact ⟨_, rfl, _, _, _, [], _, [], hW', trodAll_mk1 (shut_bool Try.underlying4 _), (trodAll_cons_mk (Below.trod laidOut (by kernel_rfl) (of_decide_eq_true (by kernel_rfl)) k0 bel lt0) trodAll_mk0), rfl, bel.frame _, fun h => by cases h⟩

theorem over : Rows.fnPickedRow.holds Try.pinned (OpenSpec.ofChange Rows.fnPickedSpec) :=
  OpenClaim.holds_of_wide 3 Try.f3 rfl rfl rfl rfl rfl rfl rfl ⟨rfl, rfl, rfl, rfl, rfl⟩ rfl rfl rfl rfl rfl (by kernel_rfl) Try.func3 (by kernel_rfl)
    (of_decide_eq_true (by kernel_rfl)) (by unfold Func.isWrapper; first | (rw [if_pos (by decide +kernel)]; kernel_rfl) | (rw [if_neg (by decide +kernel)]; exact ⟨rfl, rfl⟩))
    (fun os started H enc _ => lifted os started H enc)

theorem proved : Rows.FnPickedSaid := over
#print axioms proved
end Go.Proofs.Ythimjmkdcocofaa.fnPicked
