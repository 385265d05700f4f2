/- For every byte slice (no condition): laws.FnQuantiles returns true, and its argument reads afterwards as it did: a quantile's bucket has as many at and below it as are asked for, those below it are fewer, and greater shares lie no lower. -/
import Derived.Test.YtlapdamopclojaaLawBase
import Derived.Test.YtlapdamopclojaaSkDrawQ
import Derived.Test.YtlapdamopclojaaQLawMath
import Derived.Test.YtlapdamopclojaaAskQImpl
import Derived.Test.YtlapdamopclojaaRows
import Derived.WalkKit
import Derived.ProofKit
import Derived.OpenShut
import Derived.ShutString
import Derived.ChangeOld
import Derived.Below
namespace Go.Proofs.Ytlapdamopclojaa.fnQuantiles
open Go.ChangeShapes Go.WideShapes Go.ChangeAt Go.RowKit
open Go.ChangeMaps (open_string shut_string)
set_option linter.unusedVariables false

theorem own : ownKnob Try.prog.godebug = none := by kernel_rfl
theorem laidOut : laidOutB Try.prog = true := by kernel_rfl

/-- WHAT THE WALK IS TOLD OF A SLICE OF INTEGERS THAT CAME IN: it is nil; or it leads to a row of 'cap' cells, the numbers 'zs' (the first 'len' are its elements, the rest its spare room), each fitting its kind. -/
def IsRow (k : IntKind) (w : World) (a : Option Addr) (len cap : Nat) (zs : List Int) : Prop :=
  (a = none ∧ len = 0 ∧ cap = 0 ∧ zs = []) ∨
  ∃ x, a = some x ∧ len ≤ cap ∧ cap ≤ maxLen ∧ zs.length = cap ∧ (∀ i, i < zs.length → w.cell? (x.add i) = some (.int k (zs.getD i 0))) ∧ ∀ n ∈ zs, (Lit.int k n).wf = true



set_option maxHeartbeats 8000000 in
theorem walk (a0 : Option Addr) (len0 cap0 : Nat) (z0 : List Int) (w : World) (w0 : IsRow .u8 w a0 len0 cap0 z0) :
    Calls Try.prog 6 #[.slice a0 len0 cap0] w fun e w' => e = .returned (.bool true) ∧ Below w.heap.size w w' := by
  obtain ⟨hR, hcap, hmax⟩ := rdOf w0
  generalize z0.take len0 = zs at hR
  clear w0 hcap hmax
  by_cases hbig : (1048576 : Int) < (len0 : Int)
  · have hd : decide ((1048576 : Int) < (len0 : Int)) = true := by simpa using hbig
    clear hR hbig
    go_enter Try.func6, Try.ntmps6
    go_wp2_with fail
    refine (big_any _ _ _ _).mono ?_
    rintro e x1 ⟨rfl, rfl⟩
    rw [hd]
    go_wp2
    go_ret
    exact ⟨rfl, Below.refl _ _⟩
  · have hlen : len0 ≤ 1048576 := by omega
    have hd : decide ((1048576 : Int) < (len0 : Int)) = false := by simpa using hbig
    have HR : Hid (RdB w a0 len0 zs) := hR
    clear hR hbig
    go_enter Try.func6, Try.ntmps6
    go_wp2_with fail
    refine (big_any _ _ _ _).mono ?_
    rintro e x1 ⟨rfl, hx1⟩
    have hx1' := hx1.symm
    subst hx1'
    rw [hd]
    clear hd hx1
    go_wp2_with fail
    refine (drawQuantile_any a0 len0 cap0 zs _ HR.out hlen).mono ?_
    rintro e w1 ⟨cs, s, F, p, rfl, rr, hf, _, ⟨p0, p1⟩, b1⟩
    have HW : Hid s.wide := full_wide hf
    obtain ⟨a1, n1, k1, a2, n2, k2, a3, n3, k3, F1, F2, F3, ec, r1, r2, r3, _⟩ := rr
    have HRR : Hid (RdSk w1 (.agg cs) s F ∧ RdI w1 a1 n1 s.hist F1 ∧ Below w.heap.size w w1) := ⟨⟨a1, n1, k1, a2, n2, k2, a3, n3, k3, F1, F2, F3, ec, r1, r2, r3, by assumption⟩, r1, b1⟩
    injection ec with ec
    subst ec
    clear b1 HR hf r1 r2 r3
    go_wp2_with (first | go_skip | (with_reducible refine stopLoad 41 rfl ?_) | (with_reducible refine stopStore 41 rfl ?_))
    refine store_fresh 41 w1.heap.size rfl #[.int .i64 0, .int .i64 0, .int .i64 0, .int .i64 0, .slice none 0 0, .slice none 0 0, .slice none 0 0] _ 41 rfl rfl rfl rfl (by kernel_rfl) rfl (by kernel_rfl) ?_
    intro W2 hg2 hb2
    have H2 : Hid (Blk W2 w1.heap.size #[.int .i64 s.count, .int .i64 s.sum, .int .i64 s.min, .int .i64 s.max, .slice a1 n1 k1, .slice a2 n2 k2, .slice a3 n3 k3] 41 ∧ RdSk W2 (.agg #[.int .i64 s.count, .int .i64 s.sum, .int .i64 s.min, .int .i64 s.max, .slice a1 n1 k1, .slice a2 n2 k2, .slice a3 n3 k3]) s F ∧ RdI W2 a1 n1 s.hist F1 ∧ Below w.heap.size w W2) := ⟨hg2, HRR.out.1.below hb2, HRR.out.2.1.below hb2, Below.next HRR.out.2.2 hb2⟩
    clear hg2 hb2 HRR
    go_wp2_with (first | go_skip | (with_reducible refine stopLoad 41 rfl ?_) | (with_reducible refine stopStore 41 rfl ?_))
    refine load_any 41 w1.heap.size _ 41 _ H2.out.1 rfl rfl rfl Try.underlying41 rfl (by kernel_rfl) ?_
    go_wp2_with fail
    refine (quantImpl_any _ s p F _ H2.out.2.1 HW.out).mono ?_
    rintro e W3 ⟨rfl, b3⟩
    have H3 : Hid (Blk W3 w1.heap.size #[.int .i64 s.count, .int .i64 s.sum, .int .i64 s.min, .int .i64 s.max, .slice a1 n1 k1, .slice a2 n2 k2, .slice a3 n3 k3] 41 ∧ RdSk W3 (.agg #[.int .i64 s.count, .int .i64 s.sum, .int .i64 s.min, .int .i64 s.max, .slice a1 n1 k1, .slice a2 n2 k2, .slice a3 n3 k3]) s F ∧ RdI W3 a1 n1 s.hist F1 ∧ Below w.heap.size w W3) := ⟨H2.out.1.below b3, H2.out.2.1.below b3, H2.out.2.2.1.below b3, Below.next H2.out.2.2.2 b3⟩
    clear b3 H2
    go_wp2_with (first | go_skip | (with_reducible refine stopLoad 41 rfl ?_) | (with_reducible refine stopStore 41 rfl ?_))
    refine load_any 41 w1.heap.size _ 41 _ H3.out.1 rfl rfl rfl Try.underlying41 rfl (by kernel_rfl) ?_
    go_wp2_with fail
    refine (quantSpec_any _ s p F _ H3.out.2.1 HW.out).mono ?_
    rintro e W4 ⟨rfl, b4⟩
    have H4 : Hid (Blk W4 w1.heap.size #[.int .i64 s.count, .int .i64 s.sum, .int .i64 s.min, .int .i64 s.max, .slice a1 n1 k1, .slice a2 n2 k2, .slice a3 n3 k3] 41 ∧ RdSk W4 (.agg #[.int .i64 s.count, .int .i64 s.sum, .int .i64 s.min, .int .i64 s.max, .slice a1 n1 k1, .slice a2 n2 k2, .slice a3 n3 k3]) s F ∧ RdI W4 a1 n1 s.hist F1 ∧ Below w.heap.size w W4) := ⟨H3.out.1.below b4, H3.out.2.1.below b4, H3.out.2.2.1.below b4, Below.next H3.out.2.2.2 b4⟩
    clear b4 H3
    obtain ⟨lo, hlo⟩ : ∃ b, b = (quantN s p).1 := ⟨_, rfl⟩
    obtain ⟨hi, hhi⟩ : ∃ b, b = (quantN s p).2 := ⟨_, rfl⟩
    rw [← hlo, ← hhi]
    have HQ : Hid (lo = (quantN s p).1 ∧ hi = (quantN s p).2) := ⟨hlo, hhi⟩
    have hn1 : (lo != lo) = false := by simp
    have hn2 : (hi != hi) = false := by simp
    clear hlo hhi
    go_wp2_with (first | go_skip | (with_reducible refine stopLoad 41 rfl ?_) | (with_reducible refine stopStore 41 rfl ?_))
    refine load_any 41 w1.heap.size _ 41 _ H4.out.1 rfl rfl rfl Try.underlying41 rfl (by kernel_rfl) ?_
    go_wp2_with fail
    refine (okSpec_any _ s F _ H4.out.2.1 HW.out).mono ?_
    rintro e W5 ⟨rfl, b5⟩
    have H5 : Hid (Blk W5 w1.heap.size #[.int .i64 s.count, .int .i64 s.sum, .int .i64 s.min, .int .i64 s.max, .slice a1 n1 k1, .slice a2 n2 k2, .slice a3 n3 k3] 41 ∧ RdSk W5 (.agg #[.int .i64 s.count, .int .i64 s.sum, .int .i64 s.min, .int .i64 s.max, .slice a1 n1 k1, .slice a2 n2 k2, .slice a3 n3 k3]) s F ∧ RdI W5 a1 n1 s.hist F1 ∧ Below w.heap.size w W5) := ⟨H4.out.1.below b5, H4.out.2.1.below b5, H4.out.2.2.1.below b5, Below.next H4.out.2.2.2 b5⟩
    clear b5 H4
    obtain ⟨d, hd⟩ : ∃ d, d = s.ok := ⟨_, rfl⟩
    rw [← hd]
    have HD : Hid (d = s.ok) := hd
    clear hd
    cases d
    · obtain ⟨rfl, rfl⟩ : lo = 0 ∧ hi = 0 := by rw [HQ.out.1, HQ.out.2, quantN_not HD.out.symm]; exact ⟨rfl, rfl⟩
      go_wp2
      go_ret
      exact ⟨rfl, H5.out.2.2.2⟩
    obtain ⟨x0, hx0⟩ : ∃ x, x = s.count := ⟨_, rfl⟩
    have cc0 : W5.cell? ⟨w1.heap.size, 0, none⟩ = some (.int .i64 x0) := by rw [H5.out.1.cell, hx0]; rfl
    have HX : Hid (x0 = s.count) := hx0
    clear hx0
    by_cases q : x0 = 0
    · subst q
      obtain ⟨rfl, rfl⟩ : lo = 0 ∧ hi = 0 := by rw [HQ.out.1, HQ.out.2, quantN_zero HD.out.symm HX.out.symm]; exact ⟨rfl, rfl⟩
      go_wp2
      go_ret
      exact ⟨rfl, H5.out.2.2.2⟩
    have qb : (x0 == 0) = false := by simpa using q
    clear q
    by_cases q1 : p < 1
    · obtain ⟨rfl, rfl⟩ : lo = 0 ∧ hi = 0 := by rw [HQ.out.1, HQ.out.2, quantN_out (by omega)]; exact ⟨rfl, rfl⟩
      have q1d : decide (p < 1) = true := dec_true q1
      go_wp2
      go_ret
      exact ⟨rfl, H5.out.2.2.2⟩
    have q1d : decide (p < 1) = false := dec_false q1
    by_cases q2 : 1000 < p
    · obtain ⟨rfl, rfl⟩ : lo = 0 ∧ hi = 0 := by rw [HQ.out.1, HQ.out.2, quantN_out (by omega)]; exact ⟨rfl, rfl⟩
      have q2d : decide (1000 < p) = true := dec_true q2
      go_wp2
      go_ret
      exact ⟨rfl, H5.out.2.2.2⟩
    have q2d : decide (1000 < p) = false := dec_false q2
    have pp1 : 1 ≤ p := by omega
    have pp2 : p ≤ 1000 := by omega
    clear p0 p1 q1 q2
    have HL := okHist HD.out.symm
    obtain rfl : n1 = 8 := by rw [← H5.out.2.2.1.length]; exact HL.1
    have hc1 := H5.out.2.2.1.cells
    rcases hc1 with ⟨h0, _⟩ | ⟨b, off, _, rfl, _, hc⟩
    · omega
    have c4 : W5.cell? ⟨w1.heap.size, 4, none⟩ = some (.slice (some ⟨b, off, none⟩) 8 k1) := by rw [H5.out.1.cell]; rfl
    have HC : Hid (∀ i, i < 8 → W5.cell? ⟨b, off + i, none⟩ = some (.int .i64 (s.hist[i]?.getD 0))) := fun i hi => by
      have e := hc i hi
      rw [e]
      simp
    clear hc
    obtain ⟨H, hH⟩ : ∃ R, R = s.hist := ⟨_, rfl⟩
    rw [← hH] at HC HL
    have HE : Hid (H = s.hist) := hH
    have HV : Hid (quantN s p = quantH H p) := by rw [hH]; exact quantN_in HD.out.symm pp1 pp2
    have HH : Hid (Hin H) := HL
    clear hH HL
    go_wp2
    go_loop [9, 10] (fun c i => ∃ (k : Nat) (m : Int), k ≤ 8 ∧ i = .int .i64 k ∧ c = .int .i64 m ∧ 0 ≤ m ∧ m ≤ 8000000000 ∧ Hid (m = up H k)) (fun _ i => 8 - (intOf i).toNat)
    case atStart => exact ⟨0, 0, by omega, rfl, rfl, by omega, by omega, (up_zero H).symm⟩
    case round =>
      obtain ⟨k, m, hk, rfl, rfl, m0, m8, HM⟩ := hrel
      by_cases hlt : k < 8
      · obtain ⟨x, hx⟩ : ∃ x, x = H[k]?.getD 0 := ⟨_, rfl⟩
        have hix : W5.cell? ⟨b, off + k, none⟩ = some (.int .i64 x) := by rw [hx]; exact HC.out k hlt
        have hu : up H (k + 1) = m + x := by rw [up_succ (by rw [HH.out.1]; exact hlt), ← hx, ← HM.out]
        have HU : Hid (m + x = up H (k + 1)) := hu.symm
        have b1 : 0 ≤ m + x := by have := (HH.out.up (k + 1)).1; omega
        have b2 : m + x ≤ 8000000000 := by have := (HH.out.up (k + 1)).2.2; omega
        have b3 : 0 ≤ x := by rw [hx]; exact (HH.out.at k).1
        clear hx hu
        go_wp2
        go_round
        case rel => exact ⟨k + 1, m + x, by omega, by go_num, by go_num, b1, b2, HU⟩
        case measure => simp [intOf]; omega
      · obtain rfl : k = 8 := by omega
        simp only [Int.cast_ofNat_Int]
        by_cases hm0 : m = 0
        · subst hm0
          obtain ⟨rfl, rfl⟩ : lo = 0 ∧ hi = 0 := by rw [HQ.out.1, HQ.out.2, HV.out, quant_empty HH.out HM.out.symm]; exact ⟨rfl, rfl⟩
          go_wp2
          go_ret
          exact ⟨rfl, H5.out.2.2.2⟩
        have hmb : (m == 0) = false := by simpa using hm0
        obtain ⟨j, hj, e1, e2, e3, e4, e5, e6, e7⟩ := quant_law HH.out pp1 pp2 (by rw [← HM.out]; exact hm0)
        have HJ : Hid (bucketN lo = (j : Nat) ∧ lo = lowN (j : Nat) ∧ hi = highN (j : Nat)) := by
          rw [HQ.out.1, HQ.out.2, HV.out, e1]
          exact ⟨e2, rfl, rfl⟩
        have HK : Hid (0 < H[j]?.getD 0 ∧ p * m ≤ up H (j + 1) * 1000 ∧ (up H (j + 1) - H[j]?.getD 0) * 1000 < p * m ∧ lo ≤ hi ∧ lo ≤ (quantH H 1000).1) := by
          rw [HJ.out.2.1, HJ.out.2.2, HM.out]
          exact ⟨e3, e4, e5, e6, e7⟩
        clear e1 e2 e3 e4 e5 e6 e7 hm0
        go_wp2_with fail
        refine (bucketImpl_any _ _).mono ?_
        rintro e w6 ⟨rfl, hw6⟩
        have hw6' := hw6.symm
        subst hw6'
        rw [HJ.out.1]
        clear hw6
        go_wp2
        go_loop [12, 13] (fun c i => ∃ (k : Nat) (u : Int), k ≤ j + 1 ∧ i = .int .i64 k ∧ c = .int .i64 u ∧ 0 ≤ u ∧ u ≤ 8000000000 ∧ Hid (u = up H k)) (fun _ i => j + 1 - (intOf i).toNat)
        case atStart => exact ⟨0, 0, by omega, rfl, rfl, by omega, by omega, (up_zero H).symm⟩
        case round =>
          obtain ⟨k, u, hk, rfl, rfl, u0, u8, HU0⟩ := hrel
          by_cases hlt : k ≤ j
          · obtain ⟨x, hx⟩ : ∃ x, x = H[k]?.getD 0 := ⟨_, rfl⟩
            have hk8 : k < 8 := by omega
            have hix : W5.cell? ⟨b, off + k, none⟩ = some (.int .i64 x) := by rw [hx]; exact HC.out k hk8
            have hu : up H (k + 1) = u + x := by rw [up_succ (by rw [HH.out.1]; exact hk8), ← hx, ← HU0.out]
            have HU : Hid (u + x = up H (k + 1)) := hu.symm
            have b1 : 0 ≤ u + x := by have := (HH.out.up (k + 1)).1; omega
            have b2 : u + x ≤ 8000000000 := by have := (HH.out.up (k + 1)).2.2; omega
            have b3 : 0 ≤ x := by rw [hx]; exact (HH.out.at k).1
            clear hx hu
            go_wp2
            go_round
            case rel => exact ⟨k + 1, u + x, by omega, by go_num, by go_num, b1, b2, HU⟩
            case measure => simp [intOf]; omega
          · obtain rfl : k = j + 1 := by omega
            have HU1 : Hid (p * m ≤ u * 1000 ∧ (u - H[j]?.getD 0) * 1000 < p * m) := by
              rw [HU0.out]
              exact ⟨HK.out.2.1, HK.out.2.2.1⟩
            go_wp2_with (first | go_skip | (with_reducible refine stopLoad 41 rfl ?_) | (with_reducible refine stopStore 41 rfl ?_))
            refine load_any 41 w1.heap.size _ 41 _ H5.out.1 rfl rfl rfl Try.underlying41 rfl (by kernel_rfl) ?_
            go_wp2_with fail
            refine (quantImpl_any _ s 1000 F _ H5.out.2.1 HW.out).mono ?_
            rintro e W7 ⟨rfl, b7⟩
            have c47 : W7.cell? ⟨w1.heap.size, 4, none⟩ = some (.slice (some ⟨b, off, none⟩) 8 k1) := (b7.cell (p := ⟨w1.heap.size, 4, none⟩) H5.out.1.lt).trans c4
            obtain ⟨x, hx⟩ : ∃ x, x = H[j]?.getD 0 := ⟨_, rfl⟩
            have hcj := HC.out j hj
            have cj : W7.cell? ⟨b, off + j, none⟩ = some (.int .i64 x) := by rw [b7.cell (p := ⟨b, off + j, none⟩) (World.block_lt_of_cell? _ _ hcj), hcj, hx]
            have HB7 : Hid (Below w.heap.size w W7) := Below.next H5.out.2.2.2 b7
            obtain ⟨y, hy⟩ : ∃ y, y = (quantN s 1000).1 := ⟨_, rfl⟩
            obtain ⟨y2, hy2⟩ : ∃ y, y = (quantN s 1000).2 := ⟨_, rfl⟩
            rw [← hy, ← hy2]
            have g1 := HU1.out.1
            have g2 := HU1.out.2
            rw [← hx] at g2
            have g3 : 0 < x := by rw [hx]; exact HK.out.1
            have g4 := HK.out.2.2.2.1
            have g5 : lo ≤ y := by
              rw [hy, quantN_in HD.out.symm (by omega) (by omega), ← HE.out]
              exact HK.out.2.2.2.2
            have g6 : x ≤ 1000000000 := by rw [hx]; exact (HH.out.at j).2
            obtain ⟨pm0, pm1⟩ := prod_range pp1 pp2 m0 m8
            have d1 : decide (p * m ≤ u * 1000) = true := dec_true g1
            have d2 : decide ((u - x) * 1000 < p * m) = true := dec_true g2
            have d3 : decide (0 < x) = true := dec_true g3
            have d4 : decide (lo ≤ hi) = true := dec_true g4
            have d5 : decide (lo ≤ y) = true := dec_true g5
            clear b7 hx hcj hy hy2 g1 g2 g4 g5 HU1 HK HJ HC
            go_wp2
            go_ret
            exact ⟨rfl, HB7.out⟩

set_option maxRecDepth 100000 in
theorem lifted (os : Os) (started : os.Started) (H : Type) (enc : TypeId × Value → H) :
    ReturnsInHanded {} Try.checked os 6 .any (Rows.fnQuantilesSpec.pre6 enc Try.prog Try.f6 Rows.fnQuantilesRow.domain false) (Rows.fnQuantilesSpec.post enc Try.prog Try.f6 false true false false) := by
  refine returnsInHanded_of_change (C := Try.checked) own started (by kernel_rfl) Try.func6
    (ChangeSpec.witness6 (enc := enc) (C := Try.checked) false ⟨#[], #[.slice none 0 0], []⟩ 8 (by kernel_rfl) (by kernel_rfl) (by kernel_rfl) (by kernel_rfl)) ?_
  intro W base args ds gs before hval0 hW hcnd _
  have hval : ∀ (j : Nat) t v, Try.f6.params[j]? = some t → args[j]? = some v → Value.okWide Try.prog W .any base t v := hval0
  have hW' := hW
  obtain ⟨p, q, hA0, hV, rfl, hfz, hnd⟩ := hW
  have hA : DataW.TrodAll enc Try.prog W 0 (fun _ => true) true Try.f6.params.toList args.toList ds p := hA0
  rw [Try.params6] at hA hval
  obtain ⟨v0, vs0, d0, ds0, p0, q0, hargs, rfl, rfl, h0, r0⟩ := trodAll_cons hA
  obtain ⟨rfl, rfl, rfl⟩ := trodAll_nil r0
  obtain rfl : args = #[v0] := by cases args; simp_all
  obtain ⟨rfl, rfl⟩ := trodVars_none hV
  obtain ⟨a0, len0, cap0, rfl⟩ := okWide_slice Try.underlying22 (hval 0 22 v0 rfl rfl)
  have k0 := h0
  have lt0 : ∀ x ∈ p0, x.block < W.heap.size := by obtain ⟨m, hm⟩ := k0; exact DataW.trod_lt m _ _ _ hm
  obtain ⟨z0, w0⟩ : ∃ zs, IsRow .u8 W a0 len0 cap0 zs := by
    obtain ⟨fuel, hf⟩ := h0
    rcases open_ints Try.underlying22 Try.underlying5 (by kernel_rfl) hf with ⟨hcs, _⟩ | ⟨x, l, c, zs, hcs, _, hl, hm, hz, _, hcell, hwz⟩
    · simp [Value.cells] at hcs
      obtain ⟨rfl, rfl, rfl⟩ := hcs
      exact ⟨[], .inl ⟨rfl, rfl, rfl, rfl⟩⟩
    · simp [Value.cells] at hcs
      obtain ⟨rfl, rfl, rfl⟩ := hcs
      exact ⟨zs, .inr ⟨_, rfl, hl, hm, by simpa using hz, hcell, hwz⟩⟩
  clear hA0 hval0
  refine (walk a0 len0 cap0 z0 W w0).mono fun e W' ⟨he, bel⟩ => ?_
  subst he
  exact ⟨_, rfl, _, _, _, [], _, [], hW', trodAll_mk1 (shut_bool Try.underlying4 _), (trodAll_cons_mk (Below.trod laidOut (by kernel_rfl) (of_decide_eq_true (by kernel_rfl)) k0 bel lt0) trodAll_mk0), rfl, bel.frame _, fun h => by cases h⟩

theorem over : Rows.fnQuantilesRow.holds Try.pinned (OpenSpec.ofChange Rows.fnQuantilesSpec) :=
  OpenClaim.holds_of_wide 6 Try.f6 rfl rfl rfl rfl rfl rfl rfl ⟨rfl, rfl, rfl, rfl, rfl⟩ rfl rfl rfl rfl rfl (by kernel_rfl) Try.func6 (by kernel_rfl)
    (of_decide_eq_true (by kernel_rfl)) (by unfold Func.isWrapper; first | (rw [if_pos (by decide +kernel)]; kernel_rfl) | (rw [if_neg (by decide +kernel)]; exact ⟨rfl, rfl⟩))
    (fun os started H enc _ => lifted os started H enc)

theorem proved : Rows.FnQuantilesSaid := over
#print axioms proved
end Go.Proofs.Ytlapdamopclojaa.fnQuantiles
