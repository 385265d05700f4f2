/- The walks through Different, of the program and of the model. No statement of the seat is proved here. -/
import Derived.Test.YtbmbmnhamogghamAskMean
namespace Go.Proofs.Ytbmbmnhamoggham
open Go.RowKit
theorem run_index_int {P : Program} (w : World) (t e : TypeId) (zs : List Int) (m k : Nat) (hm : zs.length = m) (hk : k < m) (ht : P.underlying t = some (.array m e)) (he : P.underlying e = some (.int .i64)) (hs : ∀ w, (sizeOf e).run P w = .ok 1 w) :
    (Instr.index t (.agg (tc zs)) (.int .i64 k)).run P w = .ok (.int .i64 (zs[k]?.getD 0)) w := by
  have hagg : ∀ w, (isAgg e).run P w = .ok false w := fun w => by unfold isAgg; rw [Sem.run_bind, run_underlying he w]; simp
  have h3 : (0 : Int) ≤ k ∧ (k : Int) < m := by omega
  unfold Instr.index part
  simp [asIntOf, run_underlying ht, Sem.run_bind, h3, hs, hagg, tc]
  rw [List.getElem?_eq_getElem (by omega)]
  simp
  intro h; omega
def cntPos (l : List Int) : Int := ((l.filter (fun x => decide (0 < x))).length : Nat)
theorem cntPos_range (l : List Int) : 0 ≤ cntPos l ∧ cntPos l ≤ l.length := by
  unfold cntPos
  have := List.length_filter_le (fun x : Int => decide (0 < x)) l
  omega
theorem cntPos_yes {l : List Int} {k : Nat} (hk : k < l.length) (h : 0 < l[k]?.getD 0) : cntPos (l.take (k + 1)) = cntPos (l.take k) + 1 := by
  rw [take_succ' l k hk]
  unfold cntPos
  simp [h]
theorem cntPos_no {l : List Int} {k : Nat} (hk : k < l.length) (h : ¬ 0 < l[k]?.getD 0) : cntPos (l.take (k + 1)) = cntPos (l.take k) := by
  rw [take_succ' l k hk]
  unfold cntPos
  simp [h]
def diffN (s : Sk) : Int := if s.ok = true then cntPos s.regs else 0
theorem diffN_not {s : Sk} (h : s.ok = false) : diffN s = 0 := by unfold diffN; rw [h]; rfl
theorem diffN_ok {s : Sk} (h : s.ok = true) : diffN s = cntPos s.regs := by unfold diffN; rw [if_pos h]
theorem tl_regs {s : Sk} (h : s.ok = true) : (s.tl.drop 12).take 8 = s.regs ∧ s.regs.length = 8 := by
  obtain ⟨e1, e2, x, y, e3, e4, e5⟩ := Sk.shaped_parts (Sk.ok_shaped h)
  obtain ⟨h0, h1, h2, h3, h4, h5, h6, h7, eh⟩ := len8 e1
  obtain ⟨r0, r1, r2, r3, r4, r5, r6, r7, er⟩ := len8 e2
  unfold Sk.tl
  rw [eh, er]
  exact ⟨rfl, rfl⟩
theorem tl_hist {s : Sk} (h : s.ok = true) : (s.tl.drop 4).take 8 = s.hist ∧ s.hist.length = 8 := by
  obtain ⟨e1, e2, x, y, e3, e4, e5⟩ := Sk.shaped_parts (Sk.ok_shaped h)
  obtain ⟨h0, h1, h2, h3, h4, h5, h6, h7, eh⟩ := len8 e1
  unfold Sk.tl
  rw [eh]
  exact ⟨rfl, rfl⟩
set_option maxRecDepth 200000 in
set_option maxHeartbeats 1000000 in
theorem aboveZero_any (a : Option Addr) (len cap : Nat) (zs : List Int) (F : List Nat) (w : World) (h : RdI w a len zs F) (hlen : len ≤ 140737488355328) :
    Calls Try.prog 56 #[.slice a len cap] w fun e w' => e = .returned (.int .i64 (cntPos zs)) ∧ w' = w := by
  obtain ⟨n, hn⟩ : ∃ n, n = cntPos zs := ⟨_, rfl⟩
  rw [← hn]
  have HL : Hid (zs.length = len) := h.length
  have HN : Hid (n = cntPos zs) := hn
  clear hn
  rcases h.cells with ⟨h0, _⟩ | ⟨b, off, hp, rfl, _, hc⟩
  · subst h0
    have hz : zs = [] := List.eq_nil_of_length_eq_zero h.length
    subst hz
    clear h
    go_enter Try.func56, Try.ntmps56
    go_wp2
    refine wp_loop_rounds 1 ?_
    rw [rounds_succ]
    go_wp2
    go_ret
    exact ⟨ret_int (by rw [HN.out]; rfl), rfl⟩
  · have HC : Hid (∀ i, i < len → w.cell? ⟨b, off + i, none⟩ = some (.int .i64 (zs.getD i 0))) := hc
    clear h hc
    go_enter Try.func56, Try.ntmps56
    go_wp2
    go_loop [3, 8] (fun c i => ∃ (k : Nat) (m : Int), k ≤ len ∧ i = .int .i64 k ∧ c = .int .i64 m ∧ 0 ≤ m ∧ m ≤ 140737488355328 ∧ Hid (m = cntPos (zs.take k))) (fun _ i => len - (intOf i).toNat)
    case atStart => exact ⟨0, 0, by omega, rfl, rfl, by omega, by omega, show _ = _ by simp [cntPos]⟩
    case round =>
      obtain ⟨k, m, hk, rfl, rfl, m0, m8, HM⟩ := hrel
      by_cases hlt : k < len
      · have hck := HC.out k hlt
        obtain ⟨x, hx⟩ : ∃ x, x = zs[k]?.getD 0 := ⟨_, rfl⟩
        have hck2 : w.cell? ⟨b, off + k, none⟩ = some (.int .i64 x) := by rw [hx, hck]; simp
        have HX : Hid (x = zs[k]?.getD 0) := hx
        clear hck hx
        by_cases hpx : 0 < x
        · have hm7 : m + 1 ≤ 140737488355328 := by
            have e := cntPos_yes (l := zs) (by rw [HL.out]; exact hlt) (by rw [← HX.out]; exact hpx)
            have e2 := cntPos_range (zs.take (k + 1))
            rw [e, ← HM.out] at e2
            have : (zs.take (k + 1)).length ≤ len := by rw [List.length_take]; omega
            omega
          have HM2 : Hid (m + 1 = cntPos (zs.take (k + 1))) := by
            show _ = _
            rw [cntPos_yes (by rw [HL.out]; exact hlt) (by rw [← HX.out]; exact hpx), ← HM.out]
          go_wp2
          go_round
          case rel => exact ⟨k + 1, m + 1, by omega, by go_num, by go_num, by omega, by omega, HM2⟩
          case measure => simp [intOf]; omega
        · have HM2 : Hid (m = cntPos (zs.take (k + 1))) := by
            show _ = _
            rw [cntPos_no (by rw [HL.out]; exact hlt) (by rw [← HX.out]; exact hpx), ← HM.out]
          go_wp2
          go_round
          case rel => exact ⟨k + 1, m, by omega, by go_num, rfl, by omega, by omega, HM2⟩
          case measure => simp [intOf]; omega
      · obtain rfl : k = len := by omega
        have HV : Hid (m = n) := by
          show _ = _
          rw [HN.out, HM.out, List.take_of_length_le (by rw [HL.out]; omega)]
        go_wp2
        go_ret
        exact ⟨ret_int HV.out, rfl⟩
set_option maxRecDepth 200000 in
set_option maxHeartbeats 1000000 in
theorem diffImpl_any (v : Value) (s : Sk) (F : List Nat) (w : World) (h : RdSk w v s F) (hw : s.wide) :
    Calls Try.prog 22 #[v] w fun e w' => e = .returned (.int .i64 (diffN s)) ∧ Below w.heap.size w w' := by
  have HH : Hid (RdSk w v s F ∧ s.wide) := ⟨h, hw⟩
  obtain ⟨a1, n1, c1, a2, n2, c2, a3, n3, c3, F1, F2, F3, rfl, h1, h2, h3, _⟩ := h
  clear h1 h2 h3 hw
  have HT : Hid (Below w.heap.size w (w.alloc (.cells #[.int .i64 s.count, .int .i64 s.sum, .int .i64 s.min, .int .i64 s.max, .slice a1 n1 c1, .slice a2 n2 c2, .slice a3 n3 c3] 27))) := (Below.refl _ _).alloc (Nat.le_refl _) _
  go_enter Try.func22, Try.ntmps22
  go_wp2_with fail
  refine (okTally_any _ s F _ (HH.out.1.below HT.out) HH.out.2).mono ?_
  rintro e w1 ⟨xs, ys, rfl, _, hy, hx, hyx, hb1⟩
  have hok := okT_ok hx
  have HB : Hid (ys.length = 28 ∧ Below w.heap.size w w1 ∧ (s.ok = true → ys = s.tl)) := ⟨hy, Below.next HT.out hb1, fun e => by rw [hyx (hok.trans e)]; exact hx (Sk.ok_shaped e)⟩
  rw [hok]
  clear hb1 hy hx hyx hok
  obtain ⟨d, hd⟩ : ∃ d, d = s.ok := ⟨_, rfl⟩
  rw [← hd]
  have HD : Hid (d = s.ok) := hd
  clear hd
  go_wp2_with (with_reducible refine stopStore 51 rfl ?_)
  refine store_fresh 51 w1.heap.size rfl (tc (List.replicate 28 0)) (tc ys) 51 rfl rfl rfl rfl (tallySize HB.out.1) (by rw [tc_size, tc_size, HB.out.1]; rfl) (tc_one _) ?_
  intro W2 hg2 hb2
  have HB2 : Hid (Blk W2 w1.heap.size (tc ys) 51 ∧ Below w.heap.size w W2) := ⟨hg2, Below.next HB.out.2.1 hb2⟩
  clear hb2 hg2
  cases d
  · go_wp2
    go_ret
    exact ⟨ret_int (diffN_not HD.out.symm).symm, HB2.out.2⟩
  go_wp2_with fail
  have HR : Hid (cntPos ((ys.drop 12).take 8) = diffN s) := by
    show _ = _
    rw [HB.out.2.2 HD.out.symm, (tl_regs HD.out.symm).1, diffN_ok HD.out.symm]
  refine (aboveZero_any _ 8 8 ((ys.drop 12).take 8) _ _ (rdI_tc HB2.out.1 (by rw [HB.out.1]; omega) (by omega)) (by omega)).mono ?_
  rintro e w3 ⟨rfl, hw3⟩
  have hw3' := hw3.symm
  subst hw3'
  clear hw3
  rw [HR.out]
  go_wp2
  go_ret
  exact ⟨rfl, HB2.out.2⟩
set_option maxRecDepth 200000 in
theorem l1Bit_any (b : Bool) (w : World) : Calls Try.prog 55 #[.bool b] w fun e w' => e = .returned (.int .i64 (if b then 1 else 0)) ∧ w' = w := by
  cases b
  · go_enter Try.func55, Try.ntmps55
    go_wp2
    go_ret
    exact ⟨rfl, rfl⟩
  · go_enter Try.func55, Try.ntmps55
    go_wp2
    go_ret
    exact ⟨rfl, rfl⟩
set_option maxRecDepth 200000 in
set_option maxHeartbeats 1000000 in
theorem diffSpec_any (v : Value) (s : Sk) (F : List Nat) (w : World) (h : RdSk w v s F) (hw : s.wide) :
    Calls Try.prog 21 #[v] w fun e w' => e = .returned (.int .i64 (diffN s)) ∧ Below w.heap.size w w' := by
  have HH : Hid (RdSk w v s F ∧ s.wide) := ⟨h, hw⟩
  obtain ⟨a1, n1, c1, a2, n2, c2, a3, n3, c3, F1, F2, F3, rfl, h1, h2, h3, _⟩ := h
  have H2 : Hid (RdI w a2 n2 s.regs F2) := h2
  clear h1 h2 h3 hw
  have HT : Hid (Blk (w.alloc (.cells #[.int .i64 s.count, .int .i64 s.sum, .int .i64 s.min, .int .i64 s.max, .slice a1 n1 c1, .slice a2 n2 c2, .slice a3 n3 c3] 27)) w.heap.size #[.int .i64 s.count, .int .i64 s.sum, .int .i64 s.min, .int .i64 s.max, .slice a1 n1 c1, .slice a2 n2 c2, .slice a3 n3 c3] 27 ∧ Below w.heap.size w (w.alloc (.cells #[.int .i64 s.count, .int .i64 s.sum, .int .i64 s.min, .int .i64 s.max, .slice a1 n1 c1, .slice a2 n2 c2, .slice a3 n3 c3] 27))) := ⟨Blk.made _ _ _, (Below.refl _ _).alloc (Nat.le_refl _) _⟩
  go_enter Try.func21, Try.ntmps21
  go_wp2_with fail
  refine (okSpec_any _ s F _ (HH.out.1.below HT.out.2) HH.out.2).mono ?_
  rintro e w1 ⟨rfl, hb1⟩
  have HB : Hid (Blk w1 w.heap.size #[.int .i64 s.count, .int .i64 s.sum, .int .i64 s.min, .int .i64 s.max, .slice a1 n1 c1, .slice a2 n2 c2, .slice a3 n3 c3] 27 ∧ Below w.heap.size w w1) := ⟨HT.out.1.below hb1, Below.next HT.out.2 hb1⟩
  clear hb1
  obtain ⟨d, hd⟩ : ∃ d, d = s.ok := ⟨_, rfl⟩
  rw [← hd]
  have HD : Hid (d = s.ok) := hd
  clear hd
  cases d
  · go_wp2
    go_ret
    exact ⟨ret_int (diffN_not HD.out.symm).symm, HB.out.2⟩
  have HL : Hid (s.regs.length = 8) := (tl_regs HD.out.symm).2
  obtain rfl : n2 = 8 := by rw [← H2.out.length]; exact HL.out
  have hc2 := H2.out.cells
  rcases hc2 with ⟨h0, _⟩ | ⟨b, off, _, rfl, _, hc⟩
  · omega
  have c5 : w1.cell? ⟨w.heap.size, 5, none⟩ = some (.slice (some ⟨b, off, none⟩) 8 c2) := by rw [HB.out.1.cell]; rfl
  have HC : Hid (∀ i, i < 8 → w1.cell? ⟨b, off + i, none⟩ = some (.int .i64 (s.regs[i]?.getD 0))) := fun i hi => by
    have e := hc i hi
    rw [HB.out.2.cell (p := ⟨b, off + i, none⟩) (World.block_lt_of_cell? _ _ e), e]
    simp
  clear hc
  obtain ⟨R, hR⟩ : ∃ R, R = s.regs := ⟨_, rfl⟩
  rw [← hR] at HC HL
  have HR : Hid (R = s.regs) := hR
  clear hR
  go_wp2
  go_loop [3, 4] (fun c i => ∃ (k : Nat) (m : Int), k ≤ 8 ∧ i = .int .i64 k ∧ c = .int .i64 m ∧ 0 ≤ m ∧ m ≤ 8 ∧ Hid (m = cntPos (R.take k))) (fun _ i => 8 - (intOf i).toNat)
  case atStart => exact ⟨0, 0, by omega, rfl, rfl, by omega, by omega, show _ = _ by simp [cntPos]⟩
  case round =>
    obtain ⟨k, m, hk, rfl, rfl, m0, m8, HM⟩ := hrel
    by_cases hlt : k < 8
    · obtain ⟨x, hx⟩ : ∃ x, x = R[k]?.getD 0 := ⟨_, rfl⟩
      have hi : w1.cell? ⟨b, off + k, none⟩ = some (.int .i64 x) := by rw [hx]; exact HC.out k hlt
      have HX : Hid (x = R[k]?.getD 0) := hx
      clear hx
      by_cases hp : 0 < x
      · have hm7 : m + 1 ≤ 8 := by
          have e := cntPos_yes (l := R) (by rw [HL.out]; exact hlt) (by rw [← HX.out]; exact hp)
          have e2 := cntPos_range (R.take (k + 1))
          rw [e, ← HM.out] at e2
          have : (R.take (k + 1)).length ≤ 8 := by rw [List.length_take]; omega
          omega
        have HM2 : Hid (m + 1 = cntPos (R.take (k + 1))) := by
          show _ = _
          rw [cntPos_yes (by rw [HL.out]; exact hlt) (by rw [← HX.out]; exact hp), ← HM.out]
        have hd : decide (0 < x) = true := dec_true hp
        go_wp2_with fail
        refine (l1Bit_any _ _).mono ?_
        rintro e w2 ⟨rfl, hw2⟩
        have hw2' := hw2.symm
        subst hw2'
        clear hw2
        simp only [if_true]
        go_wp2
        go_round
        case rel => exact ⟨k + 1, m + 1, by omega, by go_num, by go_num, by omega, by omega, HM2⟩
        case measure => simp [intOf]; omega
      · have HM2 : Hid (m = cntPos (R.take (k + 1))) := by
          show _ = _
          rw [cntPos_no (by rw [HL.out]; exact hlt) (by rw [← HX.out]; exact hp), ← HM.out]
        have hd : decide (0 < x) = false := dec_false hp
        go_wp2_with fail
        refine (l1Bit_any _ _).mono ?_
        rintro e w2 ⟨rfl, hw2⟩
        have hw2' := hw2.symm
        subst hw2'
        clear hw2
        simp only [Bool.false_eq_true, if_false]
        go_wp2
        go_round
        case rel => exact ⟨k + 1, m, by omega, by go_num, by go_num, by omega, by omega, HM2⟩
        case measure => simp [intOf]; omega
    · obtain rfl : k = 8 := by omega
      have HV : Hid (m = diffN s) := by
        show _ = _
        rw [diffN_ok HD.out.symm, HM.out, List.take_of_length_le (by rw [HL.out]; omega), HR.out]
      simp only [Int.cast_ofNat_Int]
      go_wp2
      go_ret
      exact ⟨ret_int HV.out, HB.out.2⟩
end Go.Proofs.Ytbmbmnhamoggham
