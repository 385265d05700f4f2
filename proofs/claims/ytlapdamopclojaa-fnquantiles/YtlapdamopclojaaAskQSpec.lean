/- The walk through the model's Quantile. No statement of the seat is proved here. -/
import Derived.Test.YtlapdamopclojaaAskQMath
namespace Go.Proofs.Ytlapdamopclojaa
open Go.RowKit
theorem ret_two {a b : Int} {q : Int × Int} (h : q = (a, b)) : Ending.returned (.tuple #[.int .i64 a, .int .i64 b]) = .returned (.tuple #[.int .i64 q.1, .int .i64 q.2]) := by rw [h]
set_option maxHeartbeats 2000000 in
theorem quantSpec_any (v : Value) (s : Sk) (p : Int) (F : List Nat) (w : World) (h : RdSk w v s F) (hw : s.wide) :
    Calls Try.prog 34 #[v, .int .i64 p] w fun e w' => e = .returned (.tuple #[.int .i64 (quantN s p).1, .int .i64 (quantN s p).2]) ∧ Below w.heap.size w w' := by
  have HH : Hid (RdSk w v s F ∧ s.wide) := ⟨h, hw⟩
  obtain ⟨a1, n1, c1, a2, n2, c2, a3, n3, c3, F1, F2, F3, rfl, h1, h2, h3, _⟩ := h
  have H1 : Hid (RdI w a1 n1 s.hist F1) := h1
  clear h1 h2 h3 hw
  have HT : Hid (Blk (w.alloc (.cells #[.int .i64 s.count, .int .i64 s.sum, .int .i64 s.min, .int .i64 s.max, .slice a1 n1 c1, .slice a2 n2 c2, .slice a3 n3 c3] 41)) w.heap.size #[.int .i64 s.count, .int .i64 s.sum, .int .i64 s.min, .int .i64 s.max, .slice a1 n1 c1, .slice a2 n2 c2, .slice a3 n3 c3] 41 ∧ Below w.heap.size w (w.alloc (.cells #[.int .i64 s.count, .int .i64 s.sum, .int .i64 s.min, .int .i64 s.max, .slice a1 n1 c1, .slice a2 n2 c2, .slice a3 n3 c3] 41))) := ⟨Blk.made _ _ _, (Below.refl _ _).alloc (Nat.le_refl _) _⟩
  go_enter Try.func34, Try.ntmps34
  go_wp2_with fail
  refine (okSpec_any _ s F _ (HH.out.1.below HT.out.2) HH.out.2).mono ?_
  rintro e w1 ⟨rfl, hb1⟩
  have HB : Hid (Blk w1 w.heap.size #[.int .i64 s.count, .int .i64 s.sum, .int .i64 s.min, .int .i64 s.max, .slice a1 n1 c1, .slice a2 n2 c2, .slice a3 n3 c3] 41 ∧ Below w.heap.size w w1) := ⟨HT.out.1.below hb1, Below.next HT.out.2 hb1⟩
  clear hb1
  obtain ⟨d, hd⟩ : ∃ d, d = s.ok := ⟨_, rfl⟩
  rw [← hd]
  have HD : Hid (d = s.ok) := hd
  clear hd
  cases d
  · go_wp2
    go_ret2
    exact ⟨ret_two (quantN_not HD.out.symm), HB.out.2⟩
  obtain ⟨x0, hx0⟩ : ∃ x, x = s.count := ⟨_, rfl⟩
  have cc0 : w1.cell? ⟨w.heap.size, 0, none⟩ = some (.int .i64 x0) := by rw [HB.out.1.cell, hx0]; rfl
  have HX : Hid (x0 = s.count) := hx0
  clear hx0
  by_cases q : x0 = 0
  · subst q
    go_wp2
    go_ret2
    exact ⟨ret_two (quantN_zero HD.out.symm HX.out.symm), HB.out.2⟩
  have qb : (x0 == 0) = false := by simpa using q
  clear q
  go_wp2_with fail
  refine (l1In_any _ _ _ _).mono ?_
  rintro e w2 ⟨rfl, hw2⟩
  have hw2' := hw2.symm
  subst hw2'
  clear hw2
  by_cases qp : 1 ≤ p ∧ p ≤ 1000
  rotate_left
  · have HP : Hid (¬ (1 ≤ p ∧ p ≤ 1000)) := qp
    rw [dec_false qp]
    clear qp
    go_wp2
    go_ret2
    exact ⟨ret_two (quantN_out HP.out), HB.out.2⟩
  rw [dec_true qp]
  obtain ⟨p1, p2⟩ := qp
  have HL := okHist HD.out.symm
  obtain rfl : n1 = 8 := by rw [← H1.out.length]; exact HL.1
  have hc1 := H1.out.cells
  rcases hc1 with ⟨h0, _⟩ | ⟨b, off, _, rfl, _, hc⟩
  · omega
  have c4 : w1.cell? ⟨w.heap.size, 4, none⟩ = some (.slice (some ⟨b, off, none⟩) 8 c1) := by rw [HB.out.1.cell]; rfl
  have HC : Hid (∀ i, i < 8 → w1.cell? ⟨b, off + i, none⟩ = some (.int .i64 (s.hist[i]?.getD 0))) := fun i hi => by
    have e := hc i hi
    rw [HB.out.2.cell (p := ⟨b, off + i, none⟩) (World.block_lt_of_cell? _ _ e), e]
    simp
  clear hc
  obtain ⟨H, hH⟩ : ∃ R, R = s.hist := ⟨_, rfl⟩
  rw [← hH] at HC HL
  have HV : Hid (quantN s p = quantH H p) := by rw [hH]; exact quantN_in HD.out.symm p1 p2
  have HR : Hid (Hin H) := HL
  clear hH HL H1
  go_wp2_with fail
  refine (l4Sum_any b off c1 H _ HR.out HC.out).mono ?_
  rintro e w2 ⟨rfl, hw2⟩
  have hw2' := hw2.symm
  subst hw2'
  clear hw2
  obtain ⟨A, hA⟩ : ∃ A, A = up H 8 := ⟨_, rfl⟩
  rw [← hA]
  have a0 : 0 ≤ A := by rw [hA]; exact (HR.out.up 8).1
  have a1 : A ≤ 8000000000 := by rw [hA]; exact (HR.out.up 8).2.2
  have HA : Hid (A = up H 8) := hA
  clear hA
  obtain ⟨pa0, pa1⟩ := prod_range p1 p2 a0 a1
  obtain ⟨pa, hpa⟩ : ∃ y, y = p * A := ⟨_, rfl⟩
  have HPA : Hid (pa = p * up H 8) := by show _ = _; rw [hpa, HA.out]
  go_wp2
  go_loopw [7, 8] (fun c i wr => ∃ (k : Nat) (m : Int), k ≤ 8 ∧ i = .int .i64 k ∧ c = .int .i64 m ∧ 0 ≤ m ∧ m ≤ 8000000000 ∧ wr = w1 ∧ Hid (m = up H k ∧ ∀ j, j < k → qhit H p j = false)) (fun _ i _ => 8 - (intOf i).toNat)
  case atStart => exact ⟨0, 0, by omega, rfl, rfl, by omega, by omega, rfl, (up_zero H).symm, fun j hj => by omega⟩
  case round =>
    obtain ⟨k, m, hk, rfl, rfl, m0, m8, rfl, HM⟩ := hrel
    by_cases hlt : k < 8
    · obtain ⟨x, hx⟩ : ∃ x, x = H[k]?.getD 0 := ⟨_, rfl⟩
      have hi : wr.cell? ⟨b, off + k, none⟩ = some (.int .i64 x) := by rw [hx]; exact HC.out k hlt
      have hu : up H (k + 1) = m + x := by rw [up_succ (by rw [HR.out.1]; exact hlt), ← hx, ← HM.out.1]
      have HU : Hid (m + x = up H (k + 1)) := hu.symm
      have b1 : 0 ≤ m + x := by have := (HR.out.up (k + 1)).1; omega
      have b2 : m + x ≤ 8000000000 := by have := (HR.out.up (k + 1)).2.2; omega
      have b3 : 0 ≤ x := by rw [hx]; exact (HR.out.at k).1
      have HX2 : Hid (x = H[k]?.getD 0) := hx
      clear hx hu
      by_cases hp : 0 < x
      rotate_left
      · have hpd : decide (0 < x) = false := dec_false hp
        have HM2 : Hid (m + x = up H (k + 1) ∧ ∀ j, j < k + 1 → qhit H p j = false) := ⟨HU.out, fun j hj => by
          by_cases e : j < k
          · exact HM.out.2 j e
          · obtain rfl : j = k := by omega
            exact qhit_none (by rw [← HX2.out]; exact hp)⟩
        go_wp2
        go_roundw
        case rel => exact ⟨k + 1, m + x, by omega, by go_num, by go_num, b1, b2, by trivial, HM2⟩
        case measure => simp [intOf]; omega
      have hpd : decide (0 < x) = true := dec_true hp
      by_cases hq : pa ≤ (m + x) * 1000
      rotate_left
      · have HM2 : Hid (m + x = up H (k + 1) ∧ ∀ j, j < k + 1 → qhit H p j = false) := ⟨HU.out, fun j hj => by
          by_cases e : j < k
          · exact HM.out.2 j e
          · obtain rfl : j = k := by omega
            exact qhit_low (by rw [← HU.out, ← HPA.out]; exact hq)⟩
        have hqd : decide (p * A ≤ (m + x) * 1000) = false := dec_false (by rw [← hpa]; exact hq)
        go_wp2
        go_roundw
        case rel => exact ⟨k + 1, m + x, by omega, by go_num, by go_num, b1, b2, by trivial, HM2⟩
        case measure => simp [intOf]; omega
      have hqd : decide (p * A ≤ (m + x) * 1000) = true := dec_true (by rw [← hpa]; exact hq)
      have HF : Hid (quantN s p = (lowN k, highN k)) := by
        rw [HV.out]
        exact quantH_hit hlt HM.out.2 (qhit_yes (by rw [← HX2.out]; exact hp) (by rw [← HU.out, ← HPA.out]; exact hq))
      clear hq hpa
      by_cases h7 : k = 7
      · subst h7
        simp only [Int.cast_ofNat_Int]
        go_wp2_with fail
        refine (lowSpec_any _ _).mono ?_
        rintro e w3 ⟨rfl, hb3⟩
        go_wp2
        go_ret2
        exact ⟨ret_two HF.out, Below.next HB.out.2 hb3⟩
      · have h7b : ((k : Int) == 7) = false := by simp; omega
        have HF2 : Hid (quantN s p = (lowN k, lowN (k + 1) - 1)) := by
          show _ = _
          rw [HF.out]
          unfold highN
          rw [if_neg (by omega)]
        have HN : Hid (-1 ≤ lowN ((k : Int) + 1) ∧ lowN ((k : Int) + 1) ≤ 262144) := by show _ ∧ _; unfold lowN; (repeat' split) <;> omega
        clear h7 HF
        go_wp2_with fail
        refine (lowSpec_any _ _).mono ?_
        rintro e w3 ⟨rfl, hb3⟩
        go_wp2_with fail
        refine (lowSpec_any _ _).mono ?_
        rintro e w4 ⟨rfl, hb4⟩
        have HB4 : Hid (Below w.heap.size w w4) := Below.next (Below.next HB.out.2 hb3) hb4
        clear hb3 hb4
        obtain ⟨y, hy⟩ : ∃ y, y = lowN ((k : Int) + 1) := ⟨_, rfl⟩
        rw [← hy] at HN HF2 ⊢
        have y0 := HN.out.1
        have y1 := HN.out.2
        clear hy
        go_wp2
        go_ret2
        exact ⟨ret_two HF2.out, HB4.out⟩
    · obtain rfl : k = 8 := by omega
      have HF : Hid (quantN s p = (0, 0)) := by rw [HV.out]; exact quantH_none HM.out.2
      simp only [Int.cast_ofNat_Int]
      go_wp2
      go_ret2
      exact ⟨ret_two HF.out, HB.out.2⟩
end Go.Proofs.Ytlapdamopclojaa
