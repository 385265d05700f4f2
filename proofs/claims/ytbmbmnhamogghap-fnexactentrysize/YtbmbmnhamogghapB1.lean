/- Several texts of mine, laid together. No statement of the seat is proved here. -/
import Derived.Test.YtbmbmnhamogghapAskMean
import Derived.Test.YtbmbmnhamogghapItHold
import Derived.Test.YtbmbmnhamogghapItSize
import Derived.Test.YtbmbmnhamogghapItLaw2
/- The walks through Different, of the program and of the model. No statement of the seat is proved here. -/
namespace Go.Proofs.Ytbmbmnhamogghap
open Go.RowKit
theorem run_index_int {P : Program} (w : World) (t e : TypeId) (zs : List Int) (m k : Nat) (hm : zs.length = m) (hk : k < m) (ht : P.underlying t = some (.array m e)) (he : P.underlying e = some (.int .i64)) (hs : ∀ w, (sizeOf e).run P w = .ok 1 w) :
    (Instr.index t (.agg (tc zs)) (.int .i64 k)).run P w = .ok (.int .i64 (zs[k]?.getD 0)) w := by
  have hagg : ∀ w, (isAgg e).run P w = .ok false w := fun w => by unfold isAgg; rw [Sem.run_bind, run_underlying he w]; simp
  have h3 : (0 : Int) ≤ k ∧ (k : Int) < m := by omega
  unfold Instr.index part
  simp [asIntOf, run_underlying ht, Sem.run_bind, h3, hs, hagg, tc]
  rw [List.getElem?_eq_getElem (by omega)]
  simp
  intro h; omega
def cntPos (l : List Int) : Int := ((l.filter (fun x => decide (0 < x))).length : Nat)
theorem cntPos_range (l : List Int) : 0 ≤ cntPos l ∧ cntPos l ≤ l.length := by
  unfold cntPos
  have := List.length_filter_le (fun x : Int => decide (0 < x)) l
  omega
theorem cntPos_yes {l : List Int} {k : Nat} (hk : k < l.length) (h : 0 < l[k]?.getD 0) : cntPos (l.take (k + 1)) = cntPos (l.take k) + 1 := by
  rw [take_succ' l k hk]
  unfold cntPos
  simp [h]
theorem cntPos_no {l : List Int} {k : Nat} (hk : k < l.length) (h : ¬ 0 < l[k]?.getD 0) : cntPos (l.take (k + 1)) = cntPos (l.take k) := by
  rw [take_succ' l k hk]
  unfold cntPos
  simp [h]
def diffN (s : Sk) : Int := if s.ok = true then cntPos s.regs else 0
theorem diffN_not {s : Sk} (h : s.ok = false) : diffN s = 0 := by unfold diffN; rw [h]; rfl
theorem diffN_ok {s : Sk} (h : s.ok = true) : diffN s = cntPos s.regs := by unfold diffN; rw [if_pos h]
theorem tl_regs {s : Sk} (h : s.ok = true) : (s.tl.drop 12).take 8 = s.regs ∧ s.regs.length = 8 := by
  obtain ⟨e1, e2, x, y, e3, e4, e5⟩ := Sk.shaped_parts (Sk.ok_shaped h)
  obtain ⟨h0, h1, h2, h3, h4, h5, h6, h7, eh⟩ := len8 e1
  obtain ⟨r0, r1, r2, r3, r4, r5, r6, r7, er⟩ := len8 e2
  unfold Sk.tl
  rw [eh, er]
  exact ⟨rfl, rfl⟩
theorem tl_hist {s : Sk} (h : s.ok = true) : (s.tl.drop 4).take 8 = s.hist ∧ s.hist.length = 8 := by
  obtain ⟨e1, e2, x, y, e3, e4, e5⟩ := Sk.shaped_parts (Sk.ok_shaped h)
  obtain ⟨h0, h1, h2, h3, h4, h5, h6, h7, eh⟩ := len8 e1
  unfold Sk.tl
  rw [eh]
  exact ⟨rfl, rfl⟩
set_option maxRecDepth 200000 in
set_option maxHeartbeats 1000000 in
theorem aboveZero_any (a : Option Addr) (len cap : Nat) (zs : List Int) (F : List Nat) (w : World) (h : RdI w a len zs F) (hlen : len ≤ 140737488355328) :
    Calls Try.prog 98 #[.slice a len cap] w fun e w' => e = .returned (.int .i64 (cntPos zs)) ∧ w' = w := by
  obtain ⟨n, hn⟩ : ∃ n, n = cntPos zs := ⟨_, rfl⟩
  rw [← hn]
  have HL : Hid (zs.length = len) := h.length
  have HN : Hid (n = cntPos zs) := hn
  clear hn
  rcases h.cells with ⟨h0, _⟩ | ⟨b, off, hp, rfl, _, hc⟩
  · subst h0
    have hz : zs = [] := List.eq_nil_of_length_eq_zero h.length
    subst hz
    clear h
    go_enter Try.func98, Try.ntmps98
    go_wp2
    refine wp_loop_rounds 1 ?_
    rw [rounds_succ]
    go_wp2
    go_ret
    exact ⟨ret_int (by rw [HN.out]; rfl), rfl⟩
  · have HC : Hid (∀ i, i < len → w.cell? ⟨b, off + i, none⟩ = some (.int .i64 (zs.getD i 0))) := hc
    clear h hc
    go_enter Try.func98, Try.ntmps98
    go_wp2
    go_loop [3, 8] (fun c i => ∃ (k : Nat) (m : Int), k ≤ len ∧ i = .int .i64 k ∧ c = .int .i64 m ∧ 0 ≤ m ∧ m ≤ 140737488355328 ∧ Hid (m = cntPos (zs.take k))) (fun _ i => len - (intOf i).toNat)
    case atStart => exact ⟨0, 0, by omega, rfl, rfl, by omega, by omega, show _ = _ by simp [cntPos]⟩
    case round =>
      obtain ⟨k, m, hk, rfl, rfl, m0, m8, HM⟩ := hrel
      by_cases hlt : k < len
      · have hck := HC.out k hlt
        obtain ⟨x, hx⟩ : ∃ x, x = zs[k]?.getD 0 := ⟨_, rfl⟩
        have hck2 : w.cell? ⟨b, off + k, none⟩ = some (.int .i64 x) := by rw [hx, hck]; simp
        have HX : Hid (x = zs[k]?.getD 0) := hx
        clear hck hx
        by_cases hpx : 0 < x
        · have hm7 : m + 1 ≤ 140737488355328 := by
            have e := cntPos_yes (l := zs) (by rw [HL.out]; exact hlt) (by rw [← HX.out]; exact hpx)
            have e2 := cntPos_range (zs.take (k + 1))
            rw [e, ← HM.out] at e2
            have : (zs.take (k + 1)).length ≤ len := by rw [List.length_take]; omega
            omega
          have HM2 : Hid (m + 1 = cntPos (zs.take (k + 1))) := by
            show _ = _
            rw [cntPos_yes (by rw [HL.out]; exact hlt) (by rw [← HX.out]; exact hpx), ← HM.out]
          go_wp2
          go_round
          case rel => exact ⟨k + 1, m + 1, by omega, by go_num, by go_num, by omega, by omega, HM2⟩
          case measure => simp [intOf]; omega
        · have HM2 : Hid (m = cntPos (zs.take (k + 1))) := by
            show _ = _
            rw [cntPos_no (by rw [HL.out]; exact hlt) (by rw [← HX.out]; exact hpx), ← HM.out]
          go_wp2
          go_round
          case rel => exact ⟨k + 1, m, by omega, by go_num, rfl, by omega, by omega, HM2⟩
          case measure => simp [intOf]; omega
      · obtain rfl : k = len := by omega
        have HV : Hid (m = n) := by
          show _ = _
          rw [HN.out, HM.out, List.take_of_length_le (by rw [HL.out]; omega)]
        go_wp2
        go_ret
        exact ⟨ret_int HV.out, rfl⟩
set_option maxRecDepth 200000 in
theorem l1Bit_any (b : Bool) (w : World) : Calls Try.prog 97 #[.bool b] w fun e w' => e = .returned (.int .i64 (if b then 1 else 0)) ∧ w' = w := by
  cases b
  · go_enter Try.func97, Try.ntmps97
    go_wp2
    go_ret
    exact ⟨rfl, rfl⟩
  · go_enter Try.func97, Try.ntmps97
    go_wp2
    go_ret
    exact ⟨rfl, rfl⟩
end Go.Proofs.Ytbmbmnhamogghap
/- The walks through the program's EntrySize. No statement of the seat is proved here. -/
namespace Go.Proofs.Ytbmbmnhamogghap
open Go.RowKit
def filledN (xs : List Int) : Int := cntPos ((xs.drop 4).take 8) + cntPos ((xs.drop 12).take 8) + cntPos ((xs.drop 20).take 4) + cntPos ((xs.drop 24).take 4)
theorem filledN_range (xs : List Int) : 0 ≤ filledN xs ∧ filledN xs ≤ 24 := by
  have h1 := cntPos_range ((xs.drop 4).take 8)
  have h2 := cntPos_range ((xs.drop 12).take 8)
  have h3 := cntPos_range ((xs.drop 20).take 4)
  have h4 := cntPos_range ((xs.drop 24).take 4)
  have l1 : ((xs.drop 4).take 8).length ≤ 8 := List.length_take_le _ _
  have l2 : ((xs.drop 12).take 8).length ≤ 8 := List.length_take_le _ _
  have l3 : ((xs.drop 20).take 4).length ≤ 4 := List.length_take_le _ _
  have l4 : ((xs.drop 24).take 4).length ≤ 4 := List.length_take_le _ _
  unfold filledN
  omega
theorem filled_tl {s : Sk} (h : s.ok = true) : filledN s.tl = cntUp s.hist + cntUp s.regs + cntUp (s.rows.getD 0 []) + cntUp (s.rows.getD 1 []) := by
  obtain ⟨h0, h1, h2, h3, h4, h5, h6, h7, r0, r1, r2, r3, r4, r5, r6, r7, p0, p1, p2, p3, q0, q1, q2, q3, e⟩ := Sk.written (Sk.ok_shaped h)
  rw [e]
  rfl
set_option maxRecDepth 200000 in
set_option maxHeartbeats 2000000 in
theorem filled_any (xs : List Int) (w : World) (hx : xs.length = 28) :
    Calls Try.prog 61 #[.agg (tc xs)] w fun e w' => e = .returned (.int .i64 (filledN xs)) ∧ Below w.heap.size w w' := by
  have HL : Hid (xs.length = 28) := hx
  have HT : Hid (Blk (w.alloc (.cells (tc xs) 75)) w.heap.size (tc xs) 75 ∧ Below w.heap.size w (w.alloc (.cells (tc xs) 75))) := ⟨Blk.made _ _ _, (Below.refl _ _).alloc (Nat.le_refl _) _⟩
  obtain ⟨y1, hy1⟩ : ∃ x, x = cntPos ((xs.drop 4).take 8) := ⟨_, rfl⟩
  obtain ⟨y2, hy2⟩ : ∃ x, x = cntPos ((xs.drop 12).take 8) := ⟨_, rfl⟩
  obtain ⟨y3, hy3⟩ : ∃ x, x = cntPos ((xs.drop 20).take 4) := ⟨_, rfl⟩
  obtain ⟨y4, hy4⟩ : ∃ x, x = cntPos ((xs.drop 24).take 4) := ⟨_, rfl⟩
  have b1 : 0 ≤ y1 ∧ y1 ≤ 8 := by have := cntPos_range ((xs.drop 4).take 8); rw [← hy1] at this; have : ((xs.drop 4).take 8).length ≤ 8 := List.length_take_le _ _; omega
  have b2 : 0 ≤ y2 ∧ y2 ≤ 8 := by have := cntPos_range ((xs.drop 12).take 8); rw [← hy2] at this; have : ((xs.drop 12).take 8).length ≤ 8 := List.length_take_le _ _; omega
  have b3 : 0 ≤ y3 ∧ y3 ≤ 4 := by have := cntPos_range ((xs.drop 20).take 4); rw [← hy3] at this; have : ((xs.drop 20).take 4).length ≤ 4 := List.length_take_le _ _; omega
  have b4 : 0 ≤ y4 ∧ y4 ≤ 4 := by have := cntPos_range ((xs.drop 24).take 4); rw [← hy4] at this; have : ((xs.drop 24).take 4).length ≤ 4 := List.length_take_le _ _; omega
  have HY : Hid (y1 = cntPos ((xs.drop 4).take 8) ∧ y2 = cntPos ((xs.drop 12).take 8) ∧ y3 = cntPos ((xs.drop 20).take 4) ∧ y4 = cntPos ((xs.drop 24).take 4)) := ⟨hy1, hy2, hy3, hy4⟩
  have HF : Hid (filledN xs = y1 + y2 + y3 + y4) := by show _ = _; rw [hy1, hy2, hy3, hy4]; rfl
  rw [HF.out]
  obtain ⟨b10, b11⟩ := b1
  obtain ⟨b20, b21⟩ := b2
  obtain ⟨b30, b31⟩ := b3
  obtain ⟨b40, b41⟩ := b4
  clear hx hy1 hy2 hy3 hy4
  go_enter Try.func61, Try.ntmps61
  go_wp2
  obtain ⟨W0, hW0⟩ : ∃ W0, W0 = w.alloc (.cells (tc xs) 75) := ⟨_, rfl⟩
  rw [← hW0] at HT ⊢
  clear hW0
  refine wp_region_held (S := fun W => W = W0.drew) (by kernel_rfl) ?_
  change wpAnyH _ _ _ _ _ _ _ _ (World.drew _)
  refine takeH (o := ?o1) 0 (.pointer (some ⟨w.heap.size, 4, none⟩)) ?h1 ?r1
  case h1 => simp only [List.getElem?_toArray, List.getElem?_cons_zero]; rfl
  refine ⟨_, by simp [Act.put]; rfl, by kernel_rfl, by kernel_rfl, by kernel_rfl, fun _ _ _ h => h, (.inl ⟨rfl, fun W _ => by go_simp⟩), rfl, ?_⟩
  refine takeH (o := ?o2) 1 (.slice (some ⟨w.heap.size, 4, none⟩) 8 8) ?h2 ?r2
  case h2 => simp only [List.getElem?_toArray, List.getElem?_cons_succ, List.getElem?_cons_zero]; rfl
  refine ⟨_, by simp [Act.put]; rfl, by kernel_rfl, by kernel_rfl, by kernel_rfl, fun _ _ _ h => h, (.inl ⟨rfl, fun W _ => by go_simp⟩), rfl, ?_⟩
  refine takeH (o := ?o3) 3 (.pointer (some ⟨w.heap.size, 12, none⟩)) ?h3 ?r3
  case h3 => simp only [List.getElem?_toArray, List.getElem?_cons_succ, List.getElem?_cons_zero]; rfl
  refine ⟨_, by simp [Act.put]; rfl, by kernel_rfl, by kernel_rfl, by kernel_rfl, fun _ _ _ h => h, (.inl ⟨rfl, fun W _ => by go_simp⟩), rfl, ?_⟩
  refine takeH (o := ?o4) 4 (.slice (some ⟨w.heap.size, 12, none⟩) 8 8) ?h4 ?r4
  case h4 => simp only [List.getElem?_toArray, List.getElem?_cons_succ, List.getElem?_cons_zero]; rfl
  refine ⟨_, by simp [Act.put]; rfl, by kernel_rfl, by kernel_rfl, by kernel_rfl, fun _ _ _ h => h, (.inl ⟨rfl, fun W _ => by go_simp⟩), rfl, ?_⟩
  refine onlyH (o := ?o5) 2 (by kernel_rfl) ?h5 ?r5
  case h5 => simp only [List.getElem?_toArray, List.getElem?_cons_succ, List.getElem?_cons_zero]; rfl
  intro K hK
  refine op_call1 98 _ _ Try.f98 (fun v w' => v = .int .i64 y1 ∧ w' = W0.drew) rfl rfl Try.func98 (by kernel_rfl) (by kernel_rfl) ((aboveZero_any (some ⟨w.heap.size, 4, none⟩) 8 8 ((xs.drop 4).take 8) _ W0.drew (rdI_tc HT.out.1.drew (by rw [HL.out]; omega) (by omega)) (by omega)).mono (by rintro e w' ⟨rfl, h3⟩; exact ⟨_, rfl, by rw [HY.out.1], h3⟩)) ?_
  rintro _ _ ⟨rfl, rfl⟩
  refine ⟨_, by simp [Act.put]; rfl, hK _ _ ⟨rfl, ?_⟩⟩
  clear hK
  refine onlyH (o := ?o6) 5 (by kernel_rfl) ?h6 ?r6
  case h6 => simp only [List.getElem?_toArray, List.getElem?_cons_succ, List.getElem?_cons_zero]; rfl
  intro K hK
  refine op_call1 98 _ _ Try.f98 (fun v w' => v = .int .i64 y2 ∧ w' = W0.drew) rfl rfl Try.func98 (by kernel_rfl) (by kernel_rfl) ((aboveZero_any (some ⟨w.heap.size, 12, none⟩) 8 8 ((xs.drop 12).take 8) _ W0.drew (rdI_tc HT.out.1.drew (by rw [HL.out]; omega) (by omega)) (by omega)).mono (by rintro e w' ⟨rfl, h3⟩; exact ⟨_, rfl, by rw [HY.out.2.1], h3⟩)) ?_
  rintro _ _ ⟨rfl, rfl⟩
  refine ⟨_, by simp [Act.put]; rfl, hK _ _ ⟨rfl, ?_⟩⟩
  clear hK
  refine takeH (o := ?o7) 6 (.int .i64 (y1 + y2)) ?h7 ?r7
  case h7 => simp only [List.getElem?_toArray, List.getElem?_cons_succ, List.getElem?_cons_zero]; rfl
  refine ⟨_, by simp [Act.put]; rfl, by kernel_rfl, by kernel_rfl, by kernel_rfl, fun _ _ _ h => h, (.inl ⟨rfl, fun W _ => by go_simp; exact wrapI (by omega)⟩), rfl, ?_⟩
  refine takeH (o := ?o8) 7 (.int .i64 (y1 + y2)) ?h8 ?r8
  case h8 => simp only [List.getElem?_toArray, List.getElem?_cons_succ, List.getElem?_cons_zero]; rfl
  refine ⟨_, by simp [Act.put]; rfl, by kernel_rfl, by kernel_rfl, by kernel_rfl, fun _ _ _ h => h, (.inl ⟨rfl, fun W _ => by go_simp⟩), rfl, ?_⟩
  refine wpAnyH_done (by kernel_rfl) ?_ _
  obtain ⟨y5, hy5⟩ : ∃ y, y = y1 + y2 := ⟨_, rfl⟩
  rw [← hy5]
  have b50 : 0 ≤ y5 := by omega
  have b51 : y5 ≤ 16 := by omega
  have HY5 : Hid (y5 = y1 + y2) := hy5
  clear hy5
  have HT2 : Hid (Blk W0.drew w.heap.size (tc xs) 75 ∧ Below w.heap.size w W0.drew) := ⟨HT.out.1.drew, HT.out.2.drew⟩
  obtain ⟨W1, hW1⟩ : ∃ W1, W1 = W0.drew := ⟨_, rfl⟩
  rw [← hW1] at HT2 ⊢
  clear hW1 HT
  go_wp2_with (first | go_skip | (with_reducible refine stopLoad 73 rfl ?_))
  refine load_part 73 w.heap.size 20 8 xs 75 _ HT2.out.1 rfl rfl rfl Try.underlying73 rfl (by kernel_rfl) (by rw [HL.out]; omega) ?_
  obtain ⟨A, hA⟩ : ∃ A, A = (xs.drop 20).take 8 := ⟨_, rfl⟩
  rw [← hA]
  obtain ⟨R0, hR0⟩ : ∃ A, A = (xs.drop 20).take 4 := ⟨_, rfl⟩
  obtain ⟨R1, hR1⟩ : ∃ A, A = (xs.drop 24).take 4 := ⟨_, rfl⟩
  have HRE : Hid (R0 = (xs.drop 20).take 4 ∧ R1 = (xs.drop 24).take 4) := ⟨hR0, hR1⟩
  have HRL : Hid (R0.length = 4 ∧ R1.length = 4) := ⟨by rw [hR0]; simp; have := HL.out; omega, by rw [hR1]; simp; have := HL.out; omega⟩
  have i0 : ∀ w, (Instr.index 73 (.agg (tc A)) (.int .i64 0)).run Try.prog w = .ok (.agg (tc R0)) w := fun w => by
    rw [run_index_row w 73 72 3 A 0 0 rfl (by omega) Try.underlying73 Try.underlying72 (fun _ => by simp), hA, hR0]
    simp [List.take_take]
  have i1 : ∀ w, (Instr.index 73 (.agg (tc A)) (.int .i64 1)).run Try.prog w = .ok (.agg (tc R1)) w := fun w => by
    rw [run_index_row w 73 72 3 A 1 1 rfl (by omega) Try.underlying73 Try.underlying72 (fun _ => by simp), hA, hR1]
    rw [List.drop_take, List.drop_drop, List.take_take]
    rfl
  clear hA hR0 hR1
  go_wp2
  refine wp_loop_rounds 3 ?_
  rw [rounds_succ]
  go_wp2_with (first | (with_reducible refine stopStore 72 rfl ?_))
  refine store_fresh 72 W1.heap.size (by simp) (tc (List.replicate 4 0)) (tc R0) 72 rfl rfl rfl rfl (by rw [tc_size, HRL.out.1]; kernel_rfl) (by rw [tc_size, tc_size, HRL.out.1]; rfl) (tc_one _) ?_
  intro W2 hg0 hb0
  have HB0 : Hid (Below w.heap.size w W2) := Below.next HT2.out.2 hb0
  have HG0 : Hid (Blk W2 _ (tc R0) 72) := hg0
  clear hg0 hb0
  go_wp2_with fail
  refine (aboveZero_any _ 4 _ R0 _ _ (rdI_tc0 HG0.out HRL.out.1 (by omega)) (by omega)).mono ?_
  rintro e w1 ⟨rfl, hw1⟩
  have hw1' := hw1.symm
  subst hw1'
  clear hw1
  rw [HRE.out.1, ← HY.out.2.2.1]
  go_wp2
  rw [rounds_succ]
  go_wp2_with (first | (with_reducible refine stopStore 72 rfl ?_))
  refine store_fresh 72 W2.heap.size (by simp) (tc (List.replicate 4 0)) (tc R1) 72 rfl rfl rfl rfl (by rw [tc_size, HRL.out.2]; kernel_rfl) (by rw [tc_size, tc_size, HRL.out.2]; rfl) (tc_one _) ?_
  intro W3 hg0 hb0
  have HB3 : Hid (Below w.heap.size w W3) := Below.next HB0.out hb0
  have HG3 : Hid (Blk W3 _ (tc R1) 72) := hg0
  clear hg0 hb0
  go_wp2_with fail
  refine (aboveZero_any _ 4 _ R1 _ _ (rdI_tc0 HG3.out HRL.out.2 (by omega)) (by omega)).mono ?_
  rintro e w1 ⟨rfl, hw1⟩
  have hw1' := hw1.symm
  subst hw1'
  clear hw1
  rw [HRE.out.2, ← HY.out.2.2.2]
  go_wp2
  rw [rounds_succ]
  go_wp2
  go_ret
  exact ⟨ret_int (by have := HY5.out; omega), HB3.out⟩
set_option maxRecDepth 200000 in
set_option maxHeartbeats 4000000 in
theorem entrySizeImpl_en (v : Value) (x : En) (F G : List Nat) (w : World) (h : RdEn w v x F G) (hw : x.sk.wide) (hl : x.ids.length ≤ 1048576) :
    Calls Try.prog 25 #[v] w fun e w' => e = .returned (.int .i64 x.size) ∧ Below w.heap.size w w' := by
  have HH : Hid (RdEn w v x F G ∧ x.sk.wide ∧ x.ids.length ≤ 1048576) := ⟨h, hw, hl⟩
  obtain ⟨b, l, c, a1, n1, c1, a2, n2, c2, a3, n3, c3, rfl, hp, hr, hcp⟩ := h
  have HT : Hid (Blk (w.alloc (.cells #[.int .i64 x.key, .int .i64 x.window, .slice b l c, .int .i64 x.sk.count, .int .i64 x.sk.sum, .int .i64 x.sk.min, .int .i64 x.sk.max, .slice a1 n1 c1, .slice a2 n2 c2, .slice a3 n3 c3] 34)) w.heap.size #[.int .i64 x.key, .int .i64 x.window, .slice b l c, .int .i64 x.sk.count, .int .i64 x.sk.sum, .int .i64 x.sk.min, .int .i64 x.sk.max, .slice a1 n1 c1, .slice a2 n2 c2, .slice a3 n3 c3] 34 ∧ Below w.heap.size w (w.alloc (.cells #[.int .i64 x.key, .int .i64 x.window, .slice b l c, .int .i64 x.sk.count, .int .i64 x.sk.sum, .int .i64 x.sk.min, .int .i64 x.sk.max, .slice a1 n1 c1, .slice a2 n2 c2, .slice a3 n3 c3] 34))) := ⟨Blk.made _ _ _, (Below.refl _ _).alloc (Nat.le_refl _) _⟩
  clear hp hr hcp hw hl
  go_enter Try.func25, Try.ntmps25
  go_wp2_with (first | go_skip | (with_reducible refine stopLoad 34 rfl ?_))
  refine load_any 34 w.heap.size _ 34 _ HT.out.1 rfl rfl rfl Try.underlying34 rfl (by kernel_rfl) ?_
  go_wp2_with fail
  refine (okHolding_any _ x F G _ (HH.out.1.below HT.out.2) HH.out.2.1 (by have := HH.out.2.2; omega)).mono ?_
  rintro e w1 ⟨k, p, a, l', c', ys, rfl, hy, hok, hb1⟩
  have HB : Hid (ys.length = 28 ∧ Below w.heap.size w w1 ∧ (x.ok = true → ys = x.sk.tl ∧ x.ids.length = l')) := ⟨hy, Below.next HT.out.2 hb1, fun e => ⟨(hok e).2.2.1, (hok e).2.2.2.1.length⟩⟩
  clear hb1 hy hok
  obtain ⟨d, hd⟩ : ∃ d, d = x.ok := ⟨_, rfl⟩
  rw [← hd]
  have HD : Hid (d = x.ok) := hd
  clear hd
  go_wp2_with (first | go_skip | (with_reducible refine stopStore 77 rfl ?_))
  refine store_fresh 77 w1.heap.size rfl (hc 0 0 none 0 0 (List.replicate 28 0)) (hc k p a l' c' ys) 77 rfl rfl rfl rfl (holdSize (hc_size HB.out.1)) (by rw [hc_size HB.out.1]; rfl) (hc_one ..) ?_
  intro W2 hg2 hb2
  have HB2 : Hid (HoldS w1.heap.size k p a l' c' ys W2 ∧ Below w.heap.size w W2) := ⟨holdS hg2, Below.next HB.out.2.1 hb2⟩
  clear hb2 hg2
  cases d
  · go_wp2
    go_ret
    exact ⟨ret_int (En.size_not HD.out.symm).symm, HB2.out.2⟩
  have HY := (HB.out.2.2 HD.out.symm)
  have hl' : l' ≤ 1048576 := by rw [← HY.2]; exact HH.out.2.2
  obtain ⟨fn, hfn⟩ : ∃ n, n = filledN ys := ⟨_, rfl⟩
  have f0 : 0 ≤ fn ∧ fn ≤ 24 := by rw [hfn]; exact filledN_range ys
  have HV : Hid (x.size = 4 + fn + 2 * (l' : Int)) := by
    show _ = _
    rw [En.size_ok HD.out.symm, hfn, HY.1, ← HY.2, filled_tl (En.ok_sk HD.out.symm)]
    omega
  have HF : Hid (fn = filledN ys) := hfn
  obtain ⟨f00, f01⟩ := f0
  clear hfn HY
  go_wp2
  have HS : Hid (HoldS w1.heap.size k p a l' c' ys W2.drew) := holdS HB2.out.1.1.drew
  have HX : Hid (Below w.heap.size w W2.drew) := HB2.out.2.drew
  refine wp_region_held (S := HoldS w1.heap.size k p a l' c' ys) (by kernel_rfl) ?_
  change wpAnyH _ _ _ _ _ _ _ _ (World.drew _)
  refine takeH (o := ?o1) 0 (.pointer (some ⟨w1.heap.size, 3, none⟩)) ?h1 ?r1
  case h1 => simp only [List.getElem?_toArray, List.getElem?_cons_zero]; rfl
  refine ⟨_, by simp [Act.put]; rfl, by kernel_rfl, by kernel_rfl, by kernel_rfl, fun _ _ _ h => h, (.inl ⟨rfl, fun W _ => by go_simp⟩), HS.out, ?_⟩
  refine takeH (o := ?o2) 1 (.agg (tc ys)) ?h2 ?r2
  case h2 => simp only [List.getElem?_toArray, List.getElem?_cons_succ, List.getElem?_cons_zero]; rfl
  refine ⟨_, by simp [Act.put]; rfl, by kernel_rfl, by kernel_rfl, by kernel_rfl, fun _ _ _ h => h, (yields_cut 75 w1.heap.size 3 28 _ (tc ys) 77 _ rfl rfl rfl Try.underlying75 rfl infoTally (by rw [hc_size HB.out.1]; omega) (cutOf_hc HB.out.1) (fun W hW => hW.1)), HS.out, ?_⟩
  refine takeH (o := ?o3) 4 (.pointer (some ⟨w1.heap.size, 2, none⟩)) ?h3 ?r3
  case h3 => simp only [List.getElem?_toArray, List.getElem?_cons_succ, List.getElem?_cons_zero]; rfl
  refine ⟨_, by simp [Act.put]; rfl, by kernel_rfl, by kernel_rfl, by kernel_rfl, fun _ _ _ h => h, (.inl ⟨rfl, fun W _ => by go_simp⟩), HS.out, ?_⟩
  refine takeH (o := ?o4) 5 (.slice a l' c') ?h4 ?r4
  case h4 => simp only [List.getElem?_toArray, List.getElem?_cons_succ, List.getElem?_cons_zero]; rfl
  refine ⟨_, by simp [Act.put]; rfl, by kernel_rfl, by kernel_rfl, by kernel_rfl, fun _ _ _ h => h, (.inl ⟨rfl, fun W hW => by have c := hW.2.2.2; go_simp⟩), HS.out, ?_⟩
  refine takeH (o := ?o5) 6 (.int .i64 l') ?h5 ?r5
  case h5 => simp only [List.getElem?_toArray, List.getElem?_cons_succ, List.getElem?_cons_zero]; rfl
  refine ⟨_, by simp [Act.put]; rfl, by kernel_rfl, by kernel_rfl, by kernel_rfl, fun _ _ _ h => h, (.inl ⟨rfl, fun W _ => by go_simp⟩), HS.out, ?_⟩
  refine takeH (o := ?o6) 7 (.int .i64 (2 * (l' : Int))) ?h6 ?r6
  case h6 => simp only [List.getElem?_toArray, List.getElem?_cons_succ, List.getElem?_cons_zero]; rfl
  refine ⟨_, by simp [Act.put]; rfl, by kernel_rfl, by kernel_rfl, by kernel_rfl, fun _ _ _ h => h, (.inl ⟨rfl, fun W _ => by go_simp; exact wrapI (by omega)⟩), HS.out, ?_⟩
  refine onlyH (o := ?o7) 2 (by kernel_rfl) ?h7 ?r7
  case h7 => simp only [List.getElem?_toArray, List.getElem?_cons_succ, List.getElem?_cons_zero]; rfl
  intro K hK
  refine op_call1 61 _ _ Try.f61 (fun v w' => v = .int .i64 fn ∧ Below W2.drew.heap.size W2.drew w') rfl rfl Try.func61 (by kernel_rfl) (by kernel_rfl) ((filled_any ys W2.drew HB.out.1).mono (by rintro e w' ⟨rfl, h1⟩; exact ⟨_, rfl, by rw [HF.out], h1⟩)) ?_
  rintro _ W3 ⟨rfl, bz⟩
  refine ⟨_, by simp [Act.put]; rfl, hK _ _ ⟨HS.out.below bz, ?_⟩⟩
  have HS3 : Hid (HoldS w1.heap.size k p a l' c' ys W3) := HS.out.below bz
  have HX3 : Hid (Below w.heap.size w W3) := Below.next HX.out bz
  clear hK bz HS HX
  refine takeH (o := ?o8) 3 (.int .i64 (4 + fn)) ?h8 ?r8
  case h8 => simp only [List.getElem?_toArray, List.getElem?_cons_succ, List.getElem?_cons_zero]; rfl
  refine ⟨_, by simp [Act.put]; rfl, by kernel_rfl, by kernel_rfl, by kernel_rfl, fun _ _ _ h => h, (.inl ⟨rfl, fun W _ => by go_simp; exact wrapI (by omega)⟩), HS3.out, ?_⟩
  refine takeH (o := ?o9) 8 (.int .i64 (4 + fn + 2 * (l' : Int))) ?h9 ?r9
  case h9 => simp only [List.getElem?_toArray, List.getElem?_cons_succ, List.getElem?_cons_zero]; rfl
  refine ⟨_, by simp [Act.put]; rfl, by kernel_rfl, by kernel_rfl, by kernel_rfl, fun _ _ _ h => h, (.inl ⟨rfl, fun W _ => by go_simp; exact wrapI (by omega)⟩), HS3.out, ?_⟩
  refine takeH (o := ?o10) 9 (.int .i64 (4 + fn + 2 * (l' : Int))) ?h10 ?r10
  case h10 => simp only [List.getElem?_toArray, List.getElem?_cons_succ, List.getElem?_cons_zero]; rfl
  refine ⟨_, by simp [Act.put]; rfl, by kernel_rfl, by kernel_rfl, by kernel_rfl, fun _ _ _ h => h, (.inl ⟨rfl, fun W _ => by go_simp⟩), HS3.out, ?_⟩
  refine wpAnyH_done (by kernel_rfl) ?_ _
  go_wp2
  go_ret
  exact ⟨ret_int HV.out.symm, HX3.out⟩
end Go.Proofs.Ytbmbmnhamogghap
/- What the laws over entries take of the program and the model. No statement of the seat is proved here. -/
namespace Go.Proofs.Ytbmbmnhamogghap
open Go.RowKit
set_option maxRecDepth 200000 in
theorem entrySizeImpl_any (v : Value) (x : En) (F : List Nat) (w : World) (h : RdE w v x F) (hw : x.wide) :
    Calls Try.prog 25 #[v] w fun e w' => e = .returned (.int .i64 x.size) ∧ Below w.heap.size w w' := by
  obtain ⟨F1, F2, rfl, h⟩ := h
  exact entrySizeImpl_en v x F1 F2 w h hw.1 hw.2
end Go.Proofs.Ytbmbmnhamogghap
