/- The walk through the program's laying of spans behind a set that it makes. No statement of the seat is proved here. -/
import Derived.Test.YtgkbhhlkaifnoaaSpLay
namespace Go.Proofs.Ytgkbhhlkaifnoaa
open Go.RowKit
/-- A set of the maker's own: not nil. -/
theorem own_cases {W : World} {B e n : Nat} {v : Value} {xs : List Value} (h : W.ownsRow B e 2 v n xs) : (v = .slice none 0 0 ∧ n = 0) ∨ ∃ g cap n', v = .slice (some ⟨g, 0, none⟩) n' cap ∧ n' = n ∧ n ≤ cap := by
  rcases h.2 with e | ⟨g, cap, cur, e, _, _, h4, _⟩
  · exact .inl e
  · exact .inr ⟨g, cap, n, e, rfl, h4⟩
set_option maxRecDepth 100000 in
set_option maxHeartbeats 8000000 in
theorem laid_any (B : Nat) (v0 : Value) (o0 : Sp) (a : Option Addr) (len cap : Nat) (xs : Sp) (F : List Nat) (w : World) (hown : w.ownsRow B 81 2 v0 o0.length ((flat o0).map (Value.int .i64))) (hB : B ≤ w.heap.size) (h : RdP w a len xs F) (hF : ∀ b ∈ F, some b ≠ v0.ownBlock) (hlen : o0.length + len ≤ 4194304) (ho : ∀ p ∈ o0, InB p) (hx : ∀ p ∈ xs, InB p) :
    Calls Try.prog 117 #[v0, .slice a len cap] w fun e w' => ∃ v, e = .returned v ∧ LayAt w B v0 v (lay o0 xs) w' := by
  obtain ⟨t0, hi, hz0, hz1, hz2⟩ := info_parts infoSpan
  have HL : Hid (xs.length = len) := h.length
  have HIN : Hid (∀ p ∈ xs, InB p) := hx
  have HP0 : Hid (LayAt w B v0 v0 o0 w) := ⟨hown, ⟨rfl, rfl, rfl, Nat.le_refl _, fun _ _ _ => rfl⟩, .inl rfl⟩
  have HI0 : Hid (∀ p ∈ o0, InB p) := ho
  have HC : Hid (len = 0 ∨ ∃ b off, a = some ⟨b, off, none⟩ ∧ (b < w.heap.size ∧ some b ≠ v0.ownBlock) ∧ SpCells w b off len xs) := by
    rcases h.cells with ⟨h0, _⟩ | ⟨b, off, hp, e, hFb, hc⟩
    · exact .inl h0
    · exact .inr ⟨b, off, e, ⟨World.block_lt_of_cell? _ _ (hc 0 hp).1, hF b (by rw [hFb]; simp)⟩, hc⟩
  clear h hown hF ho hx
  go_enter Try.func117, Try.ntmps117
  go_wp2
  go_loopw [0, 10] (fun v i wr => ∃ (k : Nat) (o : Sp), k ≤ len ∧ i = .int .i64 k ∧ o.length ≤ o0.length + k ∧ Hid (LayAt w B v0 v o wr) ∧ Hid (∀ p ∈ o, InB p) ∧ Hid (lay o (xs.drop k) = lay o0 xs)) (fun _ i _ => len - (intOf i).toNat)
  case atStart => exact ⟨0, o0, by omega, rfl, by omega, HP0, HI0, rfl⟩
  case round =>
    clear HP0 HI0
    obtain ⟨k, o, hk, rfl, hol, HP, HI, HN⟩ := hrel
    by_cases hlt : k < len
    · have hca := HC.out
      rcases hca with h0 | ⟨b, off, rfl, hbw, hc⟩
      · omega
      obtain ⟨x, hx⟩ : ∃ x, x = (xs.at k).1 := ⟨_, rfl⟩
      obtain ⟨y, hy⟩ : ∃ x, x = (xs.at k).2 := ⟨_, rfl⟩
      have e := hc k hlt
      have hkl : k < xs.length := by rw [HL.out]; exact hlt
      have hb := HIN.out _ (Sp.at_mem hkl)
      have HXY : Hid (xs.at k = (x, y)) := by rw [hx, hy]; rfl
      rw [HXY.out] at hb e
      have HINX : Hid (InB (x, y)) := hb
      obtain ⟨⟨x0, x1⟩, y0, y1⟩ := hb
      have hblk := HP.out.grown.block b hbw.1 hbw.2
      have d1 : wr.cell? ⟨b, off + k * 2, none⟩ = some (.int .i64 x) := (World.cell?_of_block (w := w) (a := ⟨b, off + k * 2, none⟩) hblk).trans e.1
      have d2 : wr.cell? ⟨b, off + k * 2 + 1, none⟩ = some (.int .i64 y) := (World.cell?_of_block (w := w) (a := ⟨b, off + k * 2 + 1, none⟩) hblk).trans e.2
      have hI : (k : Int) < (len : Int) := by omega
      have HBW : Hid (B ≤ wr.heap.size) := Nat.le_trans hB HP.out.grown.size
      clear e hx hy hc hblk
      have hos := own_cases HP.out.own
      rcases hos with ⟨rfl, h0⟩ | ⟨g, cp, nn, rfl, hnn, hcp⟩
      · have HLA : Hid (lay1 o (x, y) = o ++ [(x, y)]) := lay1_apart (.inl (List.eq_nil_of_length_eq_zero h0))
        have HN2 : Hid (lay (o ++ [(x, y)]) (xs.drop (k + 1)) = lay o0 xs) := by
          rw [lay_drop hkl, HXY.out, HLA.out] at HN
          exact HN
        have HI2 : Hid (∀ p ∈ o ++ [(x, y)], InB p) := by rw [← HLA.out]; exact lay1_inb HI.out HINX.out
        go_wp2
        go_quiet (fail)
        obtain ⟨wq, hwq⟩ : ∃ W, W = (wr.alloc (.cells #[.int .i64 x, .int .i64 y] 81)).drewN nq := ⟨_, rfl⟩
        have HPq : Hid (LayAt w B v0 (.slice none 0 0) o wq) := by rw [hwq]; exact (HP.out.alloc _).drewN nq
        have b1 : wq.cell? ⟨wr.heap.size, 0, none⟩ = some (.int .i64 x) := by rw [hwq]; exact (Blk.made wr _ _).cell 0
        have b2 : wq.cell? ⟨wr.heap.size, 1, none⟩ = some (.int .i64 y) := by rw [hwq]; exact (Blk.made wr _ _).cell 1
        have HBq : Hid (B ≤ wq.heap.size) := by have := HBW.out; rw [hwq]; simp [World.drewN]; show _ ≤ _; omega
        rw [← hwq]
        clear hwq HP
        go_wp2_with (first | go_skip | (with_reducible refine stopAppend2 rfl ?_))
        refine Stop.intro (wpList_append_own_at _ rfl _ _ 25 rfl B 81 t0 (.agg #[.int .i64 0, .int .i64 0]) 2 16 Try.underlying25 hi hz0 hz1 hz2 rfl (by decide) _ (o).length ((flat (o)).map (Value.int .i64)) rfl (HPq.out.own.alloc _) ⟨wq.heap.size, 0, none⟩ 1 1 [.int .i64 x, .int .i64 y] rfl rfl (cell_new2 _ _ _ _) (by intro u hu; simp at hu; rcases hu with rfl | rfl <;> rfl) (by unfold maxLen; omega) (by omega) (by have := HBq.out; simp; omega) ?_)
        intro v2 w2 hown hgrow _ hob
        have HP2 : Hid (LayAt w B v0 v2 (o ++ [(x, y)]) w2) := HPq.out.app hown hgrow hob
        clear hown hgrow HPq hob
        go_wp2
        go_roundw
        case rel => exact ⟨k + 1, o ++ [(x, y)], by omega, by go_num, by simp; omega, HP2, HI2, HN2⟩
        case measure => simp [intOf]; omega
      have HNN : Hid (nn = o.length) := hnn
      clear hnn hcp
      rcases nn with _ | m
      · have HLA : Hid (lay1 o (x, y) = o ++ [(x, y)]) := lay1_apart (.inl (List.eq_nil_of_length_eq_zero HNN.out.symm))
        have HN2 : Hid (lay (o ++ [(x, y)]) (xs.drop (k + 1)) = lay o0 xs) := by
          rw [lay_drop hkl, HXY.out, HLA.out] at HN
          exact HN
        have HI2 : Hid (∀ p ∈ o ++ [(x, y)], InB p) := by rw [← HLA.out]; exact lay1_inb HI.out HINX.out
        go_wp2
        go_quiet (fail)
        obtain ⟨wq, hwq⟩ : ∃ W, W = (wr.alloc (.cells #[.int .i64 x, .int .i64 y] 81)).drewN nq := ⟨_, rfl⟩
        have HPq : Hid (LayAt w B v0 (.slice (some ⟨g, 0, none⟩) 0 cp) o wq) := by rw [hwq]; exact (HP.out.alloc _).drewN nq
        have b1 : wq.cell? ⟨wr.heap.size, 0, none⟩ = some (.int .i64 x) := by rw [hwq]; exact (Blk.made wr _ _).cell 0
        have b2 : wq.cell? ⟨wr.heap.size, 1, none⟩ = some (.int .i64 y) := by rw [hwq]; exact (Blk.made wr _ _).cell 1
        have HBq : Hid (B ≤ wq.heap.size) := by have := HBW.out; rw [hwq]; simp [World.drewN]; show _ ≤ _; omega
        rw [← hwq]
        clear hwq HP
        go_wp2_with (first | go_skip | (with_reducible refine stopAppend2 rfl ?_))
        refine Stop.intro (wpList_append_own_at _ rfl _ _ 25 rfl B 81 t0 (.agg #[.int .i64 0, .int .i64 0]) 2 16 Try.underlying25 hi hz0 hz1 hz2 rfl (by decide) _ (o).length ((flat (o)).map (Value.int .i64)) rfl (HPq.out.own.alloc _) ⟨wq.heap.size, 0, none⟩ 1 1 [.int .i64 x, .int .i64 y] rfl rfl (cell_new2 _ _ _ _) (by intro u hu; simp at hu; rcases hu with rfl | rfl <;> rfl) (by unfold maxLen; omega) (by omega) (by have := HBq.out; simp; omega) ?_)
        intro v2 w2 hown hgrow _ hob
        have HP2 : Hid (LayAt w B v0 v2 (o ++ [(x, y)]) w2) := HPq.out.app hown hgrow hob
        clear hown hgrow HPq hob
        go_wp2
        go_roundw
        case rel => exact ⟨k + 1, o ++ [(x, y)], by omega, by go_num, by simp; omega, HP2, HI2, HN2⟩
        case measure => simp [intOf]; omega
      have hm : o.length = m + 1 := HNN.out.symm
      obtain ⟨s, hs⟩ : ∃ x, x = (o.at m).1 := ⟨_, rfl⟩
      obtain ⟨t, ht⟩ : ∃ x, x = (o.at m).2 := ⟨_, rfl⟩
      have hcm := HP.out.cells (m := m) (by omega)
      have him := HI.out _ (Sp.at_mem (ps := o) (k := m) (by omega))
      unfold InB at him
      rw [← hs, ← ht] at hcm him
      have HST : Hid (o.at (o.length - 1) = (s, t)) := by rw [hm, show m + 1 - 1 = m by omega, hs, ht]; rfl
      obtain ⟨f1, f2, f3⟩ := hcm
      obtain ⟨⟨s0, s1⟩, t1, t2⟩ := him
      have HFZ : Hid (∀ j, wr.frozen? ⟨g, j, none⟩ = false) := f3
      have gd : decide ((m : Int) < 0) = false := decF (by omega)
      have hI3 : (m : Int) < (m : Int) + 1 := by omega
      have hM : m ≤ 4194304 := by omega
      have HNE : Hid (¬ o = []) := fun e => by rw [e] at hm; simp at hm
      have HM : Hid (o.length = m + 1) := hm
      clear hs ht f3 hm
      by_cases c : t + 1 < x
      · have cd : decide (t + 1 < x) = true := decT c
        have HLA : Hid (lay1 o (x, y) = o ++ [(x, y)]) := lay1_apart (.inr (by rw [HST.out]; exact c))
        have HN2 : Hid (lay (o ++ [(x, y)]) (xs.drop (k + 1)) = lay o0 xs) := by
          rw [lay_drop hkl, HXY.out, HLA.out] at HN
          exact HN
        have HI2 : Hid (∀ p ∈ o ++ [(x, y)], InB p) := by rw [← HLA.out]; exact lay1_inb HI.out HINX.out
        go_wp2
        obtain ⟨wa, hwa⟩ : ∃ W, W = wr.alloc (.cells #[.int .i64 x, .int .i64 y] 81) := ⟨_, rfl⟩
        have HPa : Hid (LayAt w B v0 (.slice (some ⟨g, 0, none⟩) (m + 1) cp) o wa) := by rw [hwa]; exact HP.out.alloc _
        have a1 : wa.cell? ⟨wr.heap.size, 0, none⟩ = some (.int .i64 x) := by rw [hwa]; exact (Blk.made wr _ _).cell 0
        have a2 : wa.cell? ⟨wr.heap.size, 1, none⟩ = some (.int .i64 y) := by rw [hwa]; exact (Blk.made wr _ _).cell 1
        have a3 : wa.cell? ⟨g, m * 2 + 1, none⟩ = some (.int .i64 t) := by
          have e4 := (HPa.out.cells (m := m) (by have := HM.out; omega)).2.1
          have e5 := HST.out
          rw [HM.out, show m + 1 - 1 = m by omega] at e5
          rw [e5] at e4
          exact e4
        have HBa : Hid (B ≤ wa.heap.size) := by have := HBW.out; rw [hwa]; simp; show _ ≤ _; omega
        rw [← hwa]
        clear hwa HP f1 f2
        go_quiet (fail)
        obtain ⟨wq, hwq⟩ : ∃ W, W = wa.drewN nq := ⟨_, rfl⟩
        have HPq : Hid (LayAt w B v0 (.slice (some ⟨g, 0, none⟩) (m + 1) cp) o wq) := by rw [hwq]; exact HPa.out.drewN nq
        have b1 : wq.cell? ⟨wr.heap.size, 0, none⟩ = some (.int .i64 x) := by rw [hwq]; exact a1
        have b2 : wq.cell? ⟨wr.heap.size, 1, none⟩ = some (.int .i64 y) := by rw [hwq]; exact a2
        have HBq : Hid (B ≤ wq.heap.size) := by rw [hwq]; exact HBa.out
        rw [← hwq]
        clear hwq HPa a1 a2 a3
        go_wp2_with (first | go_skip | (with_reducible refine stopAppend2 rfl ?_))
        refine Stop.intro (wpList_append_own_at _ rfl _ _ 25 rfl B 81 t0 (.agg #[.int .i64 0, .int .i64 0]) 2 16 Try.underlying25 hi hz0 hz1 hz2 rfl (by decide) _ (o).length ((flat (o)).map (Value.int .i64)) rfl (HPq.out.own.alloc _) ⟨wq.heap.size, 0, none⟩ 1 1 [.int .i64 x, .int .i64 y] rfl rfl (cell_new2 _ _ _ _) (by intro u hu; simp at hu; rcases hu with rfl | rfl <;> rfl) (by unfold maxLen; omega) (by omega) (by have := HBq.out; simp; omega) ?_)
        intro v2 w2 hown hgrow _ hob
        have HP2 : Hid (LayAt w B v0 v2 (o ++ [(x, y)]) w2) := HPq.out.app hown hgrow hob
        clear hown hgrow HPq hob
        go_wp2
        go_roundw
        case rel => exact ⟨k + 1, o ++ [(x, y)], by omega, by go_num, by simp; omega, HP2, HI2, HN2⟩
        case measure => simp [intOf]; omega
      have cd : decide (t + 1 < x) = false := decF c
      have HLA : Hid (lay1 o (x, y) = o.take m ++ [((o.at m).1, max t y)]) := by
        have := lay1_widen (o := o) (x := (x, y)) (fun e => by rw [HST.out] at e; exact e.elim HNE.out c)
        show _ = _
        rw [this, HST.out, HM.out, show m + 1 - 1 = m by omega]
        have e2 := HST.out
        rw [HM.out, show m + 1 - 1 = m by omega] at e2
        rw [e2]
      have HN2 : Hid (lay (o.take m ++ [((o.at m).1, max t y)]) (xs.drop (k + 1)) = lay o0 xs) := by
        rw [lay_drop hkl, HXY.out, HLA.out] at HN
        exact HN
      have HI2 : Hid (∀ p ∈ o.take m ++ [((o.at m).1, max t y)], InB p) := by rw [← HLA.out]; exact lay1_inb HI.out HINX.out
      go_wp2
      obtain ⟨wa, hwa⟩ : ∃ W, W = wr.alloc (.cells #[.int .i64 x, .int .i64 y] 81) := ⟨_, rfl⟩
      have HPa : Hid (LayAt w B v0 (.slice (some ⟨g, 0, none⟩) (m + 1) cp) o wa) := by rw [hwa]; exact HP.out.alloc _
      have a1 : wa.cell? ⟨wr.heap.size, 0, none⟩ = some (.int .i64 x) := by rw [hwa]; exact (Blk.made wr _ _).cell 0
      have a2 : wa.cell? ⟨wr.heap.size, 1, none⟩ = some (.int .i64 y) := by rw [hwa]; exact (Blk.made wr _ _).cell 1
      have a3 : wa.cell? ⟨g, m * 2 + 1, none⟩ = some (.int .i64 t) := by
        have e4 := (HPa.out.cells (m := m) (by have := HM.out; omega)).2.1
        have e5 := HST.out
        rw [HM.out, show m + 1 - 1 = m by omega] at e5
        rw [e5] at e4
        exact e4
      have HBa : Hid (B ≤ wa.heap.size) := by have := HBW.out; rw [hwa]; simp; show _ ≤ _; omega
      rw [← hwa]
      clear hwa HP f1 f2
      go_quiet (fail)
      obtain ⟨wq, hwq⟩ : ∃ W, W = wa.drewN nq := ⟨_, rfl⟩
      have HPq : Hid (LayAt w B v0 (.slice (some ⟨g, 0, none⟩) (m + 1) cp) o wq) := by rw [hwq]; exact HPa.out.drewN nq
      have b1 : wq.cell? ⟨wr.heap.size, 0, none⟩ = some (.int .i64 x) := by rw [hwq]; exact a1
      have b2 : wq.cell? ⟨wr.heap.size, 1, none⟩ = some (.int .i64 y) := by rw [hwq]; exact a2
      have hcq := HPq.out.cells (m := m) (by have := HM.out; omega)
      have e3 := HST.out
      rw [HM.out, show m + 1 - 1 = m by omega] at e3
      rw [e3] at hcq
      obtain ⟨f1, f2, f3⟩ := hcq
      have f4 := f3 (m * 2 + 1)
      rw [← hwq]
      have HPw : Hid (LayAt w B v0 (.slice (some ⟨g, 0, none⟩) (m + 1) cp) (o.take m ++ [((o.at m).1, max t y)]) (wq.setCell ⟨g, m * 2 + 1, none⟩ (.int .i64 (max t y)))) := HPq.out.widen HM.out _
      clear hwq HPa a1 a2 a3 f3 e3 HPq
      go_wp2
      go_region
      go_wp2
      go_roundw
      case rel => exact ⟨k + 1, o.take m ++ [((o.at m).1, max t y)], by omega, by go_num, by have := HM.out; simp; omega, (by rw [show (if t < y then y else t) = max t y by split <;> omega]; exact HPw.out.drewN 1), HI2, HN2⟩
      case measure => simp [intOf]; omega
    · obtain rfl : k = len := by omega
      have HV : Hid (o = lay o0 xs) := by
        have := HN.out
        rw [List.drop_eq_nil_of_le (by rw [HL.out]; omega)] at this
        exact this
      go_wp2
      go_ret
      rw [← HV.out]
      exact ⟨_, rfl, HP.out⟩
end Go.Proofs.Ytgkbhhlkaifnoaa
